/-
  The reference's Div: long division in the binary system.
-/
import Derived.Test.YtogmgomcdhfolaaRefBinary
import Derived.Test.YtogmgomcdhfolaaLawDivision
namespace Go.Proofs.Ytogmgomcdhfolaa
open Go.RowKit Nt

theorem rbinary_none (A : Option Addr) (c : Nat) (w : World) :
    Calls Try.prog 52 #[.slice A 0 c] w (Gives1 w 0) := by
  have hb0 := (Below.refl w.heap.size w).alloc (Nat.le_refl _) (.cells #[] 41)
  go_enter Try.func52, Try.ntmps52
  go_wp2_with fail
  go_loopw [3, 4] (fun v i wr => v = .slice (some ⟨w.heap.size, 0, none⟩) 0 0 ∧ i = .int .i64 0 ∧ Hid (Below w.heap.size w wr)) (fun _ _ _ => 0)
  case atStart => exact ⟨rfl, rfl, hb0⟩
  case round =>
    obtain ⟨rfl, rfl, hbw⟩ := hrel
    go_wp2_with (first
      | (go_at_call 53; refine (rtrim_none _ 0 _).mono ?_; rintro e w' ⟨rfl, rfl⟩))
    go_ret
    exact ⟨_, rfl, ⟨_, 0, by rw [dg_zero]; rfl, by rw [dg_zero]; simp, by rw [dg_zero]; exact Rd.nil⟩, hbw.out⟩

theorem rbinary_any {l : List Nat} {B : Nat} {A : Option Addr} {w : World} (c n : Nat) (hr : II.Rd w B A l) (hB : B ≤ w.heap.size) (hw : Nb.Wb l) (hl : l.length = n) (hn : n ≤ 100000) :
    Calls Try.prog 52 #[.slice A n c] w (Gives1 w (Nb.bval l)) := by
  rcases Nat.eq_zero_or_pos n with h0 | h0
  · have e : l = [] := List.eq_nil_of_length_eq_zero (by omega)
    subst e
    subst h0
    exact rbinary_none A c w
  · obtain ⟨b, o, rfl, hb, hc⟩ := hr (by omega)
    exact rbinary_some l c n b o w ⟨by omega, fun j hj => hc j (by omega)⟩ hw hl hn

theorem own_int (w : World) (x : Nat) : (w.alloc (.cells #[.int .i64 (x : Int)] 3)).ownsRow w.heap.size 3 1 (.slice (some ⟨w.heap.size, 0, none⟩) 1 1) 1 (([x] : List Nat).map II.U) :=
  ⟨rfl, .inr ⟨w.heap.size, 1, #[.int .i64 (x : Int)], rfl, Nat.le_refl _, heap_alloc_new w _, Nat.le_refl _, by unfold maxLen; omega, rfl, rfl⟩⟩

theorem rd_other {w : World} {B g gq i : Nat} {L : List Nat} {v : Value} (h : II.Rd w B (some ⟨g, 0, none⟩) L) (hne : g ≠ gq) : II.Rd (w.setCell ⟨gq, i, none⟩ v) B (some ⟨g, 0, none⟩) L := by
  intro h0
  obtain ⟨b, o, e, hb, hc⟩ := h h0
  injection e with e
  injection e with e1 e2
  subst e1
  subst e2
  exact ⟨g, 0, rfl, hb, fun j hj => (World.cell?_setCell_other w _ _ _ (fun e => by injection e with e1; exact hne e1.symm)).trans (hc j hj)⟩

/-- the division's memory: k bits are still to come -/
def DvSt (w wr : World) (l : List Nat) (b gb gq gr nr k : Nat) : Prop :=
  ∃ Q R, Nb.DivInv l b k Q R ∧ II.Bk wr gq Q ∧ R.length = nr ∧ II.Rd wr wr.heap.size (some ⟨gr, 0, none⟩) R ∧ gr ≠ gq ∧ II.Rd wr wr.heap.size (some ⟨gb, 0, none⟩) l ∧ gb ≠ gq ∧ gq < wr.heap.size ∧ Below w.heap.size w wr

section
variable {w wr w' : World} {l Q R R' : List Nat} {b gb gq gr g3 nr nr' t x : Nat}
theorem DvSt.down (hi : Nb.DivInv l b (t + 1) Q R) (hbq : II.Bk wr gq Q) (hrb : II.Rd wr wr.heap.size (some ⟨gb, 0, none⟩) l) (hgb : gb ≠ gq) (hgq : gq < wr.heap.size) (hbl : Below w.heap.size w wr) (hrl : R.length = nr)
    (hx : nth l t = x) (ht : t < l.length) (hlw : Nb.Wb l) (hlt : Nb.bval ([x] ++ R) < b) (hb : Below wr.heap.size wr w') (hr : II.Rd w' w'.heap.size (some ⟨g3, 0, none⟩) ([x] ++ R)) (hg3 : wr.heap.size ≤ g3) :
    DvSt w w' l b gb gq g3 (1 + nr) t := by
  subst hx
  exact ⟨Q, [nth l t] ++ R, hi.down ht hlt hlw, hbq.below hb hgq, by simp [hrl]; omega, hr, by omega, (hrb.below hb).mono hb.size, hgb, Nat.lt_of_lt_of_le hgq hb.size, hbl.trans (hb.mono hbl.size)⟩
theorem DvSt.sub (hi : Nb.DivInv l b (t + 1) Q R) (hbq : II.Bk wr gq Q) (hrb : II.Rd wr wr.heap.size (some ⟨gb, 0, none⟩) l) (hgb : gb ≠ gq) (hgq : gq < wr.heap.size) (hqw : w.heap.size ≤ gq) (hbl : Below w.heap.size w wr)
    (hx : nth l t = x) (ht : t < l.length) (hlw : Nb.Wb l) (hge : b ≤ Nb.bval ([x] ++ R)) (hR : Nb.bval R' = Nb.bval ([x] ++ R) - b) (hwR : Nb.Wb R') (hlen : R'.length = nr') (hb : Below wr.heap.size wr w') (hr : II.Rd w' w'.heap.size (some ⟨g3, 0, none⟩) R') (hg3 : wr.heap.size ≤ g3) :
    DvSt w (w'.setCell ⟨gq, t, none⟩ (.int .i64 1)) l b gb gq g3 nr' t := by
  subst hx
  have h1 := (hbq.below hb hgq).set_ t 1
  have h2 := rd_other (i := t) (v := .int .i64 1) ((hrb.below hb).mono hb.size) hgb
  have h3 := rd_other (gq := gq) (i := t) (v := .int .i64 1) hr (by omega)
  exact ⟨Q.set t 1, R', hi.sub ht hge hR hwR hlw, h1, hlen, by simpa using h3, by omega, by simpa using h2, hgb, by simp; exact Nat.lt_of_lt_of_le hgq hb.size, (hbl.trans (hb.mono hbl.size)).setCell hqw _⟩
end

set_option maxHeartbeats 4000000 in
set_option maxRecDepth 100000 in
theorem rdiv_some (a b c d n m : Nat) (A A' : Option Addr) (w : World) (ha : Hid (Rd w w.heap.size A (dg a))) (hb : Hid (Rd w w.heap.size A' (dg b))) (la : Hid ((dg a).length = n)) (lb : Hid ((dg b).length = m)) (hn : n ≤ 100) (hm : m ≤ 100) (hm0 : 0 < m) :
    Calls Try.prog 23 #[.slice A n c, .slice A' m d] w (Gives3 w (a / b) (a % b) 0) := by
  have VA := Lib.hid (vldB_dg (N := a) (by rw [la.out]; omega))
  have VB := Lib.hid (vldB_dg (N := b) (by rw [lb.out]; omega))
  have WA : Hid (Wf (dg a)) := wf_dg a
  have hb0 : Hid (0 < b) := show 0 < b by
    rcases Nat.eq_zero_or_pos b with h | h
    · have := lb.out; rw [h, dg_zero] at this; simp at this; omega
    · exact h
  obtain ⟨l, hl⟩ : ∃ l, Nb.bits (dg a) = l := ⟨_, rfl⟩
  have hll : Hid (l.length = 32 * n) := show l.length = 32 * n by rw [← hl, Nb.bits_len, la.out]
  have hlw : Hid (Nb.Wb l) := show Nb.Wb l by rw [← hl]; exact Nb.bits_wb _
  have hlv : Hid (Nb.bval l = a) := show Nb.bval l = a by rw [← hl, Nb.bits_val (wf_dg a), val_dg]
  have RB0 : Hid (∀ w', Below w.heap.size w w' → Calls Try.prog 51 #[.slice A n c] w' (fun e w'' => ∃ g cp, e = .returned (.slice (some ⟨g, 0, none⟩) (32 * n) cp) ∧ Hid (II.Ow w'' w'.heap.size g (32 * n) cp l) ∧ Below w'.heap.size w' w'')) := by
    intro w' hbw
    have := rbits_any (dg a) c n A w' ((ha.out.below hbw).mono hbw.size) WA.out la.out (by omega)
    rwa [hl] at this
  clear hl
  go_enter Try.func23, Try.ntmps23
  go_wp2_with (first
    | (go_at_call 27; ((with_reducible refine (rvalid_yes c n ha.out la.out (by omega) VA.out).mono ?_); rintro e w' ⟨rfl, rfl⟩))
    | (go_at_call 27; ((with_reducible refine (rvalid_yes d m hb.out lb.out (by omega) VB.out).mono ?_); rintro e w' ⟨rfl, rfl⟩))
    | (go_at_call 51; refine (RB0.out _ (Below.refl _ _)).mono ?_; rintro e w1 ⟨gb, cb, rfl, hob, hbl1⟩)
    | (at_make; refine II.wpList_make_bk _ rfl _ _ 63 rfl Try.underlying63 _ _ _ _ (32 * n) rfl rfl (by omega) (by omega) (by omega) ?_; intro w2 hbk2 hs2 hbl2; have HBK2 := Lib.hid hbk2; have HS2 := Lib.hid hs2; clear hbk2 hs2))
  have hgbq : gb < w1.heap.size := hob.out.base.2
  have S0 : Hid (DvSt w (w2.alloc (.cells #[] 3)) l b gb w1.heap.size w2.heap.size 0 (32 * n)) := by
    have h1 : Below w.heap.size w w2 := hbl1.trans (hbl2.mono hbl1.size)
    have hs2 : w2.heap.size = w1.heap.size + 1 := HS2.out
    have hbw := (Below.refl w2.heap.size w2).alloc (Nat.le_refl _) (.cells #[] 3)
    have hi := Nb.DivInv.start (l := l) hb0.out
    rw [hll.out] at hi
    refine ⟨_, [], hi, HBK2.out.below hbw HBK2.out.lt, rfl, II.Rd.nil, by omega, ?_, by omega, by simp; omega, h1.trans (hbw.mono h1.size)⟩
    have h3 := ((hob.out.rd.1).below hbl2).mono hbl2.size
    exact (h3.below hbw).mono hbw.size
  have hqw : w.heap.size ≤ w1.heap.size := hbl1.size
  generalize w1.heap.size = gq at *
  go_loopw [9, 10] (fun v i wr => ∃ (k gr nr cr : Nat) (z : Int), k ≤ 32 * n ∧ nr ≤ 32768 + (32 * n - k) ∧ z = (k : Int) - 1 ∧ i = .int .i64 z ∧ v = .slice (some ⟨gr, 0, none⟩) nr cr ∧ nr ≤ cr ∧ Hid (DvSt w wr l b gb gq gr nr k)) (fun _ i _ => (intOf i + 1).toNat)
  case atStart => exact ⟨32 * n, _, 0, 0, _, Nat.le_refl _, by omega, by omega, rfl, rfl, Nat.le_refl _, S0⟩
  case round =>
    obtain ⟨k, gr, nr, cr, z, hk, hnr, hz, rfl, rfl, hcr, hst⟩ := hrel
    by_cases hlt : 0 < k
    · obtain ⟨t, ht⟩ : ∃ t, t = k - 1 := ⟨_, rfl⟩
      obtain rfl : z = (t : Int) := by omega
      obtain rfl : k = t + 1 := by omega
      obtain ⟨Q, R, hi, hbq, hrl, hrr, hrq, hrb, hgb, hgq, hbl⟩ := hst.out
      have HI := Lib.hid hi
      have HBQ := Lib.hid hbq
      have HRL := Lib.hid hrl
      have HRR := Lib.hid hrr
      have HRB := Lib.hid hrb
      have HB3 := Lib.hid hb
      obtain ⟨x, hx⟩ : ∃ x, nth l t = x := ⟨_, rfl⟩
      have HX := Lib.hid hx
      have c1 : wr.cell? ⟨gb, t, none⟩ = some (.int .i64 ((nth l t : Nat) : Int)) := by
        obtain ⟨b', o', e, _, hc⟩ := hrb (by rw [hll.out]; omega)
        injection e with e
        injection e with e1 e2
        subst e1
        subst e2
        have := hc t (by rw [hll.out]; omega)
        rwa [Nat.zero_add] at this
      rw [hx] at c1
      clear hi hbq hrl hrr hrb hz ht hx
      have hb4 := (Below.refl wr.heap.size wr).alloc (Nat.le_refl _) (.cells #[.int .i64 (x : Int)] 3)
      go_wp2_with (first
        | (at_builtin; refine II.wpList_append_rd _ rfl _ _ 63 63 rfl Try.underlying63 Try.underlying63 wr.heap.size _ 1 [x] R rfl (own_int wr x) _ _ nr cr rfl ((HRR.out.below hb4).mono hb4.size) HRL.out (by omega) (by simp) ?_; intro v3 w3 hown3 hg3; have hg4 : (wr.alloc (.cells #[.int .i64 (x : Int)] 3)).grownBy w3 (some wr.heap.size) := hg3; clear hg3; have hb5 := hb4.grown hg4 hb4.size (fun q hq => by injection hq with hq; rw [← hq]; exact Nat.le_refl _); obtain ⟨g3, c3, rfl, hown4⟩ := II.own_form hown3 (by omega); have HO4 := Lib.hid hown4; clear hown3 hown4))
      have hlen3 : Hid (([x] ++ R).length = 1 + nr) := show _ = _ by rw [List.length_append, HRL.out]; rfl
      have hwb3 : Hid (Nb.Wb ([x] ++ R)) := Nb.wb_cons.2 ⟨by rw [← HX.out]; exact hlw.out.getD t, HI.out.rwb⟩
      have RD3 : Hid (II.Rd w3 w3.heap.size (some ⟨g3, 0, none⟩) ([x] ++ R)) := HO4.out.rd.1
      have hg3 := HO4.out.base.1
      obtain ⟨rv, hrv⟩ : ∃ rv, Nb.bval ([x] ++ R) = rv := ⟨_, rfl⟩
      have HRV := Lib.hid hrv
      have hrv2 : Hid (rv < 2 * b) := show rv < 2 * b by
        have h1 := HI.out.lt
        have h2 := hlw.out.getD t
        have h3 := HX.out
        unfold nth at h3
        rw [← hrv]
        show Nb.bval (x :: R) < _
        rw [Nb.bval_cons]
        omega
      have lrv : (dg rv).length ≤ m + 1 := by
        apply dg_length_le
        have h1 := lt_pow_dg b
        rw [lb.out] at h1
        have h2 := hrv2.out
        rw [Nat.pow_succ]
        generalize 4294967296 ^ m = P at h1
        omega
      clear hrv
      refine (rbinary_any c3 (1 + nr) RD3.out (Nat.le_refl _) hwb3.out hlen3.out (by omega)).mono ?_
      rintro e w4 ⟨v4, rfl, ⟨A4, c4, rfl, hc4, hr4⟩, hb6⟩
      rw [HRV.out]
      rw [HRV.out] at hc4 hr4
      have HR4 := Lib.hid hr4
      have hb7 := hb5.trans (hb6.mono hb5.size)
      have RD4 : Hid (II.Rd w4 w4.heap.size (some ⟨g3, 0, none⟩) ([x] ++ R)) := (RD3.out.below hb6).mono hb6.size
      have hb8 := hbl.trans (hb7.mono hbl.size)
      have RB4 : Hid (Rd w4 w4.heap.size A' (dg b)) := (hb.out.below hb8).mono hb8.size
      clear hr4 RD3
      by_cases hge : b ≤ rv
      · obtain ⟨zc, hzc, hzc0⟩ : ∃ zc : Int, cmpN rv b = zc ∧ 0 ≤ zc := ⟨_, rfl, cmpN_nonneg.2 hge⟩
        have CMP : Hid (Calls Try.prog 29 #[.slice A4 (dg rv).length c4, .slice A' m d] w4 (fun e w' => e = .returned (.int .i64 zc) ∧ Qt w4 w')) := by
          have := rcompare_ok c4 d HR4.out RB4.out (by omega) (by rw [lb.out]; omega)
          rwa [hzc, lb.out] at this
        have i0 : t < 32 * n := by omega
        have HGE := Lib.hid hge
        have hml : m ≤ (dg rv).length := by rw [← lb.out]; exact dg_length_mono hge
        have hsl : (dg (rv - b)).length ≤ (dg rv).length := dg_length_mono (Nat.sub_le _ _)
        clear hzc hge
        go_wp2_with (first
          | (go_at_call 29; refine CMP.out.mono ?_; rintro e w5 ⟨rfl, hq⟩)
          | (go_at_call 19; refine (rsub_ge rv b c4 d (dg rv).length m A4 A' _ ((HR4.out.below (hq.below _)).mono (by rw [hq.size]; exact Nat.le_refl _)) ((RB4.out.below (hq.below _)).mono (by rw [hq.size]; exact Nat.le_refl _)) rfl lb (by omega) (by omega) hml HGE.out).mono ?_; rintro e w6 ⟨v6, rfl, ⟨A6, c6, rfl, hc6, hr6⟩, hb9⟩; have HR6 := Lib.hid hr6; clear hr6)
          | (go_at_call 51; refine (rbits_any (dg (rv - b)) c6 _ A6 _ HR6.out (wf_dg _) rfl (by omega)).mono ?_; rintro e w7 ⟨g7, c7, rfl, ho7, hb10⟩; have hb11 := (hb7.trans ((hq.below _).mono hb7.size)).trans (hb9.mono (hb7.trans ((hq.below _).mono hb7.size)).size); have hb12 := hb11.trans (hb10.mono hb11.size); have cq : w7.cell? ⟨gq, t, none⟩ = some (.int .i64 ((nth Q t : Nat) : Int)) := (HBQ.out.below hb12 hgq).cell (by rw [HI.out.qlen, hll.out]; omega); have fq : w7.frozen? ⟨gq, t, none⟩ = false := (HBQ.out.below hb12 hgq).frozen t))
        have hfin := DvSt.sub (R' := Nb.bits (dg (rv - b))) (nr' := 32 * (dg (rv - b)).length) HI.out HBQ.out HRB.out hgb hgq hqw hbl HX.out (by rw [hll.out]; omega) hlw.out (by rw [HRV.out]; exact HGE.out) (by rw [HRV.out, Nb.bits_val (wf_dg _), val_dg]) (Nb.bits_wb _) (by rw [Nb.bits_len]) hb12 ho7.out.rd.1 (Nat.le_trans hb11.size ho7.out.base.1)
        have HFIN := Lib.hid hfin
        have hcp := ho7.out.rd.2
        clear hfin
        go_roundw
        case rel => exact ⟨t, g7, 32 * (dg (rv - b)).length, c7, (t : Int) - 1, by omega, by omega, rfl, by go_num, rfl, hcp, HFIN.out⟩
        case measure => simp [intOf] <;> omega
      · obtain ⟨zc, hzc, hzc0⟩ : ∃ zc : Int, cmpN rv b = zc ∧ ¬ 0 ≤ zc := ⟨_, rfl, fun h => hge (cmpN_nonneg.1 h)⟩
        have CMP : Hid (Calls Try.prog 29 #[.slice A4 (dg rv).length c4, .slice A' m d] w4 (fun e w' => e = .returned (.int .i64 zc) ∧ Qt w4 w')) := by
          have := rcompare_ok c4 d HR4.out RB4.out (by omega) (by rw [lb.out]; omega)
          rwa [hzc, lb.out] at this
        have HGE := Lib.hid hge
        have hc3 := HO4.out.rd.2
        clear hzc hge
        go_wp2_with (first
          | (go_at_call 29; refine CMP.out.mono ?_; rintro e w5 ⟨rfl, hq⟩))
        have hb11 := hb7.trans ((hq.below _).mono hb7.size)
        have hfin := DvSt.down (w' := w5) (g3 := g3) HI.out HBQ.out HRB.out hgb hgq hbl HRL.out HX.out (by rw [hll.out]; omega) hlw.out (by rw [HRV.out]; have := HGE.out; omega) hb11 ((RD4.out.below (hq.below _)).mono (by rw [hq.size]; exact Nat.le_refl _)) hg3
        go_roundw
        case rel => exact ⟨t, g3, 1 + nr, c3, (t : Int) - 1, by omega, by omega, rfl, by go_num, rfl, hc3, hfin⟩
        case measure => simp [intOf] <;> omega
    · obtain rfl : k = 0 := by omega
      obtain rfl : z = -1 := by omega
      obtain ⟨Q, R, hi, hbq, hrl, hrr, hrq, hrb, hgb, hgq, hbl⟩ := hst.out
      have hdn := hi.done
      have HQ : Hid (Nb.bval Q = a / b) := show Nb.bval Q = a / b by rw [← hlv.out]; exact hdn.1
      have HRm : Hid (Nb.bval R = a % b) := show Nb.bval R = a % b by rw [← hlv.out]; exact hdn.2
      have HBQ := Lib.hid hbq
      have HRR := Lib.hid hrr
      have HRL := Lib.hid hrl
      have HQL : Hid (Q.length = 32 * n) := show Q.length = 32 * n by rw [hi.qlen, hll.out]
      have HQW := Lib.hid hi.qwb
      have HRW := Lib.hid hi.rwb
      clear hlt hz hdn hbq hrr hrl hi hrb
      go_wp2_with fail
      refine (rbinary_any (l := Q) _ (32 * n) (HBQ.out.rd HBQ.out.lt) (Nat.le_refl _) HQW.out HQL.out (by omega)).mono ?_
      rintro e w4 ⟨v4, rfl, hn4, hb6⟩
      rw [HQ.out] at hn4
      have HN4 := Lib.hid hn4
      clear hn4
      go_wp2_with fail
      refine (rbinary_any (l := R) cr nr ((HRR.out.below hb6).mono hb6.size) (Nat.le_refl _) HRW.out HRL.out (by omega)).mono ?_
      rintro e w5 ⟨v5, rfl, hn5, hb7⟩
      rw [HRm.out] at hn5
      have HN5 := Lib.hid hn5
      clear hn5
      go_wp2_with fail
      go_ret3
      exact ⟨v4, v5, rfl, HN4.out.below hb7, HN5.out, (hbl.trans (hb6.mono hbl.size)).trans (hb7.mono (hbl.trans (hb6.mono hbl.size)).size)⟩

end Go.Proofs.Ytogmgomcdhfolaa
