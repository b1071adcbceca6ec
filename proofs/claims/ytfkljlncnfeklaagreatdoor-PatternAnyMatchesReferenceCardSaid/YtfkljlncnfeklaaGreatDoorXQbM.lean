/-
  The reference's behind. (Seat of the great laws.) (Written by qbgen.py.)
-/
import Derived.Test.YtfkljlncnfeklaaGreatDoorXQtM
import Derived.Test.YtfkljlncnfeklaaGreatDoorPn
namespace Go.Proofs.YtfkljlncnfeklaaGreatDoor
open Go.RowKit Go.Shelf
set_option linter.unusedVariables false
set_option linter.unusedSimpArgs false
attribute [local go_sem ↓] Go.wp_at_zero Go.wp_at_succ
attribute [local go_sem] stIn stAt stUpon

/-- the call of behind at node k -/
def QbC (A : Option Addr) (m c : Nat) (l : List Pn) (S : List UInt8) (k : Nat) : Prop := ∀ (W : World) (AF : Option Addr) (nf cf : Nat) (f : List Nat), Hid (Rp W W.heap.size A l) → Hid (f.length = nf) → Hid (Ofs S.length f) → Hid (Ri W W.heap.size AF f) →
  Calls Tryz.prog 30 #[.slice A m c, .int .i64 (k : Int), .string ⟨S.toArray⟩, .slice AF nf cf] W fun e w' => ∃ A' c', e = .returned (.slice A' (bh S (rxN l k) f).length c') ∧ Hid (Ri w' w'.heap.size A' (bh S (rxN l k) f)) ∧ Hid (Below W.heap.size W w')
theorem bh_start (W : World) (a0 a1 a2 a3 a4 : Value) : ∀ wa, (W.alloc (.cells #[a0, a1, a2, a3, a4] 42)).alloc (.cells #[] 3) = wa → Below W.heap.size W wa ∧ Bx wa W.heap.size #[a0, a1, a2, a3, a4] 42 ∧ wa.ownsRow (W.heap.size + 1) 3 1 (.slice (some ⟨W.heap.size + 1, 0, none⟩) 0 0) 0 (inC []) := by
  rintro wa rfl
  have b1 := (Below.refl W.heap.size W).alloc (Nat.le_refl _) (.cells #[a0, a1, a2, a3, a4] 42)
  have h := own_emptyI (w := W.alloc (.cells #[a0, a1, a2, a3, a4] 42))
  rw [World.size_alloc] at h
  exact ⟨b1.alloc b1.size _, bx_al (bx_new rfl _ _) _, h⟩
/-- a byte in a range -/
def inB (S : List UInt8) (lo hi : Nat) (k : Nat) : Bool := decide (k < S.length) && decide (lo ≤ (S.getD k 0).toNat) && decide ((S.getD k 0).toNat ≤ hi)
def rgB (S : List UInt8) (lo hi : Nat) (f : List Nat) : List Nat := (f.filter (inB S lo hi)).map (· + 1)
theorem rgB_bh (S : List UInt8) (lo hi : Nat) (f : List Nat) : bh S (.rng lo hi) f = rgB S lo hi f := rfl
theorem rgB_le (S : List UInt8) (lo hi : Nat) (f : List Nat) : (rgB S lo hi f).length ≤ f.length := by
  unfold rgB
  rw [List.length_map]
  exact List.length_filter_le _ _
theorem rgB_yes {S : List UInt8} {lo hi x : Nat} {f t : List Nat} (ht : t = f ++ [x]) (h : inB S lo hi x = true) : rgB S lo hi t = rgB S lo hi f ++ [x + 1] := by
  subst ht
  unfold rgB
  rw [List.filter_append, List.map_append]
  simp [h]
theorem rgB_no {S : List UInt8} {lo hi x : Nat} {f t : List Nat} (ht : t = f ++ [x]) (h : inB S lo hi x = false) : rgB S lo hi t = rgB S lo hi f := by
  subst ht
  unfold rgB
  rw [List.filter_append, List.map_append]
  simp [h]
/-- the loop of a range -/
structure RgI (W wr : World) (S : List UInt8) (lo hi : Nat) (f : List Nat) (i n cp g : Nat) : Prop where
  ln : (rgB S lo hi (f.take i)).length = n
  own : wr.ownsRow (W.heap.size + 1) 3 1 (.slice (some ⟨g, 0, none⟩) n cp) n (inC (rgB S lo hi (f.take i)))
  bx : ∃ a0 a3 a4, Bx wr W.heap.size #[a0, .int .i64 (lo : Int), .int .i64 (hi : Int), a3, a4] 42
  bel : Below W.heap.size W wr
theorem RgI.push {W wr w5 : World} {S : List UInt8} {lo hi i n cp g g2 c2 dd : Nat} {f : List Nat} {x : Nat} {o : Obj} (h : RgI W wr S lo hi f i n cp g) (hN : rgB S lo hi (f.take (i + 1)) = rgB S lo hi (f.take i) ++ [x + 1]) (hown : w5.ownsRow (W.heap.size + 1) 3 1 (.slice (some ⟨g2, 0, none⟩) (n + 1) c2) (n + 1) (inC (rgB S lo hi (f.take i)) ++ [.int .i64 ((x : Int) + 1)]))
    (hg : ((wr.drewN dd).alloc o).grownBy w5 (Value.slice (some ⟨g, 0, none⟩) n cp).ownBlock) : RgI W w5 S lo hi f (i + 1) (n + 1) c2 g2 := by
  have hgg := World.ownsRow.lt h.own g rfl
  obtain ⟨a0, a3, a4, X⟩ := h.bx
  refine ⟨by rw [hN, List.length_append, h.ln]; rfl, ?_, ⟨a0, a3, a4, ?_⟩, ?_⟩
  · rw [hN, inC_app]
    push_cast
    exact hown
  · have hX : Bx ((wr.drewN dd).alloc o) W.heap.size _ _ := bx_al (w := wr.drewN dd) (show Bx (wr.drewN dd) _ _ _ from X) o
    exact (hg.block _ (by simp; omega) (fun e => by simp [Value.ownBlock] at e; omega)).trans hX
  · exact ((below_drewN h.bel dd).alloc (by have := h.bel.size; simp; omega) o).grown hg (by have := h.bel.size; simp; omega) (fun r e => by simp [Value.ownBlock] at e; omega)

set_option maxRecDepth 100000 in
set_option maxHeartbeats 4000000 in
theorem qb_emp (A : Option Addr) (m c : Nat) (l : List Pn) (S : List UInt8) (hS : S.length ≤ 1000) (hl : Hid (l.length = m)) (h : okP l) (k : Nat) (hk : k < l.length) (c1 : pk l k = 0) : QbC A m c l S k := fun W AF nf cf f hr hf ho hri => by
  have nd := h.nd hk
  obtain ⟨b, o, e, hb, hc⟩ := hr.out (by omega)
  subst e
  obtain ⟨d0, d1, d2, d3, d4⟩ := hc k hk
  have i1 : (0 : Int) ≤ (k : Int) := by omega
  have i2 : (k : Int) < (m : Int) := by rw [← hl.out]; omega
  have hnf : nf ≤ 1001 := by have := ho.out.len; have := hf.out; omega
  have HRL : Hid (∀ W', Below W.heap.size W W' → Hid (Rp W' W'.heap.size (some ⟨b, o, none⟩) l)) := Lib.hid (fun W' hb' => Rp.later hr hb')
  rw [c1] at d0
  have HE := Lib.hid (rxN_0 c1)
  have P := bh_start W (.int .i64 0) (.int .i64 (plo l k)) (.int .i64 (phi l k)) (.int .i64 (pa l k)) (.int .i64 (pb l k))
  clear hc nd c1
  go_enter Tryz.func30, Tryz.ntmps30
  go_upto_region 4 with fail
  generalize hwa : World.alloc (World.alloc W _) _ = wa
  obtain ⟨B1, X1, O1⟩ := P _ hwa
  clear hwa P d0 d1 d2 d3 d4
  have HB := Lib.hid B1
  have HX := Lib.hid X1
  have HXd := Lib.hid (bx_dr X1)
  have HBd := Lib.hid B1.drew
  obtain ⟨y0, y1, y2, y3, y4⟩ := bx5 X1
  clear B1 X1 O1
  go_wp2
  go_ret
  refine ⟨AF, cf, ?_, ?_, HB⟩
  · rw [HE.out]
    show _ = Ending.returned (.slice AF f.length cf)
    rw [hf.out]
    rfl
  · rw [HE.out]
    exact Ri.later hri HB.out

set_option maxRecDepth 100000 in
set_option maxHeartbeats 4000000 in
theorem qb_rng (A : Option Addr) (m c : Nat) (l : List Pn) (S : List UInt8) (hS : S.length ≤ 1000) (hl : Hid (l.length = m)) (h : okP l) (k : Nat) (hk : k < l.length) (c1 : pk l k = 1) : QbC A m c l S k := fun W AF nf cf f hr hf ho hri => by
  have nd := h.nd hk
  obtain ⟨b, o, e, hb, hc⟩ := hr.out (by omega)
  subst e
  obtain ⟨d0, d1, d2, d3, d4⟩ := hc k hk
  have i1 : (0 : Int) ≤ (k : Int) := by omega
  have i2 : (k : Int) < (m : Int) := by rw [← hl.out]; omega
  have hnf : nf ≤ 1001 := by have := ho.out.len; have := hf.out; omega
  have HRL : Hid (∀ W', Below W.heap.size W W' → Hid (Rp W' W'.heap.size (some ⟨b, o, none⟩) l)) := Lib.hid (fun W' hb' => Rp.later hr hb')
  rw [c1] at d0
  have n3 := nd.by'
  obtain ⟨lo, hlo⟩ : ∃ j : Nat, plo l k = (j : Int) := ⟨(plo l k).toNat, by omega⟩
  obtain ⟨hi, hhi⟩ : ∃ j : Nat, phi l k = (j : Int) := ⟨(phi l k).toNat, by omega⟩
  have HE := Lib.hid (rxN_1 c1)
  rw [hlo] at d1 HE
  rw [hhi] at d2 HE
  rw [Int.toNat_natCast, Int.toNat_natCast] at HE
  have P := bh_start W (.int .i64 1) (.int .i64 (lo : Int)) (.int .i64 (hi : Int)) (.int .i64 (pa l k)) (.int .i64 (pb l k))
  clear hc nd c1
  go_enter Tryz.func30, Tryz.ntmps30
  go_upto_region 4 with fail
  generalize hwa : World.alloc (World.alloc W _) _ = wa
  obtain ⟨B1, X1, O1⟩ := P _ hwa
  clear hwa P d0 d1 d2 d3 d4
  have HB := Lib.hid B1
  have HX := Lib.hid X1
  have HXd := Lib.hid (bx_dr X1)
  have HBd := Lib.hid B1.drew
  obtain ⟨y0, y1, y2, y3, y4⟩ := bx5 X1
  have HT0 : Hid (RgI W wa S lo hi f 0 0 0 (W.heap.size + 1)) := Lib.hid ⟨rfl, O1, ⟨_, _, _, X1⟩, B1⟩
  obtain ⟨iI, hi0, hz0, hz1, hz2⟩ := info_parts infoIntQ
  clear B1 X1 O1 y0 y1 y2 y3 y4 HX HXd HBd
  have HOF := Lib.hid (fun x (hx : x ∈ f) => ho.out.2 x hx)
  go_wp2
  go_loopw [10, 11] (fun v10 v11 wr => ∃ i n cp g : Nat, i ≤ nf ∧ v11 = .int .i64 (i : Int) ∧ v10 = .slice (some ⟨g, 0, none⟩) n cp ∧ n ≤ i ∧ Hid (RgI W wr S lo hi f i n cp g)) (fun v10 v11 wr => nf - (intOf v11).toNat)
  case atStart => exact ⟨0, 0, 0, _, Nat.zero_le _, rfl, rfl, Nat.le_refl _, HT0⟩
  case round =>
    clear HT0
    have hmx : Tryz.prog.follows .mixedOrders = true := by kernel_rfl
    obtain ⟨i, n, cp, g, hi', rfl, rfl, hn, hT⟩ := hrel
    by_cases hlt : i < nf
    · have i3 : (i : Int) < (nf : Int) := by omega
      have i0 : (0 : Int) ≤ (i : Int) := by omega
      have hif : i < f.length := by rw [hf.out]; exact hlt
      obtain ⟨b', o', e', hb', hc'⟩ := hri.out.below hT.out.bel
      subst e'
      have d0 := hc' i hif
      obtain ⟨x, hx⟩ : ∃ x, f[i]'hif = x := ⟨_, rfl⟩
      have hxS := HOF.out x (hx ▸ List.getElem_mem hif)
      rw [hx] at d0
      have HTK := Lib.hid (show f.take (i + 1) = f.take i ++ [x] by rw [List.take_succ_eq_append_getElem hif, hx])
      obtain ⟨a0, a3, a4, X1⟩ := hT.out.bx
      obtain ⟨y0, y1, y2, y3, y4⟩ := bx5 X1
      have HY := Lib.hid X1
      have x0 : (0 : Int) ≤ (x : Int) := by omega
      have xb : (x : Int) ≤ 1000 := by omega
      clear hc' hx X1
      by_cases q1 : x < S.length
      · have hpf : x < (⟨S.toArray⟩ : ByteArray).size := by rw [bs_size]; exact q1
        have hxx : (⟨S.toArray⟩ : ByteArray)[x]'hpf = S.getD x 0 := by
          rw [List.getD_eq_getElem?_getD, List.getElem?_eq_getElem q1]
          rfl
        have x1 : (x : Int) < (S.length : Int) := by omega
        have x2 : decide ((x : Int) < (S.length : Int)) = true := decide_eq_true x1
        have x2' : decide (x < S.length) = true := decide_eq_true q1
        have hin : inB S lo hi x = (decide (lo ≤ (S.getD x 0).toNat) && decide ((S.getD x 0).toNat ≤ hi)) := by unfold inB; rw [decide_eq_true q1, Bool.true_and]
        have hb8 : (S.getD x 0).toNat < 256 := UInt8.toNat_lt _
        generalize S.getD x 0 = B at *
        have hbw : IntKind.i64.wrap ((B.toNat : Nat) : Int) = ((B.toNat : Nat) : Int) := by rw [IntKind.wrap_i64]; omega
        by_cases q2 : lo ≤ B.toNat
        · have x3 : decide ((lo : Int) ≤ (B.toNat : Int)) = true := decide_eq_true (by omega)
          have x3' : decide (lo ≤ B.toNat) = true := decide_eq_true q2
          by_cases q3 : B.toNat ≤ hi
          · have x4 : decide ((B.toNat : Int) ≤ (hi : Int)) = true := decide_eq_true (by omega)
            have x4' : decide (B.toNat ≤ hi) = true := decide_eq_true q3
            have HN := Lib.hid (rgB_yes HTK.out (by rw [hin, decide_eq_true q2, decide_eq_true q3]; rfl))
            have hBw : W.heap.size + 1 ≤ wr.heap.size := by have := (World.ownsRow.lt hT.out.own g rfl); omega
            have nI : (n : Int) ≤ 1001 := by omega
            clear hin q2 q3
            go_upto_region 10 with fail
            refine region_mix_wp 31 40 (fun w' => ∃ d, w' = wr.drewN d) (fun _ w' => ∃ d, w' = wr.drewN d) (fun _ => false) (by decide) hmx (by kernel_rfl) (by kernel_rfl) (by kernel_rfl) (fun _ _ h => h) (fun _ _ _ _ => Iff.rfl) ⟨1, rfl⟩ ?_
            simp only [List.take_succ_cons, List.take_zero]
            repeat (refine wpSt_step (by quiet_asked_in) (fun K hK => ?_); go_simp; refine hK _ ?_; clear hK K)
            refine wpSt_nil ?_
            refine ⟨by kernel_rfl, ?_⟩
            rintro w' ⟨dd, rfl⟩
            refine npQ.normal ?_
            have HOD := Lib.hid (show (wr.drewN dd).ownsRow (W.heap.size + 1) 3 1 (.slice (some ⟨g, 0, none⟩) n cp) n (inC (rgB S lo hi (f.take i))) from hT.out.own)
            have hBd : W.heap.size + 1 ≤ (wr.drewN dd).heap.size := hBw
            go_wp2_with (at_builtin; refine wpList_append_lies _ rfl _ _ _ rfl (W.heap.size + 1) 3 iI _ 1 8 Tryz.underlying51 hi0 hz0 hz1 hz2 rfl (by omega) (.slice (some ⟨g, 0, none⟩) n cp) n (inC (rgB S lo hi (f.take i))) rfl (HOD.out.alloc _) _ _ _ [.int .i64 ((x : Int) + 1)] rfl rfl (World.news_of_block (heap_alloc_new _ _)) (by simp [Value.oneCell']) (by omega) (by simp only [maxLen]; omega) (by omega) (by simp; omega) _ rfl ?_)
            intro g2 c2 w5 hown hgrow hat hlt2
            have HT2 : Hid (RgI W w5 S lo hi f (i + 1) (n + 1) c2 g2) := Lib.hid (RgI.push hT.out HN.out hown hgrow)
            clear hown hgrow hat hlt2
            go_wp2
            go_roundw
            case rel => exact ⟨i + 1, n + 1, c2, g2, by omega, rfl, rfl, by omega, HT2⟩
            case measure => simp only [intOf]; omega
          · have x4 : decide ((B.toNat : Int) ≤ (hi : Int)) = false := decide_eq_false (by omega)
            have x4' : decide (B.toNat ≤ hi) = false := decide_eq_false q3
            have HN := Lib.hid (rgB_no HTK.out (by rw [hin, decide_eq_true q2, decide_eq_false q3]; rfl))
            clear hin q2 q3
            go_upto_region 10 with fail
            refine region_mix_wp 31 40 (fun w' => ∃ d, w' = wr.drewN d) (fun _ w' => ∃ d, w' = wr.drewN d) (fun _ => false) (by decide) hmx (by kernel_rfl) (by kernel_rfl) (by kernel_rfl) (fun _ _ h => h) (fun _ _ _ _ => Iff.rfl) ⟨1, rfl⟩ ?_
            simp only [List.take_succ_cons, List.take_zero]
            repeat (refine wpSt_step (by quiet_asked_in) (fun K hK => ?_); go_simp; refine hK _ ?_; clear hK K)
            refine wpSt_nil ?_
            refine ⟨by kernel_rfl, ?_⟩
            rintro w' ⟨dd, rfl⟩
            refine npQ.normal ?_
            go_wp2
            go_roundw
            case rel => exact ⟨i + 1, n, cp, g, by omega, rfl, rfl, by omega, Lib.hid ⟨by rw [HN.out]; exact hT.out.ln, by rw [HN.out]; exact hT.out.own, hT.out.bx, below_drewN hT.out.bel dd⟩⟩
            case measure => simp only [intOf]; omega
        · have x3 : decide ((lo : Int) ≤ (B.toNat : Int)) = false := decide_eq_false (by omega)
          have x3' : decide (lo ≤ B.toNat) = false := decide_eq_false q2
          have HN := Lib.hid (rgB_no HTK.out (by rw [hin, decide_eq_false q2]; rfl))
          clear hin q2
          go_upto_region 10 with fail
          refine region_mix_wp 31 40 (fun w' => ∃ d, w' = wr.drewN d) (fun _ w' => ∃ d, w' = wr.drewN d) (fun _ => false) (by decide) hmx (by kernel_rfl) (by kernel_rfl) (by kernel_rfl) (fun _ _ h => h) (fun _ _ _ _ => Iff.rfl) ⟨1, rfl⟩ ?_
          simp only [List.take_succ_cons, List.take_zero]
          repeat (refine wpSt_step (by quiet_asked_in) (fun K hK => ?_); go_simp; refine hK _ ?_; clear hK K)
          refine wpSt_nil ?_
          refine ⟨by kernel_rfl, ?_⟩
          rintro w' ⟨dd, rfl⟩
          refine npQ.normal ?_
          go_wp2
          go_roundw
          case rel => exact ⟨i + 1, n, cp, g, by omega, rfl, rfl, by omega, Lib.hid ⟨by rw [HN.out]; exact hT.out.ln, by rw [HN.out]; exact hT.out.own, hT.out.bx, below_drewN hT.out.bel dd⟩⟩
          case measure => simp only [intOf]; omega
      · have x2 : decide ((x : Int) < (S.length : Int)) = false := decide_eq_false (by omega)
        have x2' : decide (x < S.length) = false := decide_eq_false q1
        have HN := Lib.hid (rgB_no (S := S) (lo := lo) (hi := hi) HTK.out (by unfold inB; rw [decide_eq_false q1]; rfl))
        clear q1
        go_upto_region 10 with fail
        refine region_mix_wp 31 40 (fun w' => ∃ d, w' = wr.drewN d) (fun _ w' => ∃ d, w' = wr.drewN d) (fun _ => false) (by decide) hmx (by kernel_rfl) (by kernel_rfl) (by kernel_rfl) (fun _ _ h => h) (fun _ _ _ _ => Iff.rfl) ⟨1, rfl⟩ ?_
        simp only [List.take_succ_cons, List.take_zero]
        repeat (refine wpSt_step (by quiet_asked_in) (fun K hK => ?_); go_simp; refine hK _ ?_; clear hK K)
        refine wpSt_nil ?_
        refine ⟨by kernel_rfl, ?_⟩
        rintro w' ⟨dd, rfl⟩
        refine npQ.normal ?_
        go_wp2
        go_roundw
        case rel => exact ⟨i + 1, n, cp, g, by omega, rfl, rfl, by omega, Lib.hid ⟨by rw [HN.out]; exact hT.out.ln, by rw [HN.out]; exact hT.out.own, hT.out.bx, below_drewN hT.out.bel dd⟩⟩
        case measure => simp only [intOf]; omega
    · obtain rfl : i = nf := by omega
      have hln := hT.out.ln
      have HE2 := Lib.hid (show f.take i = f from List.take_of_length_le (by rw [hf.out]; exact Nat.le_refl _))
      go_wp2
      go_ret
      have h1 := Ri.own hT.out.own
      rw [HE2.out] at h1 hln
      refine ⟨some ⟨g, 0, none⟩, cp, ?_, ?_, Lib.hid hT.out.bel⟩
      · rw [HE.out, rgB_bh, hln]; rfl
      · rw [HE.out, rgB_bh]; exact Lib.hid h1

set_option maxRecDepth 100000 in
set_option maxHeartbeats 4000000 in
theorem qb_seq (A : Option Addr) (m c : Nat) (l : List Pn) (S : List UInt8) (hS : S.length ≤ 1000) (hl : Hid (l.length = m)) (h : okP l) (k : Nat) (hk : k < l.length) (c1 : pk l k = 2) (IA : QbC A m c l S (pa l k).toNat) (IB : QbC A m c l S (pb l k).toNat) : QbC A m c l S k := fun W AF nf cf f hr hf ho hri => by
  have nd := h.nd hk
  obtain ⟨b, o, e, hb, hc⟩ := hr.out (by omega)
  subst e
  obtain ⟨d0, d1, d2, d3, d4⟩ := hc k hk
  have i1 : (0 : Int) ≤ (k : Int) := by omega
  have i2 : (k : Int) < (m : Int) := by rw [← hl.out]; omega
  have hnf : nf ≤ 1001 := by have := ho.out.len; have := hf.out; omega
  have HRL : Hid (∀ W', Below W.heap.size W W' → Hid (Rp W' W'.heap.size (some ⟨b, o, none⟩) l)) := Lib.hid (fun W' hb' => Rp.later hr hb')
  rw [c1] at d0
  obtain ⟨a1, a2⟩ := nd.a1 (by omega)
  obtain ⟨j, hj⟩ : ∃ j : Nat, pa l k = (j : Int) := ⟨(pa l k).toNat, by omega⟩
  obtain ⟨b1, b2⟩ := nd.b1 (by omega)
  obtain ⟨i, hi⟩ : ∃ i : Nat, pb l k = (i : Int) := ⟨(pb l k).toNat, by omega⟩
  have HE := Lib.hid (rxN_2 h hk c1)
  rw [hj] at d3 IA HE
  rw [Int.toNat_natCast] at IA HE
  rw [hi] at d4 IB HE
  rw [Int.toNat_natCast] at IB HE
  have P := bh_start W (.int .i64 2) (.int .i64 (plo l k)) (.int .i64 (phi l k)) (.int .i64 (j : Int)) (.int .i64 (i : Int))
  have HA : Hid (∀ W', Below W.heap.size W W' → Calls Tryz.prog 30 #[.slice (some ⟨b, o, none⟩) m c, .int .i64 (j : Int), .string ⟨S.toArray⟩, .slice AF nf cf] W' fun e w' => ∃ A' c', e = .returned (.slice A' (bh S (rxN l j) f).length c') ∧ Hid (Ri w' w'.heap.size A' (bh S (rxN l j) f)) ∧ Hid (Below W'.heap.size W' w')) := Lib.hid (fun W' hb' => IA W' AF nf cf f (HRL.out W' hb') hf ho (Ri.later hri hb'))
  have HB2 : Hid (∀ W' A1 c1, Below W.heap.size W W' → Hid (Ri W' W'.heap.size A1 (bh S (rxN l j) f)) → Calls Tryz.prog 30 #[.slice (some ⟨b, o, none⟩) m c, .int .i64 (i : Int), .string ⟨S.toArray⟩, .slice A1 (bh S (rxN l j) f).length c1] W' fun e w' => ∃ A' c', e = .returned (.slice A' (bh S (rxN l i) (bh S (rxN l j) f)).length c') ∧ Hid (Ri w' w'.heap.size A' (bh S (rxN l i) (bh S (rxN l j) f))) ∧ Hid (Below W'.heap.size W' w')) := Lib.hid (fun W' A1 c1 hb' hr1 => IB W' A1 _ c1 _ (HRL.out W' hb') (Lib.hid rfl) (Lib.hid (Ofs.bh S _ _ ho.out)) hr1)
  clear IA IB
  have HEE := Lib.hid (show bh S (rxN l k) f = bh S (rxN l i) (bh S (rxN l j) f) by rw [HE.out]; rfl)
  rw [HEE.out]
  generalize bh S (rxN l i) (bh S (rxN l j) f) = R2 at *
  generalize bh S (rxN l j) f = R1 at *
  clear hc nd c1
  go_enter Tryz.func30, Tryz.ntmps30
  go_upto_region 4 with fail
  generalize hwa : World.alloc (World.alloc W _) _ = wa
  obtain ⟨B1, X1, O1⟩ := P _ hwa
  clear hwa P d0 d1 d2 d3 d4
  have HB := Lib.hid B1
  have HX := Lib.hid X1
  have HXd := Lib.hid (bx_dr X1)
  have HBd := Lib.hid B1.drew
  obtain ⟨y0, y1, y2, y3, y4⟩ := bx5 X1
  have H1 := Lib.hid (HA.out wa.drew HBd.out)
  clear B1 X1 O1 HA
  go_upto_region 14 with fail
  go_region_with (first
    | (go_at_call 30; with_reducible refine H1.out.mono ?_; rintro e w2 ⟨A1, c1, rfl, r1, b2⟩; obtain ⟨y0, y1, y2, y3, y4⟩ := bx5 (HXd.out.below b2.out); have HB3 := Lib.hid (HBd.out.trans (b2.out.mono HBd.out.size)); have H2 := Lib.hid (HB2.out w2 A1 c1 HB3.out r1); clear b2)
    | (go_at_call 30; with_reducible refine H2.out.mono ?_; rintro e w3 ⟨A2, c2, rfl, r2, b3⟩; have HB4 := Lib.hid (HB3.out.trans (b3.out.mono HB3.out.size)); clear b3))
  all_goals
    go_wp2
    go_ret
    exact ⟨A2, c2, rfl, r2, HB4⟩

set_option maxRecDepth 100000 in
set_option maxHeartbeats 4000000 in
theorem qb_alt (A : Option Addr) (m c : Nat) (l : List Pn) (S : List UInt8) (hS : S.length ≤ 1000) (hl : Hid (l.length = m)) (h : okP l) (k : Nat) (hk : k < l.length) (c1 : pk l k = 3) (IA : QbC A m c l S (pa l k).toNat) (IB : QbC A m c l S (pb l k).toNat) : QbC A m c l S k := fun W AF nf cf f hr hf ho hri => by
  have nd := h.nd hk
  obtain ⟨b, o, e, hb, hc⟩ := hr.out (by omega)
  subst e
  obtain ⟨d0, d1, d2, d3, d4⟩ := hc k hk
  have i1 : (0 : Int) ≤ (k : Int) := by omega
  have i2 : (k : Int) < (m : Int) := by rw [← hl.out]; omega
  have hnf : nf ≤ 1001 := by have := ho.out.len; have := hf.out; omega
  have HRL : Hid (∀ W', Below W.heap.size W W' → Hid (Rp W' W'.heap.size (some ⟨b, o, none⟩) l)) := Lib.hid (fun W' hb' => Rp.later hr hb')
  rw [c1] at d0
  obtain ⟨a1, a2⟩ := nd.a1 (by omega)
  obtain ⟨j, hj⟩ : ∃ j : Nat, pa l k = (j : Int) := ⟨(pa l k).toNat, by omega⟩
  obtain ⟨b1, b2⟩ := nd.b1 (by omega)
  obtain ⟨i, hi⟩ : ∃ i : Nat, pb l k = (i : Int) := ⟨(pb l k).toNat, by omega⟩
  have HE := Lib.hid (rxN_3 h hk c1)
  rw [hj] at d3 IA HE
  rw [Int.toNat_natCast] at IA HE
  rw [hi] at d4 IB HE
  rw [Int.toNat_natCast] at IB HE
  have P := bh_start W (.int .i64 3) (.int .i64 (plo l k)) (.int .i64 (phi l k)) (.int .i64 (j : Int)) (.int .i64 (i : Int))
  have HA : Hid (∀ W', Below W.heap.size W W' → Calls Tryz.prog 30 #[.slice (some ⟨b, o, none⟩) m c, .int .i64 (j : Int), .string ⟨S.toArray⟩, .slice AF nf cf] W' fun e w' => ∃ A' c', e = .returned (.slice A' (bh S (rxN l j) f).length c') ∧ Hid (Ri w' w'.heap.size A' (bh S (rxN l j) f)) ∧ Hid (Below W'.heap.size W' w')) := Lib.hid (fun W' hb' => IA W' AF nf cf f (HRL.out W' hb') hf ho (Ri.later hri hb'))
  have HB2 : Hid (∀ W', Below W.heap.size W W' → Calls Tryz.prog 30 #[.slice (some ⟨b, o, none⟩) m c, .int .i64 (i : Int), .string ⟨S.toArray⟩, .slice AF nf cf] W' fun e w' => ∃ A' c', e = .returned (.slice A' (bh S (rxN l i) f).length c') ∧ Hid (Ri w' w'.heap.size A' (bh S (rxN l i) f)) ∧ Hid (Below W'.heap.size W' w')) := Lib.hid (fun W' hb' => IB W' AF nf cf f (HRL.out W' hb') hf ho (Ri.later hri hb'))
  have HTG : Hid (∀ W' A1 c1 A2 c2, Hid (Ri W' W'.heap.size A1 (bh S (rxN l j) f)) → Hid (Ri W' W'.heap.size A2 (bh S (rxN l i) f)) → Calls Tryz.prog 58 #[.slice A1 (bh S (rxN l j) f).length c1, .slice A2 (bh S (rxN l i) f).length c2] W' fun e w' => ∃ g c2, e = .returned (.slice (some ⟨g, 0, none⟩) (tog (bh S (rxN l j) f) (bh S (rxN l i) f)).length c2) ∧ Hid (Ri w' w'.heap.size (some ⟨g, 0, none⟩) (tog (bh S (rxN l j) f) (bh S (rxN l i) f))) ∧ Hid (Below W'.heap.size W' w')) := Lib.hid (fun W' A1 c1 A2 c2 r1 r2 => rtog_any A1 A2 _ c1 _ c2 _ _ W' (Lib.hid rfl) (Lib.hid rfl) (by have := (Ofs.bh S (rxN l j) f ho.out).len; omega) (by have := (Ofs.bh S (rxN l i) f ho.out).len; omega) r1 r2)
  clear IA IB
  have HEE := Lib.hid (show bh S (rxN l k) f = tog (bh S (rxN l j) f) (bh S (rxN l i) f) by rw [HE.out]; rfl)
  rw [HEE.out]
  generalize tog (bh S (rxN l j) f) (bh S (rxN l i) f) = R3 at *
  generalize bh S (rxN l i) f = R2 at *
  generalize bh S (rxN l j) f = R1 at *
  clear hc nd c1
  go_enter Tryz.func30, Tryz.ntmps30
  go_upto_region 4 with fail
  generalize hwa : World.alloc (World.alloc W _) _ = wa
  obtain ⟨B1, X1, O1⟩ := P _ hwa
  clear hwa P d0 d1 d2 d3 d4
  have HB := Lib.hid B1
  have HX := Lib.hid X1
  have HXd := Lib.hid (bx_dr X1)
  have HBd := Lib.hid B1.drew
  obtain ⟨y0, y1, y2, y3, y4⟩ := bx5 X1
  have H1 := Lib.hid (HA.out wa.drew HBd.out)
  clear B1 X1 O1 HA
  go_upto_region 16 with fail
  go_region_with (first
    | (go_at_call 30; with_reducible refine H1.out.mono ?_; rintro e w2 ⟨A1, c1, rfl, r1, b2⟩; obtain ⟨y0, y1, y2, y3, y4⟩ := bx5 (HXd.out.below b2.out); have HB3 := Lib.hid (HBd.out.trans (b2.out.mono HBd.out.size)); have H2 := Lib.hid (HB2.out w2 HB3.out); clear b2)
    | (go_at_call 30; with_reducible refine H2.out.mono ?_; rintro e w3 ⟨A2, c2, rfl, r2, b3⟩; have HB4 := Lib.hid (HB3.out.trans (b3.out.mono HB3.out.size)); have H3 := Lib.hid (HTG.out w3 A1 c1 A2 c2 (Ri.later r1 b3.out) r2); clear b3)
    | (go_at_call 58; with_reducible refine H3.out.mono ?_; rintro e w4 ⟨g3, c3, rfl, r3, b4⟩; have HB5 := Lib.hid (HB4.out.trans (b4.out.mono HB4.out.size)); clear b4))
  all_goals
    go_wp2
    go_ret
    exact ⟨_, c3, rfl, r3, HB5⟩

set_option maxRecDepth 100000 in
set_option maxHeartbeats 4000000 in
theorem qb_rep (A : Option Addr) (m c : Nat) (l : List Pn) (S : List UInt8) (hS : S.length ≤ 1000) (hl : Hid (l.length = m)) (h : okP l) (k : Nat) (hk : k < l.length) (c1 : pk l k = 4) (IA : QbC A m c l S (pa l k).toNat) : QbC A m c l S k := fun W AF nf cf f hr hf ho hri => by
  have nd := h.nd hk
  obtain ⟨b, o, e, hb, hc⟩ := hr.out (by omega)
  subst e
  obtain ⟨d0, d1, d2, d3, d4⟩ := hc k hk
  have i1 : (0 : Int) ≤ (k : Int) := by omega
  have i2 : (k : Int) < (m : Int) := by rw [← hl.out]; omega
  have hnf : nf ≤ 1001 := by have := ho.out.len; have := hf.out; omega
  have HRL : Hid (∀ W', Below W.heap.size W W' → Hid (Rp W' W'.heap.size (some ⟨b, o, none⟩) l)) := Lib.hid (fun W' hb' => Rp.later hr hb')
  rw [c1] at d0
  obtain ⟨a1, a2⟩ := nd.a1 (by omega)
  obtain ⟨j, hj⟩ : ∃ j : Nat, pa l k = (j : Int) := ⟨(pa l k).toNat, by omega⟩
  have HE := Lib.hid (rxN_4 h hk c1)
  rw [hj] at d3 IA HE
  rw [Int.toNat_natCast] at IA HE
  have P := bh_start W (.int .i64 4) (.int .i64 (plo l k)) (.int .i64 (phi l k)) (.int .i64 (j : Int)) (.int .i64 (pb l k))
  have HA : Hid (∀ W' A1 n1 c1 f1, Below W.heap.size W W' → Hid (f1.length = n1) → Hid (Ofs S.length f1) → Hid (Ri W' W'.heap.size A1 f1) → Calls Tryz.prog 30 #[.slice (some ⟨b, o, none⟩) m c, .int .i64 (j : Int), .string ⟨S.toArray⟩, .slice A1 n1 c1] W' fun e w' => ∃ A' c', e = .returned (.slice A' (bh S (rxN l j) f1).length c') ∧ Hid (Ri w' w'.heap.size A' (bh S (rxN l j) f1)) ∧ Hid (Below W'.heap.size W' w')) := Lib.hid (fun W' A1 n1 c1 f1 hb' h1 h2 h3 => IA W' A1 n1 c1 f1 (HRL.out W' hb') h1 h2 h3)
  have HTG : Hid (∀ W' A1 n1 c1 A2 c2 f1 f2, Hid (f1.length = n1) → Hid (Ofs S.length f1) → Hid (Ofs S.length f2) → Hid (Ri W' W'.heap.size A1 f1) → Hid (Ri W' W'.heap.size A2 f2) → Calls Tryz.prog 58 #[.slice A1 n1 c1, .slice A2 f2.length c2] W' fun e w' => ∃ g c2, e = .returned (.slice (some ⟨g, 0, none⟩) (tog f1 f2).length c2) ∧ Hid (Ri w' w'.heap.size (some ⟨g, 0, none⟩) (tog f1 f2)) ∧ Hid (Below W'.heap.size W' w')) := Lib.hid (fun W' A1 n1 c1 A2 c2 f1 f2 h1 o1 o2 r1 r2 => rtog_any A1 A2 n1 c1 _ c2 f1 f2 W' h1 (Lib.hid rfl) (by have := o1.out.len; have := h1.out; omega) (by have := o2.out.len; omega) r1 r2)
  clear IA
  have HEE := Lib.hid (show bh S (rxN l k) f = repB (bh S (rxN l j)) (S.length + 2) f by rw [HE.out]; rfl)
  have HOB : Hid (∀ f1, Ofs S.length f1 → Ofs S.length (bh S (rxN l j) f1)) := Lib.hid (fun f1 h => Ofs.bh S _ f1 h)
  have HR0 := Lib.hid (RbI.start (s := S) (g := bh S (rxN l j)) f)
  rw [HEE.out]
  generalize repB (bh S (rxN l j)) (S.length + 2) f = R at *
  generalize bh S (rxN l j) = G at *
  clear hc nd c1
  go_enter Tryz.func30, Tryz.ntmps30
  go_upto_region 4 with fail
  generalize hwa : World.alloc (World.alloc W _) _ = wa
  obtain ⟨B1, X1, O1⟩ := P _ hwa
  clear hwa P d0 d1 d2 d3 d4
  have HB := Lib.hid B1
  have HX := Lib.hid X1
  have HXd := Lib.hid (bx_dr X1)
  have HBd := Lib.hid B1.drew
  obtain ⟨y0, y1, y2, y3, y4⟩ := bx5 X1
  have HRI := Ri.later hri HB.out
  clear B1 X1 O1 HXd HBd y0 y1 y2 y3 y4 hri
  go_wp2
  go_loopw [10, 12] (fun v10 v12 wr => ∃ (A1 : Option Addr) (n1 c1 : Nat) (cz : Int) (f1 : List Nat), v10 = .slice A1 n1 c1 ∧ v12 = .int .i64 cz ∧ -1 ≤ cz ∧ cz ≤ (n1 : Int) ∧ Hid (f1.length = n1) ∧ Hid (Ofs S.length f1) ∧ Hid (Ri wr wr.heap.size A1 f1) ∧ Hid (RbI G R S cz f1) ∧ Hid (Below W.heap.size W wr) ∧ Hid (∃ a0 a1 a2 a4, Bx wr W.heap.size #[a0, a1, a2, .int .i64 (j : Int), a4] 42)) (fun v10 v12 _ => match v10, v12 with | .slice _ n _, .int _ z => 2 * (S.length + 2 - n) + (if z < (n : Int) then 1 else 0) | _, _ => 0)
  case atStart => exact ⟨AF, nf, cf, -1, f, rfl, rfl, Int.le_refl _, by omega, hf, ho, HRI, HR0, HB, Lib.hid ⟨_, _, _, _, HX.out⟩⟩
  case round =>
    clear HR0 HRI HB HX hf ho hnf
    obtain ⟨A1, n1, c1, cz, f1, rfl, rfl, hz1, hz2, h1, h2, h3, h4, h5, h6⟩ := hrel
    have hn1 : n1 ≤ S.length + 1 := by have := h2.out.len; have := h1.out; omega
    by_cases hlt : cz < (n1 : Int)
    · obtain ⟨a0, a1, a2, a4, X1⟩ := h6.out
      obtain ⟨y0, y1, y2, y3, y4⟩ := bx5 X1
      have HX := Lib.hid X1
      have HO2 := Lib.hid (HOB.out f1 h2.out)
      have HNX := Lib.hid (h4.out.next (by rw [h1.out]; exact hlt) (Ofs.tog (G f1) h2.out HO2.out.2).2)
      have HC1 := Lib.hid (HA.out wr A1 n1 c1 f1 h5.out h1 h2 h3)
      have HOT := Lib.hid (Ofs.tog (G f1) h2.out HO2.out.2)
      clear X1
      go_wp2_with (first
        | (go_at_call 30; with_reducible refine HC1.out.mono ?_; rintro e w2 ⟨A2, c2, rfl, r2, b2⟩; have HB3 := Lib.hid (h5.out.trans (b2.out.mono h5.out.size)); have HX3 := Lib.hid (HX.out.below b2.out); have HC2 := Lib.hid (HTG.out w2 A1 n1 c1 A2 c2 f1 (G f1) h1 h2 HO2 (Ri.later h3 b2.out) r2); clear b2)
        | (go_at_call 58; with_reducible refine HC2.out.mono ?_; rintro e w4 ⟨g3, c3, rfl, r3, b4⟩; have HB5 := Lib.hid (HB3.out.trans (b4.out.mono HB3.out.size)); have HX5 := Lib.hid (HX3.out.below b4.out); clear b4))
      have hnx := HNX.out
      rw [h1.out] at hnx
      have hl2 := HOT.out.len
      have HR5 := Lib.hid hnx.1
      have hdis := hnx.2
      generalize tog f1 (G f1) = f2 at *
      have hdis' : f2.length = n1 ∨ n1 < f2.length := by rcases hdis with q | q <;> omega
      clear hnx hdis HNX
      go_roundw
      case rel => exact ⟨_, f2.length, c3, (n1 : Int), f2, rfl, rfl, by omega, by omega, Lib.hid rfl, HOT, r3, HR5, HB5, Lib.hid ⟨_, _, _, _, HX5.out⟩⟩
      case measure =>
        simp only []
        rw [if_pos hlt]
        split <;> omega
    · have hR : f1 = R := by
        rcases h4.out with ⟨q, _⟩ | ⟨_, q⟩
        · rw [h1.out] at q; omega
        · exact q
      have HR1 := Lib.hid hR
      clear hR
      go_wp2
      go_ret
      rw [← HR1.out, h1.out]
      exact ⟨A1, ⟨c1, rfl⟩, h3, h5⟩

theorem rbehind_all (A : Option Addr) (m c : Nat) (l : List Pn) (S : List UInt8) (hS : S.length ≤ 1000) (hl : Hid (l.length = m)) (h : okP l) : ∀ k, k < l.length → QbC A m c l S k := by
  intro k
  induction k using Nat.strongRecOn with
  | _ k ih =>
    intro hk
    have nd := h.nd hk
    rcases (show pk l k = 0 ∨ pk l k = 1 ∨ pk l k = 2 ∨ pk l k = 3 ∨ pk l k = 4 by have := nd.kd; omega) with c1 | c1 | c1 | c1 | c1
    · exact qb_emp A m c l S hS hl h k hk c1
    · exact qb_rng A m c l S hS hl h k hk c1
    · have a := nd.a1 (by omega)
      have b := nd.b1 (.inl c1)
      exact qb_seq A m c l S hS hl h k hk c1 (ih _ a.2 (by omega)) (ih _ b.2 (by omega))
    · have a := nd.a1 (by omega)
      have b := nd.b1 (.inr c1)
      exact qb_alt A m c l S hS hl h k hk c1 (ih _ a.2 (by omega)) (ih _ b.2 (by omega))
    · have a := nd.a1 (by omega)
      exact qb_rep A m c l S hS hl h k hk c1 (ih _ a.2 (by omega))

end Go.Proofs.YtfkljlncnfeklaaGreatDoor
