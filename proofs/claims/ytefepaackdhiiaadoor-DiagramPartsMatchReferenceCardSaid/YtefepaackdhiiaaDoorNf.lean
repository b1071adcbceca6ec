/-
  Plain mathematics and contracts of package diagram, several texts in one: DRLst.
-/
import Derived.Test.YtefepaackdhiiaaDoorNe
namespace Go.Proofs.YtefepaackdhiiaaDoor
open Go.RowKit Dg St
set_option linter.unusedVariables false
set_option linter.unusedSimpArgs false
attribute [local go_sem ↓] Go.wp_at_zero Go.wp_at_succ
def lcs (M : List Br) (n : Nat) : List Value := (List.range n).map fun i => .int .u64 ((Lst M i : Nat) : Int)
theorem lcs_at (M : List Br) {n i : Nat} (h : i < n) : (lcs M n)[i]? = some (.int .u64 ((Lst M i : Nat) : Int)) := by
  unfold lcs
  rw [List.getElem?_map, List.getElem?_range h]; rfl
theorem lcs_succ (M : List Br) (n : Nat) : lcs M (n + 1) = lcs M n ++ [.int .u64 ((Lst M n : Nat) : Int)] := by
  unfold lcs
  rw [List.range_succ, List.map_append]; rfl
structure Lr (w3 wr : World) (u : Value) (M : List Br) (k : Nat) : Prop where
  row : wr.ownsRow w3.heap.size 36 1 u (k + 2) (lcs M (k + 2))
  bel : Below w3.heap.size w3 wr
theorem Lr.step2 {w3 w6 w7 : World} {u : Value} {M : List Br} {k gn cap : Nat} (b0 : Below w3.heap.size w3 w6) (hr : w6.ownsRow w3.heap.size 36 1 u (k + 2) (lcs M (k + 2))) (x : Value) (hx : x = .int .u64 ((Lst M (k + 2) : Nat) : Int))
    (hown : w7.ownsRow w3.heap.size 36 1 (.slice (some ⟨gn, 0, none⟩) (k + 2 + 1) cap) (k + 2 + 1) (lcs M (k + 2) ++ [x])) (hgrow : (w6.alloc (.cells #[x] 36)).grownBy w7 u.ownBlock) : Lr w3 w7 (.slice (some ⟨gn, 0, none⟩) (k + 2 + 1) cap) M (k + 1) := by
  subst hx
  have hba := b0.alloc b0.size (.cells #[.int .u64 ((Lst M (k + 2) : Nat) : Int)] 36)
  refine ⟨?_, hba.trans ((Chg.of_grown (S := fun q => u.ownBlock = some q) hgrow (fun q e => e)).below hba.size (fun q hq e => ?_))⟩
  · rw [show k + 1 + 2 = k + 2 + 1 by omega, lcs_succ]
    exact hown
  · have := (World.ownsRow.lt hr q e).1
    omega
set_option maxHeartbeats 20000000 in
set_option maxRecDepth 100000 in
theorem rleast_some (m c r : Nat) (A : Option Addr) (f : Cfg → Bool) (w : World) (h0 : Hid (Dn w A m c r f)) (hck : Hid (∀ W, Below w.heap.size w W → Calls Tryd.prog 23 #[.agg #[.slice A m c, .int .i64 (r : Int)]] W fun e w' => e = .returned (.int .i64 0) ∧ Below W.heap.size W w')) (hr : Hid (r ≠ 0)) :
    Calls Tryd.prog 42 #[.agg #[.slice A m c, .int .i64 (r : Int)]] w (fun e w' => LeOk w w' f e) := by
  obtain ⟨i0, hi, hz0, hz1, hz2⟩ := info_parts Tryd.infoCfg
  have hlm := h0.out.lm
  have hlt := h0.out.lt
  have hlen := h0.out.len
  have hrd := h0.out.rd
  have hgood := h0.out.valid.good
  have hden := h0.out.den
  clear h0
  generalize (cn f).1 = M at *
  have HIS := Lib.hid ((Lst_is hgood (r + 1) r (Nat.lt_succ_self _) (by rw [hlen]; exact hlt) hr.out).imp id (fun h => h.1))
  rw [hden] at HIS
  have HORD := Lib.hid hgood.ord
  have HB64 : Hid (∀ n, n < m + 2 → Lst M n < 2 ^ 64) := fun n hn => by
    by_cases e : n = 0
    · rw [e, Lst_const M (by omega)]; omega
    · exact (Lst_is hgood (n + 1) n (Nat.lt_succ_self _) (by rw [hlen]; exact hn) e).2.1
  have HLEN := Lib.hid hlen
  have X0 := nb2 w (.slice A m c) (.int .i64 (r : Int)) 24
  have HB0 := Lib.hid (ab2 w (.cells #[.slice A m c, .int .i64 (r : Int)] 24))
  have HRD := Lib.hid hrd
  have hr0 : ((r : Int) == 0) = false := beq_eq_false_iff_ne.2 (by have := hr.out; omega)
  clear hrd hgood hden hlen
  go_enter Tryd.func42, Tryd.ntmps42
  obtain ⟨x0, x1, xn⟩ := xb2 X0
  go_wp2_with fail
  generalize w.alloc (.cells #[.slice A m c, .int .i64 (r : Int)] 24) = w1 at *
  with_reducible refine (hck.out w1 HB0.out).mono ?_
  rintro e w3 ⟨rfl, b3⟩
  have X3 := rb2 X0 b3
  have HB3 := btr HB0 b3 HB0.out.size
  clear b3 x0 x1 xn X0 HB0 hck
  obtain ⟨x0, x1, xn⟩ := xb2 X3
  go_wp2_with fail
  have F0 : Hid (Lr w3 (w3.alloc (.cells #[.int .u64 0, .int .u64 0] 36)) (.slice (some ⟨w3.heap.size, 0, none⟩) 2 2) M 0) := Lib.hid ⟨⟨rfl, .inr ⟨w3.heap.size, 2, #[.int .u64 0, .int .u64 0], rfl, Nat.le_refl _, heap_alloc_new w3 _, Nat.le_refl _, by simp [maxLen], rfl, by
    show [Value.int .u64 0, .int .u64 0] = lcs M 2
    unfold lcs
    rw [show List.range 2 = [0, 1] from rfl]
    simp only [List.map_cons, List.map_nil]
    rw [Lst_const M (by omega), Lst_const M (by omega)]; rfl⟩⟩, ab2 w3 _⟩
  generalize w3.alloc (.cells #[.int .u64 0, .int .u64 0] 36) = w4 at *
  clear x0 x1
  go_loopw [4, 5] (fun u i wr => ∃ k : Nat, k ≤ m ∧ i = .int .i64 (k : Int) ∧ Hid (Lr w3 wr u M k)) (fun _ i _ => m - (intOf i).toNat)
  case atStart => exact ⟨0, Nat.zero_le _, rfl, F0⟩
  case round =>
    clear F0
    obtain ⟨k, hk, rfl, hst⟩ := hrel
    have HBw := Lib.hid (HB3.out.trans (hst.out.bel.mono HB3.out.size))
    have X4 := Lib.hid (X3.out.below (by omega) hst.out.bel)
    obtain ⟨x0, x1, xn'⟩ := xb2 X4
    obtain ⟨g, cap0, eg, hg1, hg2⟩ := World.ownsRow.form hst.out.row (by omega)
    subst eg
    by_cases hlt' : k < m
    · have hkM : k < M.length := by rw [HLEN.out]; exact hlt'
      obtain ⟨b', o', e, hb, hc⟩ := (HRD.out.below HBw.out) (by rw [up_len]; omega)
      subst e
      obtain ⟨d0, d1, d2⟩ := hc k (by rw [up_len]; exact hkM)
      rw [iv_up] at d0
      rw [il_up] at d1
      rw [ih_up] at d2
      obtain ⟨q1, q2, q3, _, _⟩ := HORD.out k hkM
      have HB := Lst_br HORD.out hkM
      have e1 := (hst.out.row.cellAt (bl M k) (by omega)).trans (lcs_at M (by omega))
      have e2 := (hst.out.row.cellAt (bh M k) (by omega)).trans (lcs_at M (by omega))
      have hLn : ¬ g = wr.heap.size := by omega
      have hbn : ¬ b' = wr.heap.size := by have := HBw.out.size; omega
      have hwn : ¬ w.heap.size = wr.heap.size := by omega
      have i1 : (0 : Int) ≤ (k : Int) := by omega
      have i2 : (k : Int) < (m : Int) := by omega
      clear hc
      have hYb : Lst M (bh M k) < 2 ^ 64 := HB64.out _ (by omega)
      have hzb : Lst M (k + 2) < 2 ^ 64 := HB64.out _ (by omega)
      generalize Lst M (bl M k) = X at *
      generalize Lst M (bh M k) = Y at *
      generalize bv M k = V at *
      generalize bl M k = LL at *
      generalize bh M k = UU at *
      have i3 : (0 : Int) ≤ (LL : Int) := by omega
      have i4 : (LL : Int) < ((k + 2 : Nat) : Int) := by omega
      have i5 : (0 : Int) ≤ (UU : Int) := by omega
      have i6 : (UU : Int) < ((k + 2 : Nat) : Int) := by omega
      have i7 : (0 : Int) ≤ (V : Int) := by omega
      have hwu : IntKind.u64.wrap (V : Int) = (V : Int) := by rw [IntKind.wrap_u64]; omega
      have hp := shl_one q1
      have hY64 : Y < 18446744073709551616 := hYb
      have hP64 : 2 ^ V < 18446744073709551616 := Nat.pow_lt_pow_right (by omega) q1
      have hor := bits_or_u64_nat Y (2 ^ V) hY64 hP64
      rw [← hp] at hor
      generalize hZ : Y ||| 2 ^ V = Z at *
      have HBH := Lib.hid HB
      have HHO := Lib.hid hst.out
      have HSZ := Lib.hid hst.out.bel.size
      have HRW := Lib.hid hst.out.row
      clear HB hp hZ hP64 hY64 hYb hst
      have hrowk : ∀ (B : Obj) (nq : Nat) (C : Obj), (((wr.alloc B).drewN nq).alloc C).ownsRow w3.heap.size 36 1 (.slice (some ⟨g, 0, none⟩) (k + 2) cap0) (k + 2) (lcs M (k + 2)) := fun B nq C => own_below (own_below (own_below HRW.out (ab2 wr B)) (below_drewN (Below.refl _ _) nq)) (ab2 _ C)
      have HRK := Lib.hid hrowk
      clear hrowk HRW
      by_cases c1 : LL = 0
      · have hc1 : ((LL : Int) == 0) = true := by rw [c1]; rfl
        have HV : Hid (Lst M (k + 2) = Z) := by show _ = _; rw [HBH.out, if_pos (.inl c1)]
        clear c1
        go_wp2
        go_quiet (fail)
        have hb6 : Below w3.heap.size w3 ((wr.alloc (.cells #[.int .i64 (V : Int), .int .i64 (LL : Int), .int .i64 (UU : Int)] 72)).drewN nq) := below_drewN (HHO.out.bel.alloc HHO.out.bel.size _) nq
        have hr6 : ((wr.alloc (.cells #[.int .i64 (V : Int), .int .i64 (LL : Int), .int .i64 (UU : Int)] 72)).drewN nq).ownsRow w3.heap.size 36 1 (.slice (some ⟨g, 0, none⟩) (k + 2) cap0) (k + 2) (lcs M (k + 2)) := own_below (own_below HHO.out.row (ab2 wr _)) (below_drewN (Below.refl _ _) nq)
        have XB : B3 ((wr.alloc (.cells #[.int .i64 (V : Int), .int .i64 (LL : Int), .int .i64 (UU : Int)] 72)).drewN nq) wr.heap.size (.int .i64 (V : Int)) (.int .i64 (LL : Int)) (.int .i64 (UU : Int)) := (Blk.new (w := wr) rfl [.int .i64 (V : Int), .int .i64 (LL : Int), .int .i64 (UU : Int)] 72).keep (w' := (wr.alloc (.cells #[.int .i64 (V : Int), .int .i64 (LL : Int), .int .i64 (UU : Int)] 72)).drewN nq) rfl
        have HB6 := Lib.hid hb6
        have HR6 := Lib.hid hr6
        obtain ⟨y0, y1, y2⟩ := xb3 (Lib.hid XB)
        clear hb6 hr6 XB HHO HRK e1 e2 d0 d1 d2 x0 x1
        generalize ((wr.alloc (.cells #[.int .i64 (V : Int), .int .i64 (LL : Int), .int .i64 (UU : Int)] 72)).drewN nq) = w6 at *
        go_upto_region 12 with fail
        go_wp2_with (refine wpList_append_lies _ rfl _ _ _ rfl w3.heap.size 36 i0 _ 1 8 Tryd.underlying98 hi hz0 hz1 hz2 rfl (by omega) (.slice (some ⟨g, 0, none⟩) (k + 2) cap0) (k + 2) (lcs M (k + 2)) rfl (HR6.out.alloc _) _ _ _ [.int .u64 (Z : Int)] rfl rfl (World.news_of_block (heap_alloc_new _ _)) (by simp [Value.oneCell']) (by omega) (by simp only [maxLen]; omega) (by omega) (by have := HB6.out.size; simp; omega) _ rfl ?_; intro gn cap w7 hown hgrow hat hlt7)
        go_roundw
        case rel => exact ⟨k + 1, by omega, by go_num, Lib.hid (Lr.step2 HB6.out HR6.out (.int .u64 (Z : Int)) (by rw [HV.out]) hown hgrow)⟩
        case measure => simp [intOf]; omega
      · have hc1 : ((LL : Int) == 0) = false := beq_eq_false_iff_ne.2 (by omega)
        by_cases c2 : UU = 0
        · have hc2 : ((UU : Int) != 0) = false := by rw [c2]; rfl
          have HV : Hid (Lst M (k + 2) = X) := by show _ = _; rw [HBH.out, if_neg (fun h => by rcases h with h | h; exact c1 h; exact h.1 c2)]
          clear c1 c2
          go_wp2
          go_quiet (fail)
          have hb6 : Below w3.heap.size w3 ((wr.alloc (.cells #[.int .i64 (V : Int), .int .i64 (LL : Int), .int .i64 (UU : Int)] 72)).drewN nq) := below_drewN (HHO.out.bel.alloc HHO.out.bel.size _) nq
          have hr6 : ((wr.alloc (.cells #[.int .i64 (V : Int), .int .i64 (LL : Int), .int .i64 (UU : Int)] 72)).drewN nq).ownsRow w3.heap.size 36 1 (.slice (some ⟨g, 0, none⟩) (k + 2) cap0) (k + 2) (lcs M (k + 2)) := own_below (own_below HHO.out.row (ab2 wr _)) (below_drewN (Below.refl _ _) nq)
          have XB : B3 ((wr.alloc (.cells #[.int .i64 (V : Int), .int .i64 (LL : Int), .int .i64 (UU : Int)] 72)).drewN nq) wr.heap.size (.int .i64 (V : Int)) (.int .i64 (LL : Int)) (.int .i64 (UU : Int)) := (Blk.new (w := wr) rfl [.int .i64 (V : Int), .int .i64 (LL : Int), .int .i64 (UU : Int)] 72).keep (w' := (wr.alloc (.cells #[.int .i64 (V : Int), .int .i64 (LL : Int), .int .i64 (UU : Int)] 72)).drewN nq) rfl
          have HB6 := Lib.hid hb6
          have HR6 := Lib.hid hr6
          obtain ⟨y0, y1, y2⟩ := xb3 (Lib.hid XB)
          clear hb6 hr6 XB HHO HRK e1 e2 d0 d1 d2 x0 x1
          generalize ((wr.alloc (.cells #[.int .i64 (V : Int), .int .i64 (LL : Int), .int .i64 (UU : Int)] 72)).drewN nq) = w6 at *
          go_upto_region 12 with fail
          go_wp2_with (refine wpList_append_lies _ rfl _ _ _ rfl w3.heap.size 36 i0 _ 1 8 Tryd.underlying98 hi hz0 hz1 hz2 rfl (by omega) (.slice (some ⟨g, 0, none⟩) (k + 2) cap0) (k + 2) (lcs M (k + 2)) rfl (HR6.out.alloc _) _ _ _ [.int .u64 (X : Int)] rfl rfl (World.news_of_block (heap_alloc_new _ _)) (by simp [Value.oneCell']) (by omega) (by simp only [maxLen]; omega) (by omega) (by have := HB6.out.size; simp; omega) _ rfl ?_; intro gn cap w7 hown hgrow hat hlt7)
          go_roundw
          case rel => exact ⟨k + 1, by omega, by go_num, Lib.hid (Lr.step2 HB6.out HR6.out (.int .u64 (X : Int)) (by rw [HV.out]) hown hgrow)⟩
          case measure => simp [intOf]; omega
        · have hc2 : ((UU : Int) != 0) = true := bne_iff_ne.2 (by omega)
          by_cases c3 : Z < X
          · have hc3 : decide ((Z : Int) < (X : Int)) = true := decide_eq_true (by omega)
            have hc3' : decide (Z < X) = true := decide_eq_true c3
            have HV : Hid (Lst M (k + 2) = Z) := by show _ = _; rw [HBH.out, if_pos (.inr ⟨c2, c3⟩)]
            clear c1 c2 c3
            go_wp2
            go_quiet (fail)
            have hb6 : Below w3.heap.size w3 ((wr.alloc (.cells #[.int .i64 (V : Int), .int .i64 (LL : Int), .int .i64 (UU : Int)] 72)).drewN nq) := below_drewN (HHO.out.bel.alloc HHO.out.bel.size _) nq
            have hr6 : ((wr.alloc (.cells #[.int .i64 (V : Int), .int .i64 (LL : Int), .int .i64 (UU : Int)] 72)).drewN nq).ownsRow w3.heap.size 36 1 (.slice (some ⟨g, 0, none⟩) (k + 2) cap0) (k + 2) (lcs M (k + 2)) := own_below (own_below HHO.out.row (ab2 wr _)) (below_drewN (Below.refl _ _) nq)
            have XB : B3 ((wr.alloc (.cells #[.int .i64 (V : Int), .int .i64 (LL : Int), .int .i64 (UU : Int)] 72)).drewN nq) wr.heap.size (.int .i64 (V : Int)) (.int .i64 (LL : Int)) (.int .i64 (UU : Int)) := (Blk.new (w := wr) rfl [.int .i64 (V : Int), .int .i64 (LL : Int), .int .i64 (UU : Int)] 72).keep (w' := (wr.alloc (.cells #[.int .i64 (V : Int), .int .i64 (LL : Int), .int .i64 (UU : Int)] 72)).drewN nq) rfl
            have HB6 := Lib.hid hb6
            have HR6 := Lib.hid hr6
            obtain ⟨y0, y1, y2⟩ := xb3 (Lib.hid XB)
            clear hb6 hr6 XB HHO HRK e1 e2 d0 d1 d2 x0 x1
            generalize ((wr.alloc (.cells #[.int .i64 (V : Int), .int .i64 (LL : Int), .int .i64 (UU : Int)] 72)).drewN nq) = w6 at *
            go_upto_region 12 with fail
            go_wp2_with (refine wpList_append_lies _ rfl _ _ _ rfl w3.heap.size 36 i0 _ 1 8 Tryd.underlying98 hi hz0 hz1 hz2 rfl (by omega) (.slice (some ⟨g, 0, none⟩) (k + 2) cap0) (k + 2) (lcs M (k + 2)) rfl (HR6.out.alloc _) _ _ _ [.int .u64 (Z : Int)] rfl rfl (World.news_of_block (heap_alloc_new _ _)) (by simp [Value.oneCell']) (by omega) (by simp only [maxLen]; omega) (by omega) (by have := HB6.out.size; simp; omega) _ rfl ?_; intro gn cap w7 hown hgrow hat hlt7)
            go_roundw
            case rel => exact ⟨k + 1, by omega, by go_num, Lib.hid (Lr.step2 HB6.out HR6.out (.int .u64 (Z : Int)) (by rw [HV.out]) hown hgrow)⟩
            case measure => simp [intOf]; omega
          · have hc3 : decide ((Z : Int) < (X : Int)) = false := decide_eq_false (by omega)
            have hc3' : decide (Z < X) = false := decide_eq_false c3
            have HV : Hid (Lst M (k + 2) = X) := by show _ = _; rw [HBH.out, if_neg (fun h => by rcases h with h | h; exact c1 h; exact c3 h.2)]
            clear c1 c2 c3
            go_wp2
            go_quiet (fail)
            have hb6 : Below w3.heap.size w3 ((wr.alloc (.cells #[.int .i64 (V : Int), .int .i64 (LL : Int), .int .i64 (UU : Int)] 72)).drewN nq) := below_drewN (HHO.out.bel.alloc HHO.out.bel.size _) nq
            have hr6 : ((wr.alloc (.cells #[.int .i64 (V : Int), .int .i64 (LL : Int), .int .i64 (UU : Int)] 72)).drewN nq).ownsRow w3.heap.size 36 1 (.slice (some ⟨g, 0, none⟩) (k + 2) cap0) (k + 2) (lcs M (k + 2)) := own_below (own_below HHO.out.row (ab2 wr _)) (below_drewN (Below.refl _ _) nq)
            have XB : B3 ((wr.alloc (.cells #[.int .i64 (V : Int), .int .i64 (LL : Int), .int .i64 (UU : Int)] 72)).drewN nq) wr.heap.size (.int .i64 (V : Int)) (.int .i64 (LL : Int)) (.int .i64 (UU : Int)) := (Blk.new (w := wr) rfl [.int .i64 (V : Int), .int .i64 (LL : Int), .int .i64 (UU : Int)] 72).keep (w' := (wr.alloc (.cells #[.int .i64 (V : Int), .int .i64 (LL : Int), .int .i64 (UU : Int)] 72)).drewN nq) rfl
            have HB6 := Lib.hid hb6
            have HR6 := Lib.hid hr6
            obtain ⟨y0, y1, y2⟩ := xb3 (Lib.hid XB)
            clear hb6 hr6 XB HHO HRK e1 e2 d0 d1 d2 x0 x1
            generalize ((wr.alloc (.cells #[.int .i64 (V : Int), .int .i64 (LL : Int), .int .i64 (UU : Int)] 72)).drewN nq) = w6 at *
            go_upto_region 12 with fail
            go_wp2_with (refine wpList_append_lies _ rfl _ _ _ rfl w3.heap.size 36 i0 _ 1 8 Tryd.underlying98 hi hz0 hz1 hz2 rfl (by omega) (.slice (some ⟨g, 0, none⟩) (k + 2) cap0) (k + 2) (lcs M (k + 2)) rfl (HR6.out.alloc _) _ _ _ [.int .u64 (X : Int)] rfl rfl (World.news_of_block (heap_alloc_new _ _)) (by simp [Value.oneCell']) (by omega) (by simp only [maxLen]; omega) (by omega) (by have := HB6.out.size; simp; omega) _ rfl ?_; intro gn cap w7 hown hgrow hat hlt7)
            go_roundw
            case rel => exact ⟨k + 1, by omega, by go_num, Lib.hid (Lr.step2 HB6.out HR6.out (.int .u64 (X : Int)) (by rw [HV.out]) hown hgrow)⟩
            case measure => simp [intOf]; omega
    · obtain rfl : k = m := by omega
      have e1 := (hst.out.row.cellAt r (by omega)).trans (lcs_at M (by omega))
      have i1 : (r : Int) < ((k + 2 : Nat) : Int) := by omega
      have i2 : (0 : Int) ≤ (r : Int) := by omega
      clear hst
      generalize Lst M r = X at *
      go_wp2
      go_ret2
      exact ⟨⟨X, rfl, HIS.out⟩, HBw.out⟩
def LeV (k : Int) (f : Cfg → Bool) (x : Nat) (b : Bool) : Prop := (k = 0 ∧ (cn f).2 ≠ 0 → b = true ∧ IsL f x) ∧ (¬ (k = 0 ∧ (cn f).2 ≠ 0) → b = false ∧ x = 0)
theorem LeV.unique {k : Int} {f : Cfg → Bool} {x y : Nat} {b d : Bool} (h : LeV k f x b) (h' : LeV k f y d) : x = y ∧ b = d := by
  by_cases q : k = 0 ∧ (cn f).2 ≠ 0
  · obtain ⟨e1, i1, j1⟩ := h.1 q
    obtain ⟨e2, i2, j2⟩ := h'.1 q
    exact ⟨Nat.le_antisymm (j1 y i2) (j2 x i1), by rw [e1, e2]⟩
  · obtain ⟨e1, i1⟩ := h.2 q
    obtain ⟨e2, i2⟩ := h'.2 q
    exact ⟨by rw [i1, i2], by rw [e1, e2]⟩
def LeA (w w' : World) (k : Int) (f : Cfg → Bool) (e : Ending) : Prop := (∃ (x : Nat) (b : Bool), e = .returned (.tuple #[.int .u64 (x : Int), .bool b]) ∧ LeV k f x b) ∧ Below w.heap.size w w'
theorem lea_no {w w' : World} {k : Int} {f : Cfg → Bool} (h : ¬ (k = 0 ∧ (cn f).2 ≠ 0)) (hb : Below w.heap.size w w') : LeA w w' k f (.returned (.tuple #[.int .u64 0, .bool false])) := ⟨⟨0, false, rfl, fun q => absurd q h, fun _ => ⟨rfl, rfl⟩⟩, hb⟩
theorem lea_yes {w w' : World} {f : Cfg → Bool} {e : Ending} (h : (cn f).2 ≠ 0) (hl : LeOk w w' f e) : LeA w w' 0 f e := by
  obtain ⟨⟨x, rfl, hi, _⟩, hb⟩ := hl
  exact ⟨⟨x, true, rfl, fun _ => ⟨rfl, hi⟩, fun q => absurd ⟨rfl, h⟩ q⟩, hb⟩
theorem dleast_any {w : World} {A0 : Option Addr} {m0 c0 : Nat} {l0 : List Bi} {r0 : Int} (h0 : Hid (DOk w (⟨A0, m0, c0, l0, r0⟩ : DA))) (q0 : m0 ≤ 40) :
    Calls Tryd.prog 41 #[.agg #[.slice A0 m0 c0, .int .i64 r0]] w fun e w' => LeA w w' (chk l0 r0) (dset l0 r0) e := by
  rcases chk_or (l := l0) (r := r0) (by have := h0.out.len; simp only at this; omega) with hk | hk
  rotate_left
  · rw [hk]
    refine (bad_least (Lib.hid ⟨h0.out, hk⟩)).mono ?_
    rintro e w' ⟨rfl, hb⟩
    exact lea_no (fun q => absurd q.1 (by decide)) hb
  · rw [hk]
    have D0 := Lib.hid (dn_dset h0.out hk)
    have e0 := chk_nat hk
    generalize dset l0 r0 = f0 at *
    generalize r0.toNat = n0 at *
    subst e0
    by_cases hr : n0 = 0
    · subst hr
      refine (least_zero m0 c0 A0 f0 w D0).mono ?_
      rintro e w' ⟨rfl, hb⟩
      exact lea_no (fun q => q.2 D0.out.rt) hb
    · exact (least_some m0 c0 n0 A0 f0 w D0 (Lib.hid hr)).mono fun e w' h => lea_yes (by rw [D0.out.rt]; exact hr) h
set_option maxHeartbeats 4000000 in
set_option maxRecDepth 100000 in
theorem rleast_any {w : World} {A0 : Option Addr} {m0 c0 : Nat} {l0 : List Bi} {r0 : Int} (h0 : Hid (DOk w (⟨A0, m0, c0, l0, r0⟩ : DA))) (q0 : m0 ≤ 40) :
    Calls Tryd.prog 42 #[.agg #[.slice A0 m0 c0, .int .i64 r0]] w fun e w' => LeA w w' (chk l0 r0) (dset l0 r0) e := by
  have X0 := nb2 w (.slice A0 m0 c0) (.int .i64 r0) 24
  have HB0 := Lib.hid (ab2 w (.cells #[.slice A0 m0 c0, .int .i64 r0] 24))
  have HF : Hid (∀ W, Below w.heap.size w W → Calls Tryd.prog 23 #[.agg #[.slice A0 m0 c0, .int .i64 r0]] W fun e w' => e = .returned (.int .i64 (chk l0 r0)) ∧ Below W.heap.size W w') := Lib.hid (fun W hW => rcheck_any l0 r0 m0 c0 A0 W (dkh h0 hW) (by omega))
  rcases chk_or (l := l0) (r := r0) (by have := h0.out.len; simp only at this; omega) with hk | hk
  rotate_left
  · rw [hk] at HF ⊢
    clear h0 hk
    go_enter Tryd.func42, Tryd.ntmps42
    obtain ⟨x0, x1, xn⟩ := xb2 X0
    go_wp2_with fail
    generalize w.alloc (.cells #[.slice A0 m0 c0, .int .i64 r0] 24) = w1 at *
    with_reducible refine (HF.out w1 HB0.out).mono ?_
    rintro e w3 ⟨rfl, b3⟩
    have HB3 := btr HB0 b3 HB0.out.size
    clear b3 x0 x1 xn
    go_wp2
    go_ret2
    exact lea_no (fun q => absurd q.1 (by decide)) HB3.out
  · rw [hk] at HF ⊢
    have D0 := Lib.hid (dn_dset h0.out hk)
    have e0 := chk_nat hk
    clear h0 hk
    generalize dset l0 r0 = f0 at *
    generalize r0.toNat = n0 at *
    subst e0
    by_cases hr : n0 = 0
    · subst hr
      have HF0 : Hid (∀ W, Below w.heap.size w W → Calls Tryd.prog 23 #[.agg #[.slice A0 m0 c0, .int .i64 0]] W fun e w' => e = .returned (.int .i64 0) ∧ Below W.heap.size W w') := HF
      have X1 : Hid (B2 (w.alloc (.cells #[.slice A0 m0 c0, .int .i64 0] 24)) w.heap.size (.slice A0 m0 c0) (.int .i64 0)) := X0
      have HB1 : Hid (Below w.heap.size w (w.alloc (.cells #[.slice A0 m0 c0, .int .i64 0] 24))) := HB0
      clear HF X0 HB0
      show Calls Tryd.prog 42 #[.agg #[.slice A0 m0 c0, .int .i64 0]] w _
      have X0 := X1
      have HF := HF0
      have HB0 := HB1
      clear X1 HF0 HB1
      go_enter Tryd.func42, Tryd.ntmps42
      obtain ⟨x0, x1, xn⟩ := xb2 X0
      go_wp2_with fail
      generalize w.alloc (.cells #[.slice A0 m0 c0, .int .i64 0] 24) = w1 at *
      with_reducible refine (HF.out w1 HB0.out).mono ?_
      rintro e w3 ⟨rfl, b3⟩
      replace X0 := rb2 X0 b3
      have HB3 := btr HB0 b3 HB0.out.size
      clear b3 x0 x1 xn
      obtain ⟨x0, x1, xn⟩ := xb2 X0
      go_wp2
      go_ret2
      exact lea_no (fun q => q.2 D0.out.rt) HB3.out
    · exact (rleast_some m0 c0 n0 A0 f0 w D0 HF (Lib.hid hr)).mono fun e w' h => lea_yes (by rw [D0.out.rt]; exact hr) h
end Go.Proofs.YtefepaackdhiiaaDoor
