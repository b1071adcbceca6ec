/-
  The reference's sizes of the canonical formulas of a diagram's numbers. (Written by szgen.py.)
-/
import Derived.Test.YtkconfadhcomnaaDoorFNumM
import Derived.Lib.MinMax
namespace Go.Proofs.YtkconfadhcomnaaDoor
open Go.RowKit Dg St
set_option linter.unusedVariables false
set_option linter.unusedSimpArgs false
attribute [local go_sem ↓] Go.wp_at_zero Go.wp_at_succ

theorem szs_le (M : List (Nat × Nat × Nat)) (i : Nat) : ∀ k, (szs M k).getD i 0 ≤ 10000
  | 0 => by
    rcases (show i = 0 ∨ i = 1 ∨ 2 ≤ i by omega) with rfl | rfl | h
    · show (1 : Nat) ≤ 10000
      omega
    · show (1 : Nat) ≤ 10000
      omega
    · rw [List.getD_eq_getElem?_getD, List.getElem?_eq_none (by exact h)]; show (0 : Nat) ≤ 10000; omega
  | k + 1 => by
    rw [szs, getD_snoc]
    split
    · exact szs_le M i k
    · split
      · exact Nat.min_le_right _ _
      · omega
structure Sr (w3 wr : World) (q cap : Nat) (M : List Br) (k : Nat) : Prop where
  row : wr.ownsRow w3.heap.size 3 1 (.slice (some ⟨q, 0, none⟩) (k + 2) cap) (k + 2) (niC (szs M k))
  bel : Below w3.heap.size w3 wr
theorem Sr.step {w5 wr w6 w7 : World} {q cap : Nat} {M : List Br} {k s gn cap2 : Nat} (h : Sr w5 wr q cap M k) (hq : Below wr.heap.size wr w6) (x : Value) (hx : x = .int .i64 ((s : Nat) : Int)) (hs : s = min (szC (szs M k) (bl M k) (bh M k)) 10000)
    (hown : w7.ownsRow w5.heap.size 3 1 (.slice (some ⟨gn, 0, none⟩) (k + 2 + 1) cap2) (k + 2 + 1) (niC (szs M k) ++ [x])) (hgrow : (w6.alloc (.cells #[x] 3)).grownBy w7 (some q)) : Sr w5 w7 gn cap2 M (k + 1) := by
  subst hx
  subst hs
  have b0 := h.bel.trans (hq.mono h.bel.size)
  have hba := b0.alloc b0.size (.cells #[.int .i64 (((min (szC (szs M k) (bl M k) (bh M k)) 10000 : Nat)) : Int)] 3)
  refine ⟨?_, hba.trans ((Chg.of_grown (S := fun j => some q = some j) hgrow (fun j e => e)).below hba.size (fun j hj e => ?_))⟩
  · rw [szs, niC_snoc, show k + 1 + 2 = k + 2 + 1 by omega]
    exact hown
  · have := (World.ownsRow.lt h.row j e).1
    omega

set_option maxHeartbeats 8000000 in
set_option maxRecDepth 100000 in
theorem qsizes (A : Option Addr) (m c r : Nat) (M : List Br) (w : World) (hrd : Hid (Rd w w.heap.size A (up M))) (hlen : Hid (M.length = m)) (ho : Hid (Ord M)) (hm : m ≤ 4096) :
    Calls Tryd.prog 47 #[.agg #[.slice A m c, .int .i64 (r : Int)]] w fun e w' => ∃ q cap, e = .returned (.slice (some ⟨q, 0, none⟩) (m + 2) cap) ∧ w'.ownsRow w.heap.size 3 1 (.slice (some ⟨q, 0, none⟩) (m + 2) cap) (m + 2) (niC (szs M m)) ∧ Below w.heap.size w w' := by
  obtain ⟨j0, hj, hj0, hj1, hj2⟩ := info_parts Tryd.infoIntF
  have X0 := nb2 w (.slice A m c) (.int .i64 (r : Int)) 40
  have HB0 := Lib.hid (ab2 w (.cells #[.slice A m c, .int .i64 (r : Int)] 40))
  go_enter Tryd.func47, Tryd.ntmps47
  obtain ⟨x0, x1, xn⟩ := xb2 X0
  go_upto_region 1 with fail
  generalize w.alloc (.cells #[.slice A m c, .int .i64 (r : Int)] 40) = w3 at *
  have RD3 := Lib.hid ((hrd.out.below HB0.out).mono HB0.out.size)
  go_wp2_with fail
  have F0 : Hid (Sr w3 (w3.alloc (.cells #[.int .i64 1, .int .i64 1] 3)) w3.heap.size 2 M 0) := Lib.hid ⟨⟨rfl, .inr ⟨w3.heap.size, 2, #[.int .i64 1, .int .i64 1], rfl, Nat.le_refl _, heap_alloc_new w3 _, Nat.le_refl _, by simp [maxLen], rfl, rfl⟩⟩, ab2 w3 _⟩
  generalize w3.alloc (.cells #[.int .i64 1, .int .i64 1] 3) = w4 at *
  clear x0 x1 hrd
  go_loopw [3, 4] (fun u i wq => ∃ (k q cap : Nat), k ≤ m ∧ u = .slice (some ⟨q, 0, none⟩) (k + 2) cap ∧ i = .int .i64 (k : Int) ∧ Hid (Sr w3 wq q cap M k)) (fun _ i _ => m - (intOf i).toNat)
  case atStart => exact ⟨0, _, _, Nat.zero_le _, rfl, rfl, F0⟩
  case round =>
    clear F0
    obtain ⟨k, q, cap, hk, rfl, rfl, hst⟩ := hrel
    have HB := Lib.hid (HB0.out.trans (hst.out.bel.mono HB0.out.size))
    have X4 := Lib.hid (X0.out.below (by omega) hst.out.bel)
    obtain ⟨x0, x1, xn'⟩ := xb2 X4
    by_cases hlt' : k < m
    · have hkM : k < M.length := by rw [hlen.out]; exact hlt'
      have RDq := Lib.hid ((RD3.out.below hst.out.bel).mono hst.out.bel.size)
      obtain ⟨o1, o2, o3, o4, o5⟩ := ho.out k hkM
      obtain ⟨b', o', e, hb, hc⟩ := RDq.out (by rw [up_len, hlen.out]; omega)
      subst e
      obtain ⟨d0, d1, d2⟩ := hc k (by rw [up_len, hlen.out]; exact hlt')
      rw [il_up] at d1
      rw [ih_up] at d2
      clear hc d0
      have i1 : (0 : Int) ≤ (k : Int) := by omega
      have i2 : (k : Int) < (m : Int) := by omega
      have zl := szs_le M (bl M k) k
      have zh := szs_le M (bh M k) k
      have r1 := (hst.out.row.cellAt (bl M k) (by omega)).trans (niC_at (z := szs M k) (i := bl M k) (by rw [szs_len]; omega))
      have r2 := (hst.out.row.cellAt (bh M k) (by omega)).trans (niC_at (z := szs M k) (i := bh M k) (by rw [szs_len]; omega))
      obtain ⟨SC, hSC⟩ : ∃ x, szC (szs M k) (bl M k) (bh M k) = x := ⟨_, rfl⟩
      have HSC := Lib.hid hSC
      unfold szC at hSC
      generalize (szs M k).getD (bl M k) 0 = ZL at *
      generalize (szs M k).getD (bh M k) 0 = ZH at *
      have HST : Hid (∀ (w6 w7 : World) (gn cap2 s : Nat) (x : Value), Below wr.heap.size wr w6 → x = .int .i64 ((s : Nat) : Int) → s = min SC 10000 → w7.ownsRow w3.heap.size 3 1 (.slice (some ⟨gn, 0, none⟩) (k + 2 + 1) cap2) (k + 2 + 1) (niC (szs M k) ++ [x]) → (w6.alloc (.cells #[x] 3)).grownBy w7 (some q) → Sr w3 w7 gn cap2 M (k + 1)) := Lib.hid (fun w6 w7 gn cap2 s x h1 h2 h3 h4 h5 => hst.out.step h1 x h2 (by rw [HSC.out]; exact h3) h4 h5)
      have HROW := Lib.hid hst.out.row
      have HQL : Hid (w3.heap.size ≤ wr.heap.size) := Lib.hid hst.out.bel.size
      have HQK : Hid (q < wr.heap.size) := Lib.hid (World.ownsRow.lt hst.out.row q rfl).2
      clear hst RDq HSC
      generalize niC (szs M k) = NC at *
      generalize bl M k = LL at *
      generalize bh M k = HH at *
      have l1 : (0 : Int) ≤ (LL : Int) := by omega
      have l2 : (LL : Int) < (k : Int) + 2 := by omega
      have g1 : (0 : Int) ≤ (HH : Int) := by omega
      have g2 : (HH : Int) < (k : Int) + 2 := by omega
      have u1 : IntKind.i64.wrap ((ZL : Int) + (ZH : Int)) = (ZL : Int) + (ZH : Int) := by rw [IntKind.wrap_i64]; omega
      have u2 : IntKind.i64.wrap ((ZL : Int) + (ZH : Int) + 6) = (ZL : Int) + (ZH : Int) + 6 := by rw [IntKind.wrap_i64]; omega
      have u3 : IntKind.i64.wrap (2 + (ZH : Int)) = 2 + (ZH : Int) := by rw [IntKind.wrap_i64]; omega
      have u4 : IntKind.i64.wrap (3 + (ZL : Int)) = 3 + (ZL : Int) := by rw [IntKind.wrap_i64]; omega
      have u5 : IntKind.i64.wrap (2 + (ZL : Int)) = 2 + (ZL : Int) := by rw [IntKind.wrap_i64]; omega
      have u6 : IntKind.i64.wrap (3 + (ZH : Int)) = 3 + (ZH : Int) := by rw [IntKind.wrap_i64]; omega
      rcases (show (HH = 1 ∧ LL = 0) ∨ (HH = 0 ∧ LL = 1) ∨ (HH = 0 ∧ LL = 0) ∨ (HH ≠ 0 ∧ HH ≠ 1 ∧ LL = 0) ∨ (LL ≠ 1 ∧ LL ≠ 0 ∧ HH = 0) ∨ (LL ≠ 0 ∧ HH ≠ 0 ∧ HH = 1) ∨ (LL ≠ 0 ∧ HH ≠ 0 ∧ HH ≠ 1 ∧ LL = 1) ∨ (LL ≠ 0 ∧ LL ≠ 1 ∧ HH ≠ 0 ∧ HH ≠ 1) by omega) with g | g | g | g | g | g | g | g
      · rw [if_pos (by omega)] at hSC
        have HV : Hid ((((min SC 10000 : Nat)) : Int) = min (1 : Int) 10000) := Lib.hid (by omega)
        have p1 : ((HH : Int) == 1) = true := beq_iff_eq.2 (by omega)
        have p2 : ((LL : Int) == 0) = true := beq_iff_eq.2 (by omega)
        have p3 : ((LL : Int) == 1) = false := beq_eq_false_iff_ne.2 (by omega)
        have p4 : ((HH : Int) == 0) = false := beq_eq_false_iff_ne.2 (by omega)
        clear g hSC zl zh o1 o2 o3 o4 o5
        go_upto_region 7 with fail
        go_quiet (fail)
        have hq : Below wr.heap.size wr (wr.drewN nq) := below_drewN (Below.refl _ _) nq
        have HO := Lib.hid (own_below HROW.out hq)
        have HST2 := Lib.hid (HST.out (wr.drewN nq) · · · · · hq)
        have x0' := (hq.cell (p := ⟨w.heap.size, 0, none⟩) (by have := HB0.out; omega)).trans x0
        have r1' := (hq.cell (p := ⟨q, LL, none⟩) HQK.out).trans r1
        have r2' := (hq.cell (p := ⟨q, HH, none⟩) HQK.out).trans r2
        have HQL2 : Hid (w3.heap.size ≤ (wr.drewN nq).heap.size) := Lib.hid (Nat.le_trans HQL.out hq.size)
        have HQK2 : Hid (q < (wr.drewN nq).heap.size) := Lib.hid (Nat.lt_of_lt_of_le HQK.out hq.size)
        clear x0 r1 r2 hq HST
        generalize wr.drewN nq = w5 at *
        have hq9 := HQL2.out
        have hq8 := HQK2.out
        go_wp2_with (refine wpList_append_lies _ rfl _ _ _ rfl w3.heap.size 3 j0 _ 1 8 Tryd.underlying69 hj hj0 hj1 hj2 rfl (by omega) (.slice (some ⟨q, 0, none⟩) (k + 2) cap) (k + 2) NC rfl (HO.out.alloc _) _ _ _ [.int .i64 (min (1 : Int) 10000)] rfl rfl (World.news_of_block (heap_alloc_new _ _)) (by simp [Value.oneCell']) (by omega) (by simp only [maxLen]; omega) (by omega) (by simp; omega) _ rfl ?_; intro gn2 cap2 w6 hown2 hgrow2 hat2 hlt2)
        go_roundw
        case rel => exact ⟨k + 1, gn2, cap2, by omega, by rw [show k + 1 + 2 = k + 2 + 1 by omega], by go_num, Lib.hid (HST2.out w6 gn2 cap2 (min SC 10000) (.int .i64 (min (1 : Int) 10000)) (by rw [HV.out]) rfl hown2 hgrow2)⟩
        case measure => simp [intOf]; omega
      · rw [if_neg (by omega), if_pos (by omega)] at hSC
        have HV : Hid ((((min SC 10000 : Nat)) : Int) = min (2 : Int) 10000) := Lib.hid (by omega)
        have p1 : ((HH : Int) == 1) = false := beq_eq_false_iff_ne.2 (by omega)
        have p2 : ((LL : Int) == 0) = false := beq_eq_false_iff_ne.2 (by omega)
        have p3 : ((LL : Int) == 1) = true := beq_iff_eq.2 (by omega)
        have p4 : ((HH : Int) == 0) = true := beq_iff_eq.2 (by omega)
        clear g hSC zl zh o1 o2 o3 o4 o5
        go_upto_region 7 with fail
        go_quiet (fail)
        have hq : Below wr.heap.size wr (wr.drewN nq) := below_drewN (Below.refl _ _) nq
        have HO := Lib.hid (own_below HROW.out hq)
        have HST2 := Lib.hid (HST.out (wr.drewN nq) · · · · · hq)
        have x0' := (hq.cell (p := ⟨w.heap.size, 0, none⟩) (by have := HB0.out; omega)).trans x0
        have r1' := (hq.cell (p := ⟨q, LL, none⟩) HQK.out).trans r1
        have r2' := (hq.cell (p := ⟨q, HH, none⟩) HQK.out).trans r2
        have HQL2 : Hid (w3.heap.size ≤ (wr.drewN nq).heap.size) := Lib.hid (Nat.le_trans HQL.out hq.size)
        have HQK2 : Hid (q < (wr.drewN nq).heap.size) := Lib.hid (Nat.lt_of_lt_of_le HQK.out hq.size)
        clear x0 r1 r2 hq HST
        generalize wr.drewN nq = w5 at *
        have hq9 := HQL2.out
        have hq8 := HQK2.out
        go_wp2_with (refine wpList_append_lies _ rfl _ _ _ rfl w3.heap.size 3 j0 _ 1 8 Tryd.underlying69 hj hj0 hj1 hj2 rfl (by omega) (.slice (some ⟨q, 0, none⟩) (k + 2) cap) (k + 2) NC rfl (HO.out.alloc _) _ _ _ [.int .i64 (min (2 : Int) 10000)] rfl rfl (World.news_of_block (heap_alloc_new _ _)) (by simp [Value.oneCell']) (by omega) (by simp only [maxLen]; omega) (by omega) (by simp; omega) _ rfl ?_; intro gn2 cap2 w6 hown2 hgrow2 hat2 hlt2)
        go_roundw
        case rel => exact ⟨k + 1, gn2, cap2, by omega, by rw [show k + 1 + 2 = k + 2 + 1 by omega], by go_num, Lib.hid (HST2.out w6 gn2 cap2 (min SC 10000) (.int .i64 (min (2 : Int) 10000)) (by rw [HV.out]) rfl hown2 hgrow2)⟩
        case measure => simp [intOf]; omega
      · rw [if_neg (by omega), if_neg (by omega), if_pos (by omega)] at hSC
        have HV : Hid ((((min SC 10000 : Nat)) : Int) = min (2 + (ZH : Int) : Int) 10000) := Lib.hid (by omega)
        have p1 : ((HH : Int) == 1) = false := beq_eq_false_iff_ne.2 (by omega)
        have p2 : ((LL : Int) == 0) = true := beq_iff_eq.2 (by omega)
        have p3 : ((LL : Int) == 1) = false := beq_eq_false_iff_ne.2 (by omega)
        have p4 : ((HH : Int) == 0) = true := beq_iff_eq.2 (by omega)
        clear g hSC zl zh o1 o2 o3 o4 o5
        go_upto_region 7 with fail
        go_quiet (fail)
        have hq : Below wr.heap.size wr (wr.drewN nq) := below_drewN (Below.refl _ _) nq
        have HO := Lib.hid (own_below HROW.out hq)
        have HST2 := Lib.hid (HST.out (wr.drewN nq) · · · · · hq)
        have x0' := (hq.cell (p := ⟨w.heap.size, 0, none⟩) (by have := HB0.out; omega)).trans x0
        have r1' := (hq.cell (p := ⟨q, LL, none⟩) HQK.out).trans r1
        have r2' := (hq.cell (p := ⟨q, HH, none⟩) HQK.out).trans r2
        have HQL2 : Hid (w3.heap.size ≤ (wr.drewN nq).heap.size) := Lib.hid (Nat.le_trans HQL.out hq.size)
        have HQK2 : Hid (q < (wr.drewN nq).heap.size) := Lib.hid (Nat.lt_of_lt_of_le HQK.out hq.size)
        clear x0 r1 r2 hq HST
        generalize wr.drewN nq = w5 at *
        have hq9 := HQL2.out
        have hq8 := HQK2.out
        go_wp2_with (refine wpList_append_lies _ rfl _ _ _ rfl w3.heap.size 3 j0 _ 1 8 Tryd.underlying69 hj hj0 hj1 hj2 rfl (by omega) (.slice (some ⟨q, 0, none⟩) (k + 2) cap) (k + 2) NC rfl (HO.out.alloc _) _ _ _ [.int .i64 (min (2 + (ZH : Int) : Int) 10000)] rfl rfl (World.news_of_block (heap_alloc_new _ _)) (by simp [Value.oneCell']) (by omega) (by simp only [maxLen]; omega) (by omega) (by simp; omega) _ rfl ?_; intro gn2 cap2 w6 hown2 hgrow2 hat2 hlt2)
        go_roundw
        case rel => exact ⟨k + 1, gn2, cap2, by omega, by rw [show k + 1 + 2 = k + 2 + 1 by omega], by go_num, Lib.hid (HST2.out w6 gn2 cap2 (min SC 10000) (.int .i64 (min (2 + (ZH : Int) : Int) 10000)) (by rw [HV.out]) rfl hown2 hgrow2)⟩
        case measure => simp [intOf]; omega
      · rw [if_neg (by omega), if_neg (by omega), if_pos (by omega)] at hSC
        have HV : Hid ((((min SC 10000 : Nat)) : Int) = min (2 + (ZH : Int) : Int) 10000) := Lib.hid (by omega)
        have p1 : ((HH : Int) == 1) = false := beq_eq_false_iff_ne.2 (by omega)
        have p2 : ((LL : Int) == 0) = true := beq_iff_eq.2 (by omega)
        have p3 : ((LL : Int) == 1) = false := beq_eq_false_iff_ne.2 (by omega)
        have p4 : ((HH : Int) == 0) = false := beq_eq_false_iff_ne.2 (by omega)
        clear g hSC zl zh o1 o2 o3 o4 o5
        go_upto_region 7 with fail
        go_quiet (fail)
        have hq : Below wr.heap.size wr (wr.drewN nq) := below_drewN (Below.refl _ _) nq
        have HO := Lib.hid (own_below HROW.out hq)
        have HST2 := Lib.hid (HST.out (wr.drewN nq) · · · · · hq)
        have x0' := (hq.cell (p := ⟨w.heap.size, 0, none⟩) (by have := HB0.out; omega)).trans x0
        have r1' := (hq.cell (p := ⟨q, LL, none⟩) HQK.out).trans r1
        have r2' := (hq.cell (p := ⟨q, HH, none⟩) HQK.out).trans r2
        have HQL2 : Hid (w3.heap.size ≤ (wr.drewN nq).heap.size) := Lib.hid (Nat.le_trans HQL.out hq.size)
        have HQK2 : Hid (q < (wr.drewN nq).heap.size) := Lib.hid (Nat.lt_of_lt_of_le HQK.out hq.size)
        clear x0 r1 r2 hq HST
        generalize wr.drewN nq = w5 at *
        have hq9 := HQL2.out
        have hq8 := HQK2.out
        go_wp2_with (refine wpList_append_lies _ rfl _ _ _ rfl w3.heap.size 3 j0 _ 1 8 Tryd.underlying69 hj hj0 hj1 hj2 rfl (by omega) (.slice (some ⟨q, 0, none⟩) (k + 2) cap) (k + 2) NC rfl (HO.out.alloc _) _ _ _ [.int .i64 (min (2 + (ZH : Int) : Int) 10000)] rfl rfl (World.news_of_block (heap_alloc_new _ _)) (by simp [Value.oneCell']) (by omega) (by simp only [maxLen]; omega) (by omega) (by simp; omega) _ rfl ?_; intro gn2 cap2 w6 hown2 hgrow2 hat2 hlt2)
        go_roundw
        case rel => exact ⟨k + 1, gn2, cap2, by omega, by rw [show k + 1 + 2 = k + 2 + 1 by omega], by go_num, Lib.hid (HST2.out w6 gn2 cap2 (min SC 10000) (.int .i64 (min (2 + (ZH : Int) : Int) 10000)) (by rw [HV.out]) rfl hown2 hgrow2)⟩
        case measure => simp [intOf]; omega
      · rw [if_neg (by omega), if_neg (by omega), if_neg (by omega), if_pos (by omega)] at hSC
        have HV : Hid ((((min SC 10000 : Nat)) : Int) = min (3 + (ZL : Int) : Int) 10000) := Lib.hid (by omega)
        have p1 : ((HH : Int) == 1) = false := beq_eq_false_iff_ne.2 (by omega)
        have p2 : ((LL : Int) == 0) = false := beq_eq_false_iff_ne.2 (by omega)
        have p3 : ((LL : Int) == 1) = false := beq_eq_false_iff_ne.2 (by omega)
        have p4 : ((HH : Int) == 0) = true := beq_iff_eq.2 (by omega)
        clear g hSC zl zh o1 o2 o3 o4 o5
        go_upto_region 7 with fail
        go_quiet (fail)
        have hq : Below wr.heap.size wr (wr.drewN nq) := below_drewN (Below.refl _ _) nq
        have HO := Lib.hid (own_below HROW.out hq)
        have HST2 := Lib.hid (HST.out (wr.drewN nq) · · · · · hq)
        have x0' := (hq.cell (p := ⟨w.heap.size, 0, none⟩) (by have := HB0.out; omega)).trans x0
        have r1' := (hq.cell (p := ⟨q, LL, none⟩) HQK.out).trans r1
        have r2' := (hq.cell (p := ⟨q, HH, none⟩) HQK.out).trans r2
        have HQL2 : Hid (w3.heap.size ≤ (wr.drewN nq).heap.size) := Lib.hid (Nat.le_trans HQL.out hq.size)
        have HQK2 : Hid (q < (wr.drewN nq).heap.size) := Lib.hid (Nat.lt_of_lt_of_le HQK.out hq.size)
        clear x0 r1 r2 hq HST
        generalize wr.drewN nq = w5 at *
        have hq9 := HQL2.out
        have hq8 := HQK2.out
        go_wp2_with (refine wpList_append_lies _ rfl _ _ _ rfl w3.heap.size 3 j0 _ 1 8 Tryd.underlying69 hj hj0 hj1 hj2 rfl (by omega) (.slice (some ⟨q, 0, none⟩) (k + 2) cap) (k + 2) NC rfl (HO.out.alloc _) _ _ _ [.int .i64 (min (3 + (ZL : Int) : Int) 10000)] rfl rfl (World.news_of_block (heap_alloc_new _ _)) (by simp [Value.oneCell']) (by omega) (by simp only [maxLen]; omega) (by omega) (by simp; omega) _ rfl ?_; intro gn2 cap2 w6 hown2 hgrow2 hat2 hlt2)
        go_roundw
        case rel => exact ⟨k + 1, gn2, cap2, by omega, by rw [show k + 1 + 2 = k + 2 + 1 by omega], by go_num, Lib.hid (HST2.out w6 gn2 cap2 (min SC 10000) (.int .i64 (min (3 + (ZL : Int) : Int) 10000)) (by rw [HV.out]) rfl hown2 hgrow2)⟩
        case measure => simp [intOf]; omega
      · rw [if_neg (by omega), if_neg (by omega), if_neg (by omega), if_neg (by omega), if_pos (by omega)] at hSC
        have HV : Hid ((((min SC 10000 : Nat)) : Int) = min (2 + (ZL : Int) : Int) 10000) := Lib.hid (by omega)
        have p1 : ((HH : Int) == 1) = true := beq_iff_eq.2 (by omega)
        have p2 : ((LL : Int) == 0) = false := beq_eq_false_iff_ne.2 (by omega)
        have p4 : ((HH : Int) == 0) = false := beq_eq_false_iff_ne.2 (by omega)
        clear g hSC zl zh o1 o2 o3 o4 o5
        go_upto_region 7 with fail
        go_quiet (fail)
        have hq : Below wr.heap.size wr (wr.drewN nq) := below_drewN (Below.refl _ _) nq
        have HO := Lib.hid (own_below HROW.out hq)
        have HST2 := Lib.hid (HST.out (wr.drewN nq) · · · · · hq)
        have x0' := (hq.cell (p := ⟨w.heap.size, 0, none⟩) (by have := HB0.out; omega)).trans x0
        have r1' := (hq.cell (p := ⟨q, LL, none⟩) HQK.out).trans r1
        have r2' := (hq.cell (p := ⟨q, HH, none⟩) HQK.out).trans r2
        have HQL2 : Hid (w3.heap.size ≤ (wr.drewN nq).heap.size) := Lib.hid (Nat.le_trans HQL.out hq.size)
        have HQK2 : Hid (q < (wr.drewN nq).heap.size) := Lib.hid (Nat.lt_of_lt_of_le HQK.out hq.size)
        clear x0 r1 r2 hq HST
        generalize wr.drewN nq = w5 at *
        have hq9 := HQL2.out
        have hq8 := HQK2.out
        go_wp2_with (refine wpList_append_lies _ rfl _ _ _ rfl w3.heap.size 3 j0 _ 1 8 Tryd.underlying69 hj hj0 hj1 hj2 rfl (by omega) (.slice (some ⟨q, 0, none⟩) (k + 2) cap) (k + 2) NC rfl (HO.out.alloc _) _ _ _ [.int .i64 (min (2 + (ZL : Int) : Int) 10000)] rfl rfl (World.news_of_block (heap_alloc_new _ _)) (by simp [Value.oneCell']) (by omega) (by simp only [maxLen]; omega) (by omega) (by simp; omega) _ rfl ?_; intro gn2 cap2 w6 hown2 hgrow2 hat2 hlt2)
        go_roundw
        case rel => exact ⟨k + 1, gn2, cap2, by omega, by rw [show k + 1 + 2 = k + 2 + 1 by omega], by go_num, Lib.hid (HST2.out w6 gn2 cap2 (min SC 10000) (.int .i64 (min (2 + (ZL : Int) : Int) 10000)) (by rw [HV.out]) rfl hown2 hgrow2)⟩
        case measure => simp [intOf]; omega
      · rw [if_neg (by omega), if_neg (by omega), if_neg (by omega), if_neg (by omega), if_neg (by omega), if_pos (by omega)] at hSC
        have HV : Hid ((((min SC 10000 : Nat)) : Int) = min (3 + (ZH : Int) : Int) 10000) := Lib.hid (by omega)
        have p1 : ((HH : Int) == 1) = false := beq_eq_false_iff_ne.2 (by omega)
        have p2 : ((LL : Int) == 0) = false := beq_eq_false_iff_ne.2 (by omega)
        have p3 : ((LL : Int) == 1) = true := beq_iff_eq.2 (by omega)
        have p4 : ((HH : Int) == 0) = false := beq_eq_false_iff_ne.2 (by omega)
        clear g hSC zl zh o1 o2 o3 o4 o5
        go_upto_region 7 with fail
        go_quiet (fail)
        have hq : Below wr.heap.size wr (wr.drewN nq) := below_drewN (Below.refl _ _) nq
        have HO := Lib.hid (own_below HROW.out hq)
        have HST2 := Lib.hid (HST.out (wr.drewN nq) · · · · · hq)
        have x0' := (hq.cell (p := ⟨w.heap.size, 0, none⟩) (by have := HB0.out; omega)).trans x0
        have r1' := (hq.cell (p := ⟨q, LL, none⟩) HQK.out).trans r1
        have r2' := (hq.cell (p := ⟨q, HH, none⟩) HQK.out).trans r2
        have HQL2 : Hid (w3.heap.size ≤ (wr.drewN nq).heap.size) := Lib.hid (Nat.le_trans HQL.out hq.size)
        have HQK2 : Hid (q < (wr.drewN nq).heap.size) := Lib.hid (Nat.lt_of_lt_of_le HQK.out hq.size)
        clear x0 r1 r2 hq HST
        generalize wr.drewN nq = w5 at *
        have hq9 := HQL2.out
        have hq8 := HQK2.out
        go_wp2_with (refine wpList_append_lies _ rfl _ _ _ rfl w3.heap.size 3 j0 _ 1 8 Tryd.underlying69 hj hj0 hj1 hj2 rfl (by omega) (.slice (some ⟨q, 0, none⟩) (k + 2) cap) (k + 2) NC rfl (HO.out.alloc _) _ _ _ [.int .i64 (min (3 + (ZH : Int) : Int) 10000)] rfl rfl (World.news_of_block (heap_alloc_new _ _)) (by simp [Value.oneCell']) (by omega) (by simp only [maxLen]; omega) (by omega) (by simp; omega) _ rfl ?_; intro gn2 cap2 w6 hown2 hgrow2 hat2 hlt2)
        go_roundw
        case rel => exact ⟨k + 1, gn2, cap2, by omega, by rw [show k + 1 + 2 = k + 2 + 1 by omega], by go_num, Lib.hid (HST2.out w6 gn2 cap2 (min SC 10000) (.int .i64 (min (3 + (ZH : Int) : Int) 10000)) (by rw [HV.out]) rfl hown2 hgrow2)⟩
        case measure => simp [intOf]; omega
      · rw [if_neg (by omega), if_neg (by omega), if_neg (by omega), if_neg (by omega), if_neg (by omega), if_neg (by omega)] at hSC
        have HV : Hid ((((min SC 10000 : Nat)) : Int) = min ((ZL : Int) + (ZH : Int) + 6 : Int) 10000) := Lib.hid (by omega)
        have p1 : ((HH : Int) == 1) = false := beq_eq_false_iff_ne.2 (by omega)
        have p2 : ((LL : Int) == 0) = false := beq_eq_false_iff_ne.2 (by omega)
        have p3 : ((LL : Int) == 1) = false := beq_eq_false_iff_ne.2 (by omega)
        have p4 : ((HH : Int) == 0) = false := beq_eq_false_iff_ne.2 (by omega)
        clear g hSC zl zh o1 o2 o3 o4 o5
        go_upto_region 7 with fail
        go_quiet (fail)
        have hq : Below wr.heap.size wr (wr.drewN nq) := below_drewN (Below.refl _ _) nq
        have HO := Lib.hid (own_below HROW.out hq)
        have HST2 := Lib.hid (HST.out (wr.drewN nq) · · · · · hq)
        have x0' := (hq.cell (p := ⟨w.heap.size, 0, none⟩) (by have := HB0.out; omega)).trans x0
        have r1' := (hq.cell (p := ⟨q, LL, none⟩) HQK.out).trans r1
        have r2' := (hq.cell (p := ⟨q, HH, none⟩) HQK.out).trans r2
        have HQL2 : Hid (w3.heap.size ≤ (wr.drewN nq).heap.size) := Lib.hid (Nat.le_trans HQL.out hq.size)
        have HQK2 : Hid (q < (wr.drewN nq).heap.size) := Lib.hid (Nat.lt_of_lt_of_le HQK.out hq.size)
        clear x0 r1 r2 hq HST
        generalize wr.drewN nq = w5 at *
        have hq9 := HQL2.out
        have hq8 := HQK2.out
        go_wp2_with (refine wpList_append_lies _ rfl _ _ _ rfl w3.heap.size 3 j0 _ 1 8 Tryd.underlying69 hj hj0 hj1 hj2 rfl (by omega) (.slice (some ⟨q, 0, none⟩) (k + 2) cap) (k + 2) NC rfl (HO.out.alloc _) _ _ _ [.int .i64 (min ((ZL : Int) + (ZH : Int) + 6 : Int) 10000)] rfl rfl (World.news_of_block (heap_alloc_new _ _)) (by simp [Value.oneCell']) (by omega) (by simp only [maxLen]; omega) (by omega) (by simp; omega) _ rfl ?_; intro gn2 cap2 w6 hown2 hgrow2 hat2 hlt2)
        go_roundw
        case rel => exact ⟨k + 1, gn2, cap2, by omega, by rw [show k + 1 + 2 = k + 2 + 1 by omega], by go_num, Lib.hid (HST2.out w6 gn2 cap2 (min SC 10000) (.int .i64 (min ((ZL : Int) + (ZH : Int) + 6 : Int) 10000)) (by rw [HV.out]) rfl hown2 hgrow2)⟩
        case measure => simp [intOf]; omega
    · obtain rfl : k = m := by omega
      have HROW := Lib.hid hst.out.row
      go_wp2
      go_ret
      exact ⟨q, cap, rfl, (by have := HROW.out; exact ⟨this.1, this.2.imp id (fun ⟨a, b, c, h1, h2, h3⟩ => ⟨a, b, c, h1, Nat.le_trans HB0.out.size h2, h3⟩)⟩), HB.out⟩

end Go.Proofs.YtkconfadhcomnaaDoor
