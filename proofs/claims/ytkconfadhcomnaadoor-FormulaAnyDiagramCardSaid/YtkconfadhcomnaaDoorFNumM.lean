/-
  The reference's writer: number. (Written by numgen.py.)
-/
import Derived.Test.YtkconfadhcomnaaDoorFWrrM
import Derived.Test.YtkconfadhcomnaaDoorFOfM
namespace Go.Proofs.YtkconfadhcomnaaDoor
open Go.RowKit Dg St
set_option linter.unusedVariables false
set_option linter.unusedSimpArgs false
attribute [local go_sem ↓] Go.wp_at_zero Go.wp_at_succ

theorem wrN_len (M : List (Nat × Nat × Nat)) (ho : Ord M) (n r : Nat) (l : List Fi) (hr : r < n) (hl : r < M.length + 2) (h : l.length + sz M r ≤ 512) : (wrN M n r l).length = l.length + sz M r := by
  obtain ⟨s', _, hs⟩ := ex_main M ho n r (l, List.replicate l.length 0) hr hl (fun _ => by simp)
  rcases hs with ⟨_, b, c, _⟩ | ⟨a, _⟩
  · rw [← b, c]
  · exact absurd h (by simp only at a; omega)
theorem WoE.mk0 {w w' : World} {B g : Nat} {vf : Value} {l : List Fi} (h : WoM w B g vf l) (o : Obj) : WoE w (w.alloc o) B g vf vf l := WoE.same h ((Below.refl _ _).alloc (Nat.le_refl _) o)

set_option maxHeartbeats 2000000 in
set_option maxRecDepth 100000 in
theorem qnum_low (B g n r : Nat) (vn : Value) (M : List Br) (w0 : World) (h2 : r < 2) : NuC w0 B g vn (wrN M (n + 1) r) (sz M r) r := by
  intro w vf l hb hp hc hlen
  rw [sz_low M r h2] at hlen
  have eF : wrN M (n + 1) r l = l ++ [(if r = 1 then 1 else 0, 0, 0, 0)] := by
    show (if r < 2 then _ else _) = _
    rw [if_pos h2]
  rw [eF]
  have HR : Hid ((((l ++ [((if r = 1 then (1 : Int) else 0), (0 : Int), (0 : Int), (0 : Int))]).length - 1 : Nat) : Int) = (l.length : Int)) := Lib.hid (by simp)
  rw [HR.out]
  have E1 := Lib.hid (WoE.mk0 (w' := w) hp (.cells #[.int .i64 0, .int .i64 1] 3))
  have HA := Lib.hid (qput B g l.length vf (if r = 1 then 1 else 0) 0 0 0 l (w.alloc (.cells #[.int .i64 0, .int .i64 1] 3)) (Lib.hid E1.out.m) (Lib.hid rfl) (by omega))
  clear hb hp hc eF HR
  rcases (show r = 0 ∨ r = 1 by omega) with rfl | rfl
  · rw [if_neg (by omega)] at HA ⊢
    go_enter Tryd.func48, Tryd.ntmps48
    go_wp2_with fail
    with_reducible refine HA.out.mono ?_
    rintro e w2 ⟨rfl, hx⟩
    have HX := Lib.hid (wdO_trans E1.out hx)
    clear hx HA
    go_wp2
    go_ret
    exact ⟨rfl, HX.out⟩
  · rw [if_pos rfl] at HA ⊢
    go_enter Tryd.func48, Tryd.ntmps48
    go_wp2_with fail
    with_reducible refine HA.out.mono ?_
    rintro e w2 ⟨rfl, hx⟩
    have HX := Lib.hid (wdO_trans E1.out hx)
    clear hx HA
    go_wp2
    go_ret
    exact ⟨rfl, HX.out⟩

set_option maxHeartbeats 4000000 in
set_option maxRecDepth 100000 in
theorem qnum_10 (B g m c : Nat) (A : Option Addr) (M : List Br) (n k : Nat) (w0 : World) (hrd : Hid (Rd w0 B A (up M))) (hml : Hid (M.length = m)) (hm : m ≤ 1000000) (hkm : k < m) (q2 : bl M k < k + 2) (q3 : bh M k < k + 2) (hh : bh M k = 1) (hl : bl M k = 0) (hsz : sz M (k + 2) ≤ 512) :
    NuC w0 B g (.slice A m c) (wrN M (n + 1) (k + 2)) (sz M (k + 2)) (k + 2) := by
  intro w vf l hb hp hc hlen
  have eF : wrN M (n + 1) (k + 2) l =
      if bh M k = 1 ∧ bl M k = 0 then litW (bv M k) true l else
      if bh M k = 0 ∧ bl M k = 1 then litW (bv M k) false l else
      if bl M k = 0 then jnW 4 (bv M k) true (wrN M n (bh M k)) l else
      if bh M k = 0 then jnW 4 (bv M k) false (wrN M n (bl M k)) l else
      if bh M k = 1 then jnW 5 (bv M k) true (wrN M n (bl M k)) l else
      if bl M k = 1 then jnW 5 (bv M k) false (wrN M n (bh M k)) l else
      jnW 4 (bv M k) false (wrN M n (bl M k)) (jnW 4 (bv M k) true (wrN M n (bh M k)) l) ++
        [(5, 0, (((jnW 4 (bv M k) true (wrN M n (bh M k)) l).length - 1 : Nat) : Int), (((jnW 4 (bv M k) false (wrN M n (bl M k)) (jnW 4 (bv M k) true (wrN M n (bh M k)) l)).length - 1 : Nat) : Int))] := by
    show (if k + 2 < 2 then _ else _) = _
    rw [if_neg (by omega), Nat.add_sub_cancel]
  have eS := sz_br M k
  unfold szC at eS
  rw [sz_at M (bl M k) k q2, sz_at M (bh M k) k q3] at eS
  rw [eF]
  clear eF
  obtain ⟨b, o, eA, hbB, hcl⟩ := (hrd.out.below hb) (by rw [up_len, hml.out]; omega)
  subst eA
  obtain ⟨d0, d1, d2⟩ := hcl k (by rw [up_len, hml.out]; exact hkm)
  rw [iv_up] at d0
  rw [il_up] at d1
  rw [ih_up] at d2
  clear hcl
  generalize sz M (k + 2) = SZ at *
  generalize sz M (bh M k) = ZH at *
  generalize sz M (bl M k) = ZL at *
  generalize wrN M n (bh M k) = FH at *
  generalize wrN M n (bl M k) = FL at *
  generalize bv M k = V at *
  generalize bl M k = LL at *
  generalize bh M k = HH at *
  have hc1 : ¬ (HH = 1 ∧ LL = 0) ∨ (HH = 1 ∧ LL = 0) := by omega
  rw [if_pos (by omega)] at eS ⊢
  clear hc1
  have bh0 : ((HH : Int) == 0) = false := beq_eq_false_iff_ne.2 (by omega)
  have bl0 : ((LL : Int) == 0) = true := beq_iff_eq.2 (by omega)
  have bh1 : ((HH : Int) == 1) = true := beq_iff_eq.2 (by omega)
  have bl1 : ((LL : Int) == 1) = false := beq_eq_false_iff_ne.2 (by omega)
  have ih2 : (HH : Int) < 2 := by omega
  have il2 : (LL : Int) < 2 := by omega
  have i0 : ¬ ((k : Int) + 2) < 2 := by omega
  have i1 : (0 : Int) ≤ (k : Int) := by omega
  have i2 : (k : Int) < (m : Int) := by omega
  have HP := Lib.hid hp
  have HC := Lib.hid hc
  have HB := Lib.hid hb
  have HSS := Lib.hid eS
  have HLN := Lib.hid hlen
  have HSL := Lib.hid hsz
  have HGW : Hid (g < w.heap.size) := Lib.hid hp.lt
  clear hh hl eS hlen hsz hp hb hkm q2 q3 hml
  obtain ⟨ix, HIX⟩ : ∃ ix : Int, Hid ((((litW V true l).length - 1 : Nat) : Int) = ix) := ⟨_, Lib.hid rfl⟩
  rw [HIX.out]
  go_enter Tryd.func48, Tryd.ntmps48
  go_upto_region 4 with fail
  have E1 := Lib.hid (WoE.mk0 (w' := w) HP.out (.cells #[.int .i64 (V : Int), .int .i64 (LL : Int), .int .i64 (HH : Int)] 96))
  have HB1 := Lib.hid (HB.out.trans (E1.out.below HP.out))
  have HC1 := Lib.hid ((E1.out.cel 0 (by omega)).trans HC.out)
  have HX := Lib.hid (heap_alloc_new w (.cells #[.int .i64 (V : Int), .int .i64 (LL : Int), .int .i64 (HH : Int)] 96))
  have HNG : Hid (w.heap.size ≠ g) := Lib.hid (by have := HGW.out; omega)
  have HNF : Hid (vf.ownBlock ≠ some w.heap.size) := Lib.hid (fun e => by have := (HP.out.rf.lt _ e).2; omega)
  clear hc d0 d1 d2
  generalize w.alloc (.cells #[.int .i64 (V : Int), .int .i64 (LL : Int), .int .i64 (HH : Int)] 96) = w1 at *
  have x0 : w1.cell? ⟨w.heap.size, 0, none⟩ = some (.int .i64 (V : Int)) := by rw [cell_of_row _ _ 0 _ _ _ HX.out]; rfl
  have x1 : w1.cell? ⟨w.heap.size, 1, none⟩ = some (.int .i64 (LL : Int)) := by rw [cell_of_row _ _ 1 _ _ _ HX.out]; rfl
  have x2 : w1.cell? ⟨w.heap.size, 2, none⟩ = some (.int .i64 (HH : Int)) := by rw [cell_of_row _ _ 2 _ _ _ HX.out]; rfl
  have HK := Lib.hid (qvar B g V true vf l w1 (Lib.hid E1.out.m) (by have := HLN.out; have := HSS.out; have := HSL.out; unfold litK; simp; omega))
  rw [HIX.out] at HK
  go_wp2_with fail
  with_reducible refine HK.out.mono ?_
  rintro e w2 ⟨rfl, hx⟩
  have HR := Lib.hid (wdO_trans (l1 := l) E1.out hx)
  clear hx HK
  go_wp2
  go_ret
  exact ⟨rfl, HR.out⟩

set_option maxHeartbeats 4000000 in
set_option maxRecDepth 100000 in
theorem qnum_01 (B g m c : Nat) (A : Option Addr) (M : List Br) (n k : Nat) (w0 : World) (hrd : Hid (Rd w0 B A (up M))) (hml : Hid (M.length = m)) (hm : m ≤ 1000000) (hkm : k < m) (q2 : bl M k < k + 2) (q3 : bh M k < k + 2) (hh : bh M k = 0) (hl : bl M k = 1) (hsz : sz M (k + 2) ≤ 512) :
    NuC w0 B g (.slice A m c) (wrN M (n + 1) (k + 2)) (sz M (k + 2)) (k + 2) := by
  intro w vf l hb hp hc hlen
  have eF : wrN M (n + 1) (k + 2) l =
      if bh M k = 1 ∧ bl M k = 0 then litW (bv M k) true l else
      if bh M k = 0 ∧ bl M k = 1 then litW (bv M k) false l else
      if bl M k = 0 then jnW 4 (bv M k) true (wrN M n (bh M k)) l else
      if bh M k = 0 then jnW 4 (bv M k) false (wrN M n (bl M k)) l else
      if bh M k = 1 then jnW 5 (bv M k) true (wrN M n (bl M k)) l else
      if bl M k = 1 then jnW 5 (bv M k) false (wrN M n (bh M k)) l else
      jnW 4 (bv M k) false (wrN M n (bl M k)) (jnW 4 (bv M k) true (wrN M n (bh M k)) l) ++
        [(5, 0, (((jnW 4 (bv M k) true (wrN M n (bh M k)) l).length - 1 : Nat) : Int), (((jnW 4 (bv M k) false (wrN M n (bl M k)) (jnW 4 (bv M k) true (wrN M n (bh M k)) l)).length - 1 : Nat) : Int))] := by
    show (if k + 2 < 2 then _ else _) = _
    rw [if_neg (by omega), Nat.add_sub_cancel]
  have eS := sz_br M k
  unfold szC at eS
  rw [sz_at M (bl M k) k q2, sz_at M (bh M k) k q3] at eS
  rw [eF]
  clear eF
  obtain ⟨b, o, eA, hbB, hcl⟩ := (hrd.out.below hb) (by rw [up_len, hml.out]; omega)
  subst eA
  obtain ⟨d0, d1, d2⟩ := hcl k (by rw [up_len, hml.out]; exact hkm)
  rw [iv_up] at d0
  rw [il_up] at d1
  rw [ih_up] at d2
  clear hcl
  generalize sz M (k + 2) = SZ at *
  generalize sz M (bh M k) = ZH at *
  generalize sz M (bl M k) = ZL at *
  generalize wrN M n (bh M k) = FH at *
  generalize wrN M n (bl M k) = FL at *
  generalize bv M k = V at *
  generalize bl M k = LL at *
  generalize bh M k = HH at *
  have hc1 : ¬ (HH = 1 ∧ LL = 0) ∨ (HH = 1 ∧ LL = 0) := by omega
  rw [if_neg (by omega), if_pos (by omega)] at eS ⊢
  clear hc1
  have bh0 : ((HH : Int) == 0) = true := beq_iff_eq.2 (by omega)
  have bl0 : ((LL : Int) == 0) = false := beq_eq_false_iff_ne.2 (by omega)
  have bh1 : ((HH : Int) == 1) = false := beq_eq_false_iff_ne.2 (by omega)
  have bl1 : ((LL : Int) == 1) = true := beq_iff_eq.2 (by omega)
  have ih2 : (HH : Int) < 2 := by omega
  have il2 : (LL : Int) < 2 := by omega
  have i0 : ¬ ((k : Int) + 2) < 2 := by omega
  have i1 : (0 : Int) ≤ (k : Int) := by omega
  have i2 : (k : Int) < (m : Int) := by omega
  have HP := Lib.hid hp
  have HC := Lib.hid hc
  have HB := Lib.hid hb
  have HSS := Lib.hid eS
  have HLN := Lib.hid hlen
  have HSL := Lib.hid hsz
  have HGW : Hid (g < w.heap.size) := Lib.hid hp.lt
  clear hh hl eS hlen hsz hp hb hkm q2 q3 hml
  obtain ⟨ix, HIX⟩ : ∃ ix : Int, Hid ((((litW V false l).length - 1 : Nat) : Int) = ix) := ⟨_, Lib.hid rfl⟩
  rw [HIX.out]
  go_enter Tryd.func48, Tryd.ntmps48
  go_upto_region 4 with fail
  have E1 := Lib.hid (WoE.mk0 (w' := w) HP.out (.cells #[.int .i64 (V : Int), .int .i64 (LL : Int), .int .i64 (HH : Int)] 96))
  have HB1 := Lib.hid (HB.out.trans (E1.out.below HP.out))
  have HC1 := Lib.hid ((E1.out.cel 0 (by omega)).trans HC.out)
  have HX := Lib.hid (heap_alloc_new w (.cells #[.int .i64 (V : Int), .int .i64 (LL : Int), .int .i64 (HH : Int)] 96))
  have HNG : Hid (w.heap.size ≠ g) := Lib.hid (by have := HGW.out; omega)
  have HNF : Hid (vf.ownBlock ≠ some w.heap.size) := Lib.hid (fun e => by have := (HP.out.rf.lt _ e).2; omega)
  clear hc d0 d1 d2
  generalize w.alloc (.cells #[.int .i64 (V : Int), .int .i64 (LL : Int), .int .i64 (HH : Int)] 96) = w1 at *
  have x0 : w1.cell? ⟨w.heap.size, 0, none⟩ = some (.int .i64 (V : Int)) := by rw [cell_of_row _ _ 0 _ _ _ HX.out]; rfl
  have x1 : w1.cell? ⟨w.heap.size, 1, none⟩ = some (.int .i64 (LL : Int)) := by rw [cell_of_row _ _ 1 _ _ _ HX.out]; rfl
  have x2 : w1.cell? ⟨w.heap.size, 2, none⟩ = some (.int .i64 (HH : Int)) := by rw [cell_of_row _ _ 2 _ _ _ HX.out]; rfl
  have HK := Lib.hid (qvar B g V false vf l w1 (Lib.hid E1.out.m) (by have := HLN.out; have := HSS.out; have := HSL.out; unfold litK; simp; omega))
  rw [HIX.out] at HK
  go_wp2_with fail
  with_reducible refine HK.out.mono ?_
  rintro e w2 ⟨rfl, hx⟩
  have HR := Lib.hid (wdO_trans (l1 := l) E1.out hx)
  clear hx HK
  go_wp2
  go_ret
  exact ⟨rfl, HR.out⟩

set_option maxHeartbeats 4000000 in
set_option maxRecDepth 100000 in
theorem qnum_x0 (B g m c : Nat) (A : Option Addr) (M : List Br) (n k : Nat) (w0 : World) (hrd : Hid (Rd w0 B A (up M))) (hml : Hid (M.length = m)) (hm : m ≤ 1000000) (hkm : k < m) (q2 : bl M k < k + 2) (q3 : bh M k < k + 2) (hh0 : bh M k ≠ 0) (hh1 : bh M k ≠ 1) (hl : bl M k = 0) (hsz : sz M (k + 2) ≤ 512) (HXH : Hid (NuC w0 B g (.slice A m c) (wrN M n (bh M k)) (sz M (bh M k)) (bh M k))) (HLH : Hid (∀ l, l.length + sz M (bh M k) ≤ 512 → (wrN M n (bh M k) l).length = l.length + sz M (bh M k))) :
    NuC w0 B g (.slice A m c) (wrN M (n + 1) (k + 2)) (sz M (k + 2)) (k + 2) := by
  intro w vf l hb hp hc hlen
  have eF : wrN M (n + 1) (k + 2) l =
      if bh M k = 1 ∧ bl M k = 0 then litW (bv M k) true l else
      if bh M k = 0 ∧ bl M k = 1 then litW (bv M k) false l else
      if bl M k = 0 then jnW 4 (bv M k) true (wrN M n (bh M k)) l else
      if bh M k = 0 then jnW 4 (bv M k) false (wrN M n (bl M k)) l else
      if bh M k = 1 then jnW 5 (bv M k) true (wrN M n (bl M k)) l else
      if bl M k = 1 then jnW 5 (bv M k) false (wrN M n (bh M k)) l else
      jnW 4 (bv M k) false (wrN M n (bl M k)) (jnW 4 (bv M k) true (wrN M n (bh M k)) l) ++
        [(5, 0, (((jnW 4 (bv M k) true (wrN M n (bh M k)) l).length - 1 : Nat) : Int), (((jnW 4 (bv M k) false (wrN M n (bl M k)) (jnW 4 (bv M k) true (wrN M n (bh M k)) l)).length - 1 : Nat) : Int))] := by
    show (if k + 2 < 2 then _ else _) = _
    rw [if_neg (by omega), Nat.add_sub_cancel]
  have eS := sz_br M k
  unfold szC at eS
  rw [sz_at M (bl M k) k q2, sz_at M (bh M k) k q3] at eS
  rw [eF]
  clear eF
  obtain ⟨b, o, eA, hbB, hcl⟩ := (hrd.out.below hb) (by rw [up_len, hml.out]; omega)
  subst eA
  obtain ⟨d0, d1, d2⟩ := hcl k (by rw [up_len, hml.out]; exact hkm)
  rw [iv_up] at d0
  rw [il_up] at d1
  rw [ih_up] at d2
  clear hcl
  generalize sz M (k + 2) = SZ at *
  generalize sz M (bh M k) = ZH at *
  generalize sz M (bl M k) = ZL at *
  generalize wrN M n (bh M k) = FH at *
  generalize wrN M n (bl M k) = FL at *
  generalize bv M k = V at *
  generalize bl M k = LL at *
  generalize bh M k = HH at *
  have hc1 : ¬ (HH = 1 ∧ LL = 0) ∨ (HH = 1 ∧ LL = 0) := by omega
  rw [if_neg (by omega), if_neg (by omega), if_pos (by omega)] at eS ⊢
  clear hc1
  have bh0 : ((HH : Int) == 0) = false := beq_eq_false_iff_ne.2 (by omega)
  have bl0 : ((LL : Int) == 0) = true := beq_iff_eq.2 (by omega)
  have bh1 : ((HH : Int) == 1) = false := beq_eq_false_iff_ne.2 (by omega)
  have bl1 : ((LL : Int) == 1) = false := beq_eq_false_iff_ne.2 (by omega)
  have ih2 : ¬ (HH : Int) < 2 := by omega
  have il2 : (LL : Int) < 2 := by omega
  have i0 : ¬ ((k : Int) + 2) < 2 := by omega
  have i1 : (0 : Int) ≤ (k : Int) := by omega
  have i2 : (k : Int) < (m : Int) := by omega
  have HP := Lib.hid hp
  have HC := Lib.hid hc
  have HB := Lib.hid hb
  have HSS := Lib.hid eS
  have HLN := Lib.hid hlen
  have HSL := Lib.hid hsz
  have HGW : Hid (g < w.heap.size) := Lib.hid hp.lt
  clear hh0 hh1 hl eS hlen hsz hp hb hkm q2 q3 hml
  obtain ⟨ix, HIX⟩ : ∃ ix : Int, Hid ((((jnW 4 V true FH l).length - 1 : Nat) : Int) = ix) := ⟨_, Lib.hid rfl⟩
  rw [HIX.out]
  go_enter Tryd.func48, Tryd.ntmps48
  go_upto_region 4 with fail
  have E1 := Lib.hid (WoE.mk0 (w' := w) HP.out (.cells #[.int .i64 (V : Int), .int .i64 (LL : Int), .int .i64 (HH : Int)] 96))
  have HB1 := Lib.hid (HB.out.trans (E1.out.below HP.out))
  have HC1 := Lib.hid ((E1.out.cel 0 (by omega)).trans HC.out)
  have HX := Lib.hid (heap_alloc_new w (.cells #[.int .i64 (V : Int), .int .i64 (LL : Int), .int .i64 (HH : Int)] 96))
  have HNG : Hid (w.heap.size ≠ g) := Lib.hid (by have := HGW.out; omega)
  have HNF : Hid (vf.ownBlock ≠ some w.heap.size) := Lib.hid (fun e => by have := (HP.out.rf.lt _ e).2; omega)
  clear hc d0 d1 d2
  generalize w.alloc (.cells #[.int .i64 (V : Int), .int .i64 (LL : Int), .int .i64 (HH : Int)] 96) = w1 at *
  have x0 : w1.cell? ⟨w.heap.size, 0, none⟩ = some (.int .i64 (V : Int)) := by rw [cell_of_row _ _ 0 _ _ _ HX.out]; rfl
  have x1 : w1.cell? ⟨w.heap.size, 1, none⟩ = some (.int .i64 (LL : Int)) := by rw [cell_of_row _ _ 1 _ _ _ HX.out]; rfl
  have x2 : w1.cell? ⟨w.heap.size, 2, none⟩ = some (.int .i64 (HH : Int)) := by rw [cell_of_row _ _ 2 _ _ _ HX.out]; rfl
  have HK := Lib.hid (qjoin B g V HH ZH 4 true FH (.slice (some ⟨b, o, none⟩) m c) vf l w0 w1 HB1 (Lib.hid E1.out.m) HC1 (by have := HLN.out; have := HSS.out; have := HSL.out; unfold litK; simp; omega) HLH HXH)
  rw [HIX.out] at HK
  go_wp2_with fail
  with_reducible refine HK.out.mono ?_
  rintro e w2 ⟨rfl, hx⟩
  have HR := Lib.hid (wdO_trans (l1 := l) E1.out hx)
  clear hx HK
  go_wp2
  go_ret
  exact ⟨rfl, HR.out⟩

set_option maxHeartbeats 4000000 in
set_option maxRecDepth 100000 in
theorem qnum_0x (B g m c : Nat) (A : Option Addr) (M : List Br) (n k : Nat) (w0 : World) (hrd : Hid (Rd w0 B A (up M))) (hml : Hid (M.length = m)) (hm : m ≤ 1000000) (hkm : k < m) (q2 : bl M k < k + 2) (q3 : bh M k < k + 2) (hh : bh M k = 0) (hl0 : bl M k ≠ 0) (hl1 : bl M k ≠ 1) (hsz : sz M (k + 2) ≤ 512) (HXL : Hid (NuC w0 B g (.slice A m c) (wrN M n (bl M k)) (sz M (bl M k)) (bl M k))) (HLL : Hid (∀ l, l.length + sz M (bl M k) ≤ 512 → (wrN M n (bl M k) l).length = l.length + sz M (bl M k))) :
    NuC w0 B g (.slice A m c) (wrN M (n + 1) (k + 2)) (sz M (k + 2)) (k + 2) := by
  intro w vf l hb hp hc hlen
  have eF : wrN M (n + 1) (k + 2) l =
      if bh M k = 1 ∧ bl M k = 0 then litW (bv M k) true l else
      if bh M k = 0 ∧ bl M k = 1 then litW (bv M k) false l else
      if bl M k = 0 then jnW 4 (bv M k) true (wrN M n (bh M k)) l else
      if bh M k = 0 then jnW 4 (bv M k) false (wrN M n (bl M k)) l else
      if bh M k = 1 then jnW 5 (bv M k) true (wrN M n (bl M k)) l else
      if bl M k = 1 then jnW 5 (bv M k) false (wrN M n (bh M k)) l else
      jnW 4 (bv M k) false (wrN M n (bl M k)) (jnW 4 (bv M k) true (wrN M n (bh M k)) l) ++
        [(5, 0, (((jnW 4 (bv M k) true (wrN M n (bh M k)) l).length - 1 : Nat) : Int), (((jnW 4 (bv M k) false (wrN M n (bl M k)) (jnW 4 (bv M k) true (wrN M n (bh M k)) l)).length - 1 : Nat) : Int))] := by
    show (if k + 2 < 2 then _ else _) = _
    rw [if_neg (by omega), Nat.add_sub_cancel]
  have eS := sz_br M k
  unfold szC at eS
  rw [sz_at M (bl M k) k q2, sz_at M (bh M k) k q3] at eS
  rw [eF]
  clear eF
  obtain ⟨b, o, eA, hbB, hcl⟩ := (hrd.out.below hb) (by rw [up_len, hml.out]; omega)
  subst eA
  obtain ⟨d0, d1, d2⟩ := hcl k (by rw [up_len, hml.out]; exact hkm)
  rw [iv_up] at d0
  rw [il_up] at d1
  rw [ih_up] at d2
  clear hcl
  generalize sz M (k + 2) = SZ at *
  generalize sz M (bh M k) = ZH at *
  generalize sz M (bl M k) = ZL at *
  generalize wrN M n (bh M k) = FH at *
  generalize wrN M n (bl M k) = FL at *
  generalize bv M k = V at *
  generalize bl M k = LL at *
  generalize bh M k = HH at *
  have hc1 : ¬ (HH = 1 ∧ LL = 0) ∨ (HH = 1 ∧ LL = 0) := by omega
  rw [if_neg (by omega), if_neg (by omega), if_neg (by omega), if_pos (by omega)] at eS ⊢
  clear hc1
  have bh0 : ((HH : Int) == 0) = true := beq_iff_eq.2 (by omega)
  have bl0 : ((LL : Int) == 0) = false := beq_eq_false_iff_ne.2 (by omega)
  have bh1 : ((HH : Int) == 1) = false := beq_eq_false_iff_ne.2 (by omega)
  have bl1 : ((LL : Int) == 1) = false := beq_eq_false_iff_ne.2 (by omega)
  have ih2 : (HH : Int) < 2 := by omega
  have il2 : ¬ (LL : Int) < 2 := by omega
  have i0 : ¬ ((k : Int) + 2) < 2 := by omega
  have i1 : (0 : Int) ≤ (k : Int) := by omega
  have i2 : (k : Int) < (m : Int) := by omega
  have HP := Lib.hid hp
  have HC := Lib.hid hc
  have HB := Lib.hid hb
  have HSS := Lib.hid eS
  have HLN := Lib.hid hlen
  have HSL := Lib.hid hsz
  have HGW : Hid (g < w.heap.size) := Lib.hid hp.lt
  clear hh hl0 hl1 eS hlen hsz hp hb hkm q2 q3 hml
  obtain ⟨ix, HIX⟩ : ∃ ix : Int, Hid ((((jnW 4 V false FL l).length - 1 : Nat) : Int) = ix) := ⟨_, Lib.hid rfl⟩
  rw [HIX.out]
  go_enter Tryd.func48, Tryd.ntmps48
  go_upto_region 4 with fail
  have E1 := Lib.hid (WoE.mk0 (w' := w) HP.out (.cells #[.int .i64 (V : Int), .int .i64 (LL : Int), .int .i64 (HH : Int)] 96))
  have HB1 := Lib.hid (HB.out.trans (E1.out.below HP.out))
  have HC1 := Lib.hid ((E1.out.cel 0 (by omega)).trans HC.out)
  have HX := Lib.hid (heap_alloc_new w (.cells #[.int .i64 (V : Int), .int .i64 (LL : Int), .int .i64 (HH : Int)] 96))
  have HNG : Hid (w.heap.size ≠ g) := Lib.hid (by have := HGW.out; omega)
  have HNF : Hid (vf.ownBlock ≠ some w.heap.size) := Lib.hid (fun e => by have := (HP.out.rf.lt _ e).2; omega)
  clear hc d0 d1 d2
  generalize w.alloc (.cells #[.int .i64 (V : Int), .int .i64 (LL : Int), .int .i64 (HH : Int)] 96) = w1 at *
  have x0 : w1.cell? ⟨w.heap.size, 0, none⟩ = some (.int .i64 (V : Int)) := by rw [cell_of_row _ _ 0 _ _ _ HX.out]; rfl
  have x1 : w1.cell? ⟨w.heap.size, 1, none⟩ = some (.int .i64 (LL : Int)) := by rw [cell_of_row _ _ 1 _ _ _ HX.out]; rfl
  have x2 : w1.cell? ⟨w.heap.size, 2, none⟩ = some (.int .i64 (HH : Int)) := by rw [cell_of_row _ _ 2 _ _ _ HX.out]; rfl
  have HK := Lib.hid (qjoin B g V LL ZL 4 false FL (.slice (some ⟨b, o, none⟩) m c) vf l w0 w1 HB1 (Lib.hid E1.out.m) HC1 (by have := HLN.out; have := HSS.out; have := HSL.out; unfold litK; simp; omega) HLL HXL)
  rw [HIX.out] at HK
  go_wp2_with fail
  with_reducible refine HK.out.mono ?_
  rintro e w2 ⟨rfl, hx⟩
  have HR := Lib.hid (wdO_trans (l1 := l) E1.out hx)
  clear hx HK
  go_wp2
  go_ret
  exact ⟨rfl, HR.out⟩

set_option maxHeartbeats 4000000 in
set_option maxRecDepth 100000 in
theorem qnum_1x (B g m c : Nat) (A : Option Addr) (M : List Br) (n k : Nat) (w0 : World) (hrd : Hid (Rd w0 B A (up M))) (hml : Hid (M.length = m)) (hm : m ≤ 1000000) (hkm : k < m) (q2 : bl M k < k + 2) (q3 : bh M k < k + 2) (hh : bh M k = 1) (hl0 : bl M k ≠ 0) (hl1 : bl M k ≠ 1) (hsz : sz M (k + 2) ≤ 512) (HXL : Hid (NuC w0 B g (.slice A m c) (wrN M n (bl M k)) (sz M (bl M k)) (bl M k))) (HLL : Hid (∀ l, l.length + sz M (bl M k) ≤ 512 → (wrN M n (bl M k) l).length = l.length + sz M (bl M k))) :
    NuC w0 B g (.slice A m c) (wrN M (n + 1) (k + 2)) (sz M (k + 2)) (k + 2) := by
  intro w vf l hb hp hc hlen
  have eF : wrN M (n + 1) (k + 2) l =
      if bh M k = 1 ∧ bl M k = 0 then litW (bv M k) true l else
      if bh M k = 0 ∧ bl M k = 1 then litW (bv M k) false l else
      if bl M k = 0 then jnW 4 (bv M k) true (wrN M n (bh M k)) l else
      if bh M k = 0 then jnW 4 (bv M k) false (wrN M n (bl M k)) l else
      if bh M k = 1 then jnW 5 (bv M k) true (wrN M n (bl M k)) l else
      if bl M k = 1 then jnW 5 (bv M k) false (wrN M n (bh M k)) l else
      jnW 4 (bv M k) false (wrN M n (bl M k)) (jnW 4 (bv M k) true (wrN M n (bh M k)) l) ++
        [(5, 0, (((jnW 4 (bv M k) true (wrN M n (bh M k)) l).length - 1 : Nat) : Int), (((jnW 4 (bv M k) false (wrN M n (bl M k)) (jnW 4 (bv M k) true (wrN M n (bh M k)) l)).length - 1 : Nat) : Int))] := by
    show (if k + 2 < 2 then _ else _) = _
    rw [if_neg (by omega), Nat.add_sub_cancel]
  have eS := sz_br M k
  unfold szC at eS
  rw [sz_at M (bl M k) k q2, sz_at M (bh M k) k q3] at eS
  rw [eF]
  clear eF
  obtain ⟨b, o, eA, hbB, hcl⟩ := (hrd.out.below hb) (by rw [up_len, hml.out]; omega)
  subst eA
  obtain ⟨d0, d1, d2⟩ := hcl k (by rw [up_len, hml.out]; exact hkm)
  rw [iv_up] at d0
  rw [il_up] at d1
  rw [ih_up] at d2
  clear hcl
  generalize sz M (k + 2) = SZ at *
  generalize sz M (bh M k) = ZH at *
  generalize sz M (bl M k) = ZL at *
  generalize wrN M n (bh M k) = FH at *
  generalize wrN M n (bl M k) = FL at *
  generalize bv M k = V at *
  generalize bl M k = LL at *
  generalize bh M k = HH at *
  have hc1 : ¬ (HH = 1 ∧ LL = 0) ∨ (HH = 1 ∧ LL = 0) := by omega
  rw [if_neg (by omega), if_neg (by omega), if_neg (by omega), if_neg (by omega), if_pos (by omega)] at eS ⊢
  clear hc1
  have bh0 : ((HH : Int) == 0) = false := beq_eq_false_iff_ne.2 (by omega)
  have bl0 : ((LL : Int) == 0) = false := beq_eq_false_iff_ne.2 (by omega)
  have bh1 : ((HH : Int) == 1) = true := beq_iff_eq.2 (by omega)
  have bl1 : ((LL : Int) == 1) = false := beq_eq_false_iff_ne.2 (by omega)
  have ih2 : (HH : Int) < 2 := by omega
  have il2 : ¬ (LL : Int) < 2 := by omega
  have i0 : ¬ ((k : Int) + 2) < 2 := by omega
  have i1 : (0 : Int) ≤ (k : Int) := by omega
  have i2 : (k : Int) < (m : Int) := by omega
  have HP := Lib.hid hp
  have HC := Lib.hid hc
  have HB := Lib.hid hb
  have HSS := Lib.hid eS
  have HLN := Lib.hid hlen
  have HSL := Lib.hid hsz
  have HGW : Hid (g < w.heap.size) := Lib.hid hp.lt
  clear hh hl0 hl1 eS hlen hsz hp hb hkm q2 q3 hml
  obtain ⟨ix, HIX⟩ : ∃ ix : Int, Hid ((((jnW 5 V true FL l).length - 1 : Nat) : Int) = ix) := ⟨_, Lib.hid rfl⟩
  rw [HIX.out]
  go_enter Tryd.func48, Tryd.ntmps48
  go_upto_region 4 with fail
  have E1 := Lib.hid (WoE.mk0 (w' := w) HP.out (.cells #[.int .i64 (V : Int), .int .i64 (LL : Int), .int .i64 (HH : Int)] 96))
  have HB1 := Lib.hid (HB.out.trans (E1.out.below HP.out))
  have HC1 := Lib.hid ((E1.out.cel 0 (by omega)).trans HC.out)
  have HX := Lib.hid (heap_alloc_new w (.cells #[.int .i64 (V : Int), .int .i64 (LL : Int), .int .i64 (HH : Int)] 96))
  have HNG : Hid (w.heap.size ≠ g) := Lib.hid (by have := HGW.out; omega)
  have HNF : Hid (vf.ownBlock ≠ some w.heap.size) := Lib.hid (fun e => by have := (HP.out.rf.lt _ e).2; omega)
  clear hc d0 d1 d2
  generalize w.alloc (.cells #[.int .i64 (V : Int), .int .i64 (LL : Int), .int .i64 (HH : Int)] 96) = w1 at *
  have x0 : w1.cell? ⟨w.heap.size, 0, none⟩ = some (.int .i64 (V : Int)) := by rw [cell_of_row _ _ 0 _ _ _ HX.out]; rfl
  have x1 : w1.cell? ⟨w.heap.size, 1, none⟩ = some (.int .i64 (LL : Int)) := by rw [cell_of_row _ _ 1 _ _ _ HX.out]; rfl
  have x2 : w1.cell? ⟨w.heap.size, 2, none⟩ = some (.int .i64 (HH : Int)) := by rw [cell_of_row _ _ 2 _ _ _ HX.out]; rfl
  have HK := Lib.hid (qjoin B g V LL ZL 5 true FL (.slice (some ⟨b, o, none⟩) m c) vf l w0 w1 HB1 (Lib.hid E1.out.m) HC1 (by have := HLN.out; have := HSS.out; have := HSL.out; unfold litK; simp; omega) HLL HXL)
  rw [HIX.out] at HK
  go_wp2_with fail
  with_reducible refine HK.out.mono ?_
  rintro e w2 ⟨rfl, hx⟩
  have HR := Lib.hid (wdO_trans (l1 := l) E1.out hx)
  clear hx HK
  go_wp2
  go_ret
  exact ⟨rfl, HR.out⟩

set_option maxHeartbeats 4000000 in
set_option maxRecDepth 100000 in
theorem qnum_x1 (B g m c : Nat) (A : Option Addr) (M : List Br) (n k : Nat) (w0 : World) (hrd : Hid (Rd w0 B A (up M))) (hml : Hid (M.length = m)) (hm : m ≤ 1000000) (hkm : k < m) (q2 : bl M k < k + 2) (q3 : bh M k < k + 2) (hh0 : bh M k ≠ 0) (hh1 : bh M k ≠ 1) (hl : bl M k = 1) (hsz : sz M (k + 2) ≤ 512) (HXH : Hid (NuC w0 B g (.slice A m c) (wrN M n (bh M k)) (sz M (bh M k)) (bh M k))) (HLH : Hid (∀ l, l.length + sz M (bh M k) ≤ 512 → (wrN M n (bh M k) l).length = l.length + sz M (bh M k))) :
    NuC w0 B g (.slice A m c) (wrN M (n + 1) (k + 2)) (sz M (k + 2)) (k + 2) := by
  intro w vf l hb hp hc hlen
  have eF : wrN M (n + 1) (k + 2) l =
      if bh M k = 1 ∧ bl M k = 0 then litW (bv M k) true l else
      if bh M k = 0 ∧ bl M k = 1 then litW (bv M k) false l else
      if bl M k = 0 then jnW 4 (bv M k) true (wrN M n (bh M k)) l else
      if bh M k = 0 then jnW 4 (bv M k) false (wrN M n (bl M k)) l else
      if bh M k = 1 then jnW 5 (bv M k) true (wrN M n (bl M k)) l else
      if bl M k = 1 then jnW 5 (bv M k) false (wrN M n (bh M k)) l else
      jnW 4 (bv M k) false (wrN M n (bl M k)) (jnW 4 (bv M k) true (wrN M n (bh M k)) l) ++
        [(5, 0, (((jnW 4 (bv M k) true (wrN M n (bh M k)) l).length - 1 : Nat) : Int), (((jnW 4 (bv M k) false (wrN M n (bl M k)) (jnW 4 (bv M k) true (wrN M n (bh M k)) l)).length - 1 : Nat) : Int))] := by
    show (if k + 2 < 2 then _ else _) = _
    rw [if_neg (by omega), Nat.add_sub_cancel]
  have eS := sz_br M k
  unfold szC at eS
  rw [sz_at M (bl M k) k q2, sz_at M (bh M k) k q3] at eS
  rw [eF]
  clear eF
  obtain ⟨b, o, eA, hbB, hcl⟩ := (hrd.out.below hb) (by rw [up_len, hml.out]; omega)
  subst eA
  obtain ⟨d0, d1, d2⟩ := hcl k (by rw [up_len, hml.out]; exact hkm)
  rw [iv_up] at d0
  rw [il_up] at d1
  rw [ih_up] at d2
  clear hcl
  generalize sz M (k + 2) = SZ at *
  generalize sz M (bh M k) = ZH at *
  generalize sz M (bl M k) = ZL at *
  generalize wrN M n (bh M k) = FH at *
  generalize wrN M n (bl M k) = FL at *
  generalize bv M k = V at *
  generalize bl M k = LL at *
  generalize bh M k = HH at *
  have hc1 : ¬ (HH = 1 ∧ LL = 0) ∨ (HH = 1 ∧ LL = 0) := by omega
  rw [if_neg (by omega), if_neg (by omega), if_neg (by omega), if_neg (by omega), if_neg (by omega), if_pos (by omega)] at eS ⊢
  clear hc1
  have bh0 : ((HH : Int) == 0) = false := beq_eq_false_iff_ne.2 (by omega)
  have bl0 : ((LL : Int) == 0) = false := beq_eq_false_iff_ne.2 (by omega)
  have bh1 : ((HH : Int) == 1) = false := beq_eq_false_iff_ne.2 (by omega)
  have bl1 : ((LL : Int) == 1) = true := beq_iff_eq.2 (by omega)
  have ih2 : ¬ (HH : Int) < 2 := by omega
  have il2 : (LL : Int) < 2 := by omega
  have i0 : ¬ ((k : Int) + 2) < 2 := by omega
  have i1 : (0 : Int) ≤ (k : Int) := by omega
  have i2 : (k : Int) < (m : Int) := by omega
  have HP := Lib.hid hp
  have HC := Lib.hid hc
  have HB := Lib.hid hb
  have HSS := Lib.hid eS
  have HLN := Lib.hid hlen
  have HSL := Lib.hid hsz
  have HGW : Hid (g < w.heap.size) := Lib.hid hp.lt
  clear hh0 hh1 hl eS hlen hsz hp hb hkm q2 q3 hml
  obtain ⟨ix, HIX⟩ : ∃ ix : Int, Hid ((((jnW 5 V false FH l).length - 1 : Nat) : Int) = ix) := ⟨_, Lib.hid rfl⟩
  rw [HIX.out]
  go_enter Tryd.func48, Tryd.ntmps48
  go_upto_region 4 with fail
  have E1 := Lib.hid (WoE.mk0 (w' := w) HP.out (.cells #[.int .i64 (V : Int), .int .i64 (LL : Int), .int .i64 (HH : Int)] 96))
  have HB1 := Lib.hid (HB.out.trans (E1.out.below HP.out))
  have HC1 := Lib.hid ((E1.out.cel 0 (by omega)).trans HC.out)
  have HX := Lib.hid (heap_alloc_new w (.cells #[.int .i64 (V : Int), .int .i64 (LL : Int), .int .i64 (HH : Int)] 96))
  have HNG : Hid (w.heap.size ≠ g) := Lib.hid (by have := HGW.out; omega)
  have HNF : Hid (vf.ownBlock ≠ some w.heap.size) := Lib.hid (fun e => by have := (HP.out.rf.lt _ e).2; omega)
  clear hc d0 d1 d2
  generalize w.alloc (.cells #[.int .i64 (V : Int), .int .i64 (LL : Int), .int .i64 (HH : Int)] 96) = w1 at *
  have x0 : w1.cell? ⟨w.heap.size, 0, none⟩ = some (.int .i64 (V : Int)) := by rw [cell_of_row _ _ 0 _ _ _ HX.out]; rfl
  have x1 : w1.cell? ⟨w.heap.size, 1, none⟩ = some (.int .i64 (LL : Int)) := by rw [cell_of_row _ _ 1 _ _ _ HX.out]; rfl
  have x2 : w1.cell? ⟨w.heap.size, 2, none⟩ = some (.int .i64 (HH : Int)) := by rw [cell_of_row _ _ 2 _ _ _ HX.out]; rfl
  have HK := Lib.hid (qjoin B g V HH ZH 5 false FH (.slice (some ⟨b, o, none⟩) m c) vf l w0 w1 HB1 (Lib.hid E1.out.m) HC1 (by have := HLN.out; have := HSS.out; have := HSL.out; unfold litK; simp; omega) HLH HXH)
  rw [HIX.out] at HK
  go_wp2_with fail
  with_reducible refine HK.out.mono ?_
  rintro e w2 ⟨rfl, hx⟩
  have HR := Lib.hid (wdO_trans (l1 := l) E1.out hx)
  clear hx HK
  go_wp2
  go_ret
  exact ⟨rfl, HR.out⟩

set_option maxHeartbeats 4000000 in
set_option maxRecDepth 100000 in
theorem qnum_xx (B g m c : Nat) (A : Option Addr) (M : List Br) (n k : Nat) (w0 : World) (hrd : Hid (Rd w0 B A (up M))) (hml : Hid (M.length = m)) (hm : m ≤ 1000000) (hkm : k < m) (q2 : bl M k < k + 2) (q3 : bh M k < k + 2) (hh0 : bh M k ≠ 0) (hh1 : bh M k ≠ 1) (hl0 : bl M k ≠ 0) (hl1 : bl M k ≠ 1) (hsz : sz M (k + 2) ≤ 512) (HXH : Hid (NuC w0 B g (.slice A m c) (wrN M n (bh M k)) (sz M (bh M k)) (bh M k))) (HLH : Hid (∀ l, l.length + sz M (bh M k) ≤ 512 → (wrN M n (bh M k) l).length = l.length + sz M (bh M k))) (HXL : Hid (NuC w0 B g (.slice A m c) (wrN M n (bl M k)) (sz M (bl M k)) (bl M k))) (HLL : Hid (∀ l, l.length + sz M (bl M k) ≤ 512 → (wrN M n (bl M k) l).length = l.length + sz M (bl M k))) :
    NuC w0 B g (.slice A m c) (wrN M (n + 1) (k + 2)) (sz M (k + 2)) (k + 2) := by
  intro w vf l hb hp hc hlen
  have eF : wrN M (n + 1) (k + 2) l =
      if bh M k = 1 ∧ bl M k = 0 then litW (bv M k) true l else
      if bh M k = 0 ∧ bl M k = 1 then litW (bv M k) false l else
      if bl M k = 0 then jnW 4 (bv M k) true (wrN M n (bh M k)) l else
      if bh M k = 0 then jnW 4 (bv M k) false (wrN M n (bl M k)) l else
      if bh M k = 1 then jnW 5 (bv M k) true (wrN M n (bl M k)) l else
      if bl M k = 1 then jnW 5 (bv M k) false (wrN M n (bh M k)) l else
      jnW 4 (bv M k) false (wrN M n (bl M k)) (jnW 4 (bv M k) true (wrN M n (bh M k)) l) ++
        [(5, 0, (((jnW 4 (bv M k) true (wrN M n (bh M k)) l).length - 1 : Nat) : Int), (((jnW 4 (bv M k) false (wrN M n (bl M k)) (jnW 4 (bv M k) true (wrN M n (bh M k)) l)).length - 1 : Nat) : Int))] := by
    show (if k + 2 < 2 then _ else _) = _
    rw [if_neg (by omega), Nat.add_sub_cancel]
  have eS := sz_br M k
  unfold szC at eS
  rw [sz_at M (bl M k) k q2, sz_at M (bh M k) k q3] at eS
  rw [eF]
  clear eF
  obtain ⟨b, o, eA, hbB, hcl⟩ := (hrd.out.below hb) (by rw [up_len, hml.out]; omega)
  subst eA
  obtain ⟨d0, d1, d2⟩ := hcl k (by rw [up_len, hml.out]; exact hkm)
  rw [iv_up] at d0
  rw [il_up] at d1
  rw [ih_up] at d2
  clear hcl
  generalize sz M (k + 2) = SZ at *
  generalize sz M (bh M k) = ZH at *
  generalize sz M (bl M k) = ZL at *
  generalize wrN M n (bh M k) = FH at *
  generalize wrN M n (bl M k) = FL at *
  generalize bv M k = V at *
  generalize bl M k = LL at *
  generalize bh M k = HH at *
  have hc1 : ¬ (HH = 1 ∧ LL = 0) ∨ (HH = 1 ∧ LL = 0) := by omega
  rw [if_neg (by omega), if_neg (by omega), if_neg (by omega), if_neg (by omega), if_neg (by omega), if_neg (by omega)] at eS ⊢
  clear hc1
  have bh0 : ((HH : Int) == 0) = false := beq_eq_false_iff_ne.2 (by omega)
  have bl0 : ((LL : Int) == 0) = false := beq_eq_false_iff_ne.2 (by omega)
  have bh1 : ((HH : Int) == 1) = false := beq_eq_false_iff_ne.2 (by omega)
  have bl1 : ((LL : Int) == 1) = false := beq_eq_false_iff_ne.2 (by omega)
  have ih2 : ¬ (HH : Int) < 2 := by omega
  have il2 : ¬ (LL : Int) < 2 := by omega
  have i0 : ¬ ((k : Int) + 2) < 2 := by omega
  have i1 : (0 : Int) ≤ (k : Int) := by omega
  have i2 : (k : Int) < (m : Int) := by omega
  have HP := Lib.hid hp
  have HC := Lib.hid hc
  have HB := Lib.hid hb
  have HSS := Lib.hid eS
  have HLN := Lib.hid hlen
  have HSL := Lib.hid hsz
  have HGW : Hid (g < w.heap.size) := Lib.hid hp.lt
  clear hh0 hh1 hl0 hl1 eS hlen hsz hp hb hkm q2 q3 hml
  have HJ1 : Hid ((jnW 4 V true FH l).length = l.length + (ZH + 2)) := Lib.hid (by
    have h1 := litW_len V true l
    have h2 := HLH.out (litW V true l) (by rw [h1]; have := HLN.out; have := HSS.out; have := HSL.out; unfold litK; simp; omega)
    unfold jnW
    rw [List.length_append, h2, h1]
    unfold litK
    simp
    omega)
  have HJ2 : Hid ((jnW 4 V false FL (jnW 4 V true FH l)).length = l.length + (ZH + ZL + 5)) := Lib.hid (by
    have h1 := litW_len V false (jnW 4 V true FH l)
    have h2 := HLL.out (litW V false (jnW 4 V true FH l)) (by rw [h1, HJ1.out]; have := HLN.out; have := HSS.out; have := HSL.out; unfold litK; simp; omega)
    rw [show jnW 4 V false FL (jnW 4 V true FH l) = FL (litW V false (jnW 4 V true FH l)) ++ _ from rfl, List.length_append, h2, h1, HJ1.out]
    unfold litK
    simp
    omega)
  have HK1 : Hid (∀ (W : World) (vf1 : Value), Below B w0 W → WoM W B g vf1 l → W.cell? ⟨g, 0, none⟩ = some (.slice (some ⟨b, o, none⟩) m c) → Calls Tryd.prog 79 #[.pointer (some ⟨g, 0, none⟩), .int .i64 4, .int .i64 (V : Int), .bool true, .int .i64 (HH : Int)] W fun e w' => e = .returned (.int .i64 (((jnW 4 V true FH l).length - 1 : Nat) : Int)) ∧ WdO W w' B g vf1 (jnW 4 V true FH l)) := Lib.hid (fun W vf1 h1 h2 h3 =>
    qjoin B g V HH ZH 4 true FH (.slice (some ⟨b, o, none⟩) m c) vf1 l w0 W (Lib.hid h1) (Lib.hid h2) (Lib.hid h3) (by have := HLN.out; have := HSS.out; have := HSL.out; unfold litK; simp; omega) HLH HXH)
  have HK2 : Hid (∀ (W : World) (vf1 : Value), Below B w0 W → WoM W B g vf1 (jnW 4 V true FH l) → W.cell? ⟨g, 0, none⟩ = some (.slice (some ⟨b, o, none⟩) m c) → Calls Tryd.prog 79 #[.pointer (some ⟨g, 0, none⟩), .int .i64 4, .int .i64 (V : Int), .bool false, .int .i64 (LL : Int)] W fun e w' => e = .returned (.int .i64 (((jnW 4 V false FL (jnW 4 V true FH l)).length - 1 : Nat) : Int)) ∧ WdO W w' B g vf1 (jnW 4 V false FL (jnW 4 V true FH l))) := Lib.hid (fun W vf1 h1 h2 h3 =>
    qjoin B g V LL ZL 4 false FL (.slice (some ⟨b, o, none⟩) m c) vf1 _ w0 W (Lib.hid h1) (Lib.hid h2) (Lib.hid h3) (by rw [HJ1.out]; have := HLN.out; have := HSS.out; have := HSL.out; unfold litK; simp; omega) HLL HXL)
  have HK3 : Hid (∀ (W : World) (vf1 : Value), WoM W B g vf1 (jnW 4 V false FL (jnW 4 V true FH l)) → Calls Tryd.prog 77 #[.pointer (some ⟨g, 0, none⟩), .agg #[.int .i64 5, .int .i64 0, .int .i64 (((jnW 4 V true FH l).length - 1 : Nat) : Int), .int .i64 (((jnW 4 V false FL (jnW 4 V true FH l)).length - 1 : Nat) : Int)]] W fun e w' => e = .returned (.int .i64 ((jnW 4 V false FL (jnW 4 V true FH l)).length : Int)) ∧ WdO W w' B g vf1 (jnW 4 V false FL (jnW 4 V true FH l) ++ [(5, 0, (((jnW 4 V true FH l).length - 1 : Nat) : Int), (((jnW 4 V false FL (jnW 4 V true FH l)).length - 1 : Nat) : Int))])) := Lib.hid (fun W vf1 h1 =>
    qput B g _ vf1 5 0 _ _ _ W (Lib.hid h1) (Lib.hid rfl) (by rw [HJ2.out]; have := HLN.out; have := HSS.out; have := HSL.out; omega))
  have HRR : Hid ((((jnW 4 V false FL (jnW 4 V true FH l) ++ [((5 : Int), (0 : Int), (((jnW 4 V true FH l).length - 1 : Nat) : Int), (((jnW 4 V false FL (jnW 4 V true FH l)).length - 1 : Nat) : Int))]).length - 1 : Nat) : Int) = ((jnW 4 V false FL (jnW 4 V true FH l)).length : Int)) := Lib.hid (by simp)
  rw [HRR.out]
  clear HRR HJ1 HJ2 HXH HXL HLH HLL
  generalize jnW 4 V false FL (jnW 4 V true FH l) = J2 at *
  generalize jnW 4 V true FH l = J1 at *
  generalize ((J1.length - 1 : Nat) : Int) = y1 at *
  generalize ((J2.length - 1 : Nat) : Int) = y2 at *
  generalize ((J2.length : Nat) : Int) = y3 at *
  go_enter Tryd.func48, Tryd.ntmps48
  go_upto_region 4 with fail
  have E1 := Lib.hid (WoE.mk0 (w' := w) HP.out (.cells #[.int .i64 (V : Int), .int .i64 (LL : Int), .int .i64 (HH : Int)] 96))
  have HB1 := Lib.hid (HB.out.trans (E1.out.below HP.out))
  have HC1 := Lib.hid ((E1.out.cel 0 (by omega)).trans HC.out)
  have HX := Lib.hid (heap_alloc_new w (.cells #[.int .i64 (V : Int), .int .i64 (LL : Int), .int .i64 (HH : Int)] 96))
  have HNG : Hid (w.heap.size ≠ g) := Lib.hid (by have := HGW.out; omega)
  have HNF : Hid (vf.ownBlock ≠ some w.heap.size) := Lib.hid (fun e => by have := (HP.out.rf.lt _ e).2; omega)
  clear hc d0 d1 d2
  generalize w.alloc (.cells #[.int .i64 (V : Int), .int .i64 (LL : Int), .int .i64 (HH : Int)] 96) = w1 at *
  have x0 : w1.cell? ⟨w.heap.size, 0, none⟩ = some (.int .i64 (V : Int)) := by rw [cell_of_row _ _ 0 _ _ _ HX.out]; rfl
  have x1 : w1.cell? ⟨w.heap.size, 1, none⟩ = some (.int .i64 (LL : Int)) := by rw [cell_of_row _ _ 1 _ _ _ HX.out]; rfl
  have x2 : w1.cell? ⟨w.heap.size, 2, none⟩ = some (.int .i64 (HH : Int)) := by rw [cell_of_row _ _ 2 _ _ _ HX.out]; rfl
  have HK := Lib.hid (HK1.out w1 vf HB1.out E1.out.m HC1.out)
  go_wp2_with fail
  with_reducible refine HK.out.mono ?_
  rintro e w2 ⟨rfl, vf1, hE⟩
  have E2 := Lib.hid (E1.out.trans hE)
  have HB2 := Lib.hid (HB.out.trans (E2.out.below HP.out))
  have HC2 := Lib.hid ((hE.cel 0 (by omega)).trans HC1.out)
  have HX2 : Hid (w2.heap[w.heap.size]? = some (.cells #[.int .i64 (V : Int), .int .i64 (LL : Int), .int .i64 (HH : Int)] 96 (0, 0))) := Lib.hid (by
    rw [hE.chg.block w.heap.size (Array.getElem?_eq_some_iff.1 HX.out).1 (by rintro (q | q); exact HNG.out q; exact HNF.out q)]
    exact HX.out)
  clear x0 x1 x2 hE HK
  have x0 : w2.cell? ⟨w.heap.size, 0, none⟩ = some (.int .i64 (V : Int)) := by rw [cell_of_row _ _ 0 _ _ _ HX2.out]; rfl
  have x1 : w2.cell? ⟨w.heap.size, 1, none⟩ = some (.int .i64 (LL : Int)) := by rw [cell_of_row _ _ 1 _ _ _ HX2.out]; rfl
  have x2 : w2.cell? ⟨w.heap.size, 2, none⟩ = some (.int .i64 (HH : Int)) := by rw [cell_of_row _ _ 2 _ _ _ HX2.out]; rfl
  have HK4 := Lib.hid (HK2.out w2 vf1 HB2.out E2.out.m HC2.out)
  clear HK2
  go_wp2_with fail
  with_reducible refine HK4.out.mono ?_
  rintro e w3 ⟨rfl, vf2, hE⟩
  have E3 := Lib.hid (E2.out.trans hE)
  have HK5 := Lib.hid (HK3.out w3 vf2 hE.m)
  clear x0 x1 x2 hE HK4 HK3
  go_wp2_with fail
  with_reducible refine HK5.out.mono ?_
  rintro e w4 ⟨rfl, hx⟩
  have HR := Lib.hid (wdO_trans E3.out hx)
  clear hx HK5
  go_wp2
  go_ret
  exact ⟨rfl, HR.out⟩


theorem min_two {a b s : Nat} (h : s = min (a + b + 6) 10000) (hs : s ≤ 512) : b ≤ 512 ∧ a ≤ 512 := by
  by_cases q : a + b + 6 ≤ 10000
  · rw [Nat.min_eq_left q] at h; omega
  · rw [Nat.min_eq_right (by omega)] at h; omega
theorem qnum_any (B g m c : Nat) (A : Option Addr) (M : List Br) (w0 : World) (hrd : Hid (Rd w0 B A (up M))) (hml : Hid (M.length = m)) (hm : m ≤ 1000000) (ho : Ord M) (hred : Red M) : ∀ n r, r < n → r < m + 2 → sz M r ≤ 512 → NuC w0 B g (.slice A m c) (wrN M n r) (sz M r) r
  | 0, r, h, _, _ => by omega
  | n + 1, r, h, hr, hs => by
    by_cases hlow : r < 2
    · exact qnum_low B g n r (.slice A m c) M w0 hlow
    · obtain ⟨k, rfl⟩ : ∃ k, r = k + 2 := ⟨r - 2, by omega⟩
      have hk : k < M.length := by rw [hml.out]; omega
      obtain ⟨q1, q2, q3, _, _⟩ := ho k hk
      have hne := hred k hk
      have eS := sz_br M k
      unfold szC at eS
      rw [sz_at M (bl M k) k q2, sz_at M (bh M k) k q3] at eS
      have HLH := Lib.hid (fun l h => wrN_len M ho n (bh M k) l (by omega) (by omega) h)
      have HLL := Lib.hid (fun l h => wrN_len M ho n (bl M k) l (by omega) (by omega) h)
      have HXH := fun hz => Lib.hid (qnum_any B g m c A M w0 hrd hml hm ho hred n (bh M k) (by omega) (by omega) hz)
      have HXL := fun hz => Lib.hid (qnum_any B g m c A M w0 hrd hml hm ho hred n (bl M k) (by omega) (by omega) hz)
      have hkm : k < m := by omega
      by_cases h0 : bh M k = 0
      · by_cases l1 : bl M k = 1
        · exact qnum_01 B g m c A M n k w0 hrd hml hm hkm q2 q3 h0 l1 hs
        · have l0 : bl M k ≠ 0 := by omega
          rw [if_neg (by omega), if_neg (by omega), if_neg (by omega), if_pos h0] at eS
          exact qnum_0x B g m c A M n k w0 hrd hml hm hkm q2 q3 h0 l0 l1 hs (HXL (by omega)) HLL
      · by_cases h1 : bh M k = 1
        · by_cases l0 : bl M k = 0
          · exact qnum_10 B g m c A M n k w0 hrd hml hm hkm q2 q3 h1 l0 hs
          · have l1 : bl M k ≠ 1 := by omega
            rw [if_neg (by omega), if_neg (by omega), if_neg (by omega), if_neg (by omega), if_pos h1] at eS
            exact qnum_1x B g m c A M n k w0 hrd hml hm hkm q2 q3 h1 l0 l1 hs (HXL (by omega)) HLL
        · by_cases l0 : bl M k = 0
          · rw [if_neg (by omega), if_neg (by omega), if_pos l0] at eS
            exact qnum_x0 B g m c A M n k w0 hrd hml hm hkm q2 q3 h0 h1 l0 hs (HXH (by omega)) HLH
          · by_cases l1 : bl M k = 1
            · rw [if_neg (by omega), if_neg (by omega), if_neg (by omega), if_neg (by omega), if_neg (by omega), if_pos l1] at eS
              exact qnum_x1 B g m c A M n k w0 hrd hml hm hkm q2 q3 h0 h1 l1 hs (HXH (by omega)) HLH
            · rw [if_neg (by omega), if_neg (by omega), if_neg (by omega), if_neg (by omega), if_neg (by omega), if_neg (by omega)] at eS
              exact qnum_xx B g m c A M n k w0 hrd hml hm hkm q2 q3 h0 h1 l0 l1 hs (HXH (min_two eS hs).1) HLH (HXL (min_two eS hs).2) HLL

end Go.Proofs.YtkconfadhcomnaaDoor
