/-
  Plain mathematics and contracts of package diagram, several texts in one: DRNat, DSmN, PRCt, DRSide, DRCtA, DCtAny, DRCtC, DRCtB, DRCtD, DLawMatK.
-/
import Derived.Test.YtefepaackdhiiaaDoorMn
import Derived.Test.YtefepaackdhiiaaDoorNe
import Derived.Test.YtefepaackdhiiaaDoorMh
import Derived.Test.YtefepaackdhiiaaDoorNa
import Derived.Test.YtefepaackdhiiaaDoorMi
import Derived.Test.YtefepaackdhiiaaDoorNb
import Derived.Deep.RegionHeld3
namespace Go.Proofs.YtefepaackdhiiaaDoor.Nn
open Go.RowKit Nt
set_option linter.unusedVariables false
def lenOf : Value → Nat
  | .slice _ n _ => n
  | _ => 0
theorem rnat_end {n h x k : Nat} {w : World} {X Y : Int} (hk : k ≤ 2) (hv : val [x, h] = n) (e : Nt.dg (val [x, h]) = [x, h].take k)
    (hb : Bk (w.alloc (.cells #[.int .u32 X, .int .u32 Y] 75)) w.heap.size [x, h]) (hl : Below w.heap.size w (w.alloc (.cells #[.int .u32 X, .int .u32 Y] 75))) :
    Gives1 w n (.returned (.slice (some ⟨w.heap.size, 0, none⟩) k 2)) (w.alloc (.cells #[.int .u32 X, .int .u32 Y] 75)) := by
  rw [hv] at e
  have el : (dg n).length = k := by rw [e, List.length_take]; show min k 2 = k; omega
  refine ⟨_, rfl, ⟨some ⟨w.heap.size, 0, none⟩, 2, by rw [el], by omega, ?_⟩, hl⟩
  · rw [e]; exact hb.rd_take hb.lt k
set_option maxHeartbeats 1000000 in
theorem rnat_any (n h x : Nat) (w : World) (hh : Hid (n / 4294967296 = h)) (hl : h < 4294967296) (hx : Hid (n % 4294967296 = x)) (hxl : x < 4294967296) :
    Calls Tryd.prog 92 #[.int .u64 (n : Int)] w (Gives1 w n) := by
  have e1 : (n : Int) / 4294967296 = (h : Int) := by have := hh.out; omega
  have e2 : (n : Int) % 4294967296 = (x : Int) := by have := hx.out; omega
  have hv : Hid (val [x, h] = n) := by
    show val _ = n
    rw [val_cons, val_cons, val_nil]; have := hh.out; have := hx.out; omega
  have hw : Hid (Wf [x, h]) := wf_two hxl hl
  have HB := Lib.hid (bk_two w (X := (x : Int)) (Y := (h : Int)) (x := x) (y := h) rfl rfl)
  have HBL := Lib.hid ((Below.refl w.heap.size w).alloc (Nat.le_refl _) (.cells #[.int .u32 (x : Int), .int .u32 (h : Int)] 75))
  go_enter Tryd.func92, Tryd.ntmps92
  go_wp2
  go_loop [3] (fun v => ∃ k : Nat, k ≤ 2 ∧ v = .slice (some ⟨w.heap.size, 0, none⟩) k 2 ∧ Hid (Cut [x, h] k)) (fun v => lenOf v)
  case atStart => exact ⟨2, Nat.le_refl _, rfl, Cut.all [x, h]⟩
  case round =>
    obtain ⟨k, hk, rfl, hcut⟩ := hrel
    by_cases hp : 0 < k
    · have hcell := HB.out.cell (i := k - 1) (by show k - 1 < 2; omega)
      by_cases hz : nth [x, h] (k - 1) = 0
      · have HZ : Hid (nth [x, h] (k - 1) = 0) := hz
        have hb : ((nth [x, h] (k - 1) : Int) == 0) = true := by simp [hz]
        clear hz
        go_wp2
        go_round
        case rel => exact ⟨k - 1, by omega, by go_num, hcut.out.step hp HZ.out⟩
        case measure => show k - 1 < k; omega
      · have HZ : Hid (¬ nth [x, h] (k - 1) = 0) := hz
        have hb : ((nth [x, h] (k - 1) : Int) == 0) = false := beq_eq_false_iff_ne.2 (by omega)
        clear hz
        go_wp2
        go_ret
        have e := hcut.out.dg hw.out (.inr HZ.out)
        exact rnat_end hk hv.out e HB.out HBL.out
    · go_wp2
      go_ret
      have e := hcut.out.dg hw.out (.inl (by omega))
      exact rnat_end hk hv.out e HB.out HBL.out
theorem rnat_64 (n : Nat) (w : World) (hn : n < 18446744073709551616) : Calls Tryd.prog 92 #[.int .u64 (n : Int)] w (Gives1 w n) :=
  rnat_any n _ _ w rfl (by omega) rfl (by omega)
end Go.Proofs.YtefepaackdhiiaaDoor.Nn
namespace Go.Proofs.YtefepaackdhiiaaDoor
open Go.RowKit Dg St
set_option linter.unusedVariables false
set_option linter.unusedSimpArgs false
attribute [local go_sem ↓] Go.wp_at_zero Go.wp_at_succ
set_option maxHeartbeats 4000000 in
set_option maxRecDepth 100000 in
theorem lsame_nat {w : World} {u v : Value} {N : Nat} (hu : Nn.Num w u N) (hv : Nn.Num w v N) (hl : (Nn.Nt.dg N).length ≤ 1000) :
    Calls Tryd.prog 45 #[u, v] w fun e w' => e = .returned (.bool true) ∧ Below w.heap.size w w' := by
  obtain ⟨A, c, rfl, hc, hA⟩ := hu
  obtain ⟨A', c', rfl, hc', hA'⟩ := hv
  generalize Nn.Nt.dg N = L at *
  have HA := Lib.hid hA
  have HA' := Lib.hid hA'
  clear hA hA'
  obtain ⟨n, hn⟩ : ∃ n, L.length = n := ⟨_, rfl⟩
  rw [hn] at hl hc hc' ⊢
  have HN := Lib.hid hn
  clear hn
  have R0 := Below.refl w.heap.size w
  have hnn : ((n : Int) != (n : Int)) = false := by simp
  go_enter Tryd.func45, Tryd.ntmps45
  go_wp2
  go_loopw [5] (fun i wr => ∃ (k q : Nat), k ≤ n ∧ i = .int .i64 (k : Int) ∧ wr = w.drewN q) (fun i _ => n - (intOf i).toNat)
  case atStart => exact ⟨0, 0, Nat.zero_le _, rfl, rfl⟩
  case round =>
    obtain ⟨k, q, hk, rfl, rfl⟩ := hrel
    by_cases hlt : k < n
    · obtain ⟨g, o, rfl, _, c0⟩ := HA.out (by rw [HN.out]; omega)
      obtain ⟨g', o', rfl, _, c1⟩ := HA'.out (by rw [HN.out]; omega)
      have c0 := c0 k (by rw [HN.out]; exact hlt)
      have c1 := c1 k (by rw [HN.out]; exact hlt)
      generalize Nn.nth L k = z at c0 c1
      have i1 : (0 : Int) ≤ (k : Int) := by omega
      have i2 : (k : Int) < (n : Int) := by omega
      have hzz : ((z : Int) != (z : Int)) = false := by simp
      go_wp2
      go_quiet (fail)
      go_wp2
      go_roundw
      case rel => exact ⟨k + 1, _, by omega, by go_num, by first | rfl | exact World.drewN_drewN _ _ _⟩
      case measure => simp [intOf]; omega
    · obtain rfl : k = n := by omega
      go_wp2
      go_ret
      exact ⟨rfl, below_drewN R0 _⟩
end Go.Proofs.YtefepaackdhiiaaDoor
namespace Go.Proofs.YtefepaackdhiiaaDoor
namespace St
open Dg
structure RcI (M : List Br) (n k : Nat) (C : List Nat) : Prop where
  len : C.length = k
  eq : ∀ i, i < k → C.getD i 0 * 2 ^ bv M i = cnt n (Den M (i + 2))
def sideV (M : List Br) (C : List Nat) (n x frm : Nat) : Nat := if x < 2 then x * 2 ^ (n - frm) else C.getD (x - 2) 0 * 2 ^ (bv M (x - 2) - frm)
theorem sideV_eq {M : List Br} {n k : Nat} {C : List Nat} (h : RcI M n k C) {x frm : Nat} (hx : x < k + 2) (hf : frm ≤ n) (hl : frm ≤ lev M x) : sideV M C n x frm * 2 ^ frm = cnt n (Den M x) := by
  unfold sideV
  by_cases h2 : x < 2
  · rw [if_pos h2, Nat.mul_assoc, ← Nat.pow_add, Nat.sub_add_cancel hf]
    rcases (show x = 0 ∨ x = 1 by omega) with rfl | rfl
    · rw [Den_zero, cnt_const]; simp
    · rw [Den_one, cnt_const]; simp
  · rw [if_neg h2]
    have e := h.eq (x - 2) (by omega)
    unfold lev at hl
    rw [if_neg h2] at hl
    rw [Nat.mul_assoc, ← Nat.pow_add, Nat.sub_add_cancel hl, e, Nat.sub_add_cancel (by omega)]
theorem RcI.nil (M : List Br) (n : Nat) : RcI M n 0 [] := ⟨rfl, fun i hi => by omega⟩
theorem RcI.next {M : List Br} {n k : Nat} {C : List Nat} (h : RcI M n k C) (ho : Ord M) (hk : k < M.length) (hv : bv M k < n) :
    RcI M n (k + 1) (C ++ [sideV M C n (bl M k) (bv M k + 1) + sideV M C n (bh M k) (bv M k + 1)]) := by
  obtain ⟨_, hl, hh, hvl, hvh⟩ := ho k hk
  have e0 := sideV_eq h (x := bl M k) hl (frm := bv M k + 1) (by omega) (by omega)
  have e1 := sideV_eq h (x := bh M k) hh (frm := bv M k + 1) (by omega) (by omega)
  have es := cnt_step ho hk hv
  generalize sideV M C n (bl M k) (bv M k + 1) = s0 at *
  generalize sideV M C n (bh M k) (bv M k + 1) = s1 at *
  refine ⟨by rw [List.length_append, h.len]; rfl, fun i hi => ?_⟩
  by_cases hik : i < k
  · rw [← h.eq i hik, List.getD_eq_getElem?_getD, List.getD_eq_getElem?_getD, List.getElem?_append_left (by rw [h.len]; exact hik)]
  · obtain rfl : i = k := by omega
    rw [List.getD_eq_getElem?_getD, List.getElem?_append_right (by rw [h.len]; exact Nat.le_refl _), h.len, Nat.sub_self]
    show (s0 + s1) * 2 ^ bv M i = _
    rw [es.1]
    rw [Nat.pow_succ] at e0 e1
    have a0 : s0 * 2 ^ bv M i * 2 = cnt n (Den M (bl M i)) := by rw [← e0, Nat.mul_assoc]
    have a1 : s1 * 2 ^ bv M i * 2 = cnt n (Den M (bh M i)) := by rw [← e1, Nat.mul_assoc]
    rw [Nat.add_mul]
    omega
theorem RcI.lt {M : List Br} {n k : Nat} {C : List Nat} (h : RcI M n k C) (hg : Dg.Good M) (hkm : k ≤ M.length) (hn : n ≤ 64) {i : Nat} (hi : i < k) : C.getD i 0 < 2 ^ 64 := by
  have e := h.eq i hi
  have b := cnt_lt hg (k := i) (d := n) (by omega) hn
  have p : 1 ≤ 2 ^ bv M i := Nat.one_le_two_pow
  have := Nat.mul_le_mul_left (C.getD i 0) p
  omega
theorem sideV_lt {M : List Br} {n k : Nat} {C : List Nat} (h : RcI M n k C) (hg : Dg.Good M) (hkm : k ≤ M.length) (hn : n ≤ 64) {x frm : Nat} (hx : x < k + 2) (hf : frm ≤ n) (hl : frm ≤ lev M x) (h1 : x = 1 → 1 ≤ frm) : sideV M C n x frm < 2 ^ 64 := by
  have e := sideV_eq h hx hf hl
  have p : 1 ≤ 2 ^ frm := Nat.one_le_two_pow
  have q := Nat.mul_le_mul_left (sideV M C n x frm) p
  by_cases h2 : x < 2
  · rcases (show x = 0 ∨ x = 1 by omega) with rfl | rfl
    · unfold sideV; rw [if_pos (by omega)]; simp
    · unfold sideV
      rw [if_pos (by omega), Nat.one_mul]
      exact Nat.pow_lt_pow_right (by omega) (by have := h1 rfl; omega)
  · have b := cnt_lt hg (k := x - 2) (d := n) (by omega) hn
    rw [Nat.sub_add_cancel (by omega)] at b
    omega
end St
end Go.Proofs.YtefepaackdhiiaaDoor
namespace Go.Proofs.YtefepaackdhiiaaDoor
open Go.RowKit Dg St
set_option linter.unusedVariables false
set_option linter.unusedSimpArgs false
attribute [local go_sem ↓] Go.wp_at_zero Go.wp_at_succ
def u6s (l : List Nat) : List Value := l.map fun x : Nat => Value.int .u64 ((x : Nat) : Int)
theorem u6s_at {L : List Nat} {j : Nat} (h : j < L.length) : (u6s L)[j]? = some (.int .u64 ((L.getD j 0 : Nat) : Int)) := by
  unfold u6s
  rw [List.getElem?_map, List.getElem?_eq_getElem h, List.getD_eq_getElem?_getD, List.getElem?_eq_getElem h]
  rfl
theorem u6s_snoc (L : List Nat) (r : Nat) : u6s (L ++ [r]) = u6s L ++ [.int .u64 ((r : Nat) : Int)] := by unfold u6s; rw [List.map_append]; rfl
theorem shl_any {X s : Nat} (h : X * 2 ^ s < 2 ^ 64) : IntKind.u64.wrap ((X : Int) * (2 : Int) ^ s) = ((X * 2 ^ s : Nat) : Int) := by
  have e : ((X : Int) * (2 : Int) ^ s) = ((X * 2 ^ s : Nat) : Int) := by push_cast; rfl
  rw [e, IntKind.wrap_u64]
  generalize X * 2 ^ s = q at *
  omega
set_option maxHeartbeats 2000000 in
set_option maxRecDepth 100000 in
theorem rside_low (A : Option Addr) (m c r : Nat) (u : Value) (n x s frm : Nat) (w : World) (hx : x < 2) (hs : n = s + frm) (hn : n ≤ 64) (hl : x * 2 ^ s < 2 ^ 64) :
    Calls Tryd.prog 93 #[.agg #[.slice A m c, .int .i64 (r : Int)], u, .int .i64 (x : Int), .int .i64 (n : Int), .int .i64 (frm : Int)] w fun e w' => e = .returned (.int .u64 ((x * 2 ^ s : Nat) : Int)) ∧ Below w.heap.size w w' := by
  have hb := Lib.hid (ab2 w (.cells #[.slice A m c, .int .i64 (r : Int)] 24))
  have hx2 : (x : Int) < 2 := by omega
  have hxu : IntKind.u64.wrap (x : Int) = (x : Int) := by rw [IntKind.wrap_u64]; omega
  have hsu : (n : Int) - (frm : Int) = (s : Int) := by omega
  have hsw : IntKind.u64.wrap (s : Int) = (s : Int) := by rw [IntKind.wrap_u64]; omega
  have hsh := shl_any hl
  go_enter Tryd.func93, Tryd.ntmps93
  go_wp2
  go_ret
  exact ⟨by push_cast; rfl, hb.out⟩
set_option maxHeartbeats 2000000 in
set_option maxRecDepth 100000 in
theorem rside_high (A : Option Addr) (m c r k : Nat) (base : Nat) (u : Value) (n y s frm V N : Nat) (M : List Br) (C : List Nat) (w : World) (hrd : Hid (Rd w w.heap.size A (up M))) (hlen : Hid (M.length = m))
    (hu : Hid (w.ownsRow base 35 1 u k (u6s C))) (hcl : Hid (C.length = k)) (hy : y < k) (hym : y < m) (hm : m ≤ 100000) (hV : Hid (bv M y = V)) (hs : V = s + frm) (hv64 : V < 64) (hN : Hid (C.getD y 0 = N)) (hl : N * 2 ^ s < 2 ^ 64) :
    Calls Tryd.prog 93 #[.agg #[.slice A m c, .int .i64 (r : Int)], u, .int .i64 ((y + 2 : Nat) : Int), .int .i64 (n : Int), .int .i64 (frm : Int)] w fun e w' => e = .returned (.int .u64 ((N * 2 ^ s : Nat) : Int)) ∧ Below w.heap.size w w' := by
  obtain ⟨g, c', e, hg1, hg2⟩ := World.ownsRow.form hu.out (by omega)
  subst e
  have e1 := (hu.out.cellAt y (by omega)).trans (u6s_at (by rw [hcl.out]; exact hy))
  rw [hN.out] at e1
  have hb := Lib.hid (ab2 w (.cells #[.slice A m c, .int .i64 (r : Int)] 24))
  have X0 := nb2 w (.slice A m c) (.int .i64 (r : Int)) 24
  obtain ⟨b', o', e, hb', hc⟩ := hrd.out (by rw [up_len, hlen.out]; omega)
  subst e
  obtain ⟨d0, _, _⟩ := hc y (by rw [up_len, hlen.out]; exact hym)
  rw [iv_up, hV.out] at d0
  have i0 : ¬ (y : Int) + 2 < 2 := by omega
  have i1 : (0 : Int) ≤ (y : Int) := by omega
  have i2 : (y : Int) < (m : Int) := by omega
  have i3 : (y : Int) < (k : Int) := by omega
  have i4 : (y : Int) + 2 - 2 = (y : Int) := by omega
  have hsu : (V : Int) - (frm : Int) = (s : Int) := by omega
  have hsw : IntKind.u64.wrap (s : Int) = (s : Int) := by rw [IntKind.wrap_u64]; omega
  have hsh := shl_any hl
  have hLn : ¬ g = w.heap.size := by omega
  have hbn : ¬ b' = w.heap.size := by omega
  clear hc
  go_enter Tryd.func93, Tryd.ntmps93
  obtain ⟨x0, x1, xn⟩ := xb2 X0
  go_wp2
  go_quiet (fail)
  go_wp2
  go_ret
  exact ⟨by push_cast; rfl, below_drewN hb.out _⟩
theorem rside_any (A : Option Addr) (m c r k base : Nat) (u : Value) (n x frm : Nat) (M : List Br) (C : List Nat) (w : World) (hrd : Hid (Rd w w.heap.size A (up M))) (hlen : Hid (M.length = m))
    (hu : Hid (w.ownsRow base 35 1 u k (u6s C))) (hI : Hid (RcI M n k C)) (hg : Hid (Dg.Good M)) (hkm : k ≤ m) (hm : m ≤ 100000) (hn : n ≤ 64) (hx : Hid (x < k + 2)) (hf : Hid (frm ≤ n)) (hl : Hid (frm ≤ lev M x)) (h1 : Hid (x = 1 → 1 ≤ frm)) :
    Calls Tryd.prog 93 #[.agg #[.slice A m c, .int .i64 (r : Int)], u, .int .i64 (x : Int), .int .i64 (n : Int), .int .i64 (frm : Int)] w fun e w' => e = .returned (.int .u64 ((sideV M C n x frm : Nat) : Int)) ∧ Below w.heap.size w w' := by
  have hlt := sideV_lt hI.out hg.out (by rw [hlen.out]; exact hkm) hn hx.out hf.out hl.out h1.out
  by_cases h2 : x < 2
  · unfold sideV at hlt ⊢
    rw [if_pos h2] at hlt ⊢
    exact rside_low A m c r u n x (n - frm) frm w h2 (by have := hf.out; omega) hn hlt
  · obtain ⟨y, rfl⟩ : ∃ y, x = y + 2 := ⟨x - 2, by omega⟩
    have hy : y < k := by have := hx.out; omega
    have hlv : frm ≤ bv M y := by have := hl.out; unfold lev at this; rw [if_neg h2] at this; exact this
    have hv64 := (hg.out.ord y (by rw [hlen.out]; omega)).1
    unfold sideV at hlt ⊢
    rw [if_neg h2] at hlt ⊢
    exact rside_high A m c r k base u n y (bv M y - frm) frm (bv M y) (C.getD y 0) M C w hrd hlen hu hI.out.len hy (by omega) hm rfl (by omega) hv64 rfl hlt
end Go.Proofs.YtefepaackdhiiaaDoor
namespace Go.Proofs.YtefepaackdhiiaaDoor
open Go.RowKit Dg St
set_option linter.unusedVariables false
set_option linter.unusedSimpArgs false
attribute [local go_sem ↓] Go.wp_at_zero Go.wp_at_succ
set_option maxHeartbeats 2000000 in
set_option maxRecDepth 100000 in
theorem rcount_bad (a : Value) (A : Option Addr) (m c : Nat) (r d E : Int) (w : World) (hE : E ≠ 0) (hck : Hid (∀ W, Below w.heap.size w W → Calls Tryd.prog 23 #[.agg #[.slice A m c, .int .i64 r]] W fun e w' => e = .returned (.int .i64 E) ∧ Below W.heap.size W w')) :
    Calls Tryd.prog 40 #[.agg #[.slice A m c, .int .i64 r], .int .i64 d] w fun e w' => e = .returned (.tuple #[.slice none 0 0, .int .i64 E]) ∧ Below w.heap.size w w' := by
  have X0 := nb2 w (.slice A m c) (.int .i64 r) 24
  have HB0 := Lib.hid (ab2 w (.cells #[.slice A m c, .int .i64 r] 24))
  have hE0 : (E != 0) = true := bne_iff_ne.2 hE
  go_enter Tryd.func40, Tryd.ntmps40
  obtain ⟨x0, x1, xn⟩ := xb2 X0
  go_wp2_with fail
  generalize w.alloc (.cells #[.slice A m c, .int .i64 r] 24) = w1 at *
  with_reducible refine (hck.out w1 HB0.out).mono ?_
  rintro e w3 ⟨rfl, b3⟩
  have HB3 := btr HB0 b3 HB0.out.size
  go_wp2_with fail
  go_ret2
  exact ⟨rfl, HB3.out⟩
set_option maxHeartbeats 2000000 in
set_option maxRecDepth 100000 in
theorem rcount_out (A : Option Addr) (m c : Nat) (r d : Int) (w : World) (hd : d < 0 ∨ 64 < d) (hck : Hid (∀ W, Below w.heap.size w W → Calls Tryd.prog 23 #[.agg #[.slice A m c, .int .i64 r]] W fun e w' => e = .returned (.int .i64 0) ∧ Below W.heap.size W w')) :
    Calls Tryd.prog 40 #[.agg #[.slice A m c, .int .i64 r], .int .i64 d] w fun e w' => e = .returned (.tuple #[.slice none 0 0, .int .i64 1]) ∧ Below w.heap.size w w' := by
  have X0 := nb2 w (.slice A m c) (.int .i64 r) 24
  have HB0 := Lib.hid (ab2 w (.cells #[.slice A m c, .int .i64 r] 24))
  rcases Int.lt_or_le d 0 with h0 | h0
  · have h1 : decide (d < 0) = true := decide_eq_true h0
    go_enter Tryd.func40, Tryd.ntmps40
    obtain ⟨x0, x1, xn⟩ := xb2 X0
    go_wp2_with fail
    generalize w.alloc (.cells #[.slice A m c, .int .i64 r] 24) = w1 at *
    with_reducible refine (hck.out w1 HB0.out).mono ?_
    rintro e w3 ⟨rfl, b3⟩
    have HB3 := btr HB0 b3 HB0.out.size
    go_wp2_with fail
    go_ret2
    exact ⟨rfl, HB3.out⟩
  · have h2 : decide (d < 0) = false := decide_eq_false (by omega)
    have h3 : decide (64 < d) = true := decide_eq_true (by omega)
    have h4 : 64 < d := by omega
    go_enter Tryd.func40, Tryd.ntmps40
    obtain ⟨x0, x1, xn⟩ := xb2 X0
    go_wp2_with fail
    generalize w.alloc (.cells #[.slice A m c, .int .i64 r] 24) = w1 at *
    with_reducible refine (hck.out w1 HB0.out).mono ?_
    rintro e w3 ⟨rfl, b3⟩
    have HB3 := btr HB0 b3 HB0.out.size
    go_wp2_with fail
    go_ret2
    exact ⟨rfl, HB3.out⟩
set_option maxHeartbeats 2000000 in
set_option maxRecDepth 100000 in
theorem rcount_few (A : Option Addr) (m c d : Nat) (r : Int) (M : List Br) (w : World) (hrd : Hid (Rd w w.heap.size A (up M))) (hlen : Hid (M.length = m)) (hm : m ≤ 100000) (hd : d ≤ 64) (hbv : Hid (∃ k, k < m ∧ d ≤ bv M k)) (hck : Hid (∀ W, Below w.heap.size w W → Calls Tryd.prog 23 #[.agg #[.slice A m c, .int .i64 r]] W fun e w' => e = .returned (.int .i64 0) ∧ Below W.heap.size W w')) :
    Calls Tryd.prog 40 #[.agg #[.slice A m c, .int .i64 r], .int .i64 (d : Int)] w fun e w' => e = .returned (.tuple #[.slice none 0 0, .int .i64 1]) ∧ Below w.heap.size w w' := by
  have X0 := nb2 w (.slice A m c) (.int .i64 r) 24
  have HB0 := Lib.hid (ab2 w (.cells #[.slice A m c, .int .i64 r] 24))
  have h2 : ¬ (d : Int) < 0 := by omega
  have h4 : ¬ (64 : Int) < (d : Int) := by omega
  go_enter Tryd.func40, Tryd.ntmps40
  obtain ⟨x0, x1, xn⟩ := xb2 X0
  go_wp2_with fail
  generalize w.alloc (.cells #[.slice A m c, .int .i64 r] 24) = w1 at *
  with_reducible refine (hck.out w1 HB0.out).mono ?_
  rintro e w3 ⟨rfl, b3⟩
  have X3 := rb2 X0 b3
  have HB3 := btr HB0 b3 HB0.out.size
  clear b3 x0 x1 xn X0 HB0 hck
  obtain ⟨x0, x1, xn⟩ := xb2 X3
  have RD3 := Lib.hid ((hrd.out.below HB3.out).mono HB3.out.size)
  clear hrd
  go_wp2_with fail
  go_loopw [7] (fun i wr => ∃ k : Nat, k ≤ m ∧ i = .int .i64 (k : Int) ∧ wr = w3 ∧ Hid (∀ j, j < k → bv M j < d)) (fun i _ => m - (intOf i).toNat)
  case atStart => exact ⟨0, Nat.zero_le _, rfl, rfl, fun j hj => absurd hj (by omega)⟩
  case round =>
    obtain ⟨k, hk, rfl, rfl, hfew⟩ := hrel
    by_cases hlt' : k < m
    · obtain ⟨b', o', e, hb, hc⟩ := RD3.out (by rw [up_len, hlen.out]; omega)
      subst e
      obtain ⟨d0, _, _⟩ := hc k (by rw [up_len, hlen.out]; exact hlt')
      rw [iv_up] at d0
      have i1 : (0 : Int) ≤ (k : Int) := by omega
      have i2 : (k : Int) < (m : Int) := by omega
      have HNX : Hid (bv M k < d → ∀ j, j < k + 1 → bv M j < d) := fun h j hj => by
        by_cases e : j < k
        · exact hfew.out j e
        · obtain rfl : j = k := by omega
          exact h
      clear hc
      generalize bv M k = V at *
      by_cases q : d ≤ V
      · have hge3 : (d : Int) ≤ (V : Int) := by omega
        go_wp2
        go_ret2
        exact ⟨rfl, HB3.out⟩
      · have hge3 : ¬ (d : Int) ≤ (V : Int) := by omega
        have HN := Lib.hid (HNX.out (by omega))
        go_wp2
        go_roundw
        case rel => exact ⟨k + 1, by omega, by go_num, by first | rfl | trivial, HN⟩
        case measure => simp [intOf]; omega
    · exfalso
      obtain ⟨j, hj, hd⟩ := hbv.out
      have := hfew.out j (by omega)
      omega
theorem dg_p64 : Nn.Nt.dg 18446744073709551616 = [0, 0, 1] := by
  have := Nn.Nt.dg_cut (l := [0, 0, 1]) (n := 3) (Nn.Nt.wf_cons.2 ⟨by omega, Nn.wf_two (by omega) (by omega)⟩) (Nat.le_refl _) (fun i h1 h2 => by have h3 : i < 3 := h2; omega) (.inr (by decide))
  rw [← show Nn.Nt.val [0, 0, 1] = 18446744073709551616 from rfl]
  exact this
set_option maxHeartbeats 2000000 in
set_option maxRecDepth 100000 in
theorem rcount_64 (A : Option Addr) (c r d : Nat) (w : World) (hr : Hid (r = 1)) (hd : Hid (d = 64)) (hck : Hid (∀ W, Below w.heap.size w W → Calls Tryd.prog 23 #[.agg #[.slice A 0 c, .int .i64 (r : Int)]] W fun e w' => e = .returned (.int .i64 0) ∧ Below W.heap.size W w')) :
    Calls Tryd.prog 40 #[.agg #[.slice A 0 c, .int .i64 (r : Int)], .int .i64 (d : Int)] w (fun e w' => CtOk w w' 18446744073709551616 e) := by
  have X0 := nb2 w (.slice A 0 c) (.int .i64 (r : Int)) 24
  have HB0 := Lib.hid (ab2 w (.cells #[.slice A 0 c, .int .i64 (r : Int)] 24))
  have hd64 : d ≤ 64 := by have := hd.out; omega
  have h2 : ¬ (d : Int) < 0 := by omega
  have h4 : ¬ (64 : Int) < (d : Int) := by omega
  have q1 : ((r : Int) == 1) = true := by rw [hr.out]; rfl
  have q2 : ((d : Int) == 64) = true := by rw [hd.out]; rfl
  go_enter Tryd.func40, Tryd.ntmps40
  obtain ⟨x0, x1, xn⟩ := xb2 X0
  go_wp2_with fail
  generalize w.alloc (.cells #[.slice A 0 c, .int .i64 (r : Int)] 24) = w1 at *
  with_reducible refine (hck.out w1 HB0.out).mono ?_
  rintro e w3 ⟨rfl, b3⟩
  have X3 := rb2 X0 b3
  have HB3 := btr HB0 b3 HB0.out.size
  clear b3 x0 x1 xn X0 HB0 hck
  obtain ⟨x0, x1, xn⟩ := xb2 X3
  go_wp2_with fail
  go_rounds 1
  have HB4 := Lib.hid (HB3.out.trans ((ab2 w3 (.cells #[.int .u32 0, .int .u32 0, .int .u32 1] 75)).mono HB3.out.size))
  have HK : Hid (Nn.Bk (w3.alloc (.cells #[.int .u32 0, .int .u32 0, .int .u32 1] 75)) w3.heap.size [0, 0, 1]) := by
    show Nn.Bk _ _ _
    unfold Nn.Bk
    rw [heap_alloc_new]
    rfl
  go_wp2
  go_ret2
  refine ⟨⟨_, rfl, ?_⟩, HB4.out⟩
  have := Nn.Num.bk (g := w3.heap.size) (N := 18446744073709551616) (by rw [dg_p64]; exact HK.out)
  rw [dg_p64] at this
  exact this
set_option maxHeartbeats 2000000 in
set_option maxRecDepth 100000 in
theorem rcount_c0 (A : Option Addr) (c r d : Nat) (w : World) (hr : r < 2) (hd64 : d ≤ 64) (hno : Hid (r ≠ 1)) (hlt : r * 2 ^ d < 2 ^ 64) (hck : Hid (∀ W, Below w.heap.size w W → Calls Tryd.prog 23 #[.agg #[.slice A 0 c, .int .i64 (r : Int)]] W fun e w' => e = .returned (.int .i64 0) ∧ Below W.heap.size W w')) :
    Calls Tryd.prog 40 #[.agg #[.slice A 0 c, .int .i64 (r : Int)], .int .i64 (d : Int)] w (fun e w' => CtOk w w' (r * 2 ^ d) e) := by
  have X0 := nb2 w (.slice A 0 c) (.int .i64 (r : Int)) 24
  have HB0 := Lib.hid (ab2 w (.cells #[.slice A 0 c, .int .i64 (r : Int)] 24))
  have h2 : ¬ (d : Int) < 0 := by omega
  have h4 : ¬ (64 : Int) < (d : Int) := by omega
  have hr2 : (r : Int) < 2 := by omega
  have hwd : IntKind.u64.wrap (d : Int) = (d : Int) := by rw [IntKind.wrap_u64]; omega
  have hwr : IntKind.u64.wrap (r : Int) = (r : Int) := by rw [IntKind.wrap_u64]; omega
  have hsh := shl_any hlt
  have q1 : ((r : Int) == 1) = false := beq_eq_false_iff_ne.2 (by have := hno.out; omega)
  have HOF : Hid (∀ W : World, Calls Tryd.prog 92 #[.int .u64 ((r : Int) * 2 ^ d)] W (Nn.Gives1 W (r * 2 ^ d))) := fun W => by
    rw [show ((r : Int) * 2 ^ d) = ((r * 2 ^ d : Nat) : Int) by push_cast; rfl]
    exact Nn.rnat_64 _ W hlt
  go_enter Tryd.func40, Tryd.ntmps40
  obtain ⟨x0, x1, xn⟩ := xb2 X0
  go_wp2_with fail
  generalize w.alloc (.cells #[.slice A 0 c, .int .i64 (r : Int)] 24) = w1 at *
  with_reducible refine (hck.out w1 HB0.out).mono ?_
  rintro e w3 ⟨rfl, b3⟩
  have X3 := rb2 X0 b3
  have HB3 := btr HB0 b3 HB0.out.size
  clear b3 x0 x1 xn X0 HB0 hck
  obtain ⟨x0, x1, xn⟩ := xb2 X3
  go_wp2_with fail
  refine wp_loop_rounds 1 ?_
  rw [rounds_succ]
  go_wp2_with (first
    | (go_at_call 92; refine (HOF.out w3).mono ?_; rintro e w4 ⟨v, rfl, hv, b4⟩; have HB4 := btr HB3 b4 HB3.out.size; have HV := Lib.hid hv; clear hv b4))
  go_ret2
  exact ⟨⟨v, rfl, HV.out⟩, HB4.out⟩
set_option maxHeartbeats 2000000 in
set_option maxRecDepth 100000 in
theorem rcount_c1 (A : Option Addr) (c r d : Nat) (w : World) (hr : r < 2) (hd64 : d ≤ 64) (hno : Hid (r = 1 ∧ d ≠ 64)) (hlt : r * 2 ^ d < 2 ^ 64) (hck : Hid (∀ W, Below w.heap.size w W → Calls Tryd.prog 23 #[.agg #[.slice A 0 c, .int .i64 (r : Int)]] W fun e w' => e = .returned (.int .i64 0) ∧ Below W.heap.size W w')) :
    Calls Tryd.prog 40 #[.agg #[.slice A 0 c, .int .i64 (r : Int)], .int .i64 (d : Int)] w (fun e w' => CtOk w w' (r * 2 ^ d) e) := by
  have X0 := nb2 w (.slice A 0 c) (.int .i64 (r : Int)) 24
  have HB0 := Lib.hid (ab2 w (.cells #[.slice A 0 c, .int .i64 (r : Int)] 24))
  have h2 : ¬ (d : Int) < 0 := by omega
  have h4 : ¬ (64 : Int) < (d : Int) := by omega
  have hr2 : (r : Int) < 2 := by omega
  have hwd : IntKind.u64.wrap (d : Int) = (d : Int) := by rw [IntKind.wrap_u64]; omega
  have hwr : IntKind.u64.wrap (r : Int) = (r : Int) := by rw [IntKind.wrap_u64]; omega
  have hsh := shl_any hlt
  have q1 : ((r : Int) == 1) = true := by rw [hno.out.1]; rfl
  have q2 : ((d : Int) == 64) = false := beq_eq_false_iff_ne.2 (by have := hno.out.2; omega)
  have HOF : Hid (∀ W : World, Calls Tryd.prog 92 #[.int .u64 ((r : Int) * 2 ^ d)] W (Nn.Gives1 W (r * 2 ^ d))) := fun W => by
    rw [show ((r : Int) * 2 ^ d) = ((r * 2 ^ d : Nat) : Int) by push_cast; rfl]
    exact Nn.rnat_64 _ W hlt
  go_enter Tryd.func40, Tryd.ntmps40
  obtain ⟨x0, x1, xn⟩ := xb2 X0
  go_wp2_with fail
  generalize w.alloc (.cells #[.slice A 0 c, .int .i64 (r : Int)] 24) = w1 at *
  with_reducible refine (hck.out w1 HB0.out).mono ?_
  rintro e w3 ⟨rfl, b3⟩
  have X3 := rb2 X0 b3
  have HB3 := btr HB0 b3 HB0.out.size
  clear b3 x0 x1 xn X0 HB0 hck
  obtain ⟨x0, x1, xn⟩ := xb2 X3
  go_wp2_with fail
  refine wp_loop_rounds 1 ?_
  rw [rounds_succ]
  go_wp2_with (first
    | (go_at_call 92; refine (HOF.out w3).mono ?_; rintro e w4 ⟨v, rfl, hv, b4⟩; have HB4 := btr HB3 b4 HB3.out.size; have HV := Lib.hid hv; clear hv b4))
  go_ret2
  exact ⟨⟨v, rfl, HV.out⟩, HB4.out⟩
end Go.Proofs.YtefepaackdhiiaaDoor
namespace Go.Proofs.YtefepaackdhiiaaDoor
open Go.RowKit Dg St
set_option linter.unusedVariables false
set_option linter.unusedSimpArgs false
def CtV (k d : Int) (f : Cfg → Bool) (N : Nat) (E : Int) : Prop :=
  (k ≠ 0 ∧ N = 0 ∧ E = 20) ∨ (k = 0 ∧ (d < 0 ∨ 64 < d) ∧ N = 0 ∧ E = 1) ∨
  (k = 0 ∧ (0 ≤ d ∧ d ≤ 64) ∧ (∃ j, j < (cn f).1.length ∧ d.toNat ≤ bv (cn f).1 j) ∧ N = 0 ∧ E = 1) ∨
  (k = 0 ∧ (0 ≤ d ∧ d ≤ 64) ∧ (∀ j, j < (cn f).1.length → bv (cn f).1 j < d.toNat) ∧ N = cnt d.toNat f ∧ E = 0)
theorem CtV.unique {k d : Int} {f : Cfg → Bool} {N N' : Nat} {E E' : Int} (h : CtV k d f N E) (h' : CtV k d f N' E') : N = N' ∧ E = E' := by
  rcases h with ⟨a, rfl, rfl⟩ | ⟨a, b, rfl, rfl⟩ | ⟨a, b, ⟨j, hj, c⟩, rfl, rfl⟩ | ⟨a, b, c, rfl, rfl⟩ <;>
  rcases h' with ⟨a', rfl, rfl⟩ | ⟨a', b', rfl, rfl⟩ | ⟨a', b', ⟨j', hj', c'⟩, rfl, rfl⟩ | ⟨a', b', c', rfl, rfl⟩ <;>
  first
    | exact ⟨rfl, rfl⟩
    | (exfalso; omega)
    | (exfalso; have := c' j hj; omega)
    | (exfalso; have := c j' hj'; omega)
def CtA (w w' : World) (k d : Int) (f : Cfg → Bool) (e : Ending) : Prop := (∃ (v : Value) (N : Nat) (E : Int), e = .returned (.tuple #[v, .int .i64 E]) ∧ Nn.Num w' v N ∧ CtV k d f N E) ∧ Below w.heap.size w w'
theorem cta_no {w w' : World} {k d E : Int} {f : Cfg → Bool} (h : CtV k d f 0 E) (hb : Below w.heap.size w w') : CtA w w' k d f (.returned (.tuple #[.slice none 0 0, .int .i64 E])) := ⟨⟨_, 0, E, rfl, Nn.Num.nil w', h⟩, hb⟩
theorem cta_yes {w w' : World} {k d : Int} {f : Cfg → Bool} {N : Nat} {e : Ending} (h : CtV k d f N 0) (hc : CtOk w w' N e) : CtA w w' k d f e := by
  obtain ⟨⟨v, rfl, hv⟩, hb⟩ := hc
  exact ⟨⟨v, N, 0, rfl, hv, h⟩, hb⟩
theorem dcount_any {w : World} {A0 : Option Addr} {m0 c0 : Nat} {l0 : List Bi} {r0 : Int} (d : Int) (h0 : Hid (DOk w (⟨A0, m0, c0, l0, r0⟩ : DA))) (q0 : m0 ≤ 40) :
    Calls Tryd.prog 39 #[.agg #[.slice A0 m0 c0, .int .i64 r0], .int .i64 d] w fun e w' => CtA w w' (chk l0 r0) d (dset l0 r0) e := by
  rcases chk_or (l := l0) (r := r0) (by have := h0.out.len; simp only at this; omega) with hk | hk
  rotate_left
  · rw [hk]
    refine (bad_count d (Lib.hid ⟨h0.out, hk⟩)).mono ?_
    rintro e w' ⟨rfl, hb⟩
    exact cta_no (.inl ⟨by decide, rfl, rfl⟩) hb
  · rw [hk]
    have D0 := Lib.hid (dn_dset h0.out hk)
    have e0 := chk_nat hk
    generalize dset l0 r0 = f0 at *
    generalize r0.toNat = n0 at *
    subst e0
    by_cases ho : d < 0 ∨ 64 < d
    · refine (count_out m0 c0 n0 d A0 f0 w D0 ho).mono ?_
      rintro e w' ⟨rfl, hb⟩
      exact cta_no (.inr (.inl ⟨rfl, ho, rfl, rfl⟩)) hb
    · obtain ⟨D, rfl⟩ : ∃ D : Nat, d = (D : Int) := ⟨d.toNat, by omega⟩
      have hd : D ≤ 64 := by omega
      have hlen : (cn f0).1.length = m0 := D0.out.len
      by_cases hf : ∃ j, j < m0 ∧ D ≤ bv (cn f0).1 j
      · refine (count_few m0 c0 n0 D A0 f0 w D0 hd hf).mono ?_
        rintro e w' ⟨rfl, hb⟩
        exact cta_no (.inr (.inr (.inl ⟨rfl, by omega, by rw [hlen]; exact hf, rfl, rfl⟩))) hb
      · have hall : ∀ j, j < m0 → bv (cn f0).1 j < D := fun j hj => by
          rcases Nat.lt_or_ge (bv (cn f0).1 j) D with h | h
          · exact h
          · exact absurd ⟨j, hj, h⟩ hf
        have V : CtV 0 (D : Int) f0 (cnt D f0) 0 := .inr (.inr (.inr ⟨rfl, by omega, by rw [hlen]; exact hall, rfl, rfl⟩))
        by_cases hm : m0 = 0
        · have hlt := D0.out.lt
          rcases (show n0 = 0 ∨ n0 = 1 by omega) with h | h
          · exact (count_zero m0 c0 n0 D A0 f0 w D0 hd h).mono fun e w' h => cta_yes V h
          · exact (count_all m0 c0 n0 D A0 f0 w D0 hd h).mono fun e w' h => cta_yes V h
        · have h1 := hall 0 (by omega)
          exact (count_br m0 c0 n0 D A0 f0 w D0 hd (by omega) (by omega) hall).mono fun e w' h => cta_yes V h
end Go.Proofs.YtefepaackdhiiaaDoor
namespace Go.Proofs.YtefepaackdhiiaaDoor
open Go.RowKit Dg St
set_option linter.unusedVariables false
set_option linter.unusedSimpArgs false
def RcBr : Prop := ∀ (A : Option Addr) (m c d r : Nat) (M : List Br) (w : World), Hid (Rd w w.heap.size A (up M)) → Hid (M.length = m) → Hid (Dg.Good M) → m ≤ 4096 → d ≤ 64 → 2 ≤ r → r < m + 2 → Hid (∀ k, k < m → bv M k < d) →
  Hid (∀ W, Below w.heap.size w W → Calls Tryd.prog 23 #[.agg #[.slice A m c, .int .i64 (r : Int)]] W fun e w' => e = .returned (.int .i64 0) ∧ Below W.heap.size W w') →
  Calls Tryd.prog 40 #[.agg #[.slice A m c, .int .i64 (r : Int)], .int .i64 (d : Int)] w (fun e w' => CtOk w w' (cnt d (Den M r)) e)
theorem rcount_any (hbr : RcBr) {w : World} {A0 : Option Addr} {m0 c0 : Nat} {l0 : List Bi} {r0 : Int} (d : Int) (h0 : Hid (DOk w (⟨A0, m0, c0, l0, r0⟩ : DA))) (q0 : m0 ≤ 40) :
    Calls Tryd.prog 40 #[.agg #[.slice A0 m0 c0, .int .i64 r0], .int .i64 d] w fun e w' => CtA w w' (chk l0 r0) d (dset l0 r0) e := by
  have HF : Hid (∀ W, Below w.heap.size w W → Calls Tryd.prog 23 #[.agg #[.slice A0 m0 c0, .int .i64 r0]] W fun e w' => e = .returned (.int .i64 (chk l0 r0)) ∧ Below W.heap.size W w') := Lib.hid (fun W hW => rcheck_any l0 r0 m0 c0 A0 W (dkh h0 hW) (by omega))
  rcases chk_or (l := l0) (r := r0) (by have := h0.out.len; simp only at this; omega) with hk | hk
  rotate_left
  · rw [hk] at HF ⊢
    refine (rcount_bad (.int .i64 0) A0 m0 c0 r0 d 20 w (by decide) HF).mono ?_
    rintro e w' ⟨rfl, hb⟩
    exact cta_no (.inl ⟨by decide, rfl, rfl⟩) hb
  · rw [hk] at HF ⊢
    have D0 := Lib.hid (dn_dset h0.out hk)
    have e0 := chk_nat hk
    generalize dset l0 r0 = f0 at *
    generalize r0.toNat = n0 at *
    subst e0
    by_cases ho : d < 0 ∨ 64 < d
    · refine (rcount_out A0 m0 c0 (n0 : Int) d w ho HF).mono ?_
      rintro e w' ⟨rfl, hb⟩
      exact cta_no (.inr (.inl ⟨rfl, ho, rfl, rfl⟩)) hb
    · obtain ⟨D, rfl⟩ : ∃ D : Nat, d = (D : Int) := ⟨d.toNat, by omega⟩
      have hd : D ≤ 64 := by omega
      have hlen : (cn f0).1.length = m0 := D0.out.len
      have hden : Den (cn f0).1 n0 = f0 := D0.out.den
      by_cases hf : ∃ j, j < m0 ∧ D ≤ bv (cn f0).1 j
      · refine (rcount_few A0 m0 c0 D (n0 : Int) (cn f0).1 w D0.out.rd hlen (by omega) hd hf HF).mono ?_
        rintro e w' ⟨rfl, hb⟩
        exact cta_no (.inr (.inr (.inl ⟨rfl, by omega, by rw [hlen]; exact hf, rfl, rfl⟩))) hb
      · have hall : ∀ j, j < m0 → bv (cn f0).1 j < D := fun j hj => by
          rcases Nat.lt_or_ge (bv (cn f0).1 j) D with h | h
          · exact h
          · exact absurd ⟨j, hj, h⟩ hf
        have V : CtV 0 (D : Int) f0 (cnt D f0) 0 := .inr (.inr (.inr ⟨rfl, by omega, by rw [hlen]; exact hall, rfl, rfl⟩))
        have hlt := D0.out.lt
        by_cases hn : n0 < 2
        · have hm : m0 = 0 := by
            rcases D0.out.valid.root with ⟨e, _⟩ | ⟨_, e⟩
            · rw [e] at hlen; simp at hlen; omega
            · omega
          subst hm
          rcases (show n0 = 0 ∨ n0 = 1 by omega) with rfl | rfl
          · refine (rcount_c0 A0 c0 0 D w (by omega) hd (by show (0 : Nat) ≠ 1; omega) (by simp) HF).mono fun e w' h => cta_yes V ?_
            rw [← hden, Den_zero, cnt_const]
            simpa using h
          · have hv : cnt D f0 = 2 ^ D := by rw [← hden, Den_one, cnt_const]; simp
            by_cases h64 : D = 64
            · refine (rcount_64 A0 c0 1 D w rfl h64 HF).mono fun e w' h => cta_yes V ?_
              rw [hv, h64]; exact h
            · refine (rcount_c1 A0 c0 1 D w (by omega) hd ⟨rfl, h64⟩ (by rw [Nat.one_mul]; exact Nat.pow_lt_pow_right (by omega) (by omega)) HF).mono fun e w' h => cta_yes V ?_
              rw [hv]; rw [Nat.one_mul] at h; exact h
        · refine (hbr A0 m0 c0 D n0 (cn f0).1 w D0.out.rd hlen D0.out.valid.good (by omega) hd (by omega) hlt hall HF).mono fun e w' h => cta_yes V ?_
          rw [hden] at h; exact h
end Go.Proofs.YtefepaackdhiiaaDoor
namespace Go.Proofs.YtefepaackdhiiaaDoor
open Go.RowKit Dg St
set_option linter.unusedVariables false
set_option linter.unusedSimpArgs false
attribute [local go_sem ↓] Go.wp_at_zero Go.wp_at_succ
structure Cr (w3 wr : World) (u : Value) (M : List Br) (d k : Nat) (C : List Nat) : Prop where
  row : wr.ownsRow w3.heap.size 35 1 u k (u6s C)
  bel : Below w3.heap.size w3 wr
  rci : RcI M d k C
theorem Cr.step {w5 wr w6 w7 : World} {u : Value} {M : List Br} {d k s gn cap : Nat} {C : List Nat} (h : Cr w5 wr u M d k C) (hq : Below wr.heap.size wr w6) (hn : RcI M d (k + 1) (C ++ [s])) (x : Value) (hx : x = .int .u64 ((s : Nat) : Int))
    (hown : w7.ownsRow w5.heap.size 35 1 (.slice (some ⟨gn, 0, none⟩) (k + 1) cap) (k + 1) (u6s C ++ [x])) (hgrow : (w6.alloc (.cells #[x] 35)).grownBy w7 u.ownBlock) : Cr w5 w7 (.slice (some ⟨gn, 0, none⟩) (k + 1) cap) M d (k + 1) (C ++ [s]) := by
  subst hx
  have b0 := h.bel.trans (hq.mono h.bel.size)
  have hba := b0.alloc b0.size (.cells #[.int .u64 ((s : Nat) : Int)] 35)
  refine ⟨?_, hba.trans ((Chg.of_grown (S := fun q => u.ownBlock = some q) hgrow (fun q e => e)).below hba.size (fun q hq e => ?_)), hn⟩
  · rw [u6s_snoc]
    exact hown
  · have := (World.ownsRow.lt h.row q e).1
    omega
set_option maxHeartbeats 2000000 in
set_option maxRecDepth 100000 in
theorem rcount_br (A : Option Addr) (m c d r : Nat) (M : List Br) (w : World) (hrd : Hid (Rd w w.heap.size A (up M))) (hlen : Hid (M.length = m)) (hg : Hid (Dg.Good M)) (hm : m ≤ 4096) (hd : d ≤ 64) (hr2 : 2 ≤ r) (hrm : r < m + 2) (hbv : Hid (∀ k, k < m → bv M k < d)) (hck : Hid (∀ W, Below w.heap.size w W → Calls Tryd.prog 23 #[.agg #[.slice A m c, .int .i64 (r : Int)]] W fun e w' => e = .returned (.int .i64 0) ∧ Below W.heap.size W w')) :
    Calls Tryd.prog 40 #[.agg #[.slice A m c, .int .i64 (r : Int)], .int .i64 (d : Int)] w (fun e w' => CtOk w w' (cnt d (Den M r)) e) := by
  obtain ⟨i0, hi, hz0, hz1, hz2⟩ := info_parts Tryd.infoU64
  have X0 := nb2 w (.slice A m c) (.int .i64 (r : Int)) 24
  have HB0 := Lib.hid (ab2 w (.cells #[.slice A m c, .int .i64 (r : Int)] 24))
  have h2 : ¬ (d : Int) < 0 := by omega
  have h4 : ¬ (64 : Int) < (d : Int) := by omega
  have q1 : ((r : Int) == 1) = false := beq_eq_false_iff_ne.2 (by omega)
  have q2 : ¬ (r : Int) < 2 := by omega
  go_enter Tryd.func40, Tryd.ntmps40
  obtain ⟨x0, x1, xn⟩ := xb2 X0
  go_wp2_with fail
  generalize w.alloc (.cells #[.slice A m c, .int .i64 (r : Int)] 24) = w1 at *
  with_reducible refine (hck.out w1 HB0.out).mono ?_
  rintro e w3 ⟨rfl, b3⟩
  have X3 := rb2 X0 b3
  have HB3 := btr HB0 b3 HB0.out.size
  clear b3 x0 x1 xn X0 HB0 hck
  obtain ⟨x0, x1, xn⟩ := xb2 X3
  have RD3 := Lib.hid ((hrd.out.below HB3.out).mono HB3.out.size)
  clear hrd
  go_wp2_with fail
  go_loopw [7] (fun i wr => ∃ k : Nat, k ≤ m ∧ i = .int .i64 (k : Int) ∧ wr = w3) (fun i _ => m - (intOf i).toNat)
  case atStart => exact ⟨0, Nat.zero_le _, rfl, rfl⟩
  case round =>
    obtain ⟨k, hk, rfl, rfl⟩ := hrel
    by_cases hlt' : k < m
    · obtain ⟨b', o', e, hb, hc⟩ := RD3.out (by rw [up_len, hlen.out]; omega)
      subst e
      obtain ⟨d0, _, _⟩ := hc k (by rw [up_len, hlen.out]; exact hlt')
      rw [iv_up] at d0
      have i1 : (0 : Int) ≤ (k : Int) := by omega
      have i2 : (k : Int) < (m : Int) := by omega
      have q := hbv.out k hlt'
      clear hc
      generalize bv M k = V at *
      have hge3 : ¬ (d : Int) ≤ (V : Int) := by omega
      go_wp2
      go_roundw
      case rel => exact ⟨k + 1, by omega, by go_num, by first | rfl | trivial⟩
      case measure => simp [intOf]; omega
    · obtain rfl : m = k := by omega
      go_wp2_with fail
      obtain ⟨w5, hw5⟩ : ∃ x, x = wr := ⟨_, rfl⟩
      subst hw5
      have F0 : Hid (Cr w5 (w5.alloc (.cells #[] 35)) (.slice (some ⟨w5.heap.size, 0, none⟩) 0 0) M d 0 []) := Lib.hid ⟨⟨rfl, .inr ⟨w5.heap.size, 0, #[], rfl, Nat.le_refl _, heap_alloc_new w5 _, Nat.le_refl _, by simp [maxLen], rfl, rfl⟩⟩, ab2 w5 _, RcI.nil M d⟩
      generalize w5.alloc (.cells #[] 35) = w4 at *
      clear x0 x1
      go_loopw [8, 9] (fun u i wq => ∃ (k : Nat) (C : List Nat), k ≤ m ∧ i = .int .i64 (k : Int) ∧ Hid (Cr w5 wq u M d k C)) (fun _ i _ => m - (intOf i).toNat)
      case atStart => exact ⟨0, [], Nat.zero_le _, rfl, F0⟩
      case round =>
        clear F0
        obtain ⟨k, C, hk, rfl, hst⟩ := hrel
        have HB := Lib.hid (HB3.out.trans (hst.out.bel.mono HB3.out.size))
        have X4 := Lib.hid (X3.out.below (by omega) hst.out.bel)
        obtain ⟨x0, x1, xn'⟩ := xb2 X4
        by_cases hlt' : k < m
        · have hkM : k < M.length := by rw [hlen.out]; exact hlt'
          have RDq := Lib.hid ((RD3.out.below hst.out.bel).mono hst.out.bel.size)
          obtain ⟨o1, o2, o3, o4, o5⟩ := hg.out.ord k hkM
          have hVd := hbv.out k hlt'
          have hwr : IntKind.i64.wrap (((bv M k : Nat) : Int) + 1) = ((bv M k : Nat) : Int) + 1 := by rw [IntKind.wrap_i64]; omega
          have HC0 : Hid (∀ W, Below wr.heap.size wr W → Calls Tryd.prog 93 #[.agg #[.slice A m c, .int .i64 (r : Int)], u8, .int .i64 ((bl M k : Nat) : Int), .int .i64 (d : Int), .int .i64 (IntKind.i64.wrap (((bv M k : Nat) : Int) + 1))] W fun e w' => e = .returned (.int .u64 ((sideV M C d (bl M k) (bv M k + 1) : Nat) : Int)) ∧ Below W.heap.size W w') := fun W hW => by
            rw [hwr]
            exact rside_any A m c r k w5.heap.size u8 d (bl M k) (bv M k + 1) M C W ((RDq.out.below hW).mono hW.size) hlen (own_below hst.out.row hW) hst.out.rci hg hk (by omega) hd o2 (by show _ ≤ _; omega) (by show _ ≤ _; omega) (fun _ => by omega)
          have HC1 : Hid (∀ W, Below wr.heap.size wr W → Calls Tryd.prog 93 #[.agg #[.slice A m c, .int .i64 (r : Int)], u8, .int .i64 ((bh M k : Nat) : Int), .int .i64 (d : Int), .int .i64 (IntKind.i64.wrap (((bv M k : Nat) : Int) + 1))] W fun e w' => e = .returned (.int .u64 ((sideV M C d (bh M k) (bv M k + 1) : Nat) : Int)) ∧ Below W.heap.size W w') := fun W hW => by
            rw [hwr]
            exact rside_any A m c r k w5.heap.size u8 d (bh M k) (bv M k + 1) M C W ((RDq.out.below hW).mono hW.size) hlen (own_below hst.out.row hW) hst.out.rci hg hk (by omega) hd o3 (by show _ ≤ _; omega) (by show _ ≤ _; omega) (fun _ => by omega)
          clear hwr
          have HN := Lib.hid (hst.out.rci.next hg.out.ord hkM hVd)
          have HNL := HN.out.lt hg.out (by omega) hd (i := k) (by omega)
          obtain ⟨b', o', e, hb, hc⟩ := RDq.out (by rw [up_len, hlen.out]; omega)
          subst e
          obtain ⟨d0, d1, d2⟩ := hc k (by rw [up_len, hlen.out]; exact hlt')
          rw [iv_up] at d0
          rw [il_up] at d1
          rw [ih_up] at d2
          have hbn : ¬ b' = wr.heap.size := by omega
          have hwn : ¬ w.heap.size = wr.heap.size := by omega
          have i1 : (0 : Int) ≤ (k : Int) := by omega
          have i2 : (k : Int) < (m : Int) := by omega
          have hgl : (C ++ [sideV M C d (bl M k) (bv M k + 1) + sideV M C d (bh M k) (bv M k + 1)]).getD k 0 = sideV M C d (bl M k) (bv M k + 1) + sideV M C d (bh M k) (bv M k + 1) := by
            rw [List.getD_eq_getElem?_getD, List.getElem?_append_right (by rw [hst.out.rci.len]; exact Nat.le_refl _), hst.out.rci.len, Nat.sub_self]; rfl
          rw [hgl] at HNL
          clear hc hgl
          generalize sideV M C d (bl M k) (bv M k + 1) = s0 at *
          generalize sideV M C d (bh M k) (bv M k + 1) = s1 at *
          generalize bv M k = V at *
          generalize bl M k = LL at *
          generalize bh M k = UU at *
          have hsum : IntKind.u64.wrap ((s0 : Int) + (s1 : Int)) = (s0 : Int) + (s1 : Int) := by rw [IntKind.wrap_u64]; omega
          have hs1 : (V : Int) + 1 < 9223372036854775807 := by omega
          go_upto_region 20 with fail
          have HQ := Lib.hid (ab2 wr (.cells #[.int .i64 (V : Int), .int .i64 (LL : Int), .int .i64 (UU : Int)] 72))
          have XB : Hid (B3 (wr.alloc (.cells #[.int .i64 (V : Int), .int .i64 (LL : Int), .int .i64 (UU : Int)] 72)) wr.heap.size (.int .i64 (V : Int)) (.int .i64 (LL : Int)) (.int .i64 (UU : Int))) := (Blk.new (w := wr) rfl [.int .i64 (V : Int), .int .i64 (LL : Int), .int .i64 (UU : Int)] 72)
          replace X4 := rb2 X4 HQ.out
          generalize (wr.alloc (.cells #[.int .i64 (V : Int), .int .i64 (LL : Int), .int .i64 (UU : Int)] 72)) = w6 at *
          clear x0 x1 d0 d1 d2
          have dr := (Below.refl w6.heap.size w6).drew
          replace X4 := rb2 X4 dr
          replace XB := rb3 XB dr
          replace HQ := btr HQ dr HQ.out.size
          clear dr
          obtain ⟨x0, x1, xn6⟩ := xb2 X4
          obtain ⟨y0, y1, y2⟩ := xb3 XB
          go_region_held3 (fun w' => w'.cell? ⟨w.heap.size, 0, none⟩ = some (.slice (some ⟨b', o', none⟩) m c) ∧ w'.cell? ⟨w.heap.size, 1, none⟩ = some (.int .i64 (r : Int)) ∧ w'.cell? ⟨wr.heap.size, 0, none⟩ = some (.int .i64 (V : Int)) ∧ w'.cell? ⟨wr.heap.size, 1, none⟩ = some (.int .i64 (LL : Int)) ∧ w'.cell? ⟨wr.heap.size, 2, none⟩ = some (.int .i64 (UU : Int))) (first | (refine ⟨?_, ?_, ?_, ?_, ?_⟩ <;> (with_reducible assumption)) | go_keep) ((first
            | (go_at_call 93; with_reducible refine (HC0.out _ HQ.out).mono ?_; rintro e wn1 ⟨rfl, b9⟩; clear x0 x1 xn6 y0 y1 y2; replace X4 := rb2 X4 b9; replace XB := rb3 XB b9; replace HQ := btr HQ b9 HQ.out.size; obtain ⟨x0, x1, xn6⟩ := xb2 X4; obtain ⟨y0, y1, y2⟩ := xb3 XB; clear b9)
            | (go_at_call 93; with_reducible refine (HC1.out _ HQ.out).mono ?_; rintro e wn2 ⟨rfl, b9⟩; clear x0 x1 xn6 y0 y1 y2; replace X4 := rb2 X4 b9; replace XB := rb3 XB b9; replace HQ := btr HQ b9 HQ.out.size; obtain ⟨x0, x1, xn6⟩ := xb2 X4; obtain ⟨y0, y1, y2⟩ := xb3 XB; clear b9)
            | (refine step_append_lies _ (by rfl) _ _ _ (by rfl) w5.heap.size 35 i0 _ 1 8 Tryd.underlying96 hi hz0 hz1 hz2 rfl (by omega) u8 k (u6s C) (by rfl) ((own_below hst.out.row HQ.out).alloc _) _ _ _ [.int .u64 ((s0 : Int) + (s1 : Int))] (by rfl) (by rfl) (World.news_of_block (heap_alloc_new _ _)) (by simp [Value.oneCell']) (by omega) (by simp only [maxLen]; omega) (by omega) (by have := HQ.out.size; have := hst.out.bel.size; simp; omega) _ (by rfl) ?_; intro gn cap w7 hown hgrow hat hlt7; have l6 := XB.out.lt (by omega); have a4 := X4.out.alloc (by omega) (.cells #[.int .u64 ((s0 : Int) + (s1 : Int))] 35); have a5 := XB.out.alloc (by omega) (.cells #[.int .u64 ((s0 : Int) + (s1 : Int))] 35); clear x0 x1 xn6 y0 y1 y2; replace X4 := Lib.hid (a4.keep (w' := w7) (hgrow.block w.heap.size (by simp; omega) (fun e => by have := (World.ownsRow.lt hst.out.row _ e.symm).1; omega))); replace XB := Lib.hid (a5.keep (w' := w7) (hgrow.block wr.heap.size (by simp; omega) (fun e => by have := (World.ownsRow.lt hst.out.row _ e.symm).2; omega))); obtain ⟨x0, x1, xn6⟩ := xb2 X4; obtain ⟨y0, y1, y2⟩ := xb3 XB; have HO := Lib.hid (And.intro hown hgrow); clear hown hgrow hat a4 a5)))
          all_goals go_wp2_with fail
          all_goals go_roundw
          case rel => exact ⟨k + 1, C ++ [s0 + s1], by omega, by go_num, Lib.hid (hst.out.step HQ.out HN.out _ (by push_cast; rfl) HO.out.1 HO.out.2)⟩
          case measure => simp [intOf]; omega
        · obtain rfl : k = m := by omega
          have RDq := Lib.hid ((RD3.out.below hst.out.bel).mono hst.out.bel.size)
          have es := sideV_eq hst.out.rci (x := r) (frm := 0) (by omega) (by omega) (by omega)
          have hlt := sideV_lt hst.out.rci hg.out (by rw [hlen.out]; exact Nat.le_refl _) hd (x := r) (frm := 0) (by omega) (by omega) (by omega) (by omega)
          rw [Nat.pow_zero, Nat.mul_one] at es
          have HS : Hid (∀ W, Below wr.heap.size wr W → Calls Tryd.prog 93 #[.agg #[.slice A k c, .int .i64 (r : Int)], u8, .int .i64 (r : Int), .int .i64 (d : Int), .int .i64 0] W fun e w' => e = .returned (.int .u64 ((sideV M C d r 0 : Nat) : Int)) ∧ Below W.heap.size W w') := fun W hW =>
            rside_any A k c r k w5.heap.size u8 d r 0 M C W ((RDq.out.below hW).mono hW.size) hlen (own_below hst.out.row hW) hst.out.rci hg (Nat.le_refl _) (by omega) hd (by show _ < _; omega) (by show _ ≤ _; omega) (by show _ ≤ _; omega) (fun _ => by omega)
          rw [es] at HS hlt
          have HOF : Hid (∀ W : World, Calls Tryd.prog 92 #[.int .u64 ((cnt d (Den M r) : Nat) : Int)] W (Nn.Gives1 W (cnt d (Den M r)))) := fun W => Nn.rnat_64 _ W hlt
          clear es hlt hbv hg RD3
          obtain ⟨CT, hCT⟩ : ∃ x, cnt d (Den M r) = x := ⟨_, rfl⟩
          rw [hCT] at HS HOF
          have HCT := Lib.hid hCT
          clear hCT
          go_wp2_with (first
            | (go_at_call 93; with_reducible refine (HS.out _ (Below.refl _ _)).mono ?_; rintro e wn1 ⟨rfl, b9⟩; replace HB := btr HB b9 HB.out.size; clear x0 x1 xn'; replace X4 := rb2 X4 b9; obtain ⟨x0, x1, xn'⟩ := xb2 X4; clear b9)
            | (go_at_call 92; refine (HOF.out _).mono ?_; rintro e w4 ⟨v, rfl, hv, b4⟩; have HB4 := btr HB b4 HB.out.size; have HV := Lib.hid hv; clear hv b4))
          go_ret2
          exact ⟨⟨v, rfl, by rw [HCT.out]; exact HV.out⟩, HB4.out⟩
end Go.Proofs.YtefepaackdhiiaaDoor
namespace Go.Proofs.YtefepaackdhiiaaDoor
open Go.RowKit Dg St
theorem rct_br : RcBr := fun A m c d r M w a1 a2 a3 a4 a5 a6 a7 a8 a9 => rcount_br A m c d r M w a1 a2 a3 a4 a5 a6 a7 a8 a9
theorem rct_any {w : World} {A0 : Option Addr} {m0 c0 : Nat} {l0 : List Bi} {r0 : Int} (d : Int) (h0 : Hid (DOk w (⟨A0, m0, c0, l0, r0⟩ : DA))) (q0 : m0 ≤ 40) :
    Calls Tryd.prog 40 #[.agg #[.slice A0 m0 c0, .int .i64 r0], .int .i64 d] w fun e w' => CtA w w' (chk l0 r0) d (dset l0 r0) e := rcount_any rct_br d h0 q0
end Go.Proofs.YtefepaackdhiiaaDoor
namespace Go.Proofs.YtefepaackdhiiaaDoor
open Go.RowKit Dg St
set_option linter.unusedVariables false
set_option linter.unusedSimpArgs false
attribute [local go_sem ↓] Go.wp_at_zero Go.wp_at_succ
def RdF (W : World) (A : Option Addr) (M : List Br) : Prop := Rd W W.heap.size A (up M)
theorem rrd {W W' : World} {A : Option Addr} {M : List Br} (h : Hid (RdF W A M)) (b : Below W.heap.size W W') : Hid (RdF W' A M) := Lib.hid ((h.out.below b).mono b.size)
theorem same_ok {W : World} {A A' : Option Addr} {m c m' c' n : Nat} {M : List Br} (h : Hid (RdF W A M)) (h' : Hid (RdF W A' M)) (e : Hid (M.length = m)) (e' : Hid (M.length = m')) (hl : Hid (M.length ≤ 4096)) :
    Calls Tryd.prog 21 #[.agg #[.slice A m c, .int .i64 (n : Int)], .agg #[.slice A' m' c', .int .i64 (n : Int)]] W fun e w' => e = .returned (.bool true) ∧ Below W.heap.size W w' := by
  have k := rsame_any A A' c c' m m' (up M) (up M) (n : Int) (n : Int) W (Lib.hid (by rw [up_len]; exact e.out)) (Lib.hid (by rw [up_len]; exact e'.out)) (by have := e.out; have := hl.out; omega) h h'
  rw [decide_eq_true rfl, decide_eq_true rfl] at k
  exact k
theorem binR_len (k : Int) (h : Cfg → Bool) : (binR k h).1.length ≤ 4096 := by
  unfold binR
  generalize cn h = R
  obtain ⟨M, r⟩ := R
  by_cases hk : k = 0
  · rw [if_pos hk]
    by_cases hl : M.length ≤ 4096
    · rw [if_pos hl]; exact hl
    · rw [if_neg hl]; simp
  · rw [if_neg hk]; simp
set_option maxHeartbeats 1000000 in
theorem lfew_any (A : Option Addr) (m c : Nat) (r : Int) (w : World) : Calls Tryd.prog 16 #[.agg #[.slice A m c, .int .i64 r]] w fun e w' => e = .returned (.bool (decide (m ≤ 40))) ∧ Below w.heap.size w w' := by
  have X0 := nb2 w (.slice A m c) (.int .i64 r) 24
  have HB := Lib.hid (ab2 w (.cells #[.slice A m c, .int .i64 r] 24))
  obtain ⟨x0, x1, xn⟩ := xb2 X0
  by_cases h : m ≤ 40
  · rw [decide_eq_true h]
    have h' : (m : Int) ≤ 40 := by omega
    go_enter Tryd.func16, Tryd.ntmps16
    go_wp2
    go_ret
    exact ⟨rfl, HB.out⟩
  · rw [decide_eq_false h]
    have h' : ¬ (m : Int) ≤ 40 := by omega
    go_enter Tryd.func16, Tryd.ntmps16
    go_wp2
    go_ret
    exact ⟨rfl, HB.out⟩
abbrev Twin (w : World) (f g : Nat) (args : Array Value) (M : List Br) (n : Nat) (c : Int) : Prop := ∀ W, Below w.heap.size w W → Calls Tryd.prog f args W (fun e w' => RO W w' M n c e) ∧ Calls Tryd.prog g args W (fun e w' => RO W w' M n c e)
abbrev TwinB (w : World) (f g : Nat) (args : Array Value) (b : Bool) : Prop := ∀ W, Below w.heap.size w W → Calls Tryd.prog f args W (fun e w' => e = .returned (.bool b) ∧ Below W.heap.size W w') ∧ Calls Tryd.prog g args W (fun e w' => e = .returned (.bool b) ∧ Below W.heap.size W w')
end Go.Proofs.YtefepaackdhiiaaDoor
