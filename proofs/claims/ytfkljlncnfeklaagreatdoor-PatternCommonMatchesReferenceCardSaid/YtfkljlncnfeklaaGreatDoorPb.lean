/-
  Plain mathematics and contracts of package diagram, several texts in one: XMem, XUni, XAdd, XTz, XAl, XRd, XFo.
-/
import Derived.Test.YtfkljlncnfeklaaGreatDoorProg
import Derived.Test.YtfkljlncnfeklaaGreatDoorPa
import Derived.WalkKit
import Derived.WalkSpells
import Derived.WalkLawsBesides
import Derived.Handy
import Derived.Lib.Hide
import Derived.BigQuiet
import Derived.Deep.QuietTactic
import Derived.Deep.Draws
import Derived.Deep.RegionHeld3
import Derived.Deep.DrawnRows
import Derived.StillTailTactics
import Derived.Deep.RegionLaw
import Derived.Deep.LoopGhost
import Derived.Deep.OwnRows
import Derived.Laws.CopyOwn
import Derived.Deep.AppendLies
import Derived.KernelRfl
import Derived.Laws.Bits64b
import Derived.Laws.BitsAllLaws
import Derived.Shelf.Spec.TrailingZeros
import Derived.RangeFuncNested
import Derived.RangeFuncBound
import Derived.RangeFuncCalls
import Derived.RangeFuncLeaves
import Derived.Shelf.Abstract
import Derived.Shelf.RegionOpen
import Derived.OwnWalkIn
import Derived.TacticsInMore
import Derived.LoopNIn
import Derived.LoopIn
import Derived.Laws.OwnMore

/-! Sets of places in memory. -/
namespace Go.Proofs.YtfkljlncnfeklaaGreatDoor
open Go.RowKit
set_option linter.unusedVariables false

theorem lid' {p : Prop} (h : p) : Hid p := Lib.hid h
theorem below_drewN {B : Nat} {a w : World} (h : Below B a w) (n : Nat) : Below B a (w.drewN n) := ⟨h.os, h.tape, h.output, h.size, h.block⟩
theorem ret_bool {a b : Bool} (h : a = b) : Ending.returned (.bool a) = .returned (.bool b) := by rw [h]
theorem cell_set_off (w : World) (g i j : Nat) (u : Value) (h : j ≠ i) : (w.setCell ⟨g, i, none⟩ u).cell? ⟨g, j, none⟩ = w.cell? ⟨g, j, none⟩ := by
  go_simp
theorem cell_set_blk (w : World) {g b : Nat} (i j : Nat) (u : Value) (h : b ≠ g) : (w.setCell ⟨g, i, none⟩ u).cell? ⟨b, j, none⟩ = w.cell? ⟨b, j, none⟩ :=
  World.cell?_of_block (w := w) (Below.heap_setCell _ _ _ _ (fun e => h e))
/-- four words at offset o of block g -/
def Pl (w : World) (g o : Nat) (ws : List Nat) : Prop := ∀ i, i < 4 → w.cell? ⟨g, o + i, none⟩ = some (.int .u64 ((ws.getD i 0 : Nat) : Int)) ∧ w.frozen? ⟨g, o + i, none⟩ = false
/-- the world with the words written there -/
def stP4 (w : World) (g o : Nat) (ws : List Nat) : Nat → World
  | 0 => w
  | k + 1 => (stP4 w g o ws k).setCell ⟨g, o + k, none⟩ (.int .u64 ((ws.getD k 0 : Nat) : Int))
theorem stP4_size (w : World) (g o : Nat) (ws : List Nat) : ∀ k, (stP4 w g o ws k).heap.size = w.heap.size
  | 0 => rfl
  | k + 1 => by show ((stP4 w g o ws k).setCell _ _).heap.size = _; rw [World.size_setCell]; exact stP4_size w g o ws k
theorem stP4_frozen (w : World) (g o : Nat) (ws : List Nat) (p : Addr) : ∀ k, (stP4 w g o ws k).frozen? p = w.frozen? p
  | 0 => rfl
  | k + 1 => by show ((stP4 w g o ws k).setCell _ _).frozen? p = _; rw [World.frozen?_setCell]; exact stP4_frozen w g o ws p k
theorem stP4_blk (w : World) {g b : Nat} (o : Nat) (ws : List Nat) (j : Nat) (h : b ≠ g) : ∀ k, (stP4 w g o ws k).cell? ⟨b, j, none⟩ = w.cell? ⟨b, j, none⟩
  | 0 => rfl
  | k + 1 => (cell_set_blk _ _ _ _ h).trans (stP4_blk w o ws j h k)
theorem stP4_off (w : World) (g o : Nat) (ws : List Nat) (j : Nat) : ∀ k, (j < o ∨ o + k ≤ j) → (stP4 w g o ws k).cell? ⟨g, j, none⟩ = w.cell? ⟨g, j, none⟩
  | 0, _ => rfl
  | k + 1, h => (cell_set_off _ _ _ _ _ (by omega)).trans (stP4_off w g o ws j k (by omega))
theorem stP4_below {B : Nat} {a w : World} (h : Below B a w) {g : Nat} (hg : B ≤ g) (o : Nat) (ws : List Nat) : ∀ k, Below B a (stP4 w g o ws k)
  | 0 => h
  | k + 1 => (stP4_below h hg o ws k).setCell hg _
theorem stP4_at (w : World) (g o : Nat) (ws ws0 : List Nat) (h : Pl w g o ws0) : ∀ k, k ≤ 4 → ∀ i, i < k → (stP4 w g o ws k).cell? ⟨g, o + i, none⟩ = some (.int .u64 ((ws.getD i 0 : Nat) : Int))
  | 0, _, i, hi => by omega
  | k + 1, hk, i, hi => by
    by_cases c : i = k
    · subst c
      exact World.cell?_setCell_same _ _ _ ((stP4_off w g o ws (o + i) i (by omega)).trans (h i (by omega)).1)
    · exact (cell_set_off _ _ _ _ _ (by omega)).trans (stP4_at w g o ws ws0 h k (by omega) i (by omega))
theorem stP4_pl (w : World) (g o : Nat) (ws ws0 : List Nat) (h : Pl w g o ws0) : Pl (stP4 w g o ws 4) g o ws := fun i hi =>
  ⟨stP4_at w g o ws ws0 h 4 (Nat.le_refl _) i hi, by rw [stP4_frozen]; exact (h i hi).2⟩

end Go.Proofs.YtfkljlncnfeklaaGreatDoor

/-! A set of places is joined with another one, meets it, loses it. -/
namespace Go.Proofs.YtfkljlncnfeklaaGreatDoor
open Go.RowKit
set_option linter.unusedVariables false
set_option linter.unusedSimpArgs false
attribute [local go_sem ↓] Go.wp_at_zero Go.wp_at_succ

theorem xor_all {y : Nat} (h : y < 18446744073709551616) : 18446744073709551615 ^^^ y = 18446744073709551615 - y := by
  refine Nat.eq_of_testBit_eq fun i => ?_
  have e := Nat.testBit_two_pow_sub_succ (n := 64) h i
  rw [show 2 ^ 64 - (y + 1) = 18446744073709551615 - y by omega] at e
  rw [e, Nat.testBit_xor, show (18446744073709551615 : Nat) = 2 ^ 64 - 1 from rfl, Nat.testBit_two_pow_sub_one]
  by_cases c : i < 64
  · simp [c]
  · have : y.testBit i = false := Nat.testBit_lt_two_pow (Nat.lt_of_lt_of_le h (Nat.le_trans (by decide : (18446744073709551616 : Nat) ≤ 2 ^ 64) (Nat.pow_le_pow_right (by decide) (by omega))))
    simp [c, this]
set_option maxHeartbeats 2000000 in
theorem unite_any (g o h p : Nat) (a b : List Nat) (w : World) (ha : W4 a) (hb : W4 b) (pa : Hid (Pl w g o a)) (pb : Hid (Pl w h p b)) (hne : h ≠ g) :
    Calls Tryz.prog 81 #[.pointer (some ⟨g, o, none⟩), .pointer (some ⟨h, p, none⟩)] w fun e w' => e = .returned (.tuple #[]) ∧ ∃ n, w' = (stP4 w g o (uniW a b) 4).drewN n := by
  have HA := lid' ha
  have HB := lid' hb
  clear ha hb
  go_enter Tryz.func81, Tryz.ntmps81
  go_wp2
  go_loopw [5] (fun v5 wr => ∃ k n : Nat, k ≤ 4 ∧ v5 = .int .i64 (k : Int) ∧ wr = (stP4 w g o (uniW a b) k).drewN n) (fun v5 _ => 4 - (intOf v5).toNat)
  case atStart => exact ⟨0, 0, by omega, rfl, rfl⟩
  case round =>
    obtain ⟨k, n, hk, rfl, rfl⟩ := hrel
    by_cases hlt : k < 4
    · have i1 : (k : Int) < 4 := by omega
      have c1 := ((stP4_off w g o (uniW a b) (o + k) k (by omega)).trans (pa.out k hlt).1)
      have c2 := ((stP4_blk w (b := h) o (uniW a b) (p + k) hne k).trans (pb.out k hlt).1)
      have c3 : (stP4 w g o (uniW a b) k).frozen? ⟨g, o + k, none⟩ = false := (stP4_frozen _ _ _ _ _ k).trans (pa.out k hlt).2
      have q1 := HA.out.2 k
      have q2 := HB.out.2 k
      have e1 : ((uniW a b).getD k 0) = (a.getD k 0 ||| b.getD k 0) := zipW_get _ a b hlt
      generalize a.getD k 0 = x at *
      generalize b.getD k 0 = y at *
      have b1 : bits .or .u64 (x : Int) (y : Int) = ((x ||| y : Nat) : Int) := bits_or_u64_nat x y q1 q2
      generalize hz : x ||| y = z at *
      have HE := lid' e1
      have HR : Hid (stP4 w g o (uniW a b) (k + 1) = (stP4 w g o (uniW a b) k).setCell ⟨g, o + k, none⟩ (.int .u64 (z : Int))) := lid' (by rw [← HE.out]; rfl)
      clear e1 hz q1 q2
      generalize stP4 w g o (uniW a b) k = w1 at *
      go_wp2
      go_region_law (fail)
      all_goals
        go_wp2
        go_roundw
        case rel => exact ⟨k + 1, n + 1, by omega, by go_num, by rw [HR.out]; rfl⟩
        case measure => simp [intOf]; omega
    · obtain rfl : k = 4 := by omega
      go_wp2
      go_end0
      exact ⟨rfl, n, rfl⟩
set_option maxHeartbeats 2000000 in
theorem intersect_any (g o h p : Nat) (a b : List Nat) (w : World) (ha : W4 a) (hb : W4 b) (pa : Hid (Pl w g o a)) (pb : Hid (Pl w h p b)) (hne : h ≠ g) :
    Calls Tryz.prog 85 #[.pointer (some ⟨g, o, none⟩), .pointer (some ⟨h, p, none⟩)] w fun e w' => e = .returned (.tuple #[]) ∧ ∃ n, w' = (stP4 w g o (intW a b) 4).drewN n := by
  have HA := lid' ha
  have HB := lid' hb
  clear ha hb
  go_enter Tryz.func85, Tryz.ntmps85
  go_wp2
  go_loopw [5] (fun v5 wr => ∃ k n : Nat, k ≤ 4 ∧ v5 = .int .i64 (k : Int) ∧ wr = (stP4 w g o (intW a b) k).drewN n) (fun v5 _ => 4 - (intOf v5).toNat)
  case atStart => exact ⟨0, 0, by omega, rfl, rfl⟩
  case round =>
    obtain ⟨k, n, hk, rfl, rfl⟩ := hrel
    by_cases hlt : k < 4
    · have i1 : (k : Int) < 4 := by omega
      have c1 := ((stP4_off w g o (intW a b) (o + k) k (by omega)).trans (pa.out k hlt).1)
      have c2 := ((stP4_blk w (b := h) o (intW a b) (p + k) hne k).trans (pb.out k hlt).1)
      have c3 : (stP4 w g o (intW a b) k).frozen? ⟨g, o + k, none⟩ = false := (stP4_frozen _ _ _ _ _ k).trans (pa.out k hlt).2
      have q1 := HA.out.2 k
      have q2 := HB.out.2 k
      have e1 : ((intW a b).getD k 0) = (a.getD k 0 &&& b.getD k 0) := zipW_get _ a b hlt
      generalize a.getD k 0 = x at *
      generalize b.getD k 0 = y at *
      have b1 : bits .and .u64 (x : Int) (y : Int) = ((x &&& y : Nat) : Int) := bits_and_u64_nat x y q1 q2
      generalize hz : x &&& y = z at *
      have HE := lid' e1
      have HR : Hid (stP4 w g o (intW a b) (k + 1) = (stP4 w g o (intW a b) k).setCell ⟨g, o + k, none⟩ (.int .u64 (z : Int))) := lid' (by rw [← HE.out]; rfl)
      clear e1 hz q1 q2
      generalize stP4 w g o (intW a b) k = w1 at *
      go_wp2
      go_region_law (fail)
      all_goals
        go_wp2
        go_roundw
        case rel => exact ⟨k + 1, n + 1, by omega, by go_num, by rw [HR.out]; rfl⟩
        case measure => simp [intOf]; omega
    · obtain rfl : k = 4 := by omega
      go_wp2
      go_end0
      exact ⟨rfl, n, rfl⟩
set_option maxHeartbeats 2000000 in
theorem subtract_any (g o h p : Nat) (a b : List Nat) (w : World) (ha : W4 a) (hb : W4 b) (pa : Hid (Pl w g o a)) (pb : Hid (Pl w h p b)) (hne : h ≠ g) :
    Calls Tryz.prog 86 #[.pointer (some ⟨g, o, none⟩), .pointer (some ⟨h, p, none⟩)] w fun e w' => e = .returned (.tuple #[]) ∧ ∃ n, w' = (stP4 w g o (subW a b) 4).drewN n := by
  have HA := lid' ha
  have HB := lid' hb
  clear ha hb
  go_enter Tryz.func86, Tryz.ntmps86
  go_wp2
  go_loopw [5] (fun v5 wr => ∃ k n : Nat, k ≤ 4 ∧ v5 = .int .i64 (k : Int) ∧ wr = (stP4 w g o (subW a b) k).drewN n) (fun v5 _ => 4 - (intOf v5).toNat)
  case atStart => exact ⟨0, 0, by omega, rfl, rfl⟩
  case round =>
    obtain ⟨k, n, hk, rfl, rfl⟩ := hrel
    by_cases hlt : k < 4
    · have i1 : (k : Int) < 4 := by omega
      have c1 := ((stP4_off w g o (subW a b) (o + k) k (by omega)).trans (pa.out k hlt).1)
      have c2 := ((stP4_blk w (b := h) o (subW a b) (p + k) hne k).trans (pb.out k hlt).1)
      have c3 : (stP4 w g o (subW a b) k).frozen? ⟨g, o + k, none⟩ = false := (stP4_frozen _ _ _ _ _ k).trans (pa.out k hlt).2
      have q1 := HA.out.2 k
      have q2 := HB.out.2 k
      have e1 : ((subW a b).getD k 0) = (a.getD k 0 &&& (18446744073709551615 ^^^ b.getD k 0)) := zipW_get _ a b hlt
      generalize a.getD k 0 = x at *
      generalize b.getD k 0 = y at *
      have b1 : bits .andNot .u64 (x : Int) (y : Int) = ((x &&& (18446744073709551615 ^^^ y) : Nat) : Int) := by rw [xor_all q2]; exact u64_andNot_nat x y q1 q2
      generalize hz : x &&& (18446744073709551615 ^^^ y) = z at *
      have HE := lid' e1
      have HR : Hid (stP4 w g o (subW a b) (k + 1) = (stP4 w g o (subW a b) k).setCell ⟨g, o + k, none⟩ (.int .u64 (z : Int))) := lid' (by rw [← HE.out]; rfl)
      clear e1 hz q1 q2
      generalize stP4 w g o (subW a b) k = w1 at *
      go_wp2
      go_region_law (fail)
      all_goals
        go_wp2
        go_roundw
        case rel => exact ⟨k + 1, n + 1, by omega, by go_num, by rw [HR.out]; rfl⟩
        case measure => simp [intOf]; omega
    · obtain rfl : k = 4 := by omega
      go_wp2
      go_end0
      exact ⟨rfl, n, rfl⟩

end Go.Proofs.YtfkljlncnfeklaaGreatDoor

/-! A place more; whether a place is there. -/
namespace Go.Proofs.YtfkljlncnfeklaaGreatDoor
open Go.RowKit
set_option linter.unusedVariables false
set_option linter.unusedSimpArgs false
attribute [local go_sem ↓] Go.wp_at_zero Go.wp_at_succ

set_option maxHeartbeats 2000000 in
theorem padd_any (g o p : Nat) (a : List Nat) (w : World) (hp : p < 256) (ha : W4 a) (pa : Hid (Pl w g o a)) :
    Calls Tryz.prog 67 #[.pointer (some ⟨g, o, none⟩), .int .i64 (p : Int)] w fun e w' => e = .returned (.tuple #[]) ∧ ∃ n, w' = (w.setCell ⟨g, o + p / 64, none⟩ (.int .u64 ((a.getD (p / 64) 0 ||| 2 ^ (p % 64) : Nat) : Int))).drewN n := by
  obtain ⟨c1, c3⟩ := pa.out (p / 64) (by omega)
  have q1 := ha.2 (p / 64)
  have q2 : 2 ^ (p % 64) < 18446744073709551616 := Nat.lt_of_lt_of_le (Nat.pow_lt_pow_right (by decide) (show p % 64 < 64 by omega)) (by decide)
  have d1 : (p : Int).tdiv 64 = ((p / 64 : Nat) : Int) := by rw [Int.tdiv_eq_ediv_of_nonneg (by omega)]; omega
  have d2 : (p : Int).tmod 64 = ((p % 64 : Nat) : Int) := by rw [Int.tmod_eq_emod_of_nonneg (by omega)]; omega
  have hk : p / 64 < 4 := by omega
  have hm : p % 64 < 64 := by omega
  have b1 := bits_or_u64_nat (a.getD (p / 64) 0) (2 ^ (p % 64)) q1 q2
  generalize a.getD (p / 64) 0 = x at *
  generalize p / 64 = k at *
  generalize p % 64 = m at *
  have i1 : (k : Int) < 4 := by omega
  have e1 : IntKind.i64.wrap (k : Int) = (k : Int) := by rw [IntKind.wrap_i64]; omega
  have e9 : ((2 : Int) ^ m) = ((2 ^ m : Nat) : Int) := by push_cast; rfl
  generalize 2 ^ m = y at *
  have e2 : IntKind.u64.wrap ((2 : Int) ^ m) = (y : Int) := by rw [e9, IntKind.wrap_u64]; omega
  clear e9
  go_enter Tryz.func67, Tryz.ntmps67
  go_wp2
  go_region_law (fail)
  all_goals
    go_wp2
    go_end0
    exact ⟨rfl, 1, rfl⟩
theorem tb_shr (x m : Nat) : ((x / 2 ^ m) % 2 == 1) = x.testBit m := by
  rw [Nat.testBit_eq_decide_div_mod_eq]
  by_cases c : x / 2 ^ m % 2 = 1 <;> simp [c]
set_option maxHeartbeats 2000000 in
theorem has_any (g o p : Nat) (a : List Nat) (w : World) (hp : p < 256) (ha : W4 a) (pa : Hid (Pl w g o a)) :
    Calls Tryz.prog 82 #[.pointer (some ⟨g, o, none⟩), .int .i64 (p : Int)] w fun e w' => e = .returned (.bool (hasW a p)) ∧ w = w' := by
  obtain ⟨c1, c3⟩ := pa.out (p / 64) (by omega)
  have q1 := ha.2 (p / 64)
  have d1 : (p : Int).tdiv 64 = ((p / 64 : Nat) : Int) := by rw [Int.tdiv_eq_ediv_of_nonneg (by omega)]; omega
  have d2 : (p : Int).tmod 64 = ((p % 64 : Nat) : Int) := by rw [Int.tmod_eq_emod_of_nonneg (by omega)]; omega
  have d3 : (p : Int) / 64 = ((p / 64 : Nat) : Int) := by omega
  have d4 : (p : Int) % 64 = ((p % 64 : Nat) : Int) := by omega
  have hk : p / 64 < 4 := by omega
  have hm : p % 64 < 64 := by omega
  unfold hasW
  have hb := tb_shr (a.getD (p / 64) 0) (p % 64)
  generalize (a.getD (p / 64) 0).testBit (p % 64) = bt at *
  generalize a.getD (p / 64) 0 = x at *
  generalize p / 64 = k at *
  generalize p % 64 = m at *
  have i1 : (k : Int) < 4 := by omega
  have hy : x / 2 ^ m < 18446744073709551616 := Nat.lt_of_le_of_lt (Nat.div_le_self _ _) q1
  have e9 : ((x : Int) / 2 ^ m) = ((x / 2 ^ m : Nat) : Int) := by push_cast; rfl
  have b1 := bits_and_u64_nat (x / 2 ^ m) 1 hy (by omega)
  rw [Nat.and_one_is_mod] at b1
  generalize x / 2 ^ m = y at *
  have hn := hb
  have e3 : (((y % 2 : Nat) : Int) == 1) = bt := by
    rw [← hb]
    rcases Nat.mod_two_eq_zero_or_one y with c | c <;> rw [c] <;> rfl
  clear hb hn
  generalize y % 2 = z at *
  have b2 : IntKind.u64.wrap (1 : Int) = 1 := by decide
  have b3 : bits .and .u64 (y : Int) 1 = (z : Int) := by simpa using b1
  go_enter Tryz.func82, Tryz.ntmps82
  go_wp2
  go_ret
  exact ⟨rfl, rfl⟩

end Go.Proofs.YtfkljlncnfeklaaGreatDoor

/-! math/bits.TrailingZeros64 at this translation: the shelf's contract. -/
namespace Go.Proofs.YtfkljlncnfeklaaGreatDoor
open Go.Shelf Go.RowKit
set_option linter.unusedVariables false

def lays29_ren : Go.Shelf.Ren := ⟨fun | 29 => 97 | n => n, fun | 0 => 0 | 3 => 3 | 4 => 4 | 5 => 5 | 22 => 93 | 25 => 141 | 54 => 163 | n => n, fun | 1 => 2 | n => n⟩
theorem lays29 : Go.Proofs.Lays7.n29 Tryz.prog lays29_ren := {
  mixed := by kernel_rfl
  f29 := Tryz.func97.trans (congrArg some (by kernel_rfl))
  t0 := Tryz.underlying0
  a0 := Tryz.isAgg0
  z0 := Tryz.sizeOf0
  v0 := Tryz.zeroValue0
  i0 := by kernel_rfl
  t3 := Tryz.underlying3
  a3 := Tryz.isAgg3
  z3 := Tryz.sizeOf3
  v3 := Tryz.zeroValue3
  i3 := by kernel_rfl
  t4 := Tryz.underlying4
  a4 := Tryz.isAgg4
  z4 := Tryz.sizeOf4
  v4 := Tryz.zeroValue4
  i4 := by kernel_rfl
  t5 := Tryz.underlying5
  a5 := Tryz.isAgg5
  z5 := Tryz.sizeOf5
  v5 := Tryz.zeroValue5
  i5 := by kernel_rfl
  t22 := Tryz.underlying93
  a22 := Tryz.isAgg93
  z22 := Tryz.sizeOf93
  v22 := Tryz.zeroValue93
  i22 := by kernel_rfl
  t25 := Tryz.underlying141
  a25 := Tryz.isAgg141
  z25 := Tryz.sizeOf141
  v25 := Tryz.zeroValue141
  i25 := by kernel_rfl
  t54 := Tryz.underlying163
  a54 := Tryz.isAgg163
  z54 := Tryz.sizeOf163
  g1 := by kernel_rfl }
/-- the library's table lies in its variable -/
def Tz (w : World) : Prop := TabAt 2 Lib.deBruijn64tab w
theorem tz_any (x : Nat) (w : World) (hx : x < 18446744073709551616) (hT : Hid (Tz w)) :
    Calls Tryz.prog 97 #[.int .u64 (x : Int)] w fun e w' => e = .returned (.int .i64 ((Lib.ctz 64 x : Nat) : Int)) ∧ w' = w :=
  Any7.bits_TrailingZeros64 lays29 x hx w fun _ => hT.out

end Go.Proofs.YtfkljlncnfeklaaGreatDoor

/-! The places of a set, one after the other: places.all: the iterator's contract. -/
namespace Go.Proofs.YtfkljlncnfeklaaGreatDoor
open Go.RowKit Go.Shelf
set_option linter.unusedVariables false
set_option linter.unusedSimpArgs false
attribute [local go_sem] Oper.semAt_some

/-- what a round of a loop over a set keeps: the set's block, the library's table -/
structure KpS (g : Nat) (w w' : World) : Prop where
  set : w'.heap[g]? = w.heap[g]?
  tab : w'.heap[2]? = w.heap[2]?
theorem KpS.refl (g : Nat) (w : World) : KpS g w w := ⟨rfl, rfl⟩
theorem KpS.trans {g : Nat} {a b c : World} (h : KpS g a b) (k : KpS g b c) : KpS g a c := ⟨k.set.trans h.set, k.tab.trans h.tab⟩
theorem KpS.cell {g : Nat} {a b : World} (h : KpS g a b) (o : Nat) : b.cell? ⟨g, o, none⟩ = a.cell? ⟨g, o, none⟩ := World.cell?_of_block (w := a) h.set
theorem KpS.tz {g : Nat} {a b : World} (h : KpS g a b) (t : Tz a) : Tz b := fun j hj => (World.cell?_of_block (w := a) h.tab).trans (t j hj)
theorem KpS.drew {g : Nat} {a b : World} (h : KpS g a b) : KpS g a b.drew := ⟨h.set, h.tab⟩
theorem KpS.of_below {n : Nat} {a b : World} (h : Below n a b) {g : Nat} (hg : g < n) (ht : 2 < n) : KpS g a b := ⟨h.block g hg, h.block _ ht⟩

/-- a place of the set -/
abbrev Pla (a : List Nat) := { p : Nat // p ∈ els a }
def vals {a : List Nat} (l : List (Pla a)) : List Nat := l.map Subtype.val
theorem vals_snoc {a : List Nat} (l : List (Pla a)) (x : Pla a) : vals (l ++ [x]) = vals l ++ [x.1] := by unfold vals; rw [List.map_append]; rfl
theorem vals_len {a : List Nat} (l : List (Pla a)) : (vals l).length = l.length := List.length_map _

set_option maxRecDepth 100000 in
set_option maxHeartbeats 2000000 in
theorem all1_in (n : Nat) (hn : 1 ≤ n) (l Bs g o : Nat) (a : List Nat) (ha : W4 a) (J Jx : List (Pla a) → World → Prop)
    (hY : ∀ pre x W, J pre W → pre.length < (els a).length → YieldAt Fence.wide (n - 1) Tryz.prog l #[.int .i64 ((x.1 : Nat) : Int)] W fun e W' =>
      (e = .returned (.bool true) ∧ J (pre ++ [x]) W' ∧ KpS g W W') ∨ (e = .returned (.bool false) ∧ Jx (pre ++ [x]) W'))
    (W : World) (hBs : W.cell? ⟨Bs, 0, none⟩ = some (.pointer (some ⟨g, o, none⟩))) (hc : ∀ j, j < 4 → W.cell? ⟨g, o + j, none⟩ = some (.int .u64 ((a.getD j 0 : Nat) : Int))) (hT : Hid (Tz W)) (hJd : ∀ pre W, J pre W → J pre W.drew) (h0 : J [] W) :
    CallsIn Fence.wide n Tryz.prog 96 #[.func (.yield l) #[] #[], .pointer (some ⟨Bs, 0, none⟩)] W fun e W' => (∃ v, e = .returned v) ∧
      ((∃ ys, vals ys = els a ∧ J ys W') ∨ (∃ pre, vals pre <+: els a ∧ Jx pre W')) := by
  have h7 : Fence.wide.fn 96 := trivial
  refine callsIn_of_wp Tryz.func96 rfl h7 ?_ rfl
  simp only [Tryz.ntmps96, List.size_toArray, List.length_cons, List.length_nil, Nat.reduceAdd, Nat.reduceSub, Array.replicate_succ, Array.replicate_zero, List.push_toArray, List.append_toArray, List.nil_append, List.cons_append]
  gi_wp2
  gi_loopw [6] (fun i wr => ∃ (k : Nat) (pre : List (Pla a)), k ≤ 4 ∧ i = .int .i64 (k : Int) ∧ els a = vals pre ++ elF a k ∧ J pre wr ∧ KpS g W wr)
    (fun i _ => 4 - (intOf i).toNat)
  case atStart => exact ⟨0, [], by omega, rfl, rfl, h0, KpS.refl _ _⟩
  case round =>
    obtain ⟨k, pre, hk, rfl, he, hJs, hK⟩ := hrel
    by_cases hlt : k < 4
    · have hcx := (hK.cell (o + k)).trans (hc k hlt)
      have i1 : (k : Int) < 4 := by omega
      have q1 := ha.2 k
      have hst := elF_step a hlt
      generalize hx : a.getD k 0 = x0 at *
      gi_wp2
      gi_region
      gi_wp2
      gi_loopw [4] (fun p wr => ∃ (x : Nat) (pre : List (Pla a)), x < 18446744073709551616 ∧ p = .int .u64 (x : Int) ∧ els a = vals pre ++ (((elW x).map fun b => k * 64 + b) ++ elF a (k + 1)) ∧ J pre wr ∧ KpS g W wr)
        (fun p _ => (intOf p).toNat)
      case atStart => exact ⟨x0, pre, q1, rfl, by rw [he, hst], hJd _ _ hJs, hK.drew⟩
      case round =>
        obtain ⟨x, pre1, q2, rfl, he1, hJ1, hK1⟩ := hrel
        by_cases hx0 : x = 0
        · subst hx0
          rw [elW_zero, List.map_nil, List.nil_append] at he1
          gi_wp2
          go_roundw
          case rel => exact ⟨k + 1, pre1, by omega, by simp, he1, hJ1, hK1⟩
          case measure => simp [intOf]; omega
        · have hs1 := elW_step hx0 q2
          have hl1 := and_less hx0
          obtain ⟨hk6, _⟩ := low_bit hx0 q2
          have htz := hK1.tz hT.out
          generalize hz : Lib.ctz 64 x = z at *
          generalize hy0 : x &&& (x - 1) = x2 at *
          rw [hs1, List.map_cons, List.cons_append] at he1
          have hmem : k * 64 + z ∈ els a := by rw [he1]; exact List.mem_append.2 (.inr (List.mem_cons_self ..))
          obtain ⟨fn, tmps, assign, body, hy, hR⟩ := hY pre1 ⟨k * 64 + z, hmem⟩ wr hJ1 (by rw [he1, List.length_append, vals_len, List.length_cons]; omega)
          dsimp only at hy
          have i2 : ((x : Int) == 0) = false := by simp; omega
          have e3 : ((k * 64 + z : Nat) : Int) = (k : Int) * 64 + (z : Int) := by push_cast; rfl
          rw [e3] at hy
          clear e3
          generalize k * 64 + z = kz at *
          gi_wp2_with (refine ⟨trivial, ?_⟩; gi_at_call 97; refine (callsIn_wide.2 (tz_any x _ q2 (lid' htz))).mono ?_; rw [hz]; rintro e w' ⟨rfl, rfl⟩)
          refine hR.mono ?_
          have q3 : x2 < 18446744073709551616 := by omega
          have e4 : IntKind.u64.wrap ((x : Int) - 1) = ((x - 1 : Nat) : Int) := by rw [IntKind.wrap_u64]; omega
          have e5 : bits .and .u64 (x : Int) ((x - 1 : Nat) : Int) = (x2 : Int) := by rw [bits_and_u64_nat x _ q2 (by omega), hy0]
          rintro e W3 (⟨rfl, hJ3, hk3⟩ | ⟨rfl, hJx3⟩)
          · gi_wp2
            go_roundw
            case rel => exact ⟨x2, pre1 ++ [⟨kz, hmem⟩], q3, rfl, he1.trans (by rw [vals_snoc, List.append_assoc]; rfl), hJ3, hK1.trans hk3⟩
            case measure => simp [intOf]; omega
          · gi_wp2
            refine bodyPost_ret (results_none rfl _ _ _) rfl ?_
            exact ⟨⟨_, rfl⟩, .inr ⟨pre1 ++ [⟨kz, hmem⟩], ⟨((elW x2).map fun b => k * 64 + b) ++ elF a (k + 1), Eq.symm (he1.trans (by rw [vals_snoc, List.append_assoc]; rfl))⟩, hJx3⟩⟩
    · obtain rfl : k = 4 := by omega
      gi_wp2
      go_end0
      exact ⟨⟨_, rfl⟩, .inl ⟨pre, by rw [he, elF_end, List.append_nil], hJs⟩⟩

theorem all_any (n : Nat) (A : Option Addr) (w : World) :
    CallsIn Fence.wide n Tryz.prog 80 #[.pointer A] w fun e w' => e = .returned (.func (.func 96) #[] #[.pointer (some ⟨w.heap.size, 0, none⟩)]) ∧ w' = w.alloc (.cells #[.pointer A] 107) := by
  have h7 : Fence.wide.fn 80 := trivial
  refine callsIn_of_wp Tryz.func80 rfl h7 ?_ rfl
  simp only [Tryz.ntmps80, List.size_toArray, List.length_cons, List.length_nil, Nat.reduceAdd, Nat.reduceSub, Array.replicate_succ, Array.replicate_zero, List.push_toArray, List.append_toArray, List.nil_append, List.cons_append]
  gi_wp2
  go_ret
  exact ⟨rfl, rfl⟩

/-- the places of the set, ascending; or the first of them -/
theorem all_stops (n : Nat) (hn : 1 ≤ n) (Bs g o : Nat) (a : List Nat) (ha : W4 a) (w : World) (h1 : Bs < w.heap.size) (h2 : g < w.heap.size) (h3 : 2 < w.heap.size)
    (hBs : w.cell? ⟨Bs, 0, none⟩ = some (.pointer (some ⟨g, o, none⟩))) (hp : Hid (Pl w g o a)) (hT : Hid (Tz w)) :
    SeqStopsK Fence.wide n Tryz.prog 96 #[.pointer (some ⟨Bs, 0, none⟩)] (fun x : Pla a => #[Value.int .i64 ((x.1 : Nat) : Int)]) (KpS g) (fun ys => vals ys = els a) (fun pre => vals pre <+: els a) (els a).length w := fun l J Jx W hW hJ hJx hY h0 => by
  have hk := KpS.of_below hW h2 h3
  exact all1_in n hn l Bs g o a ha J Jx hY W ((hW.cell (p := ⟨Bs, 0, none⟩) h1).trans hBs) (fun j hj => (hk.cell (o + j)).trans (hp.out j hj).1) (lid' (hk.tz hT.out)) (fun pre W' hj => hJ pre W' W'.drew none hj ⟨rfl, rfl, rfl, Nat.le_refl _, fun _ _ _ => rfl⟩ (fun r e => by cases e)) h0
theorem KpS.lay {g : Nat} {w : World} (h2 : g < w.heap.size) (h3 : 2 < w.heap.size) : ∀ (W : World) (l : Nat) (o o' : Obj), w.heap.size ≤ l → W.heap[l]? = some o → o.isCells = false → o.isWalk = false → KpS g W (W.putObj l o') :=
  fun W l o o' h a b c => KpS.of_below (belowK_b (w := w) (Nat.le_refl _) W l o o' h a b c) h2 h3

end Go.Proofs.YtfkljlncnfeklaaGreatDoor

/-! A region that draws its order, in the round of a loop over an iterator: it is walked as outside of it. -/
namespace Go.Proofs.YtfkljlncnfeklaaGreatDoor
open Go.RowKit Go.Shelf
set_option linter.unusedVariables false

def noDefer (ops : Array Oper) : Bool := ops.toList.all fun o => match o.op with | .defer _ => false | _ => true
theorem noDefer_at {ops : Array Oper} (h : noDefer ops = true) {i : Nat} {o : Oper} (ho : ops[i]? = some o) (c : Call) : o.op ≠ .defer c := fun e => by
  have hm : o ∈ ops.toList := by
    have := Array.getElem?_eq_some_iff.1 ho
    obtain ⟨h1, rfl⟩ := this
    exact Array.mem_toList_iff.2 (Array.getElem_mem h1)
  have := List.all_eq_true.1 h o hm
  rw [e] at this
  cases this
theorem upon_round {F : Fence} {n : Nat} {P : Program} {o : Oper} {a : Act} {K : Act → World → Prop} {Q : Exit → Act → World → Prop} (l : Nat) {r : Result Next} (h : o.uponIn F n P a K Q r) : o.uponIn (F.inRound l) n P a K Q r := by
  cases r with
  | ok x w' => cases x <;> exact h
  | halt x w' => cases x <;> exact h
theorem ops_round {F : Fence} {n : Nat} {P : Program} {ops : Array Oper} {Q : Exit → Act → World → Prop} (hro : F.round = none) (hnd : noDefer ops = true) (l : Nat) : ∀ (L : List Nat) (a : Act) (w : World), wpOpsIn F n P ops Q L a w → wpOpsIn (F.inRound l) n P ops Q L a w
  | [], a, w, h => h
  | i :: L, a, w, h => by
    rw [wpOpsIn_cons] at h ⊢
    have h := wpOpIn_mono (fun a w => ops_round hro hnd l L a w) h
    unfold wpOpIn at h ⊢
    cases ho : ops[i]? with
    | none => rw [ho] at h; exact h
    | some o =>
      rw [ho] at h
      dsimp only at h ⊢
      by_cases c : Region.wanted o (yielded ops a.tmps) = true
      · rw [if_pos c] at h ⊢
        unfold Oper.wpIn at h ⊢
        refine ⟨h.1, ?_⟩
        have h2 := upon_round l h.2
        rw [Oper.semAt_eq _ _ _ (noDefer_at hnd ho)] at h2 ⊢
        exact h2
      · rw [if_neg c] at h ⊢
        exact h
theorem region_round {n : Nat} {P : Program} {ops : Array Oper} {Q : Exit → Act → World → Prop} {id : Nat} {a : Act} {w : World} {l : Nat} (hm : P.follows .mixedOrders = true) (hnd : noDefer ops = true)
    (h : wpAnyIn Fence.wide n P .any ops Q ops.size (Array.replicate ops.size false) a w.drew) : (Code.region id ops true).wpIn (Fence.wide.inRound l) n P Q a w :=
  wpIn_region_draw fun t => by
    simp only [Region.schedule, hm, Bool.true_or, if_true]
    exact ops_round rfl hnd l _ a _ (wpAnyIn_sound ops.size t _ a _ h)

end Go.Proofs.YtfkljlncnfeklaaGreatDoor

/-! A row of sets that is owned. -/
namespace Go.Proofs.YtfkljlncnfeklaaGreatDoor
open Go.RowKit
set_option linter.unusedVariables false
set_option linter.unusedSimpArgs false

def w4C (ws : List Nat) : List Value := [.int .u64 ((ws.getD 0 0 : Nat) : Int), .int .u64 ((ws.getD 1 0 : Nat) : Int), .int .u64 ((ws.getD 2 0 : Nat) : Int), .int .u64 ((ws.getD 3 0 : Nat) : Int)]
def flC : List (List Nat) → List Value
  | [] => []
  | ws :: l => w4C ws ++ flC l
theorem flC_len : ∀ l, (flC l).length = l.length * 4
  | [] => rfl
  | ws :: l => by show (w4C ws ++ flC l).length = _; rw [List.length_append, flC_len l]; simp [w4C]; omega
theorem flC_snoc : ∀ (l : List (List Nat)) (ws : List Nat), flC (l ++ [ws]) = flC l ++ w4C ws
  | [], ws => by show w4C ws ++ [] = [] ++ w4C ws; simp
  | x :: l, ws => by show w4C x ++ flC (l ++ [ws]) = (w4C x ++ flC l) ++ w4C ws; rw [flC_snoc l ws, List.append_assoc]
theorem w4C_at (ws : List Nat) {i : Nat} (h : i < 4) : (w4C ws)[i]? = some (.int .u64 ((ws.getD i 0 : Nat) : Int)) := by
  rcases (show i = 0 ∨ i = 1 ∨ i = 2 ∨ i = 3 by omega) with rfl | rfl | rfl | rfl <;> rfl
theorem flC_at : ∀ (l : List (List Nat)) {p i : Nat}, p < l.length → i < 4 → (flC l)[p * 4 + i]? = some (.int .u64 (((l.getD p noW).getD i 0 : Nat) : Int))
  | [], p, i, h, _ => by simp at h
  | x :: l, 0, i, _, hi => by
    show (w4C x ++ flC l)[0 * 4 + i]? = _
    rw [List.getElem?_append_left (by simp [w4C]; omega), Nat.zero_mul, Nat.zero_add, w4C_at x hi]
    rfl
  | x :: l, p + 1, i, h, hi => by
    show (w4C x ++ flC l)[(p + 1) * 4 + i]? = _
    rw [List.getElem?_append_right (by simp [w4C]; omega)]
    have : (p + 1) * 4 + i - (w4C x).length = p * 4 + i := by simp [w4C]; omega
    rw [this, flC_at l (by simpa using h) hi]
    rfl
theorem set_app_r {α : Type} (a b : List α) (i : Nat) (x : α) : (a ++ b).set (a.length + i) x = a ++ b.set i x := by
  rw [List.set_append_right _ _ (by omega)]
  congr 2
  omega
theorem flC_set : ∀ (l : List (List Nat)) (p : Nat) (ws : List Nat), p < l.length → flC (l.set p ws) = ((((flC l).set (p * 4 + 0) (.int .u64 ((ws.getD 0 0 : Nat) : Int))).set (p * 4 + 1) (.int .u64 ((ws.getD 1 0 : Nat) : Int))).set (p * 4 + 2) (.int .u64 ((ws.getD 2 0 : Nat) : Int))).set (p * 4 + 3) (.int .u64 ((ws.getD 3 0 : Nat) : Int))
  | [], p, ws, h => by simp at h
  | x :: l, 0, ws, _ => rfl
  | x :: l, p + 1, ws, h => by
    show w4C x ++ flC (l.set p ws) = ((((w4C x ++ flC l).set _ _).set _ _).set _ _).set _ _
    have e : ∀ i, (p + 1) * 4 + i = (w4C x).length + (p * 4 + i) := fun i => by simp [w4C]; omega
    rw [e, e, e, e, set_app_r, set_app_r, set_app_r, set_app_r, flC_set l p ws (by simpa using h)]
/-- the sets lie in block f, one behind the other, and the row is owned -/
def FoO (w : World) (B f cap : Nat) (fl : List (List Nat)) : Prop := w.ownsRow B 95 4 (.slice (some ⟨f, 0, none⟩) fl.length cap) fl.length (flC fl)
section
variable {w w' : World} {B f cap : Nat} {fl : List (List Nat)}
theorem FoO.lt (h : FoO w B f cap fl) : B ≤ f ∧ f < w.heap.size := World.ownsRow.lt h f rfl
theorem FoO.pl (h : FoO w B f cap fl) {p : Nat} (hp : p < fl.length) : Pl w f (p * 4) (fl.getD p noW) := fun i hi =>
  ⟨(World.ownsRow.cellAt h (p * 4 + i) (by omega)).trans (flC_at fl hp hi), World.ownsRow.frozenAt h _⟩
theorem FoO.kept {row : Option Nat} (h : FoO w B f cap fl) (g : w.grownBy w' row) (hr : ∀ r, row = some r → r ≠ f) : FoO w' B f cap fl := World.ownsRow.kept h g (.inr (by
  intro e
  exact hr f (by rw [← e]; rfl) rfl))
theorem FoO.set (h : FoO w B f cap fl) {p : Nat} (hp : p < fl.length) (ws : List Nat) : FoO (stP4 w f (p * 4) ws 4) B f cap (fl.set p ws) := by
  unfold FoO
  rw [List.length_set, flC_set fl p ws hp]
  have h1 := World.ownsRow.stored h (p * 4 + 0) (.int .u64 ((ws.getD 0 0 : Nat) : Int))
  have h2 := World.ownsRow.stored h1.1 (p * 4 + 1) (.int .u64 ((ws.getD 1 0 : Nat) : Int))
  have h3 := World.ownsRow.stored h2.1 (p * 4 + 2) (.int .u64 ((ws.getD 2 0 : Nat) : Int))
  exact (World.ownsRow.stored h3.1 (p * 4 + 3) (.int .u64 ((ws.getD 3 0 : Nat) : Int))).1
end

end Go.Proofs.YtfkljlncnfeklaaGreatDoor
