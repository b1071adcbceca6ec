/-
  math/bits.LeadingZeros32: the shelf's contract at this translation.
-/
import Derived.Shelf.Small.Bits
import Derived.Test.YtogmgomcdhfolaaSmall2
namespace Go.Proofs.Ytogmgomcdhfolaa
open Go.Shelf Nt

def lz128_ren : Go.Shelf.Ren := ⟨fun | 128 => 70 | n => n, fun | 51 => 41 | 3 => 3 | 4 => 4 | 46 => 66 | 5 => 5 | 9 => 9 | n => n, fun | n => n⟩
theorem lz128 : Go.Proofs.Lays.n128 Try.prog lz128_ren := {
  mixed := by kernel_rfl
  f128 := Try.func70.trans (congrArg some (by kernel_rfl))
  t3 := Try.underlying3
  a3 := Try.isAgg3
  z3 := Try.sizeOf3
  v3 := Try.zeroValue3
  t4 := Try.underlying4
  a4 := Try.isAgg4
  z4 := Try.sizeOf4
  v4 := Try.zeroValue4
  t5 := Try.underlying5
  a5 := Try.isAgg5
  z5 := Try.sizeOf5
  v5 := Try.zeroValue5
  t9 := Try.underlying9
  a9 := Try.isAgg9
  z9 := Try.sizeOf9
  v9 := Try.zeroValue9
  t46 := Try.underlying66
  a46 := Try.isAgg66
  z46 := Try.sizeOf66
  v46 := Try.zeroValue66
  t51 := Try.underlying41
  a51 := Try.isAgg41
  z51 := Try.sizeOf41
  v51 := Try.zeroValue41 }
theorem bits_Len32 (x : Int) (w : World) (h0 : 0 ≤ x) (h1 : x ≤ 4294967295) :
    Calls Try.prog 70 #[.int .u32 x] w fun e w' => e = .returned (.int .i64 (Lib.bitLen x.toNat)) ∧ w' = w := Any.bits_Len32 lz128 x w h0 h1
def lz133_ren : Go.Shelf.Ren := ⟨fun | 133 => 64 | 128 => 70 | n => n, fun | 51 => 41 | 3 => 3 | 4 => 4 | 46 => 66 | 5 => 5 | 9 => 9 | n => n, fun | n => n⟩
theorem lz133 : Go.Proofs.Lays.n133 Try.prog lz133_ren := {
  mixed := by kernel_rfl
  f128 := Try.func70.trans (congrArg some (by kernel_rfl))
  f133 := Try.func64.trans (congrArg some (by kernel_rfl))
  t3 := Try.underlying3
  a3 := Try.isAgg3
  z3 := Try.sizeOf3
  v3 := Try.zeroValue3
  t4 := Try.underlying4
  a4 := Try.isAgg4
  z4 := Try.sizeOf4
  v4 := Try.zeroValue4
  t5 := Try.underlying5
  a5 := Try.isAgg5
  z5 := Try.sizeOf5
  v5 := Try.zeroValue5
  t9 := Try.underlying9
  a9 := Try.isAgg9
  z9 := Try.sizeOf9
  v9 := Try.zeroValue9
  t46 := Try.underlying66
  a46 := Try.isAgg66
  z46 := Try.sizeOf66
  v46 := Try.zeroValue66
  t51 := Try.underlying41
  a51 := Try.isAgg41
  z51 := Try.sizeOf41
  v51 := Try.zeroValue41 }
theorem bits_LeadingZeros32 (x : Int) (w : World) (h0 : 0 ≤ x) (h1 : x ≤ 4294967295) :
    Calls Try.prog 64 #[.int .u32 x] w fun e w' => e = .returned (.int .i64 (32 - (Lib.bitLen x.toNat : Int))) ∧ w' = w := Any.bits_LeadingZeros32 lz133 x w h0 h1

theorem lz_bounds : ∀ (f x : Nat), x < 2 ^ f → x ≠ 0 → 1 ≤ Lib.bitLenAux f x ∧ 2 ^ (Lib.bitLenAux f x - 1) ≤ x ∧ x < 2 ^ Lib.bitLenAux f x
  | 0, x, h, h0 => by simp at h; omega
  | f + 1, x, h, h0 => by
    rw [Lib.bitLenAux, if_neg h0]
    by_cases h1 : x / 2 = 0
    · have : x = 1 := by omega
      subst this
      cases f <;> simp [Lib.bitLenAux]
    · obtain ⟨a, b, c⟩ := lz_bounds f (x / 2) (by rw [Nat.pow_succ] at h; omega) h1
      generalize Lib.bitLenAux f (x / 2) = k at a b c ⊢
      have e : 1 + k - 1 = (k - 1) + 1 := by omega
      have e2 : 2 ^ (1 + k) = 2 ^ k * 2 := by rw [Nat.add_comm, Nat.pow_succ]
      rw [e, Nat.pow_succ, e2]
      omega

/-- the shift that brings a limb's highest bit to the front -/
def Lz (x s p p' : Nat) : Prop := s ≤ 31 ∧ p = 2 ^ s ∧ p * p' = 4294967296 ∧ 2147483648 ≤ x * p ∧ x * p < 4294967296

theorem lz_of {x : Nat} (h0 : x ≠ 0) (h : x < 4294967296) : ∃ s p p', Lz x s p p' ∧ (32 : Int) - (Lib.bitLen x : Int) = (s : Int) := by
  obtain ⟨a, b, c⟩ := lz_bounds 64 x (by omega) h0
  have d := Lib.bitLen_le x 32 (by omega) (by omega)
  rw [Lib.bitLen] at d
  rw [Lib.bitLen]
  generalize Lib.bitLenAux 64 x = k at a b c d ⊢
  have e1 : 2 ^ (32 - k) * 2 ^ k = 4294967296 := by rw [← Nat.pow_add, show 32 - k + k = 32 by omega]
  have e2 : 2 ^ k = 2 ^ (k - 1) * 2 := by rw [← Nat.pow_succ, show (k - 1).succ = k by omega]
  have e3 : 2 ^ (k - 1) * 2 ^ (32 - k) = 2147483648 := by rw [← Nat.pow_add, show k - 1 + (32 - k) = 31 by omega]
  have hp := Nat.pow_pos (n := 32 - k) (show 0 < 2 by omega)
  refine ⟨32 - k, 2 ^ (32 - k), 2 ^ k, ⟨by omega, rfl, e1, ?_, ?_⟩, by omega⟩
  · rw [← e3]; exact Nat.mul_le_mul_right _ b
  · rw [← e1, Nat.mul_comm]; exact Nat.mul_lt_mul_of_pos_left c hp

theorem lz_some (x : Nat) (w : World) (h0 : x ≠ 0) (h : x < 4294967296) :
    Calls Try.prog 64 #[.int .u32 (x : Int)] w (fun e w' => (∃ (s p p' : Nat), e = .returned (.int .i64 (s : Int)) ∧ Lz x s p p') ∧ w = w') := by
  refine (bits_LeadingZeros32 (x : Int) w (by omega) (by omega)).mono ?_
  rintro e w' ⟨rfl, rfl⟩
  obtain ⟨s, p, p', hz, he⟩ := lz_of h0 h
  exact ⟨⟨s, p, p', by rw [Int.toNat_natCast, he], hz⟩, rfl⟩

end Go.Proofs.Ytogmgomcdhfolaa
