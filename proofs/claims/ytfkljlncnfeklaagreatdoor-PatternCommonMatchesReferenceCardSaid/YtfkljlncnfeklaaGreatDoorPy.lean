/-
  Plain mathematics and contracts of package diagram, several texts in one: XOc.
-/
import Derived.Test.YtfkljlncnfeklaaGreatDoorPb

/-! The reference's parser by offsets: plain, digit, byteAt. (Seat of the great laws.) -/
namespace Go.Proofs.YtfkljlncnfeklaaGreatDoor
open Go.RowKit Go.Shelf
set_option linter.unusedVariables false
set_option linter.unusedSimpArgs false
attribute [local go_sem ↓] Go.wp_at_zero Go.wp_at_succ

def pL : List UInt8 := [40, 41, 42, 45, 91, 92, 93, 124]
def dL : List UInt8 := [48, 49, 50, 51, 52, 53, 54, 55, 56, 57, 97, 98, 99, 100, 101, 102]
theorem pL_no (b : Nat) (h : ∀ j, j < 8 → (pL.getD j 0).toNat ≠ b) : plainB b = (decide (33 ≤ b) && decide (b ≤ 126)) := by
  have h0 := h 0 (by decide)
  have h1 := h 1 (by decide)
  have h2 := h 2 (by decide)
  have h3 := h 3 (by decide)
  have h4 := h 4 (by decide)
  have h5 := h 5 (by decide)
  have h6 := h 6 (by decide)
  have h7 := h 7 (by decide)
  simp [pL] at h0 h1 h2 h3 h4 h5 h6 h7
  unfold plainB
  have e : (b == 40 || b == 41 || b == 42 || b == 45 || b == 91 || b == 92 || b == 93 || b == 124) = false := by
    simp; omega
  rw [e]
  simp
theorem pL_yes (j : Nat) (h : j < 8) : plainB (pL.getD j 0).toNat = false := by
  revert j
  decide
set_option maxRecDepth 100000 in
theorem oplain_any (b : Nat) (hb : b < 256) (w : World) : Calls Tryz.prog 84 #[.int .u8 (b : Int)] w fun e w' => e = .returned (.bool (plainB b)) ∧ w' = w := by
  go_enter Tryz.func84, Tryz.ntmps84
  go_wp2
  go_loopw [3] (fun v3 wr => wr = w ∧ ∃ i : Nat, v3 = .int .i64 (i : Int) ∧ i ≤ 8 ∧ ∀ j, j < i → (pL.getD j 0).toNat ≠ b) (fun v3 wr => 8 - (intOf v3).toNat)
  case atStart => exact ⟨rfl, 0, rfl, Nat.zero_le _, fun j hj => absurd hj (Nat.not_lt_zero _)⟩
  case round =>
    obtain ⟨rfl, i, rfl, hi, hno⟩ := hrel
    by_cases hlt : i < 8
    · have i1 : (i : Int) < 8 := by omega
      have i0 : (0 : Int) ≤ (i : Int) := by omega
      have hpf : i < (⟨#[40, 41, 42, 45, 91, 92, 93, 124]⟩ : ByteArray).size := hlt
      have hx : (⟨#[40, 41, 42, 45, 91, 92, 93, 124]⟩ : ByteArray)[i]'hpf = pL.getD i 0 := by
        rw [List.getD_eq_getElem?_getD, List.getElem?_eq_getElem (show i < pL.length from hlt)]
        rfl
      obtain ⟨c, hc⟩ : ∃ c, pL.getD i 0 = c := ⟨_, rfl⟩
      have hpy := pL_yes i hlt
      rw [hc] at hx hpy
      have HN := Lib.hid hno
      have HC := Lib.hid hc
      clear hno hc
      by_cases he : c.toNat = b
      · have e1 : ((b : Int) == (c.toNat : Int)) = true := by rw [he]; simp
        rw [he] at hpy
        have HPY := Lib.hid hpy
        clear he hpy
        go_wp2
        go_ret
        exact ⟨by rw [HPY.out]; rfl, rfl⟩
      · have e1 : ((b : Int) == (c.toNat : Int)) = false := by rw [beq_eq_false_iff_ne]; omega
        have HE := Lib.hid he
        clear hpy he
        go_wp2
        go_roundw
        · exact ⟨trivial, i + 1, by simp, by omega, fun j hj => by
            rcases Nat.lt_or_ge j i with q | q
            · exact HN.out j q
            · rw [show j = i by omega, HC.out]; exact HE.out⟩
        · simp only [intOf]; omega
    · obtain rfl : i = 8 := by omega
      have hp := pL_no b hno
      clear hno
      by_cases c1 : 33 ≤ b
      · by_cases c2 : b ≤ 126
        · have HPY := Lib.hid (show plainB b = true by rw [hp, decide_eq_true c1, decide_eq_true c2]; rfl)
          have i1 : (33 : Int) ≤ (b : Int) := by omega
          have i2 : (b : Int) ≤ 126 := by omega
          clear hp c1 c2
          go_wp2
          go_ret
          exact ⟨by rw [HPY.out]; rfl, rfl⟩
        · have HPY := Lib.hid (show plainB b = false by rw [hp, decide_eq_false c2, Bool.and_false])
          have i1 : (33 : Int) ≤ (b : Int) := by omega
          have i2 : ¬ (b : Int) ≤ 126 := by omega
          clear hp c1 c2
          go_wp2
          go_ret
          exact ⟨by rw [HPY.out]; rfl, rfl⟩
      · have HPY := Lib.hid (show plainB b = false by rw [hp, decide_eq_false c1, Bool.false_and])
        have i1 : ¬ (33 : Int) ≤ (b : Int) := by omega
        clear hp c1
        go_wp2
        go_ret
        exact ⟨by rw [HPY.out]; rfl, rfl⟩
/-- a digit's value, -1 where it is none -/
def dgI (b : Nat) : Int := match hexV (UInt8.ofNat b) with
  | some v => (v : Int)
  | none => -1
theorem dL_yes (i : Nat) (h : i < 16) : hexV (dL.getD i 0) = some i := by
  revert i
  decide
theorem dL_no (b : Nat) (hb : b < 256) (h : ∀ j, j < 16 → (dL.getD j 0).toNat ≠ b) : hexV (UInt8.ofNat b) = none := by
  have e : ∀ j, j < 16 → (dL.getD j 0).toNat = (if j < 10 then 48 + j else 87 + j) := by decide
  unfold hexV
  have hn : (UInt8.ofNat b).toNat = b := by rw [UInt8.toNat_ofNat']; omega
  rw [hn, if_neg (fun q => h (b - 48) (by omega) (by rw [e _ (by omega), if_pos (by omega)]; omega)), if_neg (fun q => h (b - 87) (by omega) (by rw [e _ (by omega), if_neg (by omega)]; omega))]
/-- the byte at an offset, 0 behind the end -/
def byA (S : List UInt8) (k : Nat) : UInt8 := S.getD k 0
end Go.Proofs.YtfkljlncnfeklaaGreatDoor
