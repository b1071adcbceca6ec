/-
  Plain mathematics and contracts of package diagram, several texts in one: XKj.
-/
import Derived.Test.YtfkljlncnfeklaaGreatDoorPs

/-! The laws' words, and what Longest answers at an offset. -/
namespace Go.Proofs.YtfkljlncnfeklaaGreatDoor
open Go.RowKit Go.Shelf
set_option linter.unusedVariables false
set_option linter.unusedSimpArgs false

/-- the word of a list of numbers -/
def wdN (l : List Nat) (k : Nat) : List UInt8 := wdB ((l.map UInt8.ofNat).take k)
theorem wdN_len (l : List Nat) (k : Nat) : (wdN l k).length ≤ k := by unfold wdN wdB; rw [List.length_map, List.length_take]; omega
theorem rby_b8 {w : World} {B : Nat} {A : Option Addr} {n : Nat} {l : List Nat} (h : B8 w B A n l) : Rby w B A (l.map UInt8.ofNat) := fun h0 => by
  rw [List.length_map] at h0
  obtain ⟨b, o, e, hB, hc⟩ := h.rd (by have := h.len; omega)
  refine ⟨b, o, e, hB, fun j hj => ?_⟩
  rw [List.length_map] at hj
  rw [hc j (by have := h.len; omega)]
  have hb := h.byte j
  rw [List.getD_eq_getElem?_getD, List.getElem?_eq_getElem hj] at hb ⊢
  simp only [Option.getD_some, List.getElem_map] at hb ⊢
  congr 2
  rw [UInt8.toNat_ofNat']
  omega
theorem ext_take (S : List UInt8) (k m : Nat) : ((⟨S.toArray⟩ : ByteArray).extract k (k + m)).data.toList = (S.drop k).take m := by
  rw [ByteArray.data_extract, Array.toList_extract, List.extract_eq_take_drop]
  show List.take (k + m - k) (List.drop k S) = _
  rw [Nat.add_sub_cancel_left]
/-- what Longest answers: n bytes, the flag -/
structure LoF (a : Rx) (S : List UInt8) (k n : Nat) : Prop where
  le : k + n ≤ S.length
  up : ∀ m, n < m → k + m ≤ S.length → ¬ a.mt ((S.drop k).take m)
  at' : 0 < n → a.mt ((S.drop k).take n)
theorem lo_at {a : Rx} (ha : a.by8) (hl : a.nn ≤ 512) {S : List UInt8} {k : Nat} (hk : k ≤ S.length) : ∃ n : Nat, loP (a.po []) S (k : Int) = ((n : Int), decide (0 < n)) ∧ LoF a S k n ∧ (0 < n → lng a (S.drop k) = (n : Int)) ∧ (n = 0 → lng a (S.drop k) ≤ 0) := by
  have hr := lng_range a (S.drop k)
  rw [List.length_drop] at hr
  unfold loP
  rw [rxPo, Int.toNat_natCast]
  by_cases c : 0 < lng a (S.drop k)
  · obtain ⟨n, hn⟩ : ∃ n : Nat, lng a (S.drop k) = (n : Int) := ⟨(lng a (S.drop k)).toNat, by omega⟩
    have hp := lng_pos hn
    refine ⟨n, ?_, ⟨by omega, fun m h1 h2 => hp.2 m h1 (by rw [List.length_drop]; omega), fun _ => hp.1⟩, fun _ => hn, fun h => by omega⟩
    rw [if_pos ⟨sy_ok ha hl, by omega, by omega, c⟩, hn, decide_eq_true (by omega)]
  · refine ⟨0, ?_, ⟨by omega, fun m h1 h2 => lng_low (by omega) m h1 (by rw [List.length_drop]; omega), fun h => by omega⟩, fun h => by omega, fun _ => by omega⟩
    rw [if_neg (fun e => c e.2.2.2)]
    rfl
theorem lo_grow {a : Rx} (ha : a.by8) (hl : a.nn ≤ 512) {S t : List UInt8} {k : Nat} (hk : k ≤ S.length) : ∃ n n' : Nat, loP (a.po []) S (k : Int) = ((n : Int), decide (0 < n)) ∧ LoF a S k n ∧ loP (a.po []) (S ++ t) (k : Int) = ((n' : Int), decide (0 < n')) ∧ n ≤ n' := by
  obtain ⟨n, h1, h2, h3, h4⟩ := lo_at ha hl hk
  obtain ⟨n', g1, g2, g3, g4⟩ := lo_at (S := S ++ t) ha hl (k := k) (by rw [List.length_append]; omega)
  refine ⟨n, n', h1, h2, g1, ?_⟩
  rw [List.drop_append_of_le_length hk] at g3 g4
  have := lng_grow a (S.drop k) t
  rcases Nat.eq_zero_or_pos n with q | q
  · omega
  · have := h3 q
    rcases Nat.eq_zero_or_pos n' with q' | q'
    · have := g4 q'; omega
    · have := g3 q'; omega

end Go.Proofs.YtfkljlncnfeklaaGreatDoor
