/-
  Decimal strings: their digits and their value; natural.isDecimal.
-/
import Derived.Test.YtogmgomcdhfolaaScale
import Derived.Test.YtogmgomcdhfolaaNum10
namespace Go.Proofs.Ytogmgomcdhfolaa
open Go.RowKit Nt

/-- the byte at k -/
def byt (s : ByteArray) (k : Nat) : Nat := if h : k < s.size then (s[k]'h).toNat else 0
theorem get_byt (s : ByteArray) : ∀ (n : Nat) (h : n < s.size), ((s[n]'h).toNat : Int) = ((byt s n : Nat) : Int) := fun n h => by unfold byt; rw [dif_pos h]
theorem byt_le (s : ByteArray) (k : Nat) : byt s k ≤ 255 := by
  unfold byt; split
  · have := (s[k]).toNat_lt; omega
  · omega

/-- a string of digits without a leading zero -/
structure DecS (s : ByteArray) : Prop where
  pos : 0 < s.size
  lead : s.size = 1 ∨ byt s 0 ≠ 48
  all : ∀ j, j < s.size → 48 ≤ byt s j ∧ byt s j ≤ 57
/-- the number of the first k digits -/
def decU (s : ByteArray) : Nat → Nat
  | 0 => 0
  | k + 1 => decU s k * 10 + (byt s k - 48)

theorem empty_iff (s : ByteArray) : s.toList = [] ↔ s.size = 0 := by
  rw [ByteArray.toList_eq]
  constructor
  · intro h; show s.data.toList.length = 0; rw [h]; rfl
  · intro h; exact List.eq_nil_of_length_eq_zero h
theorem byt_get (s : ByteArray) (k : Nat) : byt s k = (s.data.toList.getD k 0).toNat := by
  unfold byt
  split
  · rename_i h
    have h' : k < s.data.toList.length := h
    rw [List.getD_eq_getElem?_getD, List.getElem?_eq_getElem h']; rfl
  · rename_i h
    have h' : s.data.toList.length ≤ k := Nat.le_of_not_lt h
    rw [List.getD_eq_getElem?_getD, List.getElem?_eq_none h']; rfl
theorem one_iff (s : ByteArray) : s.toList = [48] ↔ s.size = 1 ∧ byt s 0 = 48 := by
  rw [ByteArray.toList_eq, byt_get]
  have hs : s.size = s.data.toList.length := rfl
  rw [hs]
  generalize s.data.toList = l
  rcases l with _ | ⟨x, _ | ⟨y, l⟩⟩
  · simp
  · simp only [List.length_cons, List.length_nil, List.getD_cons_zero, true_and, List.cons.injEq, and_true, Nat.zero_add]
    exact ⟨fun h => by rw [h]; rfl, fun h => UInt8.toNat_inj.1 h⟩
  · simp

theorem Bool_no {b : Bool} {p : Prop} (h : b = true ↔ p) (hn : ¬ p) : b = false := by
  rcases b with _ | _
  · rfl
  · exact absurd (h.1 rfl) hn

/-- the first k bytes are digits -/
def DigU (s : ByteArray) (k : Nat) : Prop := ∀ j, j < k → 48 ≤ byt s j ∧ byt s j ≤ 57

set_option maxHeartbeats 2000000 in
theorem isDec (s : ByteArray) (b : Bool) (w : World) (hs : s.size ≤ 1000000) (hb : Hid (b = true ↔ DecS s)) :
    Calls Try.prog 54 #[.string s] w fun e w' => e = .returned (.bool b) ∧ w = w' := by
  have hget := get_byt s
  by_cases h0 : s.size = 0
  · have he : s.toList = [] := (empty_iff s).2 h0
    have hei : s.toList.isEmpty = true := by rw [he]; rfl
    have hf : b = false := Bool_no hb.out (fun h => by have := h.pos; omega)
    subst hf
    clear h0 hs hb
    go_enter Try.func54, Try.ntmps54
    go_wp2
    go_ret
    exact ⟨rfl, rfl⟩
  · have he : ¬ s.toList = [] := fun h => h0 ((empty_iff s).1 h)
    have hei : s.toList.isEmpty = false := by
      rcases hc : s.toList.isEmpty with _ | _
      · rfl
      · exact absurd (List.isEmpty_iff.1 hc) he
    have hp : 0 < s.size := by omega
    by_cases hl : byt s 0 = 48 ∧ s.size ≠ 1
    · have h48 : ((byt s 0 : Int) == 48) = true := by rw [hl.1]; rfl
      have hno : (s.toList == [48]) = false := beq_eq_false_iff_ne.2 (fun h => hl.2 ((one_iff s).1 h).1)
      have hf : b = false := Bool_no hb.out (fun h => h.lead.elim hl.2 (fun h => h hl.1))
      subst hf
      clear hl hb
      go_enter Try.func54, Try.ntmps54
      go_wp2
      go_ret
      exact ⟨rfl, rfl⟩
    · have hpre : (((byt s 0 : Int) == 48) = false) ∨ (((byt s 0 : Int) == 48) = true ∧ (s.toList == [48]) = true) := by
        by_cases h : byt s 0 = 48
        · right
          have h1 : s.size = 1 := by
            rcases Nat.decEq s.size 1 with hq | hq
            · exact absurd ⟨h, hq⟩ hl
            · exact hq
          exact ⟨by rw [h]; rfl, beq_iff_eq.2 ((one_iff s).2 ⟨h1, h⟩)⟩
        · left
          exact beq_eq_false_iff_ne.2 (by omega)
      have hlead : Hid (s.size = 1 ∨ byt s 0 ≠ 48) := by
        show _ ∨ _
        by_cases h : byt s 0 = 48
        · left
          rcases Nat.decEq s.size 1 with hq | hq
          · exact absurd ⟨h, hq⟩ hl
          · exact hq
        · exact .inr h
      clear hl h0
      rcases hpre with h48 | ⟨h48, hone⟩
      all_goals
        go_enter Try.func54, Try.ntmps54
        go_wp2
        go_loop [17] (fun i => ∃ k : Nat, k ≤ s.size ∧ i = .int .i64 k ∧ Hid (DigU s k)) (fun i => s.size - (intOf i).toNat)
        case atStart => exact ⟨0, Nat.zero_le _, rfl, fun j hj => absurd hj (by omega)⟩
        case round =>
          obtain ⟨k, hk, rfl, hdig⟩ := hrel
          by_cases hlt : k < s.size
          · by_cases hd : byt s k < 48
            · have hf : b = false := Bool_no hb.out (fun h => by have := (h.all k hlt).1; omega)
              subst hf
              go_wp2
              go_ret
              exact ⟨rfl, rfl⟩
            · by_cases hd2 : 57 < byt s k
              · have hf : b = false := Bool_no hb.out (fun h => by have := (h.all k hlt).2; omega)
                subst hf
                go_wp2
                go_ret
                exact ⟨rfl, rfl⟩
              · go_wp2
                go_round
                case rel => exact ⟨k + 1, by omega, by go_num, fun j hj => by
                  rcases Nat.lt_or_ge j k with h3 | h3
                  · exact hdig.out j h3
                  · have e : j = k := by omega
                    rw [e]; omega⟩
                case measure => simp [intOf]; omega
          · have hf : b = true := hb.out.2 ⟨hp, hlead.out, fun j hj => hdig.out j (by omega)⟩
            subst hf
            go_wp2
            go_ret
            exact ⟨rfl, rfl⟩

end Go.Proofs.Ytogmgomcdhfolaa
