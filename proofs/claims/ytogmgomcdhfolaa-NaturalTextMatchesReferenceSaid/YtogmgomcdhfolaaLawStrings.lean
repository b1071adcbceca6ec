/-
  NaturalStrings: a string that Parse accepts is the text of its number, and other strings are no numbers.
-/
import Derived.Test.YtogmgomcdhfolaaLawKit
import Derived.Test.YtogmgomcdhfolaaStr
namespace Go.Proofs.Ytogmgomcdhfolaa
open Go.RowKit Nt

theorem decU_lt {s : ByteArray} {k : Nat} (h : ∀ j, j < k → byt s j ≤ 57) : decU s k < 10 ^ k := by
  induction k with
  | zero => simp [decU]
  | succ k ih =>
    have h1 := ih (fun j hj => h j (by omega))
    have h2 := h k (by omega)
    show decU s k * 10 + (byt s k - 48) < _
    rw [Nat.pow_succ]
    omega
theorem fit_decU {s : ByteArray} (h : DecS s) : Fit s.size (decU s s.size) := by
  apply dg_length_le
  exact Nat.lt_of_lt_of_le (decU_lt (fun j hj => (h.all j hj).2)) (Nat.pow_le_pow_left (by omega) _)

theorem vb_t {p : Prop} [Decidable p] (h : p) : Value.bool (decide p) = .bool true := by rw [decide_eq_true h]
theorem vb_f {p : Prop} [Decidable p] (h : ¬ p) : Value.bool (decide p) = .bool false := by rw [decide_eq_false h]

theorem k_parse {s : ByteArray} {N : Nat} {w : World} (hs : s.size ≤ 1000) (hd : Hid (DecS s)) (hN : Hid (decU s s.size = N)) :
    Calls Try.prog 32 #[.string s] w (Back2 w N 0) := by
  have := parse_small s w (by omega) hd.out ((fit_decU hd.out).out (by omega))
  rw [hN.out] at this
  exact this.mono fun _ _ h => h.back
theorem k_parse_bad {s : ByteArray} {w : World} (hs : s.size ≤ 1000) (hd : Hid (¬ DecS s)) :
    Calls Try.prog 32 #[.string s] w (Back2 w 0 12) := (parse_bad s w (by omega) hd).mono fun _ _ h => h.back

set_option maxHeartbeats 1000000 in
theorem strings_long (s : ByteArray) (w : World) (hs : 100 < s.size) (hm : s.size ≤ 9223372036854775807) :
    Calls Try.prog 11 #[.string s] w (BackB w true) := by
  go_enter Try.func11, Try.ntmps11
  go_wp2_with fail
  refine k_sanity.mono ?_
  rintro e w1 ⟨rfl, b1⟩
  go_wp2_with fail
  go_ret
  exact ⟨rfl, b1⟩

set_option maxHeartbeats 1000000 in
theorem strings_yes (s : ByteArray) (N : Nat) (w : World) (hs : s.size ≤ 100) (hd : Hid (DecS s)) (hN : Hid (decU s s.size = N)) :
    Calls Try.prog 11 #[.string s] w (BackB w true) := by
  have hget := get_byt s
  have hp : 0 < s.size := hd.out.pos
  have he : ¬ s.toList = [] := fun h => by have := (empty_iff s).1 h; omega
  have hei : s.toList.isEmpty = false := by
    rcases hc : s.toList.isEmpty with _ | _
    · rfl
    · exact absurd (List.isEmpty_iff.1 hc) he
  have ht : Hid (txt N = s) := by rw [← hN.out]; exact txt_decU hd.out
  have hf : Hid ((dg N).length ≤ 1024) := by rw [← hN.out]; exact (fit_decU hd.out).out (by omega)
  go_enter Try.func11, Try.ntmps11
  go_wp2_with fail
  refine k_sanity.mono ?_
  rintro e w1 ⟨rfl, b1⟩
  go_wp2_with fail
  refine (k_parse (by omega) hd hN).mono ?_
  rintro e w2 ⟨A, c, rfl, hc, R, b2⟩
  go_wp2_with fail
  go_loop [6, 7] (fun d i => ∃ k : Nat, k ≤ s.size ∧ i = .int .i64 k ∧ d = .bool true) (fun _ i => s.size - (intOf i).toNat)
  case atStart => exact ⟨0, Nat.zero_le _, rfl, by simp⟩
  case round =>
    obtain ⟨k, hk, rfl, rfl⟩ := hrel
    by_cases hlt : k < s.size
    · have hd1 := (hd.out.all k hlt).1
      have hd2 := (hd.out.all k hlt).2
      go_wp2_with fail
      go_round
      case rel => exact ⟨k + 1, by omega, by go_num, vb_t (by omega)⟩
      case measure => simp [intOf]; omega
    · by_cases h1 : s.size = 1
      · have h1b : ((s.size : Int) == 1) = true := by rw [h1]; rfl
        clear h1
        go_wp2_with fail
        refine (k_valid R hf.out).mono ?_
        rintro e w3 ⟨rfl, b3⟩
        have R3 := rdb R b3
        go_wp2_with fail
        refine (k_text R3 hf.out).mono ?_
        rintro e w4 ⟨rfl, b4⟩
        rw [ht.out]
        go_wp2_with fail
        go_ret
        exact ⟨by simp, ((b1.trans (b2.mono b1.size)).trans (b3.mono (b1.trans (b2.mono b1.size)).size)).trans (b4.mono ((b1.trans (b2.mono b1.size)).trans (b3.mono (b1.trans (b2.mono b1.size)).size)).size)⟩
      · have h1b : ((s.size : Int) == 1) = false := beq_eq_false_iff_ne.2 (by omega)
        have h48 : ((byt s 0 : Int) != 48) = true := by
          have := hd.out.lead.resolve_left h1
          exact bne_iff_ne.2 (by omega)
        clear h1
        go_wp2_with fail
        refine (k_valid R hf.out).mono ?_
        rintro e w3 ⟨rfl, b3⟩
        have R3 := rdb R b3
        go_wp2_with fail
        refine (k_text R3 hf.out).mono ?_
        rintro e w4 ⟨rfl, b4⟩
        rw [ht.out]
        go_wp2_with fail
        go_ret
        exact ⟨by simp, ((b1.trans (b2.mono b1.size)).trans (b3.mono (b1.trans (b2.mono b1.size)).size)).trans (b4.mono ((b1.trans (b2.mono b1.size)).trans (b3.mono (b1.trans (b2.mono b1.size)).size)).size)⟩

set_option maxHeartbeats 1000000 in
theorem strings_no (s : ByteArray) (w : World) (hs : s.size ≤ 100) (hd : Hid (¬ DecS s)) :
    Calls Try.prog 11 #[.string s] w (BackB w true) := by
  have hget := get_byt s
  go_enter Try.func11, Try.ntmps11
  go_wp2_with fail
  refine k_sanity.mono ?_
  rintro e w1 ⟨rfl, b1⟩
  go_wp2_with fail
  refine (k_parse_bad (by omega) hd).mono ?_
  rintro e w2 ⟨A, c, rfl, hc, R, b2⟩
  rw [dg_zero]
  have b3 := b1.trans (b2.mono b1.size)
  go_wp2_with fail
  go_loop [6, 7] (fun d i => ∃ (k : Nat) (t : Bool), k ≤ s.size ∧ i = .int .i64 k ∧ d = .bool t ∧ Hid (t = true → 0 < s.size ∧ DigU s k)) (fun _ i => s.size - (intOf i).toNat)
  case atStart => exact ⟨0, _, Nat.zero_le _, rfl, rfl, fun ht => ⟨by
    rcases Nat.eq_zero_or_pos s.size with h | h
    · have := (empty_iff s).2 h
      simp [this] at ht
    · exact h, fun j hj => absurd hj (by omega)⟩⟩
  case round =>
    obtain ⟨k, t, hk, rfl, rfl, ht⟩ := hrel
    by_cases hlt : k < s.size
    · rcases t with _ | _
      · go_wp2_with fail
        go_round
        case rel => exact ⟨k + 1, false, by omega, by go_num, rfl, fun h => absurd h Bool.false_ne_true⟩
        case measure => simp [intOf]; omega
      · by_cases h1 : byt s k < 48
        · go_wp2_with fail
          go_round
          case rel => exact ⟨k + 1, false, by omega, by go_num, rfl, fun h => absurd h Bool.false_ne_true⟩
          case measure => simp [intOf]; omega
        · by_cases h2 : 57 < byt s k
          · go_wp2_with fail
            go_round
            case rel => exact ⟨k + 1, false, by omega, by go_num, vb_f (by omega), fun h => absurd h Bool.false_ne_true⟩
            case measure => simp [intOf]; omega
          · go_wp2_with fail
            go_round
            case rel => exact ⟨k + 1, true, by omega, by go_num, vb_t (by omega), fun _ => ⟨(ht.out rfl).1, fun j hj => by
              rcases Nat.lt_or_ge j k with h3 | h3
              · exact (ht.out rfl).2 j h3
              · have e : j = k := by omega
                rw [e]; omega⟩⟩
            case measure => simp [intOf]; omega
    · rcases t with _ | _
      · go_wp2_with fail
        go_ret
        exact ⟨rfl, b3⟩
      · have hp := (ht.out rfl).1
        have hall := (ht.out rfl).2
        have hnl : ¬ (s.size = 1 ∨ byt s 0 ≠ 48) := fun h => hd.out ⟨hp, h, fun j hj => hall j (by omega)⟩
        have h1b : ((s.size : Int) == 1) = false := beq_eq_false_iff_ne.2 (fun e => hnl (.inl (by omega)))
        have h48 : ((byt s 0 : Int) != 48) = false := by
          by_cases h : byt s 0 = 48
          · rw [h]; rfl
          · exact absurd (.inr h) hnl
        clear hnl hall
        go_wp2_with fail
        go_ret
        exact ⟨rfl, b3⟩

theorem naturalStrings_walk (s : ByteArray) (w : World) (hm : s.size ≤ 9223372036854775807) :
    Calls Try.prog 11 #[.string s] w (BackB w true) := by
  rcases Nat.lt_or_ge 100 s.size with h | h
  · exact strings_long s w h hm
  · by_cases hd : DecS s
    · exact strings_yes s _ w h hd rfl
    · exact strings_no s w h hd

end Go.Proofs.Ytogmgomcdhfolaa
