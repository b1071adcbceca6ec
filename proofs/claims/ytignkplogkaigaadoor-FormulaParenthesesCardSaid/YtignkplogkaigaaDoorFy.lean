/-
  Plain mathematics and contracts of package diagram, several texts in one: FCls.
-/
import Derived.Test.YtignkplogkaigaaDoorFq
import Derived.Test.YtignkplogkaigaaDoorFx

/-! The law's closing: where a pair of parentheses closes. -/
namespace Go.Proofs.YtignkplogkaigaaDoor
open Go.RowKit Dg St
set_option linter.unusedVariables false
set_option linter.unusedSimpArgs false
attribute [local go_sem ↓] Go.wp_at_zero Go.wp_at_succ

/-- closing is under way -/
structure ClI (s : ByteArray) (at_ K i d : Nat) : Prop where
  c : (i = at_ ∧ d = 0) ∨ (1 ≤ d ∧ ∃ j, cl d (s.data.toList.drop i) = some j ∧ i + j = K)
  d9 : d ≤ i
theorem map_some1 {o : Option Nat} {j : Nat} (h : o.map (· + 1) = some j) : ∃ i, o = some i ∧ j = i + 1 := by
  cases o with
  | none => cases h
  | some i => injection h with h; exact ⟨i, rfl, h.symm⟩

set_option maxHeartbeats 4000000 in
set_option maxRecDepth 100000 in
theorem lclosing (s : ByteArray) (at_ j0 : Nat) (w : World) (hs : s.size ≤ 100000) (h40 : s.data.toList[at_]? = some 40) (hc : Hid (cl 1 (s.data.toList.drop (at_ + 1)) = some j0)) :
    Calls Tryd.prog 25 #[.string s, .int .i64 (at_ : Int)] w fun e w' => e = .returned (.int .i64 ((at_ + 1 + j0 : Nat) : Int)) ∧ w = w' := by
  have hget := get_by8 s
  have H40 := Lib.hid h40
  have hat : at_ < s.size := by rw [← sz_tl]; exact (List.getElem?_eq_some_iff.1 h40).1
  obtain ⟨K, hK⟩ : ∃ K, at_ + 1 + j0 = K := ⟨_, rfl⟩
  rw [hK]
  have HK := Lib.hid hK
  have HS0 : Hid (ClI s at_ K at_ 0) := Lib.hid ⟨.inl ⟨rfl, rfl⟩, Nat.zero_le _⟩
  clear h40 hK
  go_enter Tryd.func25, Tryd.ntmps25
  go_wp2
  go_loopw [5, 6] (fun d i wr => ∃ n m : Nat, at_ ≤ n ∧ n ≤ s.size ∧ d = .int .i64 (m : Int) ∧ i = .int .i64 (n : Int) ∧ wr = w ∧ Hid (ClI s at_ K n m)) (fun _ i _ => s.size - (intOf i).toNat)
  case atStart => exact ⟨at_, 0, Nat.le_refl _, by omega, rfl, rfl, rfl, HS0⟩
  case round =>
    clear HS0
    obtain ⟨n, d, hn0, hn, rfl, rfl, rfl, HS⟩ := hrel
    have hlt : n < s.size := by
      rcases HS.out.c with ⟨e, _⟩ | ⟨_, j, e, _⟩
      · omega
      · rcases Nat.lt_or_ge n s.size with q | q
        · exact q
        · rw [List.drop_eq_nil_of_le (by rw [sz_tl]; exact q)] at e
          cases e
    obtain ⟨B, hB, ht, hx, hx2⟩ := by8_snoc hlt
    have hd : s.data.toList.drop n = B :: s.data.toList.drop (n + 1) := by
      have hl : n < s.data.toList.length := by rw [sz_tl]; exact hlt
      rw [List.drop_eq_getElem_cons hl]
      congr 1
      rw [List.getElem?_eq_getElem hl] at hx2
      injection hx2
    have i1 : (n : Int) < (s.size : Int) := by omega
    have i2 : (0 : Int) ≤ (n : Int) := by omega
    obtain ⟨b, hb⟩ : ∃ b, by8 s n = b := ⟨_, rfl⟩
    have hb255 : b ≤ 255 := by rw [← hb]; exact by8_le s n
    rw [hb] at hB
    have hBb : ∀ v : Nat, v < 256 → (B = UInt8.ofNat v ↔ b = v) := fun v hv => by
      rw [← hB]
      constructor
      · intro e; rw [e]; simp; omega
      · intro e; rw [← e]; simp
    have e40 : B = 40 ↔ b = 40 := hBb 40 (by omega)
    have e41 : B = 41 ↔ b = 41 := hBb 41 (by omega)
    have hd9 := HS.out.d9
    by_cases h1 : b = 40
    · -- one deeper
      have g1 : ((b : Int) == 40) = true := beq_iff_eq.2 (by omega)
      have g2 : ((b : Int) == 41) = false := beq_eq_false_iff_ne.2 (by omega)
      have g3 : ((d : Int) + 1 == 0) = false := beq_eq_false_iff_ne.2 (by omega)
      have HQ : Hid (ClI s at_ K (n + 1) (d + 1)) := Lib.hid ⟨by
        rcases HS.out.c with ⟨e1, e2⟩ | ⟨e1, j, e2, e3⟩
        · subst e1 e2
          exact .inr ⟨Nat.le_refl _, j0, hc.out, HK.out⟩
        · rw [hd, cl, if_pos (e40.2 h1)] at e2
          obtain ⟨i, e4, e5⟩ := map_some1 e2
          exact .inr ⟨by omega, i, e4, by omega⟩, by omega⟩
      clear HS hd hx hx2 ht hB hBb e40 e41 h1
      go_wp2
      go_roundw
      case rel => exact ⟨n + 1, d + 1, by omega, by omega, by go_num, by go_num, by first | rfl | trivial, HQ⟩
      case measure => simp [intOf]; omega
    have hS : 1 ≤ d ∧ ∃ j, cl d (s.data.toList.drop n) = some j ∧ n + j = K := by
      rcases HS.out.c with ⟨e1, e2⟩ | q
      · subst e1
        have := H40.out
        rw [hx2] at this
        injection this with this
        exact absurd (e40.1 this) h1
      · exact q
    obtain ⟨hd1, j, e2, e3⟩ := hS
    rw [hd, cl, if_neg (fun q => h1 (e40.1 q))] at e2
    have g1 : ((b : Int) == 40) = false := beq_eq_false_iff_ne.2 (by omega)
    by_cases h2 : b = 41
    · have g2 : ((b : Int) == 41) = true := beq_iff_eq.2 (by omega)
      rw [if_pos (e41.2 h2)] at e2
      by_cases h3 : d = 1
      · subst h3
        rw [if_pos rfl] at e2
        injection e2 with e2
        obtain rfl : n = K := by omega
        clear HS hd hx hx2 ht hB hBb e40 e41 h1 h2 e2 e3
        go_wp2
        go_ret
        exact ⟨rfl, rfl⟩
      · rw [if_neg h3] at e2
        obtain ⟨i, e4, e5⟩ := map_some1 e2
        obtain ⟨f, rfl⟩ : ∃ f, d = f + 1 := ⟨d - 1, by omega⟩
        have g3 : ((f : Int) == 0) = false := beq_eq_false_iff_ne.2 (by omega)
        have HQ : Hid (ClI s at_ K (n + 1) f) := Lib.hid ⟨.inr ⟨by omega, i, by rw [Nat.add_sub_cancel] at e4; exact e4, by omega⟩, by omega⟩
        clear HS hd hx hx2 ht hB hBb e40 e41 h1 h2 e2 e3 e4 e5
        go_wp2
        go_roundw
        case rel => exact ⟨n + 1, f, by omega, by omega, by go_num, by go_num, by first | rfl | trivial, HQ⟩
        case measure => simp [intOf]; omega
    · have g2 : ((b : Int) == 41) = false := beq_eq_false_iff_ne.2 (by omega)
      have g3 : ((d : Int) == 0) = false := beq_eq_false_iff_ne.2 (by omega)
      rw [if_neg (fun q => h2 (e41.1 q))] at e2
      obtain ⟨i, e4, e5⟩ := map_some1 e2
      have HQ : Hid (ClI s at_ K (n + 1) d) := Lib.hid ⟨.inr ⟨hd1, i, e4, by omega⟩, by omega⟩
      clear HS hd hx hx2 ht hB hBb e40 e41 h1 h2 e2 e3 e4 e5
      go_wp2
      go_roundw
      case rel => exact ⟨n + 1, d, by omega, by omega, by go_num, by go_num, by first | rfl | trivial, HQ⟩
      case measure => simp [intOf]; omega

end Go.Proofs.YtignkplogkaigaaDoor
