/-
  The lists of offsets of the reference's matching: each once, none above the length.
-/
import Derived.Test.YtfkljlncnfeklaaGreatDoorPa
namespace Go.Proofs.YtfkljlncnfeklaaGreatDoor
set_option linter.unusedVariables false

theorem nodup_len : ∀ (n : Nat) (l : List Nat), l.Nodup → (∀ x ∈ l, x ≤ n) → l.length ≤ n + 1
  | 0, l, hd, h => by
    match l, hd, h with
    | [], _, _ => exact Nat.zero_le _
    | [x], _, _ => exact Nat.le_refl _
    | x :: y :: l, hd, h =>
      have h1 := h x (by simp)
      have h2 := h y (by simp)
      have : x = y := by omega
      subst this
      simp at hd
  | n + 1, l, hd, h => by
    by_cases hm : n + 1 ∈ l
    · have h1 := nodup_len n (l.erase (n + 1)) (hd.erase _) (fun x hx => by
        rw [hd.mem_erase_iff] at hx
        have := h x hx.2
        have := hx.1
        omega)
      rw [List.length_erase_of_mem hm] at h1
      omega
    · have h1 := nodup_len n l hd (fun x hx => by
        have := h x hx
        have : x ≠ n + 1 := fun e => hm (e ▸ hx)
        omega)
      omega
/-- offsets: each once, none above n -/
def Ofs (n : Nat) (f : List Nat) : Prop := f.Nodup ∧ ∀ x ∈ f, x ≤ n
theorem Ofs.len {n : Nat} {f : List Nat} (h : Ofs n f) : f.length ≤ n + 1 := nodup_len n f h.1 h.2
theorem Ofs.tg1 {n k : Nat} {f : List Nat} (h : Ofs n f) (hk : k ≤ n) : Ofs n (tg1 f k) := by
  unfold Go.Proofs.YtfkljlncnfeklaaGreatDoor.tg1
  split
  · exact h
  · next hn =>
    refine ⟨List.nodup_append.2 ⟨h.1, by simp, fun a ha b hb e => ?_⟩, fun x hx => ?_⟩
    · simp at hb
      subst hb
      subst e
      exact hn ha
    · rcases List.mem_append.1 hx with q | q
      · exact h.2 x q
      · simp at q; omega
theorem Ofs.tog {n : Nat} : ∀ (m : List Nat) {f : List Nat}, Ofs n f → (∀ x ∈ m, x ≤ n) → Ofs n (tog f m)
  | [], f, h, _ => h
  | k :: m, f, h, hm => Ofs.tog m (h.tg1 (hm k (by simp))) (fun x hx => hm x (by simp [hx]))
theorem Ofs.repB {n : Nat} {g : List Nat → List Nat} (hg : ∀ o, Ofs n o → Ofs n (g o)) : ∀ (k : Nat) (o : List Nat), Ofs n o → Ofs n (repB g k o)
  | 0, o, h => h
  | k + 1, o, h => by
    unfold Go.Proofs.YtfkljlncnfeklaaGreatDoor.repB
    have h1 := Ofs.tog (g o) h (hg o h).2
    split
    · exact h1
    · exact Ofs.repB hg k _ h1
theorem Ofs.bh (s : List UInt8) : ∀ (r : Rx) (f : List Nat), Ofs s.length f → Ofs s.length (bh s r f)
  | .emp, f, h => h
  | .rng lo hi, f, h => by
    refine ⟨?_, fun x hx => ?_⟩
    · show List.Pairwise (· ≠ ·) ((f.filter _).map _)
      refine List.Pairwise.map _ (fun a b (hab : a ≠ b) e => ?_) (List.Pairwise.filter _ h.1)
      exact hab (by omega)
    · change x ∈ (f.filter _).map _ at hx
      rw [List.mem_map] at hx
      obtain ⟨a, ha, rfl⟩ := hx
      have := (List.mem_filter.1 ha).2
      simp only [Bool.and_eq_true, decide_eq_true_eq] at this
      omega
  | .seq a b, f, h => Ofs.bh s b _ (Ofs.bh s a f h)
  | .alt a b, f, h => Ofs.tog _ (Ofs.bh s a f h) (Ofs.bh s b f h).2
  | .rep a, f, h => Ofs.repB (fun o ho => Ofs.bh s a o ho) _ f h
/-- one round of the repetition's loop, seen from its end -/
theorem repB_step (g : List Nat → List Nat) (n : Nat) (o : List Nat) : repB g (n + 1) o = if (tog o (g o)).length = o.length then tog o (g o) else repB g n (tog o (g o)) := rfl
/-- the repetition's loop: o is the list, c its length one round ago -/
def RbI (g : List Nat → List Nat) (R : List Nat) (s : List UInt8) (c : Int) (o : List Nat) : Prop := (c < (o.length : Int) ∧ ∃ n, miss s o < n ∧ repB g n o = R) ∨ (c = (o.length : Int) ∧ o = R)
theorem RbI.next {g : List Nat → List Nat} {R : List Nat} {s : List UInt8} {c : Int} {o : List Nat} (h : RbI g R s c o) (hc : c < (o.length : Int)) (hle : ∀ x ∈ tog o (g o), x ≤ s.length) : RbI g R s (o.length : Int) (tog o (g o)) ∧ ((tog o (g o)).length = o.length ∨ (o.length < (tog o (g o)).length ∧ miss s (tog o (g o)) < miss s o)) := by
  rcases h with ⟨_, n, hn, hR⟩ | ⟨h, _⟩
  · obtain ⟨n, rfl⟩ : ∃ m, n = m + 1 := ⟨n - 1, by omega⟩
    rw [repB_step] at hR
    have hl := tog_len (g o) o
    by_cases c1 : (tog o (g o)).length = o.length
    · rw [if_pos c1] at hR
      exact ⟨.inr ⟨by rw [c1], hR⟩, .inl c1⟩
    · rw [if_neg c1] at hR
      obtain ⟨x, hx1, hx2⟩ : ∃ x, x ∈ tog o (g o) ∧ x ∉ o := by
        refine Classical.byContradiction fun q => c1 ?_
        have : ∀ x ∈ g o, x ∈ o := fun x hx => Classical.byContradiction fun r => q ⟨x, (tog_mem _ _ _).2 (.inr hx), r⟩
        have e : ∀ (m : List Nat), (∀ x ∈ m, x ∈ o) → tog o m = o := fun m => by
          induction m with
          | nil => intro _; rfl
          | cons y m ih =>
            intro hm
            show tog (tg1 o y) m = o
            have : tg1 o y = o := by unfold tg1; rw [if_pos (hm y (by simp))]
            rw [this]
            exact ih (fun z hz => hm z (by simp [hz]))
        rw [e _ this]
      have hm := miss_less (s := s) (fun k hk => (tog_mem (g o) o k).2 (.inl hk)) (hle x hx1) hx2 hx1
      exact ⟨.inl ⟨by have := hl.1; omega, n, by omega, hR⟩, .inr ⟨by have := hl.1; omega, hm⟩⟩
  · omega
theorem RbI.start {s : List UInt8} {g : List Nat → List Nat} (o : List Nat) : RbI g (repB g (s.length + 2) o) s (-1) o := .inl ⟨by omega, _, by have := miss_le s o; omega, rfl⟩
/-- the greatest distance of an offset of a list from k -/
def bestN (k : Nat) (l : List Nat) : Int := l.foldl (fun (b : Int) (x : Nat) => max b ((x : Int) - (k : Int))) 0
theorem bestN_snoc (k : Nat) (l : List Nat) (x : Nat) : bestN k (l ++ [x]) = max (bestN k l) ((x : Int) - (k : Int)) := by unfold bestN; rw [List.foldl_append]; rfl
theorem best_ge (k : Nat) : ∀ (l : List Nat) (b : Int), b ≤ l.foldl (fun (b : Int) (x : Nat) => max b ((x : Int) - (k : Int))) b ∧ (∀ x ∈ l, (x : Int) - (k : Int) ≤ l.foldl (fun (b : Int) (x : Nat) => max b ((x : Int) - (k : Int))) b) ∧ (l.foldl (fun (b : Int) (x : Nat) => max b ((x : Int) - (k : Int))) b = b ∨ ∃ x ∈ l, l.foldl (fun (b : Int) (x : Nat) => max b ((x : Int) - (k : Int))) b = (x : Int) - (k : Int))
  | [], b => ⟨Int.le_refl _, (fun x hx => by cases hx), .inl rfl⟩
  | y :: l, b => by
    obtain ⟨h1, h2, h3⟩ := best_ge k l (max b ((y : Int) - (k : Int)))
    simp only [List.foldl_cons]
    generalize l.foldl (fun (b : Int) (x : Nat) => max b ((x : Int) - (k : Int))) (max b ((y : Int) - (k : Int))) = M at *
    refine ⟨by omega, fun x hx => ?_, ?_⟩
    · rcases List.mem_cons.1 hx with q | q
      · subst q; omega
      · exact h2 x q
    · rcases h3 with h3 | ⟨x, hx, h3⟩
      · by_cases c : b ≤ (y : Int) - (k : Int)
        · exact .inr ⟨y, by simp, by omega⟩
        · exact .inl (by omega)
      · exact .inr ⟨x, by simp [hx], h3⟩

theorem sub_drop (s : List UInt8) (k x : Nat) : sub s k x = (s.drop k).take (x - k) := by unfold sub; rw [List.drop_take]
theorem bh_one {s : List UInt8} {r : Rx} {k : Nat} (hk : k ≤ s.length) (x : Nat) : x ∈ bh s r [k] ↔ k ≤ x ∧ x ≤ s.length ∧ r.mt ((s.drop k).take (x - k)) := by
  rw [bh_ok s r [k] (fun j hj => by simp at hj; omega) x]
  constructor
  · rintro ⟨j, h1, h2, h3, h4⟩
    simp at h1
    subst h1
    exact ⟨h2, h3, by rw [← sub_drop]; exact h4⟩
  · rintro ⟨h2, h3, h4⟩
    exact ⟨k, by simp, h2, h3, by rw [sub_drop]; exact h4⟩
theorem bh_has (s : List UInt8) (r : Rx) : s.length ∈ bh s r [0] ↔ r.mt s := by
  rw [bh_one (Nat.zero_le _)]
  simp
theorem ofs_one {n k : Nat} (h : k ≤ n) : Ofs n [k] := ⟨by simp, fun x hx => by simp at hx; omega⟩
/-- the greatest match, by the offsets -/
theorem bh_best {s : List UInt8} {r : Rx} {k : Nat} (hk : k ≤ s.length) : bestN k (bh s r [k]) = if 0 < lng r (s.drop k) then lng r (s.drop k) else 0 := by
  obtain ⟨h1, h2, h3⟩ := best_ge k (bh s r [k]) 0
  change 0 ≤ bestN k (bh s r [k]) at h1
  change ∀ x ∈ bh s r [k], (x : Int) - (k : Int) ≤ bestN k (bh s r [k]) at h2
  change bestN k (bh s r [k]) = 0 ∨ ∃ x ∈ bh s r [k], bestN k (bh s r [k]) = (x : Int) - (k : Int) at h3
  have hb := lng_best r (s.drop k)
  rw [List.length_drop] at hb
  generalize bestN k (bh s r [k]) = M at *
  generalize lng r (s.drop k) = L at *
  rcases hb with ⟨e, hn⟩ | ⟨m, e, hm, hmt, hn⟩
  · rw [if_neg (by omega)]
    rcases h3 with h3 | ⟨x, hx, h3⟩
    · exact h3
    · rw [bh_one hk] at hx
      exact absurd hx.2.2 (hn _ (by omega))
  · have hin : k + m ∈ bh s r [k] := (bh_one hk _).2 ⟨by omega, by omega, by rw [show k + m - k = m by omega]; exact hmt⟩
    have hge := h2 _ hin
    have hle : M ≤ (m : Int) := by
      rcases h3 with h3 | ⟨x, hx, h3⟩
      · omega
      · rw [bh_one hk] at hx
        by_cases c : x - k ≤ m
        · omega
        · exact absurd hx.2.2 (hn _ (by omega) (by omega))
    split <;> omega

end Go.Proofs.YtfkljlncnfeklaaGreatDoor
