/-
  Owned rows of bytes; slices.Reverse at bytes.
-/
import Derived.Test.YtogmgomcdhfolaaParse
namespace Go.Proofs.Ytogmgomcdhfolaa
open Go.RowKit Nt

/-- a decimal digit as a byte -/
def V (d : Nat) : Value := .int .u8 ((d + 48 : Nat) : Int)
theorem Try.infoB : (Try.prog.info? 5).map (fun i => (i.zero, i.size, i.bytes)) = some (some (.int .u8 0), 1, 1) := by kernel_rfl

/-- an owned row of digits at block g -/
def Ob (w : World) (base g n c : Nat) (D : List Nat) : Prop := w.ownsRow base 5 1 (.slice (some ⟨g, 0, none⟩) n c) n (D.map V)
section
variable {w : World} {base g n c j : Nat} {D : List Nat}
theorem Ob.len (h : Ob w base g n c D) : D.length = n := by have := h.1; simpa using this
theorem Ob.cell (h : Ob w base g n c D) (hj : j < n) : w.cell? ⟨g, j, none⟩ = some (.int .u8 ((nth D j + 48 : Nat) : Int)) := by
  have hl := h.len
  rw [World.ownsRow.cellAt h j (by omega)]
  simp [nth, V, show j < D.length by omega]
theorem Ob.frozen (h : Ob w base g n c D) (j : Nat) : w.frozen? ⟨g, j, none⟩ = false := World.ownsRow.frozenAt h j
theorem Ob.store (h : Ob w base g n c D) (j x : Nat) : Ob (w.setCell ⟨g, j, none⟩ (.int .u8 ((x + 48 : Nat) : Int))) base g n c (D.set j x) := by
  have := (World.ownsRow.stored h j (.int .u8 ((x + 48 : Nat) : Int))).1
  unfold Ob
  rw [List.map_set]
  exact this
theorem Ob.keep {w' : World} (h : Ob w base g n c D) (hk : w'.heap[g]? = w.heap[g]?) : Ob w' base g n c D := by
  refine ⟨h.1, ?_⟩
  rcases h.2 with ⟨h', _⟩ | ⟨g', cap', cur, h', hb, hg, r⟩
  · cases h'
  · injection h' with h1 _ h3
    injection h1 with h1
    injection h1 with h1
    subst h1
    exact .inr ⟨_, cap', cur, by rw [← h3], hb, hk.trans hg, r⟩
theorem Ob.drewN (h : Ob w base g n c D) (m : Nat) : Ob (w.drewN m) base g n c D := h.keep rfl
theorem Ob.le (h : Ob w base g n c D) : n ≤ c := by
  rcases h.2 with ⟨h', _⟩ | ⟨g', cap', cur, h', hb, hg, hnc, _⟩
  · cases h'
  · injection h' with _ _ h3
    subst h3
    exact hnc
theorem Ob.take (h : Ob w base g n c D) {k : Nat} (hk : k ≤ n) : Ob w base g k c (D.take k) := by
  refine ⟨by have := h.len; simp; omega, ?_⟩
  rcases h.2 with ⟨h', _⟩ | ⟨g', cap', cur, h', hb, hg, hnc, hcm, hcs, ht⟩
  · cases h'
  · injection h' with h1 _ h3
    injection h1 with h1
    injection h1 with h1
    subst h1
    subst h3
    refine .inr ⟨_, _, cur, rfl, hb, hg, by omega, hcm, hcs, ?_⟩
    rw [List.map_take, ← ht, List.take_take]
    congr 1
    omega
theorem Ob.ne_bk {g' : Nat} {L : List Nat} (h : Ob w base g n c D) (hb : Bk w g' L) : g ≠ g' := by
  rintro rfl
  rcases h.2 with ⟨h', _⟩ | ⟨g', cap', cur, h', _, hg, _⟩
  · cases h'
  · injection h' with h1 _ _
    injection h1 with h1
    injection h1 with h1
    subst h1
    unfold Bk at hb
    rw [hg] at hb
    injection hb with hb
    injection hb with _ hb
    exact absurd hb (by decide)
end
theorem Ob.lt {w : World} {base g n c : Nat} {D : List Nat} (h : Ob w base g n c D) : base ≤ g ∧ g < w.heap.size := World.ownsRow.lt h g rfl
theorem ob_empty (w : World) : Ob (w.alloc (.cells #[] 5)) w.heap.size w.heap.size 0 0 [] :=
  ⟨rfl, .inr ⟨w.heap.size, 0, #[], rfl, Nat.le_refl _, heap_alloc_new w _, Nat.le_refl _, by unfold maxLen; omega, rfl, rfl⟩⟩

/-- append of one digit, which lies in a block of its own -/
theorem wpList_append_digit (w : World) {ops : Array Oper} {rest : List Oper} {o : Oper} {a : Act} {Q : Exit → Act → World → Prop} (hgd : o.guard = none) (s x : Operand) (t : TypeId)
    (ho : o.op = .call { callee := .builtin .append, args := #[s, x], argTypes := #[t, t] }) (ht : Try.prog.underlying t = some (.slice 5))
    (base g n c : Nat) (D : List Nat) (hs : a.eval s = .slice (some ⟨g, 0, none⟩) n c) (X : Int) (d : Nat) (hX : X = ((d + 48 : Nat) : Int)) (w0 : World)
    (hown : Ob w0 base g n c D) (hw : w = w0.alloc (.cells #[.int .u8 X] 5)) (hx : a.eval x = .slice (some ⟨w0.heap.size, 0, none⟩) 1 1) (hb : n + 1 ≤ 1000000) (hbase : base ≤ w0.heap.size)
    (hK : ∀ g' c' w', Ob w' base g' (n + 1) c' (D ++ [d]) → w.grownBy w' (some g) → wpList Try.prog ops Q rest (a.put o.dst (.slice (some ⟨g', 0, none⟩) (n + 1) c')) w') :
    wpList Try.prog ops Q (o :: rest) a w := by
  obtain ⟨i0, hi, hz0, hz1, hz2⟩ := info_parts Try.infoB
  subst hX
  subst hw
  have hown' : (w0.alloc (.cells #[.int .u8 ((d + 48 : Nat) : Int)] 5)).ownsRow base 5 1 (.slice (some ⟨g, 0, none⟩) n c) n (D.map V) := World.ownsRow.alloc hown _
  refine wpList_append_own _ hgd s x t ho base 5 i0 _ 1 1 ht hi hz0 hz1 hz2 rfl (by omega) _ n _ hs hown' ⟨w0.heap.size, 0, none⟩ 1 1 [V d] hx rfl
    (World.news_of_block (cs := #[V d]) (t := 5) (fr := (0, 0)) (heap_alloc_new w0 _)) (by intro u hu; simp at hu; subst hu; rfl) (by unfold maxLen; omega) (by omega) (by simp; omega) ?_
  intro v' w' h1 h2 _
  have h1' : w'.ownsRow base 5 1 v' (n + 1) ((D ++ [d]).map V) := by rw [List.map_append]; exact h1
  rcases h1'.2 with ⟨_, h0⟩ | ⟨g', cap, cur, rfl, _⟩
  · omega
  · exact hK g' cap w' h1' h2

/-- the outer i digits are exchanged -/
def RevI (D E : List Nat) (i : Nat) : Prop := E.length = D.length ∧ ∀ t, t < D.length → nth E t = if t < i ∨ D.length - i ≤ t then nth D (D.length - 1 - t) else nth D t
theorem RevI.start (D : List Nat) : RevI D D 0 := ⟨rfl, fun t ht => by rw [if_neg (by omega)]⟩
theorem nth_set {l : List Nat} {i j x : Nat} (hi : i < l.length) : nth (l.set i x) j = if i = j then x else nth l j := by
  unfold nth
  rw [List.getD_eq_getElem?_getD, List.getD_eq_getElem?_getD, List.getElem?_set]
  by_cases h : i = j
  · subst h; simp [hi]
  · simp [h]
theorem RevI.step {D E : List Nat} {i j : Nat} (h : RevI D E i) (hij : i < j) (hj : i + j + 1 = D.length) : RevI D ((E.set i (nth E j)).set j (nth E i)) (i + 1) := by
  obtain ⟨hl, he⟩ := h
  refine ⟨by simp [hl], fun t ht => ?_⟩
  rw [nth_set (by simp [hl]; omega), nth_set (by omega)]
  have e1 := he i (by omega)
  have e2 := he j (by omega)
  rw [if_neg (by omega)] at e1 e2
  by_cases h1 : j = t
  · subst h1
    rw [if_pos rfl, if_pos (by omega), e1]
    congr 1; omega
  · rw [if_neg h1]
    by_cases h2 : i = t
    · subst h2
      rw [if_pos rfl, if_pos (by omega), e2]
      congr 1; omega
    · rw [if_neg h2, he t ht]
      by_cases h3 : t < i ∨ D.length - i ≤ t
      · rw [if_pos h3, if_pos (by omega)]
      · rw [if_neg h3, if_neg (by omega)]
theorem RevI.done {D E : List Nat} {i : Nat} (h : RevI D E i) (hi : D.length ≤ 2 * i + 1) : E = D.reverse := by
  obtain ⟨hl, he⟩ := h
  apply List.ext_getElem (by simp [hl])
  intro t h1 h2
  have := he t (by omega)
  rw [nth_getElem h1] at this
  rw [this, List.getElem_reverse]
  split
  · rw [nth_getElem (by omega)]
  · rw [nth_getElem (by omega)]
    congr 1; omega

def RevSt (w wr : World) (base g n c : Nat) (D : List Nat) (i : Nat) : Prop := ∃ E, RevI D E i ∧ Ob wr base g n c E ∧ Upd g w wr
theorem RevSt.step {w wr : World} {base g n c i j : Nat} {D E : List Nat} (h : RevI D E i) (ho : Ob wr base g n c E) (hu : Upd g w wr) (hij : i < j) (hj : i + j + 1 = n) (hn : D.length = n) (m : Nat) :
    RevSt w (((wr.setCell ⟨g, i, none⟩ (.int .u8 ((nth E j + 48 : Nat) : Int))).setCell ⟨g, j, none⟩ (.int .u8 ((nth E i + 48 : Nat) : Int))).drewN m) base g n c D (i + 1) :=
  ⟨_, h.step hij (by omega), ((ho.store i (nth E j)).store j (nth E i)).drewN m, ((hu.set_ _ _).set_ _ _).drewN m⟩

set_option maxHeartbeats 2000000 in
theorem reverse_any (base g n c : Nat) (D : List Nat) (w : World) (hD : Hid (D.length = n)) (hn0 : 0 < n) (hn : n ≤ 1000000) (hown : Hid (Ob w base g n c D)) :
    Calls Try.prog 57 #[.slice (some ⟨g, 0, none⟩) n c] w fun e w' => e = .returned (.tuple #[]) ∧ Ob w' base g n c D.reverse ∧ Upd g w w' := by
  go_enter Try.func57, Try.ntmps57
  go_wp2
  go_loopw [2, 3] (fun i j wr => ∃ k : Nat, k ≤ n ∧ i = .int .i64 k ∧ j = .int .i64 ((n : Int) - 1 - (k : Int)) ∧ Hid (RevSt w wr base g n c D k)) (fun i _ _ => n - (intOf i).toNat)
  case atStart => exact ⟨0, Nat.zero_le _, rfl, by simp, ⟨D, RevI.start D, hown.out, Upd.refl _ _⟩⟩
  case round =>
    obtain ⟨k, hk, rfl, rfl, hst⟩ := hrel
    obtain ⟨E, hr, ho, hu⟩ := hst.out
    have HR := Lib.hid hr
    have HO := Lib.hid ho
    clear hr ho
    by_cases hlt : 2 * k + 1 < n
    · obtain ⟨t, ht⟩ : ∃ t, t = n - 1 - k := ⟨_, rfl⟩
      have ht1 : t < n := by omega
      have ht2 : k + t + 1 = n := by omega
      have ht3 : (n : Int) - 1 - (k : Int) = (t : Int) := by omega
      have hkt : k < t := by omega
      have hne : ¬ k = t := by omega
      have HT2 := Lib.hid ht2
      clear ht2 ht
      rw [ht3]
      have c1 : wr.cell? ⟨g, k, none⟩ = some (.int .u8 ((nth E k + 48 : Nat) : Int)) := HO.out.cell (by omega)
      have c2 : wr.cell? ⟨g, t, none⟩ = some (.int .u8 ((nth E t + 48 : Nat) : Int)) := HO.out.cell ht1
      have f1 : wr.frozen? ⟨g, k, none⟩ = false := HO.out.frozen _
      have f2 : wr.frozen? ⟨g, t, none⟩ = false := HO.out.frozen _
      have i1 : (0 : Int) ≤ (k : Int) := by omega
      have i2 : (k : Int) < (n : Int) := by omega
      have i3 : (0 : Int) ≤ (t : Int) := by omega
      have i4 : (t : Int) < (n : Int) := by omega
      go_wp2
      go_region
      all_goals
        clear c1 c2 f1 f2
        go_wp2
        go_roundw
        case rel => exact ⟨k + 1, by omega, by go_num, by go_num, RevSt.step HR.out HO.out hu hkt HT2.out hD.out _⟩
        case measure => simp [intOf]; omega
    · go_wp2
      go_end0
      have e := HR.out.done (by rw [hD.out]; omega)
      exact ⟨rfl, by rw [← e]; exact HO.out, hu⟩

end Go.Proofs.Ytogmgomcdhfolaa
