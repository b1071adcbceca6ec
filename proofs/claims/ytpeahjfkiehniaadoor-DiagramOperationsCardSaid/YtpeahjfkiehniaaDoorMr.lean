/-
  Plain mathematics and contracts of package diagram, several texts in one: DInv, DMk.
-/
import Derived.RegionTactic
import Derived.Deep.RegionLaw
import Derived.Test.YtpeahjfkiehniaaDoorMh

/-! A region that draws its order, by an invariant: what holds of each set of operations that have run, whatever their order was. -/
namespace Go.Proofs.YtpeahjfkiehniaaDoor
open Go

section
variable {P : Program} {ops : Array Oper} {Q : Exit → Act → World → Prop} {md : Region.Mode}

theorem ready_none {l : Array Bool} (h : l.count false = 0) (hs : l.size = ops.size) : Region.ready md ops l = [] := by
  rw [List.eq_nil_iff_forall_not_mem]
  intro i hi
  obtain ⟨h0, o, ho, _⟩ := mem_ready.1 hi
  have hlt : i < l.size := by rw [hs]; exact (Array.getElem?_eq_some_iff.1 ho).1
  have hf : l[i] = false := by simpa [hlt] using h0
  have : false ∈ l := hf ▸ Array.getElem_mem hlt
  exact absurd h (by have := Array.count_pos_iff.2 this; omega)
theorem count_set {l : Array Bool} {i : Nat} (h : l.getD i true = false) : (l.setIfInBounds i true).count false + 1 = l.count false := by
  have hlt : i < l.size := by
    rcases Nat.lt_or_ge i l.size with h' | h'
    · exact h'
    · simp [Array.getElem?_eq_none h'] at h
  have hf : l[i] = false := by simpa [hlt] using h
  rw [Array.setIfInBounds_def, dif_pos hlt, Array.count_set]
  have : false ∈ l := hf ▸ Array.getElem_mem hlt
  have := Array.count_pos_iff.2 this
  simp [hf]
  omega
/-- by an invariant -/
theorem wpAny_inv (Inv : Array Bool → Act → World → Prop)
    (hdone : ∀ l a w, Inv l a w → Region.ready md ops l = [] → Q .normal a w)
    (hstep : ∀ l a w, Inv l a w → ∀ i ∈ Region.ready md ops l, wpOp P ops Q i (Inv (l.setIfInBounds i true)) a w) :
    ∀ (fuel : Nat) (l : Array Bool) (a : Act) (w : World), Inv l a w → l.size = ops.size → l.count false ≤ fuel → wpAny P md ops Q fuel l a w := by
  intro fuel
  induction fuel with
  | zero =>
    intro l a w h hs hc
    have hr := ready_none (md := md) (by omega) hs
    exact ⟨hr, hdone l a w h hr⟩
  | succ fuel ih =>
    intro l a w h hs hc
    refine ⟨hdone l a w h, fun i hi => wpOp_mono (fun a' w' h' => ih _ a' w' h' ?_ ?_) (hstep l a w h i hi)⟩
    · rw [Array.size_setIfInBounds]; exact hs
    · have := count_set (mem_ready.1 hi).1
      omega
/-- an operation without edges left, not listed: it is ready -/
theorem ready_of {l : Array Bool} {i : Nat} {o : Oper} (ho : ops[i]? = some o) (h : l.getD i true = false) (he : ∀ e ∈ o.after, Region.binds md e = true → l.getD e.on false = true) : i ∈ Region.ready md ops l := mem_ready.2 ⟨h, o, ho, he⟩
/-- where nothing is ready, each operation whose edges have run has run -/
theorem must_run {l : Array Bool} {i : Nat} {o : Oper} (hr : Region.ready md ops l = []) (ho : ops[i]? = some o) (he : ∀ e ∈ o.after, Region.binds md e = true → l.getD e.on false = true) : l.getD i true = true := by
  rcases h : l.getD i true with _ | _
  · have := ready_of (md := md) ho h he
    rw [hr] at this; cases this
  · rfl
/-- the frame under a name -/
theorem wpAny_named {fuel : Nat} {l : Array Bool} {a : Act} {w : World} (h : ∀ a0, a0 = a → wpAny P md ops Q fuel l a0 w) : wpAny P md ops Q fuel l a w := h a rfl
end

end Go.Proofs.YtpeahjfkiehniaaDoor

/-! Several sets made in one statement whose order is open: what holds at each point, whatever the order was. -/
namespace Go.Proofs.YtpeahjfkiehniaaDoor
open Go.RowKit Dg St

/-- the list's block, if it has any, is not h -/
def Off (A : Option Addr) (m h : Nat) : Prop := 0 < m → ∀ b o, A = some ⟨b, o, none⟩ → b ≠ h
theorem Dn.stays {w : World} {H m c r : Nat} {A : Option Addr} {f : Cfg → Bool} (h : Dn w A m c r f) (hf : Off A m H) (u v : Value) : Dn ((w.setCell ⟨H, 0, none⟩ u).setCell ⟨H, 1, none⟩ v) A m c r f := by
  refine ⟨fun h0 => ?_, h.len, h.rt, h.mc, h.lm, h.d⟩
  obtain ⟨b, o, e, hb, hc⟩ := h.rd h0
  have hm : 0 < m := by rw [← h.len, ← up_len]; exact h0
  have hne : b ≠ H := hf hm b o e
  have hk : ((w.setCell ⟨H, 0, none⟩ u).setCell ⟨H, 1, none⟩ v).heap[b]? = w.heap[b]? := (Below.heap_setCell _ ⟨H, 1, none⟩ v b hne).trans (Below.heap_setCell w ⟨H, 0, none⟩ u b hne)
  refine ⟨b, o, e, by simpa [World.setCell] using hb, fun j hj => ?_⟩
  obtain ⟨h1, h2, h3⟩ := hc j hj
  refine ⟨?_, ?_, ?_⟩
  · rw [World.cell?_of_block (w := w) hk]; exact h1
  · rw [World.cell?_of_block (w := w) hk]; exact h2
  · rw [World.cell?_of_block (w := w) hk]; exact h3

/-- a function turned at one place -/
def up1 {α : Type} (g : Nat → α) (k : Nat) (v : α) : Nat → α := fun i => if i = k then v else g i
theorem up1_at {α : Type} (g : Nat → α) (k : Nat) (v : α) : up1 g k v k = v := if_pos rfl
theorem up1_ne {α : Type} (g : Nat → α) {k i : Nat} (v : α) (h : i ≠ k) : up1 g k v i = g i := if_neg h
/-- where the diagrams lie, and the boxes -/
structure MkD where
  A : Nat → Option Addr
  m : Nat → Nat
  c : Nat → Nat
  r : Nat → Nat
  h : Nat → Nat
/-- call i has run (bc), its variable is there (ba), its value is stored (bs) -/
structure Mks (w0 w : World) (f : Nat → Cfg → Bool) (bc ba bs : Nat → Bool) (vc vp : Nat → Value) (D : MkD) : Prop where
  bel : Below w0.heap.size w0 w
  pc : ∀ i, bc i = true → vc i = .agg #[.slice (D.A i) (D.m i) (D.c i), .int .i64 (D.r i : Int)]
  dn : ∀ i, bc i = true → Dn w (D.A i) (D.m i) (D.c i) (D.r i) (f i)
  pa : ∀ i, ba i = true → vp i = .pointer (some ⟨D.h i, 0, none⟩)
  lo : ∀ i, ba i = true → w0.heap.size ≤ D.h i
  hi : ∀ i, ba i = true → D.h i < w.heap.size
  pz : ∀ i, ba i = true → bs i = false → B2 w (D.h i) (.slice none 0 0) (.int .i64 0)
  ps : ∀ i, bs i = true → B2 w (D.h i) (.slice (D.A i) (D.m i) (D.c i)) (.int .i64 (D.r i : Int))
  ca : ∀ i, bs i = true → bc i = true ∧ ba i = true
  off : ∀ i j, bc i = true → ba j = true → Off (D.A i) (D.m i) (D.h j)
  ne : ∀ i j, i ≠ j → ba i = true → ba j = true → D.h i ≠ D.h j
theorem Mks.start {w0 w : World} (hb : Below w0.heap.size w0 w) (f : Nat → Cfg → Bool) (vc vp : Nat → Value) (D : MkD) : Mks w0 w f (fun _ => false) (fun _ => false) (fun _ => false) vc vp D :=
  ⟨hb, fun _ h => (by cases h), fun _ h => (by cases h), fun _ h => (by cases h), fun _ h => (by cases h), fun _ h => (by cases h), fun _ h => (by cases h), fun _ h => (by cases h), fun _ h => (by cases h), fun _ _ h => (by cases h), fun _ _ _ h => (by cases h)⟩
theorem Mks.below {w0 w w' : World} {f : Nat → Cfg → Bool} {bc ba bs : Nat → Bool} {vc vp : Nat → Value} {D : MkD} (h : Mks w0 w f bc ba bs vc vp D) (hb : Below w.heap.size w w') : Mks w0 w' f bc ba bs vc vp D :=
  ⟨h.bel.trans (hb.mono h.bel.size), h.pc, fun i hi => (h.dn i hi).below hb, h.pa, h.lo, fun i hi => Nat.lt_of_lt_of_le (h.hi i hi) hb.size, fun i h1 h2 => (h.pz i h1 h2).below (by have := h.hi i h1; omega) hb,
    fun i hi => (h.ps i hi).below (by have := h.hi i (h.ca i hi).2; omega) hb, h.ca, h.off, h.ne⟩
theorem Mks.call {w0 w w' : World} {f : Nat → Cfg → Bool} {bc ba bs : Nat → Bool} {vc vp : Nat → Value} {D : MkD} (h : Mks w0 w f bc ba bs vc vp D) (k : Nat) (hk : bc k = false) {A : Option Addr} {m c r : Nat}
    (hd : Dn w' A m c r (f k)) (hf : Fr A w.heap.size) (hb : Below w.heap.size w w') :
    Mks w0 w' f (up1 bc k true) ba bs (up1 vc k (.agg #[.slice A m c, .int .i64 (r : Int)])) vp ⟨up1 D.A k A, up1 D.m k m, up1 D.c k c, up1 D.r k r, D.h⟩ := by
  have h' := h.below hb
  have hsk : ∀ i, bs i = true → i ≠ k := fun i hi e => by
    have := (h.ca i hi).1
    rw [e, hk] at this; cases this
  refine ⟨h'.bel, fun i hi => ?_, fun i hi => ?_, h'.pa, h'.lo, h'.hi, h'.pz, fun i hi => ?_, fun i hi => ?_, fun i j hi hj => ?_, h'.ne⟩
  · by_cases e : i = k
    · subst e; simp only [up1_at]
    · rw [up1_ne _ _ e] at hi
      simp only [up1_ne _ _ e]; exact h'.pc i hi
  · by_cases e : i = k
    · subst e; simp only [up1_at]; exact hd
    · rw [up1_ne _ _ e] at hi
      simp only [up1_ne _ _ e]; exact h'.dn i hi
  · have e := hsk i hi
    simp only [up1_ne _ _ e]; exact h'.ps i hi
  · rw [up1_ne _ _ (hsk i hi)]; exact h.ca i hi
  · by_cases e : i = k
    · subst e; simp only [up1_at]
      intro _ b o ea
      have h1 := hf b o ea
      have h2 := h.hi j hj
      show b ≠ D.h j
      omega
    · rw [up1_ne _ _ e] at hi
      simp only [up1_ne _ _ e]; exact h.off i j hi hj
theorem Mks.laid {w0 w : World} {f : Nat → Cfg → Bool} {bc ba bs : Nat → Bool} {vc vp : Nat → Value} {D : MkD} (h : Mks w0 w f bc ba bs vc vp D) (k : Nat) (hk : ba k = false) (T : Nat) :
    Mks w0 (w.alloc (.cells #[.slice none 0 0, .int .i64 0] T)) f bc (up1 ba k true) bs vc (up1 vp k (.pointer (some ⟨w.heap.size, 0, none⟩))) ⟨D.A, D.m, D.c, D.r, up1 D.h k w.heap.size⟩ := by
  have h' := h.below (ab2 w (.cells #[.slice none 0 0, .int .i64 0] T))
  have hsk : ∀ i, bs i = true → i ≠ k := fun i hi e => by
    have := (h.ca i hi).2
    rw [e, hk] at this; cases this
  refine ⟨h'.bel, h'.pc, h'.dn, fun i hi => ?_, fun i hi => ?_, fun i hi => ?_, fun i hi hs => ?_, fun i hi => ?_, fun i hi => ?_, fun i j hi hj => ?_, fun i j hij hi hj => ?_⟩
  · by_cases e : i = k
    · subst e; simp only [up1_at]
    · rw [up1_ne _ _ e] at hi
      simp only [up1_ne _ _ e]; exact h'.pa i hi
  · by_cases e : i = k
    · subst e; simp only [up1_at]; exact h.bel.size
    · rw [up1_ne _ _ e] at hi
      simp only [up1_ne _ _ e]; exact h'.lo i hi
  · by_cases e : i = k
    · subst e; simp only [up1_at]; simp
    · rw [up1_ne _ _ e] at hi
      simp only [up1_ne _ _ e]; exact h'.hi i hi
  · by_cases e : i = k
    · subst e; simp only [up1_at]; exact (nb2 w _ _ T).out
    · rw [up1_ne _ _ e] at hi
      simp only [up1_ne _ _ e]; exact h'.pz i hi hs
  · have e := hsk i hi
    simp only [up1_ne _ _ e]; exact h'.ps i hi
  · have e := hsk i hi
    simp only [up1_ne _ _ e]; exact h.ca i hi
  · by_cases e : j = k
    · subst e; simp only [up1_at]
      intro hm b o ea
      have hd := h.dn i hi
      obtain ⟨b', o', e', hb, _⟩ := hd.rd (by rw [up_len, hd.len]; exact hm)
      rw [ea] at e'
      simp only [Option.some.injEq, Addr.mk.injEq] at e'
      omega
    · rw [up1_ne _ _ e] at hj
      simp only [up1_ne _ _ e]; exact h.off i j hi hj
  · by_cases e : i = k
    · subst e
      have e' : j ≠ i := fun e => hij e.symm
      rw [up1_ne _ _ e'] at hj
      simp only [up1_at, up1_ne _ _ e']
      have := h.hi j hj; omega
    · rw [up1_ne _ _ e] at hi
      by_cases e' : j = k
      · subst e'; simp only [up1_at, up1_ne _ _ e]
        have := h.hi i hi; omega
      · rw [up1_ne _ _ e'] at hj
        simp only [up1_ne _ _ e, up1_ne _ _ e']; exact h.ne i j hij hi hj
theorem Mks.stored {w0 w : World} {f : Nat → Cfg → Bool} {bc ba bs : Nat → Bool} {vc vp : Nat → Value} {D : MkD} (h : Mks w0 w f bc ba bs vc vp D) (k : Nat) (hc : bc k = true) (ha : ba k = true) (hs : bs k = false) :
    Mks w0 ((w.setCell ⟨D.h k, 0, none⟩ (.slice (D.A k) (D.m k) (D.c k))).setCell ⟨D.h k, 1, none⟩ (.int .i64 (D.r k : Int))) f bc ba (up1 bs k true) vc vp D := by
  have hsz : ∀ u v : Value, ((w.setCell ⟨D.h k, 0, none⟩ u).setCell ⟨D.h k, 1, none⟩ v).heap.size = w.heap.size := fun u v => by simp [World.setCell]
  have hoth : ∀ {b : Nat} {x y u v : Value}, b ≠ D.h k → B2 w b x y → B2 ((w.setCell ⟨D.h k, 0, none⟩ u).setCell ⟨D.h k, 1, none⟩ v) b x y := fun hne hb => (hb.other hne.symm _).other hne.symm _
  refine ⟨(h.bel.setCell (h.lo k ha) _).setCell (h.lo k ha) _, h.pc, fun i hi => (h.dn i hi).stays (h.off i k hi ha) _ _, h.pa, h.lo, fun i hi => by rw [hsz]; exact h.hi i hi, fun i hi hn => ?_, fun i hi => ?_, fun i hi => ?_, h.off, h.ne⟩
  · by_cases e : i = k
    · subst e; rw [up1_at] at hn; cases hn
    · rw [up1_ne _ _ e] at hn
      exact hoth (h.ne i k e hi ha) (h.pz i hi hn)
  · by_cases e : i = k
    · subst e
      refine (((h.pz i ha hs).set (i := 0) (by omega) _).set (i := 1) (by omega) _).congr (fun j hj => ?_)
      obtain rfl | rfl : j = 0 ∨ j = 1 := by omega
      · rfl
      · rfl
    · rw [up1_ne _ _ e] at hi
      exact hoth (h.ne i k e (h.ca i hi).2 ha) (h.ps i hi)
  · by_cases e : i = k
    · subst e; exact ⟨hc, ha⟩
    · rw [up1_ne _ _ e] at hi; exact h.ca i hi

end Go.Proofs.YtpeahjfkiehniaaDoor
