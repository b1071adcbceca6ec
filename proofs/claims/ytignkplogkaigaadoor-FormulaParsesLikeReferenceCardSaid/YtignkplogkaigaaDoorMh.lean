/-
  Plain mathematics and contracts of package diagram, several texts in one: DCount, DCtB, DKit, DLit.
-/
import Derived.Test.YtignkplogkaigaaDoorMg
import Derived.Test.YtignkplogkaigaaDoorMn
import Derived.Test.YtignkplogkaigaaDoorMa

/-! Count of a valid diagram over d conditions that are enough for it. (Written by dcount.py.) -/
namespace Go.Proofs.YtignkplogkaigaaDoor
open Go.RowKit Dg St

theorem cnt_lt {M : List Br} (hg : Dg.Good M) {k d : Nat} (hk : k < M.length) (hd : d ≤ 64) : cnt d (Den M (k + 2)) < 2 ^ 64 := by
  have hn := cnt_not d (Den M (k + 2))
  by_cases h : d < 64
  · have : 2 ^ d < 2 ^ 64 := Nat.pow_lt_pow_right (by omega) h
    omega
  · obtain rfl : d = 64 := by omega
    have hlow : Low 64 (fun c => !Den M (k + 2) c) := Low.not (fun c c' hc => den_dep64 hg.ord (n := k + 2) (by omega) c c' (fun i _ h2 => hc i h2))
    have hex : ∃ c, (!Den M (k + 2) c) = true := by
      refine Classical.byContradiction (fun hno => ?_)
      have hall : Den M (k + 2) = Den M 1 := by
        rw [Den_one]
        funext c
        rcases hv : Den M (k + 2) c with _ | _
        · exact absurd ⟨c, by rw [hv]; rfl⟩ hno
        · rfl
      have := Den_inj hg (by omega) (by omega) hall
      omega
    have := cnt_pos 64 _ hlow hex
    omega

/-- what Count answers: a number and no error -/
def CtOk (w w' : World) (N : Nat) (e : Ending) : Prop := (∃ v, e = .returned (.tuple #[v, .int .i64 0]) ∧ Nn.Num w' v N) ∧ Below w.heap.size w w'

end Go.Proofs.YtignkplogkaigaaDoor

/-! Count of a valid diagram over too few conditions, or over a number that is none: no number, and an error. -/
namespace Go.Proofs.YtignkplogkaigaaDoor
open Go.RowKit Dg St

end Go.Proofs.YtignkplogkaigaaDoor

/-! What the laws' walks use: answers whose diagram is known, what stays of them, the laws' own 'is'. -/
namespace Go.Proofs.YtignkplogkaigaaDoor
open Go.RowKit Dg St

/-- the answer of an operation: the diagram of f with m branches and root r -/
def LitOk (w w' : World) (f : Cfg → Bool) (m r : Nat) (R : Int) (e : Ending) : Prop := ∃ A c, e = .returned (.tuple #[.agg #[.slice A m c, .int .i64 R], .int .i64 0]) ∧ Dn w' A m c r f ∧ Below w.heap.size w w'
theorem BinOk.lit {w w' : World} {f : Cfg → Bool} {e : Ending} {M : List Br} {m r : Nat} {R : Int} (h : BinOk w w' f e) (hc : cn f = (M, r)) (hm : M.length = m) (hR : R = (r : Int)) : LitOk w w' f m r R e := by
  obtain ⟨⟨A, m', c, r', rfl, hd, _⟩, hb⟩ := h
  have h1 := hd.len
  have h2 := hd.rt
  rw [hc] at h1 h2
  simp only at h1 h2
  subst hR
  obtain rfl : m' = m := by omega
  subst h2
  exact ⟨A, c, rfl, hd, hb⟩
theorem Dn.congr {w : World} {A : Option Addr} {m c r : Nat} {f g : Cfg → Bool} (h : Dn w A m c r f) (e : f = g) : Dn w A m c r g := e ▸ h
theorem BinOk.congr {w w' : World} {f g : Cfg → Bool} {e : Ending} (h : BinOk w w' f e) (q : f = g) : BinOk w w' g e := q ▸ h
/-- a diagram stays -/
theorem rdn {w w' : World} {A : Option Addr} {m c r : Nat} {f : Cfg → Bool} (h : Hid (Dn w A m c r f)) (b : Below w.heap.size w w') : Hid (Dn w' A m c r f) := Lib.hid (h.out.below b)
theorem rin {w w' : World} (h : Hid (Ins w 0)) (b : Below w.heap.size w w') : Hid (Ins w' 0) := Lib.hid (h.out.below b)
/-- two cells of a block -/
abbrev B2 (w : World) (g : Nat) (a b : Value) : Prop := Blk w g 2 (fun i => [a, b].getD i undef)
theorem rb2 {w w' : World} {g : Nat} {a b : Value} (h : Hid (B2 w g a b)) (k : Below w.heap.size w w') : Hid (B2 w' g a b) := Lib.hid (h.out.below (by omega) k)
theorem xb2 {w : World} {g : Nat} {a b : Value} (h : Hid (B2 w g a b)) : w.cell? ⟨g, 0, none⟩ = some a ∧ w.cell? ⟨g, 1, none⟩ = some b ∧ g < w.heap.size := ⟨(h.out 0 (by omega)).1, (h.out 1 (by omega)).1, h.out.lt (by omega)⟩
theorem nb2 (w : World) (a b : Value) (T : Nat) : Hid (B2 (w.alloc (.cells #[a, b] T)) w.heap.size a b) := Lib.hid (Blk.new (w := w) rfl [a, b] T)
theorem ab2 (w : World) (o : Obj) : Below w.heap.size w (w.alloc o) := (Below.refl _ _).alloc (Nat.le_refl _) o
theorem btr {a b c : World} {B : Nat} (h : Hid (Below B a b)) (k : Below b.heap.size b c) (hB : B ≤ b.heap.size) : Hid (Below B a c) := Lib.hid (h.out.trans (k.mono hB))
theorem bsz {a b : World} (h : Hid (Below a.heap.size a b)) : a.heap.size ≤ b.heap.size := h.out.size

/-- a block that holds branches -/
theorem rd_block {w : World} {g T : Nat} {x : Nat × Nat} {M : List Br} (hb : w.heap[g]? = some (.cells (flat M).toArray T x)) (hl : g < w.heap.size) : Rd w w.heap.size (some ⟨g, 0, none⟩) (up M) := fun _ => by
  refine ⟨g, 0, rfl, hl, fun j hj => ?_⟩
  rw [up_len] at hj
  obtain ⟨f1, f2, f3⟩ := flat_at M j hj
  rw [iv_up, il_up, ih_up, Nat.zero_add]
  have hx := flat_len M
  refine ⟨?_, ?_, ?_⟩
  · rw [cell_of_row _ _ (j * 3) _ _ _ hb, List.getElem?_toArray]; exact f1
  · rw [cell_of_row _ _ (j * 3 + 1) _ _ _ hb, List.getElem?_toArray]; exact f2
  · rw [cell_of_row _ _ (j * 3 + 2) _ _ _ hb, List.getElem?_toArray]; exact f3
theorem rd_new (w : World) (M : List Br) (a : Array Value) (T : Nat) (h : a = (flat M).toArray) : Rd (w.alloc (.cells a T)) (w.alloc (.cells a T)).heap.size (some ⟨w.heap.size, 0, none⟩) (up M) := by
  subst h
  exact rd_block (heap_alloc_new _ _) (by simp)

/-- the reference's Same of two diagrams, each of a set -/
theorem rsame_dn {w : World} {A A' : Option Addr} {m c r m' c' r' : Nat} {R R' : Int} {f g : Cfg → Bool} (h : Hid (Dn w A m c r f)) (h' : Hid (Dn w A' m' c' r' g)) (hR : R = (r : Int)) (hR' : R' = (r' : Int)) (x : Bool) (hx : Hid (x = true ↔ f = g)) :
    Calls Tryd.prog 97 #[.agg #[.slice A m c, .int .i64 R], .agg #[.slice A' m' c', .int .i64 R']] w fun e w' => e = .returned (.bool x) ∧ Below w.heap.size w w' := by
  have l1 := h.out.len
  have l2 := h'.out.len
  have r1 := h.out.rt
  have r2 := h'.out.rt
  refine (rsame_any A A' c c' m m' _ _ R R' w (Lib.hid (by rw [up_len, l1])) (Lib.hid (by rw [up_len, l2])) (by have := h.out.lm; omega) (Lib.hid h.out.rd) (Lib.hid h'.out.rd)).mono ?_
  rintro e w' ⟨rfl, hb⟩
  refine ⟨ret_bool ?_, hb⟩
  rw [Bool.eq_iff_iff, hx.out, Bool.and_eq_true, decide_eq_true_iff, decide_eq_true_iff]
  have hinj := cn_inj h.out.d h'.out.d
  subst hR
  subst hR'
  constructor
  · rintro ⟨h1, h2⟩
    refine hinj.1 (Prod.ext (up_inj h2) ?_)
    rw [r1, r2]; omega
  · intro e
    subst e
    exact ⟨by omega, rfl⟩
end Go.Proofs.YtignkplogkaigaaDoor

/-! The laws' literal: the configurations in which a condition has a value. -/
namespace Go.Proofs.YtignkplogkaigaaDoor
open Go.RowKit Dg St

/-- the answer is the diagram of f -/
def DiaOk (w w' : World) (f : Cfg → Bool) (e : Ending) : Prop := (∃ (A : Option Addr) (m c r : Nat), e = .returned (.agg #[.slice A m c, .int .i64 (r : Int)]) ∧ Dn w' A m c r f ∧ Fr A w.heap.size) ∧ Below w.heap.size w w'
theorem DiaOk.congr {w w' : World} {f g : Cfg → Bool} {e : Ending} (h : DiaOk w w' f e) (q : f = g) : DiaOk w w' g e := q ▸ h
/-- a diagram above block H stays while cells of H are stored -/
theorem Dn.put {w : World} {H m c r : Nat} {A : Option Addr} {f : Cfg → Bool} (h : Dn w A m c r f) (hf : Fr A (H + 1)) (u v : Value) : Dn ((w.setCell ⟨H, 0, none⟩ u).setCell ⟨H, 1, none⟩ v) A m c r f := by
  refine ⟨?_, h.len, h.rt, h.mc, h.lm, h.d⟩
  have k := (h.rd.setF (n := 0) hf u).setF (n := 1) hf v
  simpa [World.setCell] using k

theorem cube_true (v : Nat) : (fun c : Cfg => c v) = cube [(v, true)] := by funext c; simp [cube]
theorem cube_false (v : Nat) : (fun c : Cfg => !c v) = cube [(v, false)] := by funext c; simp [cube]

end Go.Proofs.YtignkplogkaigaaDoor
