/-
  How lists of limbs lie in memory: a slice that reads as a list (Rd), a block that is known whole (Bk).
-/
import Derived.Test.YtogmgomcdhfolaaProg
import Derived.Test.YtogmgomcdhfolaaNum
import Derived.WalkKit
import Derived.WalkSpells
import Derived.WalkLawsBesides
import Derived.Handy
import Derived.Lib.Hide
import Derived.BigQuiet
import Derived.Deep.QuietTactic
import Derived.Deep.Draws
import Derived.Deep.RegionHeld3
import Derived.Deep.DrawnRows
import Derived.StillTailTactics
import Derived.Deep.RegionLaw
import Derived.Deep.LoopGhost
import Derived.Deep.OwnRows
import Derived.Laws.CopyOwn
import Derived.Deep.AppendLies
import Derived.KernelRfl
namespace Go.Proofs.Ytogmgomcdhfolaa
open Go.RowKit Nt

/-- element k of a list of limbs -/
def nth (l : List Nat) (k : Nat) : Nat := l.getD k 0
theorem nth_lt {l : List Nat} (h : Wf l) (k : Nat) : nth l k < 4294967296 := h.getD k
theorem nth_nil (k : Nat) : nth [] k = 0 := by simp [nth]
theorem nth_getElem {l : List Nat} {k : Nat} (h : k < l.length) : nth l k = l[k] := by
  unfold nth; rw [List.getD_eq_getElem?_getD, List.getElem?_eq_getElem h]; rfl

/-- a limb as a value -/
def U (x : Nat) : Value := .int .u32 (x : Int)

/-- the slice's address A leads to cells that hold l, in a block below B -/
def Rd (w : World) (B : Nat) (A : Option Addr) (l : List Nat) : Prop :=
  0 < l.length → ∃ b o, A = some ⟨b, o, none⟩ ∧ b < B ∧ ∀ j, j < l.length → w.cell? ⟨b, o + j, none⟩ = some (.int .u32 ((nth l j : Nat) : Int))

/-- block g holds just the limbs L, and may be written -/
def Bk (w : World) (g : Nat) (L : List Nat) : Prop := w.heap[g]? = some (.cells (L.map U).toArray 41 (0, 0))

section
variable {w w' : World} {B B' g : Nat} {A : Option Addr} {l L : List Nat}

theorem Rd.nil : Rd w B A [] := fun h => absurd h (by simp)
theorem Rd.mono (h : Rd w B A l) (hB : B ≤ B') : Rd w B' A l := fun h0 => by
  obtain ⟨b, o, e, hb, hc⟩ := h h0
  exact ⟨b, o, e, by omega, hc⟩
theorem Rd.keep (h : Rd w B A l) (hk : ∀ k, k < B → w'.heap[k]? = w.heap[k]?) : Rd w' B A l := fun h0 => by
  obtain ⟨b, o, e, hb, hc⟩ := h h0
  exact ⟨b, o, e, hb, fun j hj => (World.cell?_of_block (w := w) (hk b hb)).trans (hc j hj)⟩
theorem Rd.below (h : Rd w B A l) (hb : Below B w w') : Rd w' B A l := h.keep hb.block
theorem Rd.take (h : Rd w B A l) (n : Nat) : Rd w B A (l.take n) := fun h0 => by
  rw [List.length_take] at h0
  obtain ⟨b, o, e, hb, hc⟩ := h (by omega)
  refine ⟨b, o, e, hb, fun j hj => ?_⟩
  rw [List.length_take] at hj
  rw [hc j (by omega)]
  unfold nth
  rw [List.getD_eq_getElem?_getD, List.getD_eq_getElem?_getD, List.getElem?_take, if_pos (by omega)]

theorem Bk.lt (h : Bk w g L) : g < w.heap.size := by
  rcases Nat.lt_or_ge g w.heap.size with hlt | hge
  · exact hlt
  · unfold Bk at h; rw [Array.getElem?_eq_none hge] at h; cases h
theorem Bk.cell (h : Bk w g L) {i : Nat} (hi : i < L.length) : w.cell? ⟨g, i, none⟩ = some (.int .u32 ((nth L i : Nat) : Int)) := by
  rw [cell_of_row w g i _ _ _ h]
  simp [nth, U, hi]
theorem Bk.frozen (h : Bk w g L) (i : Nat) : w.frozen? ⟨g, i, none⟩ = false := frozen_of_row w g i _ _ h
theorem Bk.set_ (h : Bk w g L) (i x : Nat) : Bk (w.setCell ⟨g, i, none⟩ (.int .u32 (x : Int))) g (L.set i x) := by
  have := heap_setCell_same w g i _ _ (.int .u32 (x : Int)) h
  unfold Bk
  rw [this]
  simp [U, List.map_set]
theorem Bk.keep (h : Bk w g L) (hk : w'.heap[g]? = w.heap[g]?) : Bk w' g L := hk.trans h
theorem Bk.drew (h : Bk w g L) : Bk w.drew g L := h
theorem Bk.drewN (h : Bk w g L) (n : Nat) : Bk (w.drewN n) g L := h
theorem Bk.rd (h : Bk w g L) (hB : g < B) : Rd w B (some ⟨g, 0, none⟩) L := fun _ => ⟨g, 0, rfl, hB, fun j hj => by rw [Nat.zero_add]; exact h.cell hj⟩
theorem Bk.rd_take (h : Bk w g L) (hB : g < B) (n : Nat) : Rd w B (some ⟨g, 0, none⟩) (L.take n) := (h.rd hB).take n
theorem Bk.rd_sub (h : Bk w g L) (hB : g < B) (o n : Nat) : Rd w B (some ⟨g, o, none⟩) ((L.drop o).take n) := fun h0 => ⟨g, o, rfl, hB, fun j hj => by
  rw [List.length_take, List.length_drop] at hj
  rw [h.cell (by omega)]
  unfold nth
  rw [List.getD_eq_getElem?_getD, List.getD_eq_getElem?_getD, List.getElem?_take, if_pos (by omega), List.getElem?_drop]⟩
theorem Bk.below (h : Bk w g L) (hb : Below B w w') (hg : g < B) : Bk w' g L := h.keep (hb.block g hg)
end

/-- only block g has been written; nothing else has turned, no block is new -/
structure Upd (g : Nat) (w w' : World) : Prop where
  os : w'.os = w.os
  tape : w'.tape = w.tape
  output : w'.output = w.output
  size : w'.heap.size = w.heap.size
  block : ∀ k, k ≠ g → w'.heap[k]? = w.heap[k]?

section
variable {w w' w'' : World} {g B : Nat}
theorem Upd.refl (g : Nat) (w : World) : Upd g w w := ⟨rfl, rfl, rfl, rfl, fun _ _ => rfl⟩
theorem Upd.trans (h : Upd g w w') (k : Upd g w' w'') : Upd g w w'' :=
  ⟨k.os.trans h.os, k.tape.trans h.tape, k.output.trans h.output, k.size.trans h.size, fun i hi => (k.block i hi).trans (h.block i hi)⟩
theorem Upd.undrew (h : Upd g w.drew w') : Upd g w w' := ⟨h.os, h.tape, h.output, h.size, h.block⟩
theorem Upd.drewN (h : Upd g w w') (n : Nat) : Upd g w (w'.drewN n) := ⟨h.os, h.tape, h.output, h.size, h.block⟩
theorem Upd.drew (h : Upd g w w') : Upd g w w'.drew := ⟨h.os, h.tape, h.output, h.size, h.block⟩
theorem Upd.set_ (h : Upd g w w') (i : Nat) (u : Value) : Upd g w (w'.setCell ⟨g, i, none⟩ u) :=
  h.trans ⟨rfl, rfl, rfl, by simp [World.setCell], fun k hk => Below.heap_setCell _ _ _ _ hk⟩
theorem Upd.below (h : Upd g w w') (hg : B ≤ g) : Below B w w' :=
  ⟨h.os, h.tape, h.output, by rw [h.size]; exact Nat.le_refl _, fun k hk => h.block k (by omega)⟩
theorem Upd.cell (h : Upd g w w') {a : Addr} (ha : a.block ≠ g) : w'.cell? a = w.cell? a := World.cell?_of_block (w := w) (h.block _ ha)
end

theorem Try.infoU : (Try.prog.info? 41).map (fun i => (i.zero, i.size, i.bytes)) = some (some (.int .u32 0), 1, 4) := by kernel_rfl
theorem Try.sizeU : (Try.prog.info? 41).map (·.size) = some 1 := by kernel_rfl
theorem oneCell_map (l : List Nat) : ∀ u ∈ l.map U, u.oneCell' = true := by
  intro u hu
  obtain ⟨_, _, rfl⟩ := List.mem_map.1 hu
  rfl

theorem madeCells_U (n : Nat) : madeCells #[Value.int .u32 0] n = ((List.replicate n 0).map U).toArray := by
  apply Array.ext'
  rw [toList_madeCells_one]
  simp [U]

theorem bk_made (w : World) (n : Nat) : Bk (w.alloc (.cells (madeCells #[Value.int .u32 0] n) 41)) w.heap.size (List.replicate n 0) := by
  unfold Bk
  rw [heap_alloc_new, madeCells_U]

/-- make of a list of n limbs -/
theorem wpList_make_bk (w : World) {ops : Array Oper} {rest : List Oper} {o : Oper} {a : Act} {Q : Exit → Act → World → Prop}
    (hg : o.guard = none) (l c : Operand) (t : TypeId) (hop : o.op = Op.makeSlice t l c) (ht : Try.prog.underlying t = some (.slice 41))
    (kl kc : IntKind) (L C : Int) (n : Nat) (hl : a.eval l = .int kl L) (hc : a.eval c = .int kc C) (hL : L = (n : Int)) (hC : C = (n : Int)) (hn : n ≤ 1000000)
    (hK : ∀ w', Bk w' w.heap.size (List.replicate n 0) → w'.heap.size = w.heap.size + 1 → Below w.heap.size w w' → wpList Try.prog ops Q rest (a.put o.dst (.slice (some ⟨w.heap.size, 0, none⟩) n n)) w') :
    wpList Try.prog ops Q (o :: rest) a w := by
  obtain ⟨i0, hi, hz0, hz1, hz2⟩ := info_parts Try.infoU
  subst hL
  subst hC
  refine wpList_make_row w hg l c t hop 41 i0 _ ht hi hz0 hz1 rfl kl kc n hl hc (by rw [hz2]; omega) (by omega) ?_
  exact hK _ (bk_made w n) (by simp) ((Below.refl _ _).alloc (Nat.le_refl _) _)

/-- the addresses and cells of a list that reads -/
theorem rd_copy {w : World} {B : Nat} {A : Option Addr} {l : List Nat} (h : Rd w B A l) : 0 < (l.map U).length → ∃ ad, A = some ad ∧ ∀ j v, (l.map U)[j]? = some v → w.cell? (ad.add j) = some v := by
  intro h0
  rw [List.length_map] at h0
  obtain ⟨b, o, rfl, _, hc⟩ := h h0
  refine ⟨_, rfl, fun j v hv => ?_⟩
  rw [List.getElem?_map, Option.map_eq_some_iff] at hv
  obtain ⟨x, hx, rfl⟩ := hv
  have hj : j < l.length := by
    rcases Nat.lt_or_ge j l.length with h | h
    · exact h
    · rw [List.getElem?_eq_none h] at hx; cases hx
  rw [Addr.add_lit, hc j hj]
  unfold nth U
  rw [List.getD_eq_getElem?_getD, hx]; rfl

/-- copy of a list that is not longer onto a block that is known whole -/
theorem wpList_copy_bk {w : World} {ops : Array Oper} {rest : List Oper} {o : Oper} {a : Act} {Q : Exit → Act → World → Prop} (hgd : o.guard = none) (d s : Operand) (dT sT : TypeId)
    (ho : o.op = .call { callee := .builtin .copy, args := #[d, s], argTypes := #[dT, sT] }) (hu : Try.prog.underlying dT = some (.slice 41))
    (g m dCap : Nat) (L l : List Nat) (A : Option Addr) (n sCap B B0 : Nat) (w0 : World) (hd : a.eval d = .slice (some ⟨g, 0, none⟩) m dCap) (hs : a.eval s = .slice A n sCap)
    (hg : Bk w g L) (hL : L.length = m) (hr : Rd w B A l) (hl : l.length = n) (hnm : n ≤ m) (hb : Below B0 w0 w) (hBg : B0 ≤ g)
    (hK : ∀ w', Bk w' g (l ++ L.drop n) → w'.heap.size = w.heap.size → Below B0 w0 w' → wpList Try.prog ops Q rest (a.put o.dst (goInt n)) w') :
    wpList Try.prog ops Q (o :: rest) a w := by
  have hgl : w.heap[g]? = some (.cells (L.map U).toArray 41 (0, 0)) := hg
  have hcl : (l.map U).length = n := by rw [List.length_map, hl]
  have hsz := Try.sizeU
  rcases Nat.eq_zero_or_pos n with h0 | h0
  · have e : l = [] := List.eq_nil_of_length_eq_zero (by omega)
    subst e
    subst h0
    refine wpList_copy_nothing hgd d s dT sT ho 41 hu hsz _ A m dCap 0 sCap hd hs (by simp) ?_
    exact hK w (by simpa using hg) rfl hb
  · obtain ⟨ad, hA, hcells⟩ := rd_copy hr (by omega)
    subst hA
    refine wpList_copy_own hgd d s dT sT ho 41 hu hsz g 0 m dCap ad n sCap hd hs _ _ hgl (l.map U) (by rw [hcl]; exact (Nat.min_eq_left hnm).symm) hcells (by simp; omega) (oneCell_map l) ?_
    rw [hcl]
    refine hK _ ?_ (size_setRow _ _ _) (below_setRow hb hBg _)
    unfold Bk
    rw [setRow_heap w g _ _ _ _ hgl]
    simp

end Go.Proofs.Ytogmgomcdhfolaa
