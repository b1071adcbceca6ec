/-
  Plain mathematics and contracts of package diagram, several texts in one: NNum, NMem, NLeaf, NInv, NAddTo, NSubFrom, NCanon, NAdd, NCmp, DOf.
-/
import Derived.Test.YtefepaackdhiiaaDoorProg
import Derived.WalkKit
import Derived.WalkSpells
import Derived.WalkLawsBesides
import Derived.Handy
import Derived.Lib.Hide
import Derived.BigQuiet
import Derived.Deep.QuietTactic
import Derived.Deep.Draws
import Derived.Deep.RegionHeld3
import Derived.Deep.DrawnRows
import Derived.StillTailTactics
import Derived.Deep.RegionLaw
import Derived.Deep.LoopGhost
import Derived.Deep.OwnRows
import Derived.Laws.CopyOwn
import Derived.Deep.AppendLies
import Derived.KernelRfl
namespace Go.Proofs.YtefepaackdhiiaaDoor.Nn
namespace Nt
def val : List Nat → Nat
  | [] => 0
  | x :: xs => x + 4294967296 * val xs
def Wf (l : List Nat) : Prop := ∀ x ∈ l, x < 4294967296
def dg (n : Nat) : List Nat := if h : n = 0 then [] else n % 4294967296 :: dg (n / 4294967296)
termination_by n
decreasing_by exact Nat.div_lt_self (by omega) (by omega)
theorem dg_zero : dg 0 = [] := by rw [dg]; simp
theorem dg_pos {n : Nat} (h : n ≠ 0) : dg n = n % 4294967296 :: dg (n / 4294967296) := by rw [dg]; simp [h]
theorem val_nil : val [] = 0 := rfl
theorem val_cons (x : Nat) (l : List Nat) : val (x :: l) = x + 4294967296 * val l := rfl
theorem val_dg (n : Nat) : val (dg n) = n := by
  induction n using Nat.strongRecOn with
  | _ n ih =>
    by_cases h : n = 0
    · subst h; rw [dg_zero]; rfl
    · rw [dg_pos h, val_cons, ih _ (Nat.div_lt_self (by omega) (by omega))]; omega
theorem wf_nil : Wf [] := by intro x hx; cases hx
theorem wf_cons {x : Nat} {l : List Nat} : Wf (x :: l) ↔ x < 4294967296 ∧ Wf l := by
  unfold Wf; simp
theorem wf_append {l m : List Nat} : Wf (l ++ m) ↔ Wf l ∧ Wf m := by
  unfold Wf; simp only [List.mem_append]
  exact ⟨fun h => ⟨fun x hx => h x (.inl hx), fun x hx => h x (.inr hx)⟩, fun h x hx => hx.elim (h.1 x) (h.2 x)⟩
theorem Wf.take {l : List Nat} (h : Wf l) (n : Nat) : Wf (l.take n) := fun x hx => h x (List.mem_of_mem_take hx)
theorem Wf.drop {l : List Nat} (h : Wf l) (n : Nat) : Wf (l.drop n) := fun x hx => h x (List.mem_of_mem_drop hx)
theorem Wf.getD {l : List Nat} (h : Wf l) (i : Nat) : l.getD i 0 < 4294967296 := by
  rw [List.getD_eq_getElem?_getD]
  rcases Nat.lt_or_ge i l.length with hi | hi
  · rw [List.getElem?_eq_getElem hi]; exact h _ (List.getElem_mem hi)
  · rw [List.getElem?_eq_none hi]; simp
theorem wf_replicate (n : Nat) : Wf (List.replicate n 0) := by
  intro x hx; have := List.eq_of_mem_replicate hx; omega
theorem wf_dg (n : Nat) : Wf (dg n) := by
  induction n using Nat.strongRecOn with
  | _ n ih =>
    by_cases h : n = 0
    · subst h; rw [dg_zero]; exact wf_nil
    · rw [dg_pos h]; exact wf_cons.2 ⟨by omega, ih _ (Nat.div_lt_self (by omega) (by omega))⟩
theorem val_append (l m : List Nat) : val (l ++ m) = val l + 4294967296 ^ l.length * val m := by
  induction l with
  | nil => simp [val]
  | cons x l ih =>
    rw [List.cons_append, val_cons, ih, val_cons, List.length_cons, Nat.pow_succ, Nat.mul_add, Nat.mul_comm (4294967296 ^ l.length) 4294967296, Nat.mul_assoc 4294967296]
    omega
theorem val_snoc (l : List Nat) (x : Nat) : val (l ++ [x]) = val l + 4294967296 ^ l.length * x := by
  rw [val_append, val_cons, val_nil]; simp
theorem val_lt {l : List Nat} (h : Wf l) : val l < 4294967296 ^ l.length := by
  induction l with
  | nil => simp [val]
  | cons x l ih =>
    obtain ⟨hx, hl⟩ := wf_cons.1 h
    have := ih hl
    rw [val_cons, List.length_cons, Nat.pow_succ]
    omega
theorem val_replicate (n : Nat) : val (List.replicate n 0) = 0 := by
  induction n with
  | zero => rfl
  | succ n ih => rw [List.replicate_succ, val_cons, ih]
def Can (l : List Nat) : Prop := l = [] ∨ l.getLast? ≠ some 0
theorem can_cons {x y : Nat} {l : List Nat} (h : Can (x :: y :: l)) : Can (y :: l) := by
  rcases h with h | h
  · cases h
  · right; rw [List.getLast?_cons_cons] at h; exact h
theorem val_pos {l : List Nat} (hc : Can l) (hl : l ≠ []) : val l ≠ 0 := by
  induction l with
  | nil => exact absurd rfl hl
  | cons x l ih =>
    rw [val_cons]
    cases l with
    | nil =>
      rcases hc with h | h
      · cases h
      · simp at h; rw [val_nil]; omega
    | cons y l =>
      have := ih (can_cons hc) (by simp)
      omega
theorem dg_val {l : List Nat} (hw : Wf l) (hc : Can l) : dg (val l) = l := by
  induction l with
  | nil => exact dg_zero
  | cons x l ih =>
    have hp := val_pos hc (by simp)
    obtain ⟨hx, hwl⟩ := wf_cons.1 hw
    rw [dg_pos hp]
    have e1 : val (x :: l) % 4294967296 = x := by rw [val_cons]; omega
    have e2 : val (x :: l) / 4294967296 = val l := by rw [val_cons]; omega
    rw [e1, e2]
    cases l with
    | nil => rw [val_nil, dg_zero]
    | cons y l => rw [ih hwl (can_cons hc)]
theorem dg_eq_nil {n : Nat} : dg n = [] ↔ n = 0 := by
  constructor
  · intro h; have := val_dg n; rw [h, val_nil] at this; exact this.symm
  · rintro rfl; exact dg_zero
theorem can_dg (n : Nat) : Can (dg n) := by
  induction n using Nat.strongRecOn with
  | _ n ih =>
    by_cases h : n = 0
    · subst h; exact .inl dg_zero
    · rw [dg_pos h]
      have ih := ih _ (Nat.div_lt_self (n := n) (k := 4294967296) (by omega) (by omega))
      right
      by_cases h2 : n / 4294967296 = 0
      · rw [h2, dg_zero]; simp; omega
      · rcases ih with e | e
        · exact absurd (dg_eq_nil.1 e) h2
        · rw [dg_pos h2] at e ⊢
          rw [List.getLast?_cons_cons]; exact e
theorem dg_length_le {n k : Nat} (h : n < 4294967296 ^ k) : (dg n).length ≤ k := by
  induction k generalizing n with
  | zero => have : n = 0 := by simpa using h
            subst this; rw [dg_zero]; simp
  | succ k ih =>
    by_cases h0 : n = 0
    · subst h0; rw [dg_zero]; simp
    · rw [dg_pos h0, List.length_cons]
      have : n / 4294967296 < 4294967296 ^ k := by
        rw [Nat.pow_succ] at h
        exact Nat.div_lt_of_lt_mul (by rw [Nat.mul_comm]; exact h)
      have := ih this
      omega
theorem lt_pow_dg (n : Nat) : n < 4294967296 ^ (dg n).length := by
  have := val_lt (wf_dg n); rw [val_dg] at this; exact this
theorem dg_cut {l : List Nat} {n : Nat} (hw : Wf l) (hn : n ≤ l.length) (hz : ∀ i, n ≤ i → i < l.length → l.getD i 0 = 0) (hl : n = 0 ∨ l.getD (n - 1) 0 ≠ 0) :
    dg (val l) = l.take n := by
  have hd : l.drop n = List.replicate (l.length - n) 0 := by
    apply List.ext_getElem
    · simp
    · intro i h1 h2
      have := hz (n + i) (by omega) (by simp at h1; omega)
      rw [List.getD_eq_getElem?_getD, List.getElem?_eq_getElem (by simp at h1; omega)] at this
      simpa using this
  have hv : val l = val (l.take n) := by
    conv => lhs; rw [← List.take_append_drop n l]
    rw [val_append, hd, val_replicate]; simp
  rw [hv]
  apply dg_val (hw.take n)
  rcases hl with h | h
  · left; subst h; rfl
  · by_cases h0 : n = 0
    · left; subst h0; rfl
    · right
      rw [List.getLast?_eq_getElem?, List.length_take, Nat.min_eq_left hn, List.getElem?_take]
      rw [if_pos (by omega)]
      rw [List.getD_eq_getElem?_getD] at h
      intro e; rw [e] at h; simp at h
theorem take_snoc {l : List Nat} {k : Nat} (h : k < l.length) : l.take (k + 1) = l.take k ++ [l.getD k 0] := by
  rw [List.take_succ_eq_append_getElem h, List.getD_eq_getElem?_getD, List.getElem?_eq_getElem h]; rfl
theorem val_take_succ {l : List Nat} {k : Nat} (h : k < l.length) : val (l.take (k + 1)) = val (l.take k) + 4294967296 ^ k * l.getD k 0 := by
  rw [take_snoc h, val_snoc, List.length_take, Nat.min_eq_left (by omega)]
theorem add_step {vx P c a b s m : Nat} (h : vx + P * c = a + b) :
    (vx + P * ((s + m + c) % 4294967296)) + P * 4294967296 * ((s + m + c) / 4294967296) = (a + P * s) + (b + P * m) := by
  have e : P * ((s + m + c) % 4294967296) + P * 4294967296 * ((s + m + c) / 4294967296) = P * s + P * m + P * c := by
    rw [Nat.mul_assoc, ← Nat.mul_add, Nat.mod_add_div, Nat.mul_add, Nat.mul_add]
  omega
theorem sub_step {vx P c a b s m d c' : Nat} (h : vx + b = a + P * c) (hd : d + m + c = s + 4294967296 * c') :
    (vx + P * d) + (b + P * m) = (a + P * s) + P * 4294967296 * c' := by
  have e : P * d + P * m + P * c = P * s + P * 4294967296 * c' := by
    rw [Nat.mul_assoc, ← Nat.mul_add, ← Nat.mul_add, hd, Nat.mul_add]
  omega
theorem mul_step {vx P c a b s m f : Nat} (h : vx + P * c = a + f * b) :
    (vx + P * ((m * f + s + c) % 4294967296)) + P * 4294967296 * ((m * f + s + c) / 4294967296) = (a + P * s) + f * (b + P * m) := by
  have e : P * ((m * f + s + c) % 4294967296) + P * 4294967296 * ((m * f + s + c) / 4294967296) = P * (m * f) + P * s + P * c := by
    rw [Nat.mul_assoc, ← Nat.mul_add, Nat.mod_add_div, Nat.mul_add, Nat.mul_add]
  have e2 : f * (b + P * m) = f * b + P * (m * f) := by
    rw [Nat.mul_add, Nat.mul_left_comm, Nat.mul_comm f m]
  omega
end Nt
end Go.Proofs.YtefepaackdhiiaaDoor.Nn
namespace Go.Proofs.YtefepaackdhiiaaDoor.Nn
open Go.RowKit Nt
def nth (l : List Nat) (k : Nat) : Nat := l.getD k 0
theorem nth_lt {l : List Nat} (h : Wf l) (k : Nat) : nth l k < 4294967296 := h.getD k
theorem nth_getElem {l : List Nat} {k : Nat} (h : k < l.length) : nth l k = l[k] := by
  unfold nth; rw [List.getD_eq_getElem?_getD, List.getElem?_eq_getElem h]; rfl
def U (x : Nat) : Value := .int .u32 (x : Int)
def Rd (w : World) (B : Nat) (A : Option Addr) (l : List Nat) : Prop :=
  0 < l.length → ∃ b o, A = some ⟨b, o, none⟩ ∧ b < B ∧ ∀ j, j < l.length → w.cell? ⟨b, o + j, none⟩ = some (.int .u32 ((nth l j : Nat) : Int))
def Bk (w : World) (g : Nat) (L : List Nat) : Prop := w.heap[g]? = some (.cells (L.map U).toArray 75 (0, 0))
section
variable {w w' : World} {B B' g : Nat} {A : Option Addr} {l L : List Nat}
theorem Rd.nil : Rd w B A [] := fun h => absurd h (by simp)
theorem Rd.mono (h : Rd w B A l) (hB : B ≤ B') : Rd w B' A l := fun h0 => by
  obtain ⟨b, o, e, hb, hc⟩ := h h0
  exact ⟨b, o, e, by omega, hc⟩
theorem Rd.keep (h : Rd w B A l) (hk : ∀ k, k < B → w'.heap[k]? = w.heap[k]?) : Rd w' B A l := fun h0 => by
  obtain ⟨b, o, e, hb, hc⟩ := h h0
  exact ⟨b, o, e, hb, fun j hj => (World.cell?_of_block (w := w) (hk b hb)).trans (hc j hj)⟩
theorem Rd.below (h : Rd w B A l) (hb : Below B w w') : Rd w' B A l := h.keep hb.block
theorem Rd.take (h : Rd w B A l) (n : Nat) : Rd w B A (l.take n) := fun h0 => by
  rw [List.length_take] at h0
  obtain ⟨b, o, e, hb, hc⟩ := h (by omega)
  refine ⟨b, o, e, hb, fun j hj => ?_⟩
  rw [List.length_take] at hj
  rw [hc j (by omega)]
  unfold nth
  rw [List.getD_eq_getElem?_getD, List.getD_eq_getElem?_getD, List.getElem?_take, if_pos (by omega)]
theorem Bk.lt (h : Bk w g L) : g < w.heap.size := by
  rcases Nat.lt_or_ge g w.heap.size with hlt | hge
  · exact hlt
  · unfold Bk at h; rw [Array.getElem?_eq_none hge] at h; cases h
theorem Bk.cell (h : Bk w g L) {i : Nat} (hi : i < L.length) : w.cell? ⟨g, i, none⟩ = some (.int .u32 ((nth L i : Nat) : Int)) := by
  rw [cell_of_row w g i _ _ _ h]
  simp [nth, U, hi]
theorem Bk.frozen (h : Bk w g L) (i : Nat) : w.frozen? ⟨g, i, none⟩ = false := frozen_of_row w g i _ _ h
theorem Bk.set_ (h : Bk w g L) (i x : Nat) : Bk (w.setCell ⟨g, i, none⟩ (.int .u32 (x : Int))) g (L.set i x) := by
  have := heap_setCell_same w g i _ _ (.int .u32 (x : Int)) h
  unfold Bk
  rw [this]
  simp [U, List.map_set]
theorem Bk.keep (h : Bk w g L) (hk : w'.heap[g]? = w.heap[g]?) : Bk w' g L := hk.trans h
theorem Bk.drew (h : Bk w g L) : Bk w.drew g L := h
theorem Bk.drewN (h : Bk w g L) (n : Nat) : Bk (w.drewN n) g L := h
theorem Bk.rd (h : Bk w g L) (hB : g < B) : Rd w B (some ⟨g, 0, none⟩) L := fun _ => ⟨g, 0, rfl, hB, fun j hj => by rw [Nat.zero_add]; exact h.cell hj⟩
theorem Bk.rd_take (h : Bk w g L) (hB : g < B) (n : Nat) : Rd w B (some ⟨g, 0, none⟩) (L.take n) := (h.rd hB).take n
theorem Bk.below (h : Bk w g L) (hb : Below B w w') (hg : g < B) : Bk w' g L := h.keep (hb.block g hg)
end
structure Upd (g : Nat) (w w' : World) : Prop where
  os : w'.os = w.os
  tape : w'.tape = w.tape
  output : w'.output = w.output
  size : w'.heap.size = w.heap.size
  block : ∀ k, k ≠ g → w'.heap[k]? = w.heap[k]?
section
variable {w w' w'' : World} {g B : Nat}
theorem Upd.refl (g : Nat) (w : World) : Upd g w w := ⟨rfl, rfl, rfl, rfl, fun _ _ => rfl⟩
theorem Upd.trans (h : Upd g w w') (k : Upd g w' w'') : Upd g w w'' :=
  ⟨k.os.trans h.os, k.tape.trans h.tape, k.output.trans h.output, k.size.trans h.size, fun i hi => (k.block i hi).trans (h.block i hi)⟩
theorem Upd.drewN (h : Upd g w w') (n : Nat) : Upd g w (w'.drewN n) := ⟨h.os, h.tape, h.output, h.size, h.block⟩
theorem Upd.drew (h : Upd g w w') : Upd g w w'.drew := ⟨h.os, h.tape, h.output, h.size, h.block⟩
theorem Upd.set_ (h : Upd g w w') (i : Nat) (u : Value) : Upd g w (w'.setCell ⟨g, i, none⟩ u) :=
  h.trans ⟨rfl, rfl, rfl, by simp [World.setCell], fun k hk => Below.heap_setCell _ _ _ _ hk⟩
theorem Upd.below (h : Upd g w w') (hg : B ≤ g) : Below B w w' :=
  ⟨h.os, h.tape, h.output, by rw [h.size]; exact Nat.le_refl _, fun k hk => h.block k (by omega)⟩
theorem Upd.cell (h : Upd g w w') {a : Addr} (ha : a.block ≠ g) : w'.cell? a = w.cell? a := World.cell?_of_block (w := w) (h.block _ ha)
end
theorem Tryd.infoU : (Tryd.prog.info? 75).map (fun i => (i.zero, i.size, i.bytes)) = some (some (.int .u32 0), 1, 4) := by kernel_rfl
theorem Tryd.sizeU : (Tryd.prog.info? 75).map (·.size) = some 1 := by kernel_rfl
theorem oneCell_map (l : List Nat) : ∀ u ∈ l.map U, u.oneCell' = true := by
  intro u hu
  obtain ⟨_, _, rfl⟩ := List.mem_map.1 hu
  rfl
theorem madeCells_U (n : Nat) : madeCells #[Value.int .u32 0] n = ((List.replicate n 0).map U).toArray := by
  apply Array.ext'
  rw [toList_madeCells_one]
  simp [U]
theorem bk_made (w : World) (n : Nat) : Bk (w.alloc (.cells (madeCells #[Value.int .u32 0] n) 75)) w.heap.size (List.replicate n 0) := by
  unfold Bk
  rw [heap_alloc_new, madeCells_U]
theorem wpList_make_bk (w : World) {ops : Array Oper} {rest : List Oper} {o : Oper} {a : Act} {Q : Exit → Act → World → Prop}
    (hg : o.guard = none) (l c : Operand) (t : TypeId) (hop : o.op = Op.makeSlice t l c) (ht : Tryd.prog.underlying t = some (.slice 75))
    (kl kc : IntKind) (L C : Int) (n : Nat) (hl : a.eval l = .int kl L) (hc : a.eval c = .int kc C) (hL : L = (n : Int)) (hC : C = (n : Int)) (hn : n ≤ 1000000)
    (hK : ∀ w', Bk w' w.heap.size (List.replicate n 0) → w'.heap.size = w.heap.size + 1 → Below w.heap.size w w' → wpList Tryd.prog ops Q rest (a.put o.dst (.slice (some ⟨w.heap.size, 0, none⟩) n n)) w') :
    wpList Tryd.prog ops Q (o :: rest) a w := by
  obtain ⟨i0, hi, hz0, hz1, hz2⟩ := info_parts Tryd.infoU
  subst hL
  subst hC
  refine wpList_make_row w hg l c t hop 75 i0 _ ht hi hz0 hz1 rfl kl kc n hl hc (by rw [hz2]; omega) (by omega) ?_
  exact hK _ (bk_made w n) (by simp) ((Below.refl _ _).alloc (Nat.le_refl _) _)
theorem rd_copy {w : World} {B : Nat} {A : Option Addr} {l : List Nat} (h : Rd w B A l) : 0 < (l.map U).length → ∃ ad, A = some ad ∧ ∀ j v, (l.map U)[j]? = some v → w.cell? (ad.add j) = some v := by
  intro h0
  rw [List.length_map] at h0
  obtain ⟨b, o, rfl, _, hc⟩ := h h0
  refine ⟨_, rfl, fun j v hv => ?_⟩
  rw [List.getElem?_map, Option.map_eq_some_iff] at hv
  obtain ⟨x, hx, rfl⟩ := hv
  have hj : j < l.length := by
    rcases Nat.lt_or_ge j l.length with h | h
    · exact h
    · rw [List.getElem?_eq_none h] at hx; cases hx
  rw [Addr.add_lit, hc j hj]
  unfold nth U
  rw [List.getD_eq_getElem?_getD, hx]; rfl
theorem wpList_copy_bk {w : World} {ops : Array Oper} {rest : List Oper} {o : Oper} {a : Act} {Q : Exit → Act → World → Prop} (hgd : o.guard = none) (d s : Operand) (dT sT : TypeId)
    (ho : o.op = .call { callee := .builtin .copy, args := #[d, s], argTypes := #[dT, sT] }) (hu : Tryd.prog.underlying dT = some (.slice 75))
    (g m dCap : Nat) (L l : List Nat) (A : Option Addr) (n sCap B B0 : Nat) (w0 : World) (hd : a.eval d = .slice (some ⟨g, 0, none⟩) m dCap) (hs : a.eval s = .slice A n sCap)
    (hg : Bk w g L) (hL : L.length = m) (hr : Rd w B A l) (hl : l.length = n) (hnm : n ≤ m) (hb : Below B0 w0 w) (hBg : B0 ≤ g)
    (hK : ∀ w', Bk w' g (l ++ L.drop n) → w'.heap.size = w.heap.size → Below B0 w0 w' → wpList Tryd.prog ops Q rest (a.put o.dst (goInt n)) w') :
    wpList Tryd.prog ops Q (o :: rest) a w := by
  have hgl : w.heap[g]? = some (.cells (L.map U).toArray 75 (0, 0)) := hg
  have hcl : (l.map U).length = n := by rw [List.length_map, hl]
  have hsz := Tryd.sizeU
  rcases Nat.eq_zero_or_pos n with h0 | h0
  · have e : l = [] := List.eq_nil_of_length_eq_zero (by omega)
    subst e
    subst h0
    refine wpList_copy_nothing hgd d s dT sT ho 75 hu hsz _ A m dCap 0 sCap hd hs (by simp) ?_
    exact hK w (by simpa using hg) rfl hb
  · obtain ⟨ad, hA, hcells⟩ := rd_copy hr (by omega)
    subst hA
    refine wpList_copy_own hgd d s dT sT ho 75 hu hsz g 0 m dCap ad n sCap hd hs _ _ hgl (l.map U) (by rw [hcl]; exact (Nat.min_eq_left hnm).symm) hcells (by simp; omega) (oneCell_map l) ?_
    rw [hcl]
    refine hK _ ?_ (size_setRow _ _ _) (below_setRow hb hBg _)
    unfold Bk
    rw [setRow_heap w g _ _ _ _ hgl]
    simp
end Go.Proofs.YtefepaackdhiiaaDoor.Nn
namespace Go.Proofs.YtefepaackdhiiaaDoor.Nn
open Go.RowKit Nt
theorem ret_uu {a b c d : Int} (h1 : a = c) (h2 : b = d) : Ending.returned (.tuple #[.int .u32 a, .int .u32 b]) = .returned (.tuple #[.int .u32 c, .int .u32 d]) := by rw [h1, h2]
set_option maxHeartbeats 400000 in
theorem add32 (x y c : Nat) (w : World) (hx : x < 4294967296) (hy : y < 4294967296) (hc : c ≤ 1) :
    Calls Tryd.prog 115 #[.int .u32 (x : Int), .int .u32 (y : Int), .int .u32 (c : Int)] w fun e w' =>
      e = .returned (.tuple #[.int .u32 (((x + y + c) % 4294967296 : Nat) : Int), .int .u32 (((x + y + c) / 4294967296 : Nat) : Int)]) ∧ w = w' := by
  go_enter Tryd.func115, Tryd.ntmps115
  go_wp2
  go_ret2
  exact ⟨ret_uu (by omega) (by omega), rfl⟩
def dif (x y c : Nat) : Nat := (x + 8589934592 - y - c) % 4294967296
def brw (x y c : Nat) : Nat := if x < y + c then 1 else 0
theorem dif_lt (x y c : Nat) : dif x y c < 4294967296 := by unfold dif; omega
theorem brw_le (x y c : Nat) : brw x y c ≤ 1 := by unfold brw; split <;> omega
theorem dif_brw {x y c : Nat} (hx : x < 4294967296) (hy : y < 4294967296) (hc : c ≤ 1) : dif x y c + y + c = x + 4294967296 * brw x y c := by
  unfold dif brw; split <;> omega
def vldB (l : List Nat) : Bool := decide (l.length ≤ 1024) && (l.length == 0 || nth l (l.length - 1) != 0)
theorem ret_bool {a b : Bool} (h : a = b) : Ending.returned (.bool a) = .returned (.bool b) := by rw [h]
set_option maxHeartbeats 400000 in
theorem valid_some (b o c n : Nat) (l : List Nat) (w : World) (hm : n ≤ 9223372036854775807) (hp : 0 < n)
    (h1 : w.cell? ⟨b, o + (n - 1), none⟩ = some (.int .u32 ((nth l (n - 1) : Nat) : Int))) :
    Calls Tryd.prog 97 #[.slice (some ⟨b, o, none⟩) n c] w fun e w' => e = .returned (.bool (decide (n ≤ 1024) && (nth l (n - 1) != 0))) ∧ w = w' := by
  have h0 : ((n : Int) == 0) = false := beq_eq_false_iff_ne.2 (by omega)
  by_cases hle : n ≤ 1024
  · go_enter Tryd.func97, Tryd.ntmps97
    go_wp2
    go_ret
    refine ⟨ret_bool ?_, rfl⟩
    rw [decide_eq_true hle, Bool.true_and, Bool.eq_iff_iff]
    simp only [bne_iff_ne, ne_eq]
    show ¬ (_ : Int) = 0 ↔ _
    omega
  · go_enter Tryd.func97, Tryd.ntmps97
    go_wp2
    go_ret
    exact ⟨ret_bool (by simp), rfl⟩
set_option maxHeartbeats 400000 in
theorem valid_none (A : Option Addr) (c : Nat) (w : World) :
    Calls Tryd.prog 97 #[.slice A 0 c] w fun e w' => e = .returned (.bool true) ∧ w = w' := by
  go_enter Tryd.func97, Tryd.ntmps97
  go_wp2
  go_ret
  exact ⟨rfl, rfl⟩
theorem valid_any {B : Nat} {A : Option Addr} {l : List Nat} {w : World} (c n : Nat) (hr : Rd w B A l) (hn : l.length = n) (hm : n ≤ 9223372036854775807) :
    Calls Tryd.prog 97 #[.slice A n c] w fun e w' => e = .returned (.bool (vldB l)) ∧ w = w' := by
  subst hn
  rcases Nat.eq_zero_or_pos l.length with h0 | h0
  · have e : vldB l = true := by unfold vldB; simp [h0]
    rw [h0, e]
    exact valid_none A c w
  · obtain ⟨b, o, rfl, _, hc⟩ := hr h0
    have e : vldB l = (decide (l.length ≤ 1024) && (nth l (l.length - 1) != 0)) := by
      unfold vldB
      have h1 : (l.length == 0) = false := beq_eq_false_iff_ne.2 (by omega)
      rw [h1, Bool.false_or]
    rw [e]
    exact valid_some b o c l.length l w hm h0 (hc _ (by omega))
theorem valid_yes {B : Nat} {A : Option Addr} {l : List Nat} {w : World} (c n : Nat) (hr : Rd w B A l) (hn : l.length = n) (hm : n ≤ 9223372036854775807) (hv : vldB l = true) :
    Calls Tryd.prog 97 #[.slice A n c] w fun e w' => e = .returned (.bool true) ∧ w = w' := by
  have := valid_any c n hr hn hm; rw [hv] at this; exact this
structure Cut (l : List Nat) (n : Nat) : Prop where
  le : n ≤ l.length
  zero : ∀ i, n ≤ i → i < l.length → nth l i = 0
theorem Cut.all (l : List Nat) : Cut l l.length := ⟨Nat.le_refl _, fun i h1 h2 => by omega⟩
theorem Cut.step {l : List Nat} {n : Nat} (h : Cut l n) (hp : 0 < n) (hz : nth l (n - 1) = 0) : Cut l (n - 1) :=
  ⟨by have := h.le; omega, fun i h1 h2 => by
    rcases Nat.lt_or_ge i n with hi | hi
    · have e : i = n - 1 := by omega
      rw [e]; exact hz
    · exact h.zero i hi h2⟩
theorem Cut.dg {l : List Nat} {n : Nat} (h : Cut l n) (hw : Wf l) (hs : n = 0 ∨ nth l (n - 1) ≠ 0) : Nt.dg (val l) = l.take n := dg_cut hw h.le h.zero hs
theorem ret_slice {A : Option Addr} {n m c : Nat} (h : n = m) : Ending.returned (.slice A n c) = .returned (.slice A m c) := by rw [h]
set_option maxHeartbeats 400000 in
theorem trimmed_some (b o c n : Nat) (l : List Nat) (w : World) (hw : Hid (Wf l)) (hN : Hid (l.length = n)) (hm : n ≤ 9223372036854775807) (hnc : n ≤ c)
    (hc : Hid (∀ j, j < n → w.cell? ⟨b, o + j, none⟩ = some (.int .u32 ((nth l j : Nat) : Int)))) :
    Calls Tryd.prog 116 #[.slice (some ⟨b, o, none⟩) n c] w fun e w' => e = .returned (.slice (some ⟨b, o, none⟩) (dg (val l)).length c) ∧ w = w' := by
  go_enter Tryd.func116, Tryd.ntmps116
  go_wp2
  go_loop [3] (fun i => ∃ k : Nat, k ≤ n ∧ i = .int .i64 k ∧ Hid (Cut l k)) (fun i => (intOf i).toNat)
  case atStart => exact ⟨n, Nat.le_refl _, rfl, by have := Cut.all l; rw [hN.out] at this; exact this⟩
  case round =>
    obtain ⟨k, hk, rfl, hcut⟩ := hrel
    by_cases hp : 0 < k
    · have hcell := hc.out (k - 1) (by omega)
      by_cases hz : nth l (k - 1) = 0
      · have HZ : Hid (nth l (k - 1) = 0) := hz
        have hb : ((nth l (k - 1) : Int) == 0) = true := by simp [hz]
        clear hz
        go_wp2
        go_round
        case rel => exact ⟨k - 1, by omega, by go_num, hcut.out.step hp HZ.out⟩
        case measure => simp [intOf]; omega
      · have HZ : Hid (¬ nth l (k - 1) = 0) := hz
        have hb : ((nth l (k - 1) : Int) == 0) = false := beq_eq_false_iff_ne.2 (by omega)
        clear hz
        go_wp2
        go_ret
        have e := hcut.out.dg hw.out (.inr HZ.out)
        exact ⟨ret_slice (by rw [e, List.length_take, hN.out]; omega), rfl⟩
    · go_wp2
      go_ret
      have e := hcut.out.dg hw.out (.inl (by omega))
      exact ⟨ret_slice (by rw [e, List.length_take, hN.out]; omega), rfl⟩
set_option maxHeartbeats 400000 in
theorem trimmed_none (A : Option Addr) (c : Nat) (w : World) :
    Calls Tryd.prog 116 #[.slice A 0 c] w fun e w' => e = .returned (.slice A 0 c) ∧ w = w' := by
  go_enter Tryd.func116, Tryd.ntmps116
  go_wp2
  go_rounds 1
  go_ret
  exact ⟨rfl, rfl⟩
theorem trimmed_any {B : Nat} {A : Option Addr} {l : List Nat} {w : World} (c n : Nat) (hr : Rd w B A l) (hw : Wf l) (hn : l.length = n) (hm : n ≤ 9223372036854775807) (hnc : n ≤ c) :
    Calls Tryd.prog 116 #[.slice A n c] w fun e w' => e = .returned (.slice A (dg (val l)).length c) ∧ w = w' := by
  rcases Nat.eq_zero_or_pos l.length with h0 | h0
  · have e : l = [] := List.eq_nil_of_length_eq_zero h0
    subst e
    subst hn
    rw [val_nil, dg_zero]
    exact trimmed_none A c w
  · obtain ⟨b, o, rfl, _, hc⟩ := hr h0
    subst hn
    exact trimmed_some b o c l.length l w hw rfl hm hnc hc
theorem dg_val_take {l : List Nat} (hw : Wf l) : dg (val l) = l.take (dg (val l)).length := by
  have : ∃ n, n ≤ l.length ∧ dg (val l) = l.take n := by
    induction l with
    | nil => exact ⟨0, by simp, by rw [val_nil, dg_zero]; rfl⟩
    | cons x l ih =>
      obtain ⟨hx, hl⟩ := wf_cons.1 hw
      obtain ⟨n, hn, e⟩ := ih hl
      by_cases h0 : val (x :: l) = 0
      · exact ⟨0, by simp, by rw [h0, dg_zero]; rfl⟩
      · refine ⟨n + 1, by simp; omega, ?_⟩
        rw [dg_pos h0, List.take_succ_cons, ← e]
        have e1 : val (x :: l) % 4294967296 = x := by rw [val_cons]; omega
        have e2 : val (x :: l) / 4294967296 = val l := by rw [val_cons]; omega
        rw [e1, e2]
  obtain ⟨n, hn, e⟩ := this
  have hl : (dg (val l)).length = n := by rw [e, List.length_take]; omega
  rw [hl]; exact e
theorem Rd.dg {w : World} {B : Nat} {A : Option Addr} {l : List Nat} (h : Rd w B A l) (hw : Wf l) : Rd w B A (Nt.dg (val l)) := by
  rw [dg_val_take hw]; exact h.take _
set_option maxHeartbeats 400000 in
theorem duplicate_any {B : Nat} {A : Option Addr} {l : List Nat} {w : World} (c n : Nat) (hr : Rd w B A l) (hB : B ≤ w.heap.size) (hn : l.length = n) (hm : n ≤ 1000000) :
    Calls Tryd.prog 119 #[.slice A n c] w fun e w' => e = .returned (.slice (some ⟨w.heap.size, 0, none⟩) n n) ∧ Bk w' w.heap.size l ∧ w'.heap.size = w.heap.size + 1 ∧ Below w.heap.size w w' := by
  have HR := Lib.hid (hr.mono hB)
  have HN := Lib.hid hn
  clear hr hn
  go_enter Tryd.func119, Tryd.ntmps119
  go_wp2_with (first
    | (at_make; refine wpList_make_bk _ rfl _ _ 39 rfl Tryd.underlying39 _ _ _ _ n rfl rfl rfl rfl hm ?_; intro w1 hbk1 hs1 hb1; have HB1 := Lib.hid hbk1; have HS1 := Lib.hid hs1; clear hbk1 hs1)
    | (with_reducible refine wpList_copy_bk rfl _ _ 39 39 rfl Tryd.underlying39 w.heap.size n n (List.replicate n 0) l A n c w.heap.size w.heap.size w rfl rfl HB1.out (by simp) (HR.out.below hb1) HN.out (Nat.le_refl _) hb1 (Nat.le_refl _) ?_; intro w2 hbk2 hs2 hb2; have HB2 := Lib.hid hbk2; have HS2 := Lib.hid hs2; clear hbk2 hs2))
  go_ret
  have hbk := HB2.out
  rw [List.drop_eq_nil_of_le (by simp), List.append_nil] at hbk
  exact ⟨rfl, hbk, by rw [HS2.out, HS1.out], hb2⟩
end Go.Proofs.YtefepaackdhiiaaDoor.Nn
namespace Go.Proofs.YtefepaackdhiiaaDoor.Nn
open Nt
theorem nth_take {l : List Nat} {k j : Nat} (h : j < k) : nth (l.take k) j = nth l j := by
  unfold nth; rw [List.getD_eq_getElem?_getD, List.getD_eq_getElem?_getD, List.getElem?_take, if_pos h]
theorem nth_drop (l : List Nat) (o j : Nat) : nth (l.drop o) j = nth l (o + j) := by
  unfold nth; rw [List.getD_eq_getElem?_getD, List.getD_eq_getElem?_getD, List.getElem?_drop]
theorem nth_sub {l : List Nat} {o n j : Nat} (h : j < n) : nth ((l.drop o).take n) j = nth l (o + j) := by rw [nth_take h, nth_drop]
theorem nth_ge {l : List Nat} {k : Nat} (h : l.length ≤ k) : nth l k = 0 := by
  unfold nth; rw [List.getD_eq_getElem?_getD, List.getElem?_eq_none h]; rfl
theorem take_step (l : List Nat) (k : Nat) : val (l.take (k + 1)) = val (l.take k) + 4294967296 ^ k * nth l k := by
  rcases Nat.lt_or_ge k l.length with h | h
  · exact val_take_succ h
  · rw [nth_ge h, List.take_of_length_le (by omega), List.take_of_length_le (by omega)]; simp
theorem splice_zero (L : List Nat) (o : Nat) : splice L o [] = L := by unfold splice; simp
theorem length_spl {L X : List Nat} {o : Nat} (h : o + X.length ≤ L.length) : (splice L o X).length = L.length := length_splice L o X h
theorem nth_spl {L X : List Nat} {o j : Nat} (h : o + X.length ≤ L.length) (hj : o + X.length ≤ j) : nth (splice L o X) j = nth L j := by
  unfold nth splice
  rw [List.getD_eq_getElem?_getD, List.getD_eq_getElem?_getD, List.getElem?_append_right (by simp; omega), List.getElem?_append_right (by simp; omega), List.getElem?_drop]
  congr 2
  simp
  omega
theorem spl_set {L X : List Nat} {o : Nat} (x : Nat) (h : o + X.length < L.length) : (splice L o X).set (o + X.length) x = splice L o (X ++ [x]) := by
  unfold splice
  rw [List.set_append_right _ _ (by simp; omega)]
  have e : o + X.length - (L.take o).length = X.length := by simp; omega
  rw [e, List.set_append_right _ _ (Nat.le_refl _), Nat.sub_self]
  rw [List.drop_eq_getElem_cons h, List.set_cons_zero]
  simp [Nat.add_assoc]
structure AddInv (S M : List Nat) (k : Nat) (X : List Nat) (c : Nat) : Prop where
  len : X.length = k
  wf : Wf X
  c1 : c ≤ 1
  eq : val X + 4294967296 ^ k * c = val (S.take k) + val (M.take k)
theorem AddInv.start (S M : List Nat) : AddInv S M 0 [] 0 := ⟨rfl, wf_nil, by omega, by simp [val]⟩
theorem AddInv.step {S M : List Nat} {k : Nat} {X : List Nat} {c : Nat} (h : AddInv S M k X c) (hS : Wf S) (hM : Wf M) :
    AddInv S M (k + 1) (X ++ [(nth S k + nth M k + c) % 4294967296]) ((nth S k + nth M k + c) / 4294967296) := by
  have h1 := nth_lt hS k
  have h2 := nth_lt hM k
  have h3 := h.c1
  refine ⟨by simp [h.len], wf_append.2 ⟨h.wf, wf_cons.2 ⟨by omega, wf_nil⟩⟩, by omega, ?_⟩
  rw [val_snoc, h.len, take_step, take_step, Nat.pow_succ]
  exact add_step h.eq
theorem AddInv.done {S M : List Nat} {k : Nat} {X : List Nat} {c : Nat} (h : AddInv S M k X c) (hS : Wf S) (hk : k ≤ S.length) (hm : M.length ≤ k) (hc : c = 0 ∨ k = S.length) :
    (X ++ S.drop k).length = S.length ∧ Wf (X ++ S.drop k) ∧ val (X ++ S.drop k) + 4294967296 ^ S.length * c = val S + val M := by
  have e : val S = val (S.take k) + 4294967296 ^ k * val (S.drop k) := by
    conv => lhs; rw [← List.take_append_drop k S]
    rw [val_append, List.length_take, Nat.min_eq_left hk]
  have q := h.eq
  rw [List.take_of_length_le hm] at q
  refine ⟨by simp [h.len]; omega, wf_append.2 ⟨h.wf, hS.drop k⟩, ?_⟩
  rw [val_append, h.len, e]
  rcases hc with rfl | rfl
  · simp at q ⊢; omega
  · simp [val] at q ⊢; omega
structure SubInv (S M : List Nat) (k : Nat) (X : List Nat) (c : Nat) : Prop where
  len : X.length = k
  wf : Wf X
  c1 : c ≤ 1
  eq : val X + val (M.take k) = val (S.take k) + 4294967296 ^ k * c
theorem SubInv.start (S M : List Nat) : SubInv S M 0 [] 0 := ⟨rfl, wf_nil, by omega, by simp [val]⟩
theorem SubInv.step {S M : List Nat} {k : Nat} {X : List Nat} {c : Nat} (h : SubInv S M k X c) (hS : Wf S) (hM : Wf M) :
    SubInv S M (k + 1) (X ++ [dif (nth S k) (nth M k) c]) (brw (nth S k) (nth M k) c) := by
  have h1 := nth_lt hS k
  have h2 := nth_lt hM k
  have h3 := h.c1
  refine ⟨by simp [h.len], wf_append.2 ⟨h.wf, wf_cons.2 ⟨dif_lt _ _ _, wf_nil⟩⟩, brw_le _ _ _, ?_⟩
  rw [val_snoc, h.len, take_step, take_step, Nat.pow_succ]
  exact sub_step h.eq (dif_brw h1 h2 h3)
theorem SubInv.done {S M : List Nat} {k : Nat} {X : List Nat} {c : Nat} (h : SubInv S M k X c) (hS : Wf S) (hk : k ≤ S.length) (hm : M.length ≤ k) (hc : c = 0 ∨ k = S.length) :
    (X ++ S.drop k).length = S.length ∧ Wf (X ++ S.drop k) ∧ val (X ++ S.drop k) + val M = val S + 4294967296 ^ S.length * c := by
  have e : val S = val (S.take k) + 4294967296 ^ k * val (S.drop k) := by
    conv => lhs; rw [← List.take_append_drop k S]
    rw [val_append, List.length_take, Nat.min_eq_left hk]
  have q := h.eq
  rw [List.take_of_length_le hm] at q
  refine ⟨by simp [h.len]; omega, wf_append.2 ⟨h.wf, hS.drop k⟩, ?_⟩
  rw [val_append, h.len, e]
  rcases hc with rfl | rfl
  · simp at q ⊢; omega
  · simp [val] at q ⊢; omega
structure MulInv (S M : List Nat) (f k : Nat) (X : List Nat) (c : Nat) : Prop where
  len : X.length = k
  wf : Wf X
  c1 : c ≤ 4294967295
  eq : val X + 4294967296 ^ k * c = val (S.take k) + f * val (M.take k)
theorem MulInv.start (S M : List Nat) (f : Nat) : MulInv S M f 0 [] 0 := ⟨rfl, wf_nil, by omega, by simp [val]⟩
theorem mul_bound {x f : Nat} (hx : x < 4294967296) (hf : f < 4294967296) : x * f ≤ 18446744065119617025 :=
  Nat.le_trans (Nat.mul_le_mul (show x ≤ 4294967295 by omega) (show f ≤ 4294967295 by omega)) (by omega)
theorem MulInv.step {S M : List Nat} {f k : Nat} {X : List Nat} {c : Nat} (h : MulInv S M f k X c) (hS : Wf S) (hM : Wf M) (hf : f < 4294967296) :
    MulInv S M f (k + 1) (X ++ [(nth M k * f + nth S k + c) % 4294967296]) ((nth M k * f + nth S k + c) / 4294967296) := by
  have h1 := nth_lt hS k
  have h2 := nth_lt hM k
  have h3 := h.c1
  have h4 := mul_bound h2 hf
  refine ⟨by simp [h.len], wf_append.2 ⟨h.wf, wf_cons.2 ⟨by omega, wf_nil⟩⟩, by omega, ?_⟩
  rw [val_snoc, h.len, take_step, take_step, Nat.pow_succ]
  exact mul_step h.eq
end Go.Proofs.YtefepaackdhiiaaDoor.Nn
namespace Go.Proofs.YtefepaackdhiiaaDoor.Nn
open Go.RowKit Nt
def Added (w : World) (g o n : Nat) (L M : List Nat) (e : Ending) (w' : World) : Prop :=
  ∃ X c, e = .returned (.int .u32 ((c : Nat) : Int)) ∧ X.length = n ∧ Wf X ∧ c ≤ 1 ∧ val X + 4294967296 ^ n * c = val ((L.drop o).take n) + val M ∧ Bk w' g (splice L o X) ∧ Upd g w w'
def AddSt (w wr : World) (g o n : Nat) (L M : List Nat) (k c : Nat) : Prop :=
  ∃ X, AddInv ((L.drop o).take n) M k X c ∧ Bk wr g (splice L o X) ∧ Upd g w wr
section
variable {w wr : World} {g o n k q : Nat} {L M : List Nat}
theorem AddSt.start (h : Bk w g L) : AddSt w w g o n L M 0 0 := ⟨[], AddInv.start _ _, by rw [splice_zero]; exact h, Upd.refl _ _⟩
theorem AddSt.cell (h : AddSt w wr g o n L M k q) (hon : o + n ≤ L.length) (hk : k < n) : wr.cell? ⟨g, o + k, none⟩ = some (.int .u32 ((nth L (o + k) : Nat) : Int)) := by
  obtain ⟨X, hi, hb, _⟩ := h
  have hl := hi.len
  rw [hb.cell (by rw [length_spl (by omega)]; omega), nth_spl (by omega) (by omega)]
theorem AddSt.frozen (h : AddSt w wr g o n L M k q) (i : Nat) : wr.frozen? ⟨g, i, none⟩ = false := by
  obtain ⟨X, _, hb, _⟩ := h
  exact hb.frozen i
theorem AddSt.far (h : AddSt w wr g o n L M k q) {a : Addr} (ha : a.block ≠ g) : wr.cell? a = w.cell? a := by
  obtain ⟨X, _, _, hu⟩ := h
  exact hu.cell ha
theorem AddSt.step (h : AddSt w wr g o n L M k q) (hL : Wf L) (hM : Wf M) (hon : o + n ≤ L.length) (hk : k < n) (d : Nat) :
    AddSt w ((wr.setCell ⟨g, o + k, none⟩ (.int .u32 (((nth L (o + k) : Int) + (nth M k : Int) + (q : Int)) % 4294967296))).drewN d) g o n L M (k + 1) ((nth L (o + k) + nth M k + q) / 4294967296) := by
  obtain ⟨X, hi, hb, hu⟩ := h
  have hl := hi.len
  have e : ((nth L (o + k) : Int) + (nth M k : Int) + (q : Int)) % 4294967296 = (((nth L (o + k) + nth M k + q) % 4294967296 : Nat) : Int) := by omega
  have hs := hi.step ((hL.drop o).take n) hM
  rw [nth_sub hk] at hs
  refine ⟨_, hs, ?_, (hu.set_ _ _).drewN d⟩
  rw [e]
  have := hb.set_ (o + k) ((nth L (o + k) + nth M k + q) % 4294967296)
  rw [← hl, spl_set _ (by omega), hl] at this
  exact this.drewN d
theorem AddSt.step0 (h : AddSt w wr g o n L M k q) (hL : Wf L) (hM : Wf M) (hon : o + n ≤ L.length) (hk : k < n) (hm : M.length ≤ k) :
    AddSt w (wr.setCell ⟨g, o + k, none⟩ (.int .u32 (((nth L (o + k) : Int) + (q : Int)) % 4294967296))) g o n L M (k + 1) ((nth L (o + k) + q) / 4294967296) := by
  have := h.step hL hM hon hk 0
  rw [nth_ge hm] at this
  exact this
theorem AddSt.done (h : AddSt w wr g o n L M k q) (hL : Wf L) (hon : o + n ≤ L.length) (hk : k ≤ n) (hm : M.length ≤ k) (hq : q = 0 ∨ k = n) :
    Added w g o n L M (.returned (.int .u32 ((q : Nat) : Int))) wr := by
  obtain ⟨X, hi, hb, hu⟩ := h
  have hn : ((L.drop o).take n).length = n := by simp; omega
  obtain ⟨e1, e2, e3⟩ := hi.done ((hL.drop o).take n) (by rw [hn]; exact hk) hm (by rw [hn]; exact hq)
  rw [hn] at e1 e3
  refine ⟨_, q, rfl, e1, e2, hi.c1, e3, ?_, hu⟩
  have e : splice L o (X ++ ((L.drop o).take n).drop k) = splice L o X := by
    have hl := hi.len
    unfold splice
    congr 1
    rw [List.append_assoc]
    congr 1
    apply List.ext_getElem?
    intro i
    rw [List.getElem?_append]
    simp only [List.length_drop, List.length_take, List.length_append, List.getElem?_drop, List.getElem?_take]
    split
    · rw [if_pos (by omega)]; congr 1; omega
    · congr 1; omega
  rw [e]; exact hb
end
theorem add32_zero (x c : Nat) (w : World) (hx : x < 4294967296) (hc : c ≤ 1) :
    Calls Tryd.prog 115 #[.int .u32 (x : Int), .int .u32 0, .int .u32 (c : Int)] w fun e w' =>
      e = .returned (.tuple #[.int .u32 (((x + c) % 4294967296 : Nat) : Int), .int .u32 (((x + c) / 4294967296 : Nat) : Int)]) ∧ w = w' :=
  add32 x 0 c w hx (by omega) hc
set_option maxHeartbeats 2000000 in
set_option maxRecDepth 100000 in
theorem addTo_some (g o n c b p m d : Nat) (L M : List Nat) (w : World) (hL : Hid (Wf L)) (hM : Hid (Wf M)) (hml : Hid (M.length = m)) (hmn : m ≤ n) (hn : n ≤ 1000000)
    (hon : Hid (o + n ≤ L.length)) (hbk : Hid (Bk w g L)) (hbg : Hid (0 < m → b ≠ g ∧ ∀ j, j < m → w.cell? ⟨b, p + j, none⟩ = some (.int .u32 ((nth M j : Nat) : Int)))) :
    Calls Tryd.prog 98 #[.slice (some ⟨g, o, none⟩) n c, .slice (some ⟨b, p, none⟩) m d] w (Added w g o n L M) := by
  go_enter Tryd.func98, Tryd.ntmps98
  go_wp2
  go_loopw [5, 10] (fun s i wr => ∃ k q : Nat, k ≤ m ∧ i = .int .i64 k ∧ q ≤ 1 ∧ s = .int .u32 q ∧ Hid (AddSt w wr g o n L M k q)) (fun _ i _ => m - (intOf i).toNat)
  case atStart => exact ⟨0, 0, Nat.zero_le _, rfl, by omega, rfl, AddSt.start hbk.out⟩
  case round =>
    obtain ⟨k, q, hk, rfl, hq, rfl, hst⟩ := hrel
    by_cases hlt : k < m
    · have hx : nth L (o + k) < 4294967296 := nth_lt hL.out _
      have hy : nth M k < 4294967296 := nth_lt hM.out _
      have c1 : wr.cell? ⟨g, o + k, none⟩ = some (.int .u32 ((nth L (o + k) : Nat) : Int)) := hst.out.cell hon.out (by omega)
      have c2 : wr.cell? ⟨b, p + k, none⟩ = some (.int .u32 ((nth M k : Nat) : Int)) := by
        obtain ⟨hne, hc⟩ := hbg.out (by omega)
        exact (hst.out.far hne).trans (hc k hlt)
      have f1 : wr.frozen? ⟨g, o + k, none⟩ = false := hst.out.frozen _
      have i1 : (0 : Int) ≤ (k : Int) := by omega
      have i2 : (k : Int) < (n : Int) := by omega
      have i3 : (k : Int) < (m : Int) := by omega
      go_wp2
      go_region_law ((go_simp; go_at_call 115; refine (add32 _ _ _ _ hx hy hq).mono ?_; rintro e w' ⟨rfl, rfl⟩))
      all_goals
        clear c1 c2 f1
        go_wp2
        go_roundw
        case rel => exact ⟨k + 1, (nth L (o + k) + nth M k + q) / 4294967296, by omega, by go_num, by omega, by go_num, hst.out.step hL.out hM.out hon.out (by omega) 1⟩
        case measure => simp [intOf]; omega
    · have hkm : Hid (k = m) := (by omega : k = m)
      go_wp2
      go_loopw [5, 7] (fun s i wr => ∃ k q : Nat, m ≤ k ∧ k ≤ n ∧ i = .int .i64 k ∧ q ≤ 1 ∧ s = .int .u32 q ∧ Hid (AddSt w wr g o n L M k q)) (fun _ i _ => n - (intOf i).toNat)
      case atStart => exact ⟨m, q, by omega, by omega, by go_num, by omega, rfl, by rw [← hkm.out]; exact hst⟩
      case round =>
        obtain ⟨k, q, hk1, hk, rfl, hq, rfl, hst⟩ := hrel
        by_cases hlt : k < n
        · by_cases hq0 : q = 0
          · have HQ : Hid (q = 0) := hq0
            have hqb : ((q : Int) != 0) = false := by simp [hq0]
            clear hq0
            go_wp2
            go_ret
            exact hst.out.done hL.out hon.out (by omega) (by rw [hml.out]; omega) (.inl HQ.out)
          · have HQ : Hid (¬ q = 0) := hq0
            have hqb : ((q : Int) != 0) = true := by simp [hq0]
            have hx : nth L (o + k) < 4294967296 := nth_lt hL.out _
            have c1 : wr.cell? ⟨g, o + k, none⟩ = some (.int .u32 ((nth L (o + k) : Nat) : Int)) := hst.out.cell hon.out (by omega)
            have f1 : wr.frozen? ⟨g, o + k, none⟩ = false := hst.out.frozen _
            clear hq0
            go_wp2_with (go_at_call 115; refine (add32_zero _ _ _ hx hq).mono ?_; rintro e w' ⟨rfl, rfl⟩)
            go_roundw
            case rel => exact ⟨k + 1, (nth L (o + k) + q) / 4294967296, by omega, by omega, by go_num, by omega, by go_num, hst.out.step0 hL.out hM.out hon.out (by omega) (by rw [hml.out]; omega)⟩
            case measure => simp [intOf]; omega
        · go_wp2
          go_ret
          exact hst.out.done hL.out hon.out (by omega) (by rw [hml.out]; omega) (.inr (by omega))
set_option maxHeartbeats 2000000 in
theorem addTo_none (g o n c d : Nat) (A : Option Addr) (L : List Nat) (w : World) (hL : Hid (Wf L)) (hon : Hid (o + n ≤ L.length)) (hbk : Hid (Bk w g L)) (_hn : n ≤ 1000000) :
    Calls Tryd.prog 98 #[.slice (some ⟨g, o, none⟩) n c, .slice A 0 d] w (Added w g o n L []) := by
  go_enter Tryd.func98, Tryd.ntmps98
  go_wp2
  go_rounds 1
  go_rounds 1
  all_goals
    go_ret
    exact (AddSt.start hbk.out).done hL.out hon.out (Nat.zero_le _) (Nat.zero_le _) (.inl rfl)
theorem addTo_any (g o n c m d : Nat) (A : Option Addr) (L M : List Nat) (w : World) (hL : Wf L) (hM : Wf M) (hml : M.length = m) (hmn : m ≤ n) (hn : n ≤ 1000000)
    (hon : o + n ≤ L.length) (hbk : Bk w g L) (hr : Rd w g A M) :
    Calls Tryd.prog 98 #[.slice (some ⟨g, o, none⟩) n c, .slice A m d] w (Added w g o n L M) := by
  rcases Nat.eq_zero_or_pos M.length with h0 | h0
  · have e : M = [] := List.eq_nil_of_length_eq_zero h0
    subst e
    subst hml
    exact addTo_none g o n c d A L w hL hon hbk hn
  · obtain ⟨b, p, rfl, hb, hc⟩ := hr h0
    subst hml
    exact addTo_some g o n c b p M.length d L M w hL hM rfl hmn hn hon hbk (fun _ => ⟨by omega, hc⟩)
end Go.Proofs.YtefepaackdhiiaaDoor.Nn
namespace Go.Proofs.YtefepaackdhiiaaDoor.Nn
open Go.RowKit Nt
def Subbed (w : World) (g o n : Nat) (L M : List Nat) (e : Ending) (w' : World) : Prop :=
  ∃ X c, e = .returned (.tuple #[]) ∧ X.length = n ∧ Wf X ∧ c ≤ 1 ∧ val X + val M = val ((L.drop o).take n) + 4294967296 ^ n * c ∧ Bk w' g (splice L o X) ∧ Upd g w w'
def SubSt (w wr : World) (g o n : Nat) (L M : List Nat) (k c : Nat) : Prop :=
  ∃ X, SubInv ((L.drop o).take n) M k X c ∧ Bk wr g (splice L o X) ∧ Upd g w wr
section
variable {w wr : World} {g o n k q : Nat} {L M : List Nat}
theorem SubSt.start (h : Bk w g L) : SubSt w w g o n L M 0 0 := ⟨[], SubInv.start _ _, by rw [splice_zero]; exact h, Upd.refl _ _⟩
theorem SubSt.cell (h : SubSt w wr g o n L M k q) (hon : o + n ≤ L.length) (hk : k < n) : wr.cell? ⟨g, o + k, none⟩ = some (.int .u32 ((nth L (o + k) : Nat) : Int)) := by
  obtain ⟨X, hi, hb, _⟩ := h
  have hl := hi.len
  rw [hb.cell (by rw [length_spl (by omega)]; omega), nth_spl (by omega) (by omega)]
theorem SubSt.frozen (h : SubSt w wr g o n L M k q) (i : Nat) : wr.frozen? ⟨g, i, none⟩ = false := by
  obtain ⟨X, _, hb, _⟩ := h
  exact hb.frozen i
theorem SubSt.far (h : SubSt w wr g o n L M k q) {a : Addr} (ha : a.block ≠ g) : wr.cell? a = w.cell? a := by
  obtain ⟨X, _, _, hu⟩ := h
  exact hu.cell ha
theorem SubSt.step (h : SubSt w wr g o n L M k q) (hL : Wf L) (hM : Wf M) (hon : o + n ≤ L.length) (hk : k < n) (d : Nat) :
    SubSt w ((wr.setCell ⟨g, o + k, none⟩ (.int .u32 ((dif (nth L (o + k)) (nth M k) q : Nat) : Int))).drewN d) g o n L M (k + 1) (brw (nth L (o + k)) (nth M k) q) := by
  obtain ⟨X, hi, hb, hu⟩ := h
  have hl := hi.len
  have hs := hi.step ((hL.drop o).take n) hM
  rw [nth_sub hk] at hs
  refine ⟨_, hs, ?_, (hu.set_ _ _).drewN d⟩
  have := hb.set_ (o + k) (dif (nth L (o + k)) (nth M k) q)
  rw [← hl, spl_set _ (by omega), hl] at this
  exact this.drewN d
theorem SubSt.step0 (h : SubSt w wr g o n L M k q) (hL : Wf L) (hM : Wf M) (hon : o + n ≤ L.length) (hk : k < n) (hm : M.length ≤ k) :
    SubSt w (wr.setCell ⟨g, o + k, none⟩ (.int .u32 ((dif (nth L (o + k)) 0 q : Nat) : Int))) g o n L M (k + 1) (brw (nth L (o + k)) 0 q) := by
  have := h.step hL hM hon hk 0
  rw [nth_ge hm] at this
  exact this
theorem SubSt.done (h : SubSt w wr g o n L M k q) (hL : Wf L) (hon : o + n ≤ L.length) (hk : k ≤ n) (hm : M.length ≤ k) (hq : q = 0 ∨ k = n) :
    Subbed w g o n L M (.returned (.tuple #[])) wr := by
  obtain ⟨X, hi, hb, hu⟩ := h
  have hn : ((L.drop o).take n).length = n := by simp; omega
  obtain ⟨e1, e2, e3⟩ := hi.done ((hL.drop o).take n) (by rw [hn]; exact hk) hm (by rw [hn]; exact hq)
  rw [hn] at e1 e3
  refine ⟨_, q, rfl, e1, e2, hi.c1, e3, ?_, hu⟩
  have e : splice L o (X ++ ((L.drop o).take n).drop k) = splice L o X := by
    have hl := hi.len
    unfold splice
    congr 1
    rw [List.append_assoc]
    congr 1
    apply List.ext_getElem?
    intro i
    rw [List.getElem?_append]
    simp only [List.length_drop, List.length_take, List.length_append, List.getElem?_drop, List.getElem?_take]
    split
    · rw [if_pos (by omega)]; congr 1; omega
    · congr 1; omega
  rw [e]; exact hb
end
end Go.Proofs.YtefepaackdhiiaaDoor.Nn
namespace Go.Proofs.YtefepaackdhiiaaDoor.Nn
open Go.RowKit Nt
def Num (w : World) (v : Value) (N : Nat) : Prop := ∃ A c, v = .slice A (dg N).length c ∧ (dg N).length ≤ c ∧ Rd w w.heap.size A (dg N)
theorem Num.below {w w' : World} {v : Value} {N : Nat} (h : Num w v N) (hb : Below w.heap.size w w') : Num w' v N := by
  obtain ⟨A, c, rfl, hc, hr⟩ := h
  exact ⟨A, c, rfl, hc, (hr.below hb).mono hb.size⟩
theorem Num.nil (w : World) : Num w (.slice none 0 0) 0 := ⟨none, 0, by rw [dg_zero]; rfl, by rw [dg_zero]; simp, by rw [dg_zero]; exact Rd.nil⟩
theorem Num.bk {w : World} {g N : Nat} (h : Bk w g (dg N)) : Num w (.slice (some ⟨g, 0, none⟩) (dg N).length (dg N).length) N :=
  ⟨_, _, rfl, Nat.le_refl _, h.rd h.lt⟩
def Gives1 (w : World) (N : Nat) (e : Ending) (w' : World) : Prop := ∃ v, e = .returned v ∧ Num w' v N ∧ Below w.heap.size w w'
def Gives (w : World) (N : Nat) (err : Int) (e : Ending) (w' : World) : Prop := ∃ v, e = .returned (.tuple #[v, .int .i64 err]) ∧ Num w' v N ∧ Below w.heap.size w w'
def lim (N : Nat) : Nat := if (dg N).length ≤ 1024 then N else 0
def limE (N : Nat) : Int := if (dg N).length ≤ 1024 then 0 else 2
theorem lim_of {N : Nat} (h : (dg N).length ≤ 1024) : lim N = N := if_pos h
theorem limE_of {N : Nat} (h : (dg N).length ≤ 1024) : limE N = 0 := if_pos h
theorem lim_not {N : Nat} (h : ¬ (dg N).length ≤ 1024) : lim N = 0 := if_neg h
theorem limE_not {N : Nat} (h : ¬ (dg N).length ≤ 1024) : limE N = 2 := if_neg h
theorem vldB_dg {N : Nat} (h : (dg N).length ≤ 1024) : vldB (dg N) = true := by
  unfold vldB
  rw [decide_eq_true h, Bool.true_and]
  rcases can_dg N with e | e
  · rw [e]; rfl
  · by_cases h0 : (dg N).length = 0
    · simp [h0]
    · rw [Bool.or_eq_true]
      right
      rw [List.getLast?_eq_getElem?, List.getElem?_eq_getElem (by omega)] at e
      rw [nth_getElem (by omega)]
      simpa using e
set_option maxHeartbeats 400000 in
theorem canonical_any {B : Nat} {A : Option Addr} {l : List Nat} {w : World} (c n : Nat) (hr : Rd w B A l) (hB : B ≤ w.heap.size) (hw : Wf l) (hn : l.length = n) (hm : n ≤ 1000000) (hnc : n ≤ c) :
    Calls Tryd.prog 101 #[.slice A n c] w (fun e w' => e = .returned (.slice (some ⟨w.heap.size, 0, none⟩) (dg (val l)).length (dg (val l)).length) ∧ Bk w' w.heap.size (dg (val l)) ∧ w'.heap.size = w.heap.size + 1 ∧ Below w.heap.size w w') := by
  have hl : (dg (val l)).length ≤ n := by
    have := dg_val_take hw
    have h2 := congrArg List.length this
    rw [List.length_take] at h2; omega
  have HR := Lib.hid hr
  have HW := Lib.hid hw
  have HN := Lib.hid hn
  clear hr hw hn
  go_enter Tryd.func101, Tryd.ntmps101
  go_wp2_with (first
    | (go_at_call 116; refine (trimmed_any c n HR.out HW.out HN.out (by omega) hnc).mono ?_; rintro e w' ⟨rfl, rfl⟩)
    | (go_at_call 119; refine (duplicate_any c _ (HR.out.dg HW.out) hB rfl (by omega)).mono ?_; rintro e w' ⟨rfl, h1, h2, h3⟩; have H1 := Lib.hid h1; have H2 := Lib.hid h2; clear h1 h2))
  go_ret
  exact ⟨rfl, H1.out, H2.out, h3⟩
theorem canonical_gives {B : Nat} {A : Option Addr} {l : List Nat} {w : World} (c n : Nat) (hr : Rd w B A l) (hB : B ≤ w.heap.size) (hw : Wf l) (hn : l.length = n) (hm : n ≤ 1000000) (hnc : n ≤ c) :
    Calls Tryd.prog 101 #[.slice A n c] w (Gives1 w (val l)) :=
  (canonical_any c n hr hB hw hn hm hnc).mono fun _ _ ⟨h1, h2, _, h4⟩ => ⟨_, h1, Num.bk h2, h4⟩
set_option maxHeartbeats 400000 in
theorem limited_any {B : Nat} {A : Option Addr} {l : List Nat} {w : World} (c n : Nat) (hr : Rd w B A l) (hB : B ≤ w.heap.size) (hw : Wf l) (hn : l.length = n) (hm : n ≤ 1000000) (hnc : n ≤ c) :
    Calls Tryd.prog 99 #[.slice A n c] w (Gives w (lim (val l)) (limE (val l))) := by
  have HR := Lib.hid hr
  have HW := Lib.hid hw
  have HN := Lib.hid hn
  have hl : (dg (val l)).length ≤ n := by
    have := dg_val_take hw
    have h2 := congrArg List.length this
    rw [List.length_take] at h2; omega
  clear hr hw hn
  by_cases hle : (dg (val l)).length ≤ 1024
  · rw [lim_of hle, limE_of hle]
    go_enter Tryd.func99, Tryd.ntmps99
    go_wp2_with (first
      | (go_at_call 116; refine (trimmed_any c n HR.out HW.out HN.out (by omega) hnc).mono ?_; rintro e w' ⟨rfl, rfl⟩)
      | (go_at_call 101; refine (canonical_gives c n HR.out hB HW.out HN.out hm hnc).mono ?_; rintro e w' ⟨v, rfl, h1, h2⟩; have H1 := Lib.hid h1; clear h1))
    go_ret2
    exact ⟨v, rfl, H1.out, h2⟩
  · rw [lim_not hle, limE_not hle]
    go_enter Tryd.func99, Tryd.ntmps99
    go_wp2_with (first
      | (go_at_call 116; refine (trimmed_any c n HR.out HW.out HN.out (by omega) hnc).mono ?_; rintro e w' ⟨rfl, rfl⟩))
    go_ret2
    exact ⟨_, rfl, Num.nil _, Below.refl _ _⟩
end Go.Proofs.YtefepaackdhiiaaDoor.Nn
namespace Go.Proofs.YtefepaackdhiiaaDoor.Nn
open Go.RowKit Nt
theorem splice_full {L X : List Nat} (h : X.length = L.length) : splice L 0 X = X := by unfold splice; simp [h]
theorem sum_val {a b n c : Nat} {X : List Nat} (hab : a < 4294967296 ^ (n - 1)) (hb : b < 4294967296 ^ (n - 1)) (hn : 0 < n)
    (h : val X + 4294967296 ^ n * c = a + b) : val X = a + b := by
  obtain ⟨m, rfl⟩ : ∃ m, n = m + 1 := ⟨n - 1, by omega⟩
  rw [Nat.add_sub_cancel] at hab hb
  rw [Nat.pow_succ] at h
  generalize 4294967296 ^ m = P at h hab hb
  have : c = 0 := by
    rcases Nat.eq_zero_or_pos c with h0 | h0
    · exact h0
    · have : P * 4294967296 * 1 ≤ P * 4294967296 * c := Nat.mul_le_mul_left _ h0
      omega
  subst this
  rw [Nat.mul_zero, Nat.add_zero] at h
  exact h
theorem sum_of {w w' : World} {g n : Nat} {a b : Nat} {e : Ending} (hn : n = (dg a).length + 1) (hle : (dg b).length ≤ (dg a).length)
    (h : Added w g 0 n (dg a ++ (List.replicate n 0).drop (dg a).length) (dg b) e w') :
    ∃ c X, e = .returned (.int .u32 ((c : Nat) : Int)) ∧ Wf X ∧ X.length = n ∧ val X = a + b ∧ Bk w' g X ∧ Upd g w w' := by
  obtain ⟨X, c, he, hx, hw, _, hv, hb, hu⟩ := h
  have hl : (dg a ++ (List.replicate n 0).drop (dg a).length).length = n := by simp; omega
  have e1 : List.take n (List.drop 0 (dg a ++ (List.replicate n 0).drop (dg a).length)) = dg a ++ (List.replicate n 0).drop (dg a).length := by
    rw [List.drop_zero, List.take_of_length_le (by omega)]
  rw [e1, val_append, List.drop_replicate, val_replicate, val_dg, val_dg, Nat.mul_zero, Nat.add_zero] at hv
  rw [splice_full (by omega)] at hb
  have h1 := lt_pow_dg a
  have h2 : b < 4294967296 ^ (dg a).length := Nat.lt_of_lt_of_le (lt_pow_dg b) (Nat.pow_le_pow_right (by omega) hle)
  subst hn
  exact ⟨c, X, he, hw, hx, sum_val h1 h2 (by omega) hv, hb, hu⟩
theorem wf_sum (a n : Nat) : Wf (dg a ++ (List.replicate n 0).drop (dg a).length) := wf_append.2 ⟨wf_dg a, (wf_replicate n).drop _⟩
set_option maxHeartbeats 2000000 in
theorem add_ok (a b c d : Nat) (A A' : Option Addr) (w : World) (ha : Rd w w.heap.size A (dg a)) (hb : Rd w w.heap.size A' (dg b)) (la : (dg a).length ≤ 1024) (lb : (dg b).length ≤ 1024) :
    Calls Tryd.prog 55 #[.slice A (dg a).length c, .slice A' (dg b).length d] w (Gives w (lim (a + b)) (limE (a + b))) := by
  have HA := Lib.hid ha
  have HB := Lib.hid hb
  clear ha hb
  have va := vldB_dg la
  have vb := vldB_dg lb
  have VA := Lib.hid va
  have VB := Lib.hid vb
  clear va vb
  by_cases hlt : (dg a).length < (dg b).length
  · go_enter Tryd.func55, Tryd.ntmps55
    go_wp2_with (first
      | (go_at_call 97; ((with_reducible refine (valid_yes c _ HA.out rfl (by omega) VA.out).mono ?_); rintro e w' ⟨rfl, rfl⟩))
      | (go_at_call 97; ((with_reducible refine (valid_yes d _ HB.out rfl (by omega) VB.out).mono ?_); rintro e w' ⟨rfl, rfl⟩))
      | (at_make; refine wpList_make_bk _ rfl _ _ 39 rfl Tryd.underlying39 _ _ _ _ ((dg b).length + 1) rfl rfl (by omega) (by omega) (by omega) ?_; intro w1 hbk1 hs1 hb1; have HB1 := Lib.hid hbk1; have HS1 := Lib.hid hs1; clear hbk1 hs1)
      | (with_reducible refine wpList_copy_bk rfl _ _ 39 40 rfl Tryd.underlying39 w.heap.size ((dg b).length + 1) ((dg b).length + 1) (List.replicate ((dg b).length + 1) 0) (dg b) A' (dg b).length d w.heap.size w.heap.size w rfl rfl HB1.out (by simp) (HB.out.below hb1) rfl (by omega) hb1 (Nat.le_refl _) ?_; intro w2 hbk2 hs2 hb2; have HB2 := Lib.hid hbk2; have HS2 := Lib.hid hs2; clear hbk2 hs2)
      | (go_at_call 98; refine (addTo_any w.heap.size 0 ((dg b).length + 1) ((dg b).length + 1) (dg a).length c A _ (dg a) _ (wf_sum b _) (wf_dg a) rfl (by omega) (by omega) (by simp) HB2.out (HA.out.below hb2)).mono ?_; intro e w3 had; obtain ⟨cr, X, rfl, hwx, hlx, hvx, hbx, hux⟩ := sum_of rfl (by omega) had; have HX := Lib.hid hbx; have HLX := Lib.hid hlx; have HVX := Lib.hid hvx; clear had hbx hlx hvx)
      | (go_at_call 99; refine (limited_any _ _ (HX.out.rd HX.out.lt) (Nat.le_refl _) hwx HLX.out (by omega) (by omega)).mono ?_; rintro e w4 ⟨v, rfl, h1, h2⟩))
    go_ret2
    rw [Nat.add_comm a b, ← HVX.out]
    exact ⟨v, rfl, h1, (hb2.trans (hux.below (Nat.le_refl _))).trans (h2.mono (by rw [hux.size]; exact hb2.size))⟩
  · go_enter Tryd.func55, Tryd.ntmps55
    go_wp2_with (first
      | (go_at_call 97; ((with_reducible refine (valid_yes c _ HA.out rfl (by omega) VA.out).mono ?_); rintro e w' ⟨rfl, rfl⟩))
      | (go_at_call 97; ((with_reducible refine (valid_yes d _ HB.out rfl (by omega) VB.out).mono ?_); rintro e w' ⟨rfl, rfl⟩))
      | (at_make; refine wpList_make_bk _ rfl _ _ 39 rfl Tryd.underlying39 _ _ _ _ ((dg a).length + 1) rfl rfl (by omega) (by omega) (by omega) ?_; intro w1 hbk1 hs1 hb1; have HB1 := Lib.hid hbk1; have HS1 := Lib.hid hs1; clear hbk1 hs1)
      | (with_reducible refine wpList_copy_bk rfl _ _ 39 40 rfl Tryd.underlying39 w.heap.size ((dg a).length + 1) ((dg a).length + 1) (List.replicate ((dg a).length + 1) 0) (dg a) A (dg a).length c w.heap.size w.heap.size w rfl rfl HB1.out (by simp) (HA.out.below hb1) rfl (by omega) hb1 (Nat.le_refl _) ?_; intro w2 hbk2 hs2 hb2; have HB2 := Lib.hid hbk2; have HS2 := Lib.hid hs2; clear hbk2 hs2)
      | (go_at_call 98; refine (addTo_any w.heap.size 0 ((dg a).length + 1) ((dg a).length + 1) (dg b).length d A' _ (dg b) _ (wf_sum a _) (wf_dg b) rfl (by omega) (by omega) (by simp) HB2.out (HB.out.below hb2)).mono ?_; intro e w3 had; obtain ⟨cr, X, rfl, hwx, hlx, hvx, hbx, hux⟩ := sum_of rfl (by omega) had; have HX := Lib.hid hbx; have HLX := Lib.hid hlx; have HVX := Lib.hid hvx; clear had hbx hlx hvx)
      | (go_at_call 99; refine (limited_any _ _ (HX.out.rd HX.out.lt) (Nat.le_refl _) hwx HLX.out (by omega) (by omega)).mono ?_; rintro e w4 ⟨v, rfl, h1, h2⟩))
    go_ret2
    rw [← HVX.out]
    exact ⟨v, rfl, h1, (hb2.trans (hux.below (Nat.le_refl _))).trans (h2.mono (by rw [hux.size]; exact hb2.size))⟩
end Go.Proofs.YtefepaackdhiiaaDoor.Nn
namespace Go.Proofs.YtefepaackdhiiaaDoor.Nn
open Go.RowKit Nt
theorem ret_i {a b : Int} (h : a = b) : Ending.returned (.int .i64 a) = .returned (.int .i64 b) := by rw [h]
def Qt (w w' : World) : Prop := ∃ n, w' = w.drewN n
theorem Qt.refl (w : World) : Qt w w := ⟨0, rfl⟩
theorem Qt.more {w w' : World} (h : Qt w w') (n : Nat) : Qt w (w'.drewN n) := by
  obtain ⟨m, rfl⟩ := h
  exact ⟨m + n, by simp⟩
theorem Qt.cell {w w' : World} (h : Qt w w') (a : Addr) : w'.cell? a = w.cell? a := by
  obtain ⟨m, rfl⟩ := h; rfl
theorem Qt.below {w w' : World} (h : Qt w w') (B : Nat) : Below B w w' := by
  obtain ⟨m, rfl⟩ := h; exact ⟨rfl, rfl, rfl, Nat.le_refl _, fun _ _ => rfl⟩
theorem Qt.size {w w' : World} (h : Qt w w') : w'.heap.size = w.heap.size := by
  obtain ⟨m, rfl⟩ := h; rfl
end Go.Proofs.YtefepaackdhiiaaDoor.Nn
namespace Go.Proofs.YtefepaackdhiiaaDoor.Nn
open Go.RowKit Nt
theorem bk_two (w : World) {X Y : Int} {x y : Nat} (hX : X = (x : Int)) (hY : Y = (y : Int)) : Bk (w.alloc (.cells #[.int .u32 X, .int .u32 Y] 75)) w.heap.size [x, y] := by
  subst hX
  subst hY
  unfold Bk
  rw [heap_alloc_new]
  rfl
theorem wf_two {x y : Nat} (hx : x < 4294967296) (hy : y < 4294967296) : Wf [x, y] := wf_cons.2 ⟨hx, wf_cons.2 ⟨hy, wf_nil⟩⟩
set_option maxHeartbeats 400000 in
theorem of_any (n h : Nat) (w : World) (hh : Hid (n / 4294967296 = h)) (hl : h < 4294967296) :
    Calls Tryd.prog 57 #[.int .u64 (n : Int)] w (Gives1 w n) := by
  have e1 : (n : Int) / 4294967296 = (h : Int) := by have := hh.out; omega
  have hv : Hid (val [n % 4294967296, h] = n) := by
    show val _ = n
    rw [val_cons, val_cons, val_nil]; have := hh.out; omega
  have hw : Hid (Wf [n % 4294967296, h]) := wf_two (by omega) hl
  go_enter Tryd.func57, Tryd.ntmps57
  go_wp2_with (first
    | (go_at_call 101; refine (canonical_gives (l := [n % 4294967296, h]) 2 2 ((bk_two w (by omega) rfl).rd (bk_two w (x := n % 4294967296) (y := h) (by omega) rfl).lt) (Nat.le_refl _) hw.out rfl (by omega) (by omega)).mono ?_; rintro e w1 ⟨v, rfl, h1, h2⟩))
  go_ret
  rw [hv.out] at h1
  exact ⟨v, rfl, h1, ((Below.refl _ _).alloc (Nat.le_refl _) _).trans (h2.mono (by simp))⟩
theorem of_64 (n : Nat) (w : World) (hn : Hid (n < 18446744073709551616)) : Calls Tryd.prog 57 #[.int .u64 (n : Int)] w (Gives1 w n) :=
  of_any n _ w rfl (by have := hn.out; omega)
end Go.Proofs.YtefepaackdhiiaaDoor.Nn
