/-
  Plain mathematics and contracts of package diagram, several texts in one: NNum, NMem, NLeaf, NInv, NAddTo, NSubFrom, NCanon, NAdd, NCmp, DOf.
-/
import Derived.Test.YtignkplogkaigaaDoorProg
import Derived.WalkKit
import Derived.WalkSpells
import Derived.WalkLawsBesides
import Derived.Handy
import Derived.Lib.Hide
import Derived.BigQuiet
import Derived.Deep.QuietTactic
import Derived.Deep.Draws
import Derived.Deep.RegionHeld3
import Derived.Deep.DrawnRows
import Derived.StillTailTactics
import Derived.Deep.RegionLaw
import Derived.Deep.LoopGhost
import Derived.Deep.OwnRows
import Derived.Laws.CopyOwn
import Derived.Deep.AppendLies
import Derived.KernelRfl

/-! Plain mathematics of limbs to the base 2^32; it imports nothing of the translation. -/
namespace Go.Proofs.YtignkplogkaigaaDoor.Nn
namespace Nt

/-- the number of a list of limbs, the least significant first -/
def val : List Nat → Nat
  | [] => 0
  | x :: xs => x + 4294967296 * val xs

/-- every limb is below the base -/
def Wf (l : List Nat) : Prop := ∀ x ∈ l, x < 4294967296

/-- the digits of a number to the base 2^32, the least significant first, with no zero at the end -/
def dg (n : Nat) : List Nat := if h : n = 0 then [] else n % 4294967296 :: dg (n / 4294967296)
termination_by n
decreasing_by exact Nat.div_lt_self (by omega) (by omega)

theorem dg_zero : dg 0 = [] := by rw [dg]; simp
theorem dg_pos {n : Nat} (h : n ≠ 0) : dg n = n % 4294967296 :: dg (n / 4294967296) := by rw [dg]; simp [h]

theorem val_nil : val [] = 0 := rfl
theorem val_cons (x : Nat) (l : List Nat) : val (x :: l) = x + 4294967296 * val l := rfl

theorem val_dg (n : Nat) : val (dg n) = n := by
  induction n using Nat.strongRecOn with
  | _ n ih =>
    by_cases h : n = 0
    · subst h; rw [dg_zero]; rfl
    · rw [dg_pos h, val_cons, ih _ (Nat.div_lt_self (by omega) (by omega))]; omega

theorem wf_nil : Wf [] := by intro x hx; cases hx
theorem wf_cons {x : Nat} {l : List Nat} : Wf (x :: l) ↔ x < 4294967296 ∧ Wf l := by
  unfold Wf; simp
theorem wf_append {l m : List Nat} : Wf (l ++ m) ↔ Wf l ∧ Wf m := by
  unfold Wf; simp only [List.mem_append]
  exact ⟨fun h => ⟨fun x hx => h x (.inl hx), fun x hx => h x (.inr hx)⟩, fun h x hx => hx.elim (h.1 x) (h.2 x)⟩
theorem Wf.take {l : List Nat} (h : Wf l) (n : Nat) : Wf (l.take n) := fun x hx => h x (List.mem_of_mem_take hx)
theorem Wf.drop {l : List Nat} (h : Wf l) (n : Nat) : Wf (l.drop n) := fun x hx => h x (List.mem_of_mem_drop hx)
theorem Wf.getD {l : List Nat} (h : Wf l) (i : Nat) : l.getD i 0 < 4294967296 := by
  rw [List.getD_eq_getElem?_getD]
  rcases Nat.lt_or_ge i l.length with hi | hi
  · rw [List.getElem?_eq_getElem hi]; exact h _ (List.getElem_mem hi)
  · rw [List.getElem?_eq_none hi]; simp
theorem wf_replicate (n : Nat) : Wf (List.replicate n 0) := by
  intro x hx; have := List.eq_of_mem_replicate hx; omega

theorem wf_dg (n : Nat) : Wf (dg n) := by
  induction n using Nat.strongRecOn with
  | _ n ih =>
    by_cases h : n = 0
    · subst h; rw [dg_zero]; exact wf_nil
    · rw [dg_pos h]; exact wf_cons.2 ⟨by omega, ih _ (Nat.div_lt_self (by omega) (by omega))⟩

theorem val_append (l m : List Nat) : val (l ++ m) = val l + 4294967296 ^ l.length * val m := by
  induction l with
  | nil => simp [val]
  | cons x l ih =>
    rw [List.cons_append, val_cons, ih, val_cons, List.length_cons, Nat.pow_succ, Nat.mul_add, Nat.mul_comm (4294967296 ^ l.length) 4294967296, Nat.mul_assoc 4294967296]
    omega

theorem val_snoc (l : List Nat) (x : Nat) : val (l ++ [x]) = val l + 4294967296 ^ l.length * x := by
  rw [val_append, val_cons, val_nil]; simp

theorem val_lt {l : List Nat} (h : Wf l) : val l < 4294967296 ^ l.length := by
  induction l with
  | nil => simp [val]
  | cons x l ih =>
    obtain ⟨hx, hl⟩ := wf_cons.1 h
    have := ih hl
    rw [val_cons, List.length_cons, Nat.pow_succ]
    omega

theorem val_replicate (n : Nat) : val (List.replicate n 0) = 0 := by
  induction n with
  | zero => rfl
  | succ n ih => rw [List.replicate_succ, val_cons, ih]

/-- no zero at the end -/
def Can (l : List Nat) : Prop := l = [] ∨ l.getLast? ≠ some 0

theorem can_nil : Can [] := .inl rfl

theorem can_cons {x y : Nat} {l : List Nat} (h : Can (x :: y :: l)) : Can (y :: l) := by
  rcases h with h | h
  · cases h
  · right; rw [List.getLast?_cons_cons] at h; exact h

theorem val_pos {l : List Nat} (hc : Can l) (hl : l ≠ []) : val l ≠ 0 := by
  induction l with
  | nil => exact absurd rfl hl
  | cons x l ih =>
    rw [val_cons]
    cases l with
    | nil =>
      rcases hc with h | h
      · cases h
      · simp at h; rw [val_nil]; omega
    | cons y l =>
      have := ih (can_cons hc) (by simp)
      omega

/-- a canonical list is the list of the digits of its number -/
theorem dg_val {l : List Nat} (hw : Wf l) (hc : Can l) : dg (val l) = l := by
  induction l with
  | nil => exact dg_zero
  | cons x l ih =>
    have hp := val_pos hc (by simp)
    obtain ⟨hx, hwl⟩ := wf_cons.1 hw
    rw [dg_pos hp]
    have e1 : val (x :: l) % 4294967296 = x := by rw [val_cons]; omega
    have e2 : val (x :: l) / 4294967296 = val l := by rw [val_cons]; omega
    rw [e1, e2]
    cases l with
    | nil => rw [val_nil, dg_zero]
    | cons y l => rw [ih hwl (can_cons hc)]

theorem dg_eq_nil {n : Nat} : dg n = [] ↔ n = 0 := by
  constructor
  · intro h; have := val_dg n; rw [h, val_nil] at this; exact this.symm
  · rintro rfl; exact dg_zero

theorem can_dg (n : Nat) : Can (dg n) := by
  induction n using Nat.strongRecOn with
  | _ n ih =>
    by_cases h : n = 0
    · subst h; exact .inl dg_zero
    · rw [dg_pos h]
      have ih := ih _ (Nat.div_lt_self (n := n) (k := 4294967296) (by omega) (by omega))
      right
      by_cases h2 : n / 4294967296 = 0
      · rw [h2, dg_zero]; simp; omega
      · rcases ih with e | e
        · exact absurd (dg_eq_nil.1 e) h2
        · rw [dg_pos h2] at e ⊢
          rw [List.getLast?_cons_cons]; exact e

theorem dg_inj {m n : Nat} (h : dg m = dg n) : m = n := by rw [← val_dg m, h, val_dg]

/-- the length of the digits, by the number's size -/
theorem dg_length_le {n k : Nat} (h : n < 4294967296 ^ k) : (dg n).length ≤ k := by
  induction k generalizing n with
  | zero => have : n = 0 := by simpa using h
            subst this; rw [dg_zero]; simp
  | succ k ih =>
    by_cases h0 : n = 0
    · subst h0; rw [dg_zero]; simp
    · rw [dg_pos h0, List.length_cons]
      have : n / 4294967296 < 4294967296 ^ k := by
        rw [Nat.pow_succ] at h
        exact Nat.div_lt_of_lt_mul (by rw [Nat.mul_comm]; exact h)
      have := ih this
      omega
theorem lt_pow_dg (n : Nat) : n < 4294967296 ^ (dg n).length := by
  have := val_lt (wf_dg n); rw [val_dg] at this; exact this
theorem pow_le_of_dg {n : Nat} (h : n ≠ 0) : 4294967296 ^ ((dg n).length - 1) ≤ n := by
  rcases Nat.lt_or_ge n (4294967296 ^ ((dg n).length - 1)) with hl | hl
  · have := dg_length_le hl
    have h2 : (dg n).length ≠ 0 := fun e => h (dg_eq_nil.1 (List.eq_nil_of_length_eq_zero e))
    omega
  · exact hl
theorem dg_length_mono {m n : Nat} (h : m ≤ n) : (dg m).length ≤ (dg n).length :=
  dg_length_le (Nat.lt_of_le_of_lt h (lt_pow_dg n))

/-- a list whose tail from n on is zero, and whose limb before n is none, is cut to its canonical list at n -/
theorem dg_cut {l : List Nat} {n : Nat} (hw : Wf l) (hn : n ≤ l.length) (hz : ∀ i, n ≤ i → i < l.length → l.getD i 0 = 0) (hl : n = 0 ∨ l.getD (n - 1) 0 ≠ 0) :
    dg (val l) = l.take n := by
  have hd : l.drop n = List.replicate (l.length - n) 0 := by
    apply List.ext_getElem
    · simp
    · intro i h1 h2
      have := hz (n + i) (by omega) (by simp at h1; omega)
      rw [List.getD_eq_getElem?_getD, List.getElem?_eq_getElem (by simp at h1; omega)] at this
      simpa using this
  have hv : val l = val (l.take n) := by
    conv => lhs; rw [← List.take_append_drop n l]
    rw [val_append, hd, val_replicate]; simp
  rw [hv]
  apply dg_val (hw.take n)
  rcases hl with h | h
  · left; subst h; rfl
  · by_cases h0 : n = 0
    · left; subst h0; rfl
    · right
      rw [List.getLast?_eq_getElem?, List.length_take, Nat.min_eq_left hn, List.getElem?_take]
      rw [if_pos (by omega)]
      rw [List.getD_eq_getElem?_getD] at h
      intro e; rw [e] at h; simp at h

theorem take_snoc {l : List Nat} {k : Nat} (h : k < l.length) : l.take (k + 1) = l.take k ++ [l.getD k 0] := by
  rw [List.take_succ_eq_append_getElem h, List.getD_eq_getElem?_getD, List.getElem?_eq_getElem h]; rfl
theorem val_take_succ {l : List Nat} {k : Nat} (h : k < l.length) : val (l.take (k + 1)) = val (l.take k) + 4294967296 ^ k * l.getD k 0 := by
  rw [take_snoc h, val_snoc, List.length_take, Nat.min_eq_left (by omega)]

/-- comparing by the highest limb that differs -/
theorem val_lt_of_top {l m : List Nat} {i : Nat} (hl : Wf l) (hlen : l.length = m.length) (hi : i < l.length) (hlt : l.getD i 0 < m.getD i 0)
    (heq : ∀ j, i < j → j < l.length → l.getD j 0 = m.getD j 0) : val l < val m := by
  have hd : l.drop (i + 1) = m.drop (i + 1) := by
    apply List.ext_getElem
    · simp [hlen]
    · intro j h1 h2
      simp at h1 h2
      have := heq (i + 1 + j) (by omega) (by omega)
      rw [List.getD_eq_getElem?_getD, List.getD_eq_getElem?_getD, List.getElem?_eq_getElem (by omega), List.getElem?_eq_getElem (by omega)] at this
      simpa using this
  have e1 : val l = val (l.take (i + 1)) + 4294967296 ^ (i + 1) * val (l.drop (i + 1)) := by
    conv => lhs; rw [← List.take_append_drop (i + 1) l]
    rw [val_append, List.length_take, Nat.min_eq_left (by omega)]
  have e2 : val m = val (m.take (i + 1)) + 4294967296 ^ (i + 1) * val (m.drop (i + 1)) := by
    conv => lhs; rw [← List.take_append_drop (i + 1) m]
    rw [val_append, List.length_take, Nat.min_eq_left (by omega)]
  rw [e1, e2, hd, val_take_succ hi, val_take_succ (by omega : i < m.length)]
  have h1 := val_lt (hl.take i)
  rw [List.length_take, Nat.min_eq_left (by omega)] at h1
  have h2 : 4294967296 ^ i * (l.getD i 0 + 1) ≤ 4294967296 ^ i * m.getD i 0 := Nat.mul_le_mul_left _ hlt
  rw [Nat.mul_add] at h2
  omega

/-- one step of an addition -/
theorem add_step {vx P c a b s m : Nat} (h : vx + P * c = a + b) :
    (vx + P * ((s + m + c) % 4294967296)) + P * 4294967296 * ((s + m + c) / 4294967296) = (a + P * s) + (b + P * m) := by
  have e : P * ((s + m + c) % 4294967296) + P * 4294967296 * ((s + m + c) / 4294967296) = P * s + P * m + P * c := by
    rw [Nat.mul_assoc, ← Nat.mul_add, Nat.mod_add_div, Nat.mul_add, Nat.mul_add]
  omega

/-- one step of a subtraction: d is the digit, b' the borrow -/
theorem sub_step {vx P c a b s m d c' : Nat} (h : vx + b = a + P * c) (hd : d + m + c = s + 4294967296 * c') :
    (vx + P * d) + (b + P * m) = (a + P * s) + P * 4294967296 * c' := by
  have e : P * d + P * m + P * c = P * s + P * 4294967296 * c' := by
    rw [Nat.mul_assoc, ← Nat.mul_add, ← Nat.mul_add, hd, Nat.mul_add]
  omega

/-- one step of a multiplication by a limb, added to a number -/
theorem mul_step {vx P c a b s m f : Nat} (h : vx + P * c = a + f * b) :
    (vx + P * ((m * f + s + c) % 4294967296)) + P * 4294967296 * ((m * f + s + c) / 4294967296) = (a + P * s) + f * (b + P * m) := by
  have e : P * ((m * f + s + c) % 4294967296) + P * 4294967296 * ((m * f + s + c) / 4294967296) = P * (m * f) + P * s + P * c := by
    rw [Nat.mul_assoc, ← Nat.mul_add, Nat.mod_add_div, Nat.mul_add, Nat.mul_add]
  have e2 : f * (b + P * m) = f * b + P * (m * f) := by
    rw [Nat.mul_add, Nat.mul_left_comm, Nat.mul_comm f m]
  omega

/-- one step of a division by a limb, from the top -/
theorem div_step {vs vq rest d s : Nat} (h : vs = vq * d + rest) :
    s + 4294967296 * vs = ((rest * 4294967296 + s) / d + 4294967296 * vq) * d + (rest * 4294967296 + s) % d := by
  have e := Nat.div_add_mod (rest * 4294967296 + s) d
  rw [h, Nat.add_mul, Nat.mul_assoc, Nat.mul_add]
  rw [Nat.mul_comm d] at e
  omega

theorem bit01 {x : Nat} (h : x < 4294967296) : x >>> 31 = 0 ∧ x < 2147483648 ∨ x >>> 31 = 1 ∧ 2147483648 ≤ x := by
  rw [Nat.shiftRight_eq_div_pow]; omega

/-- the borrow of math/bits.Sub32 -/
theorem borrow_eq {x y d c b : Nat} (hx : x < 4294967296) (hy : y < 4294967296) (hd : d < 4294967296) (hc : c ≤ 1) (hb : b ≤ 1) (h : d + y + c = x + 4294967296 * b) :
    (((4294967295 ^^^ x) &&& y) ||| ((4294967295 ^^^ (x ^^^ y)) &&& d)) / 2147483648 = b := by
  have e : ∀ n : Nat, n / 2147483648 = n >>> 31 := fun n => by rw [Nat.shiftRight_eq_div_pow]
  rw [e, Nat.shiftRight_or_distrib, Nat.shiftRight_and_distrib, Nat.shiftRight_and_distrib, Nat.shiftRight_xor_distrib, Nat.shiftRight_xor_distrib, Nat.shiftRight_xor_distrib]
  have hb' : b = 0 ∨ b = 1 := by omega
  rcases bit01 hx with ⟨e1, h1⟩ | ⟨e1, h1⟩ <;> rcases bit01 hy with ⟨e2, h2⟩ | ⟨e2, h2⟩ <;> rcases bit01 hd with ⟨e3, h3⟩ | ⟨e3, h3⟩ <;> rw [e1, e2, e3] <;> rcases hb' with rfl | rfl <;> first | decide | omega

end Nt
end Go.Proofs.YtignkplogkaigaaDoor.Nn

/-! How lists of limbs lie in memory: a slice that reads as a list (Rd), a block that is known whole (Bk). -/
namespace Go.Proofs.YtignkplogkaigaaDoor.Nn
open Go.RowKit Nt

/-- element k of a list of limbs -/
def nth (l : List Nat) (k : Nat) : Nat := l.getD k 0
theorem nth_lt {l : List Nat} (h : Wf l) (k : Nat) : nth l k < 4294967296 := h.getD k
theorem nth_nil (k : Nat) : nth [] k = 0 := by simp [nth]
theorem nth_getElem {l : List Nat} {k : Nat} (h : k < l.length) : nth l k = l[k] := by
  unfold nth; rw [List.getD_eq_getElem?_getD, List.getElem?_eq_getElem h]; rfl

/-- a limb as a value -/
def U (x : Nat) : Value := .int .u32 (x : Int)

/-- the slice's address A leads to cells that hold l, in a block below B -/
def Rd (w : World) (B : Nat) (A : Option Addr) (l : List Nat) : Prop :=
  0 < l.length → ∃ b o, A = some ⟨b, o, none⟩ ∧ b < B ∧ ∀ j, j < l.length → w.cell? ⟨b, o + j, none⟩ = some (.int .u32 ((nth l j : Nat) : Int))

/-- block g holds just the limbs L, and may be written -/
def Bk (w : World) (g : Nat) (L : List Nat) : Prop := w.heap[g]? = some (.cells (L.map U).toArray 176 (0, 0))

section
variable {w w' : World} {B B' g : Nat} {A : Option Addr} {l L : List Nat}

theorem Rd.nil : Rd w B A [] := fun h => absurd h (by simp)
theorem Rd.mono (h : Rd w B A l) (hB : B ≤ B') : Rd w B' A l := fun h0 => by
  obtain ⟨b, o, e, hb, hc⟩ := h h0
  exact ⟨b, o, e, by omega, hc⟩
theorem Rd.keep (h : Rd w B A l) (hk : ∀ k, k < B → w'.heap[k]? = w.heap[k]?) : Rd w' B A l := fun h0 => by
  obtain ⟨b, o, e, hb, hc⟩ := h h0
  exact ⟨b, o, e, hb, fun j hj => (World.cell?_of_block (w := w) (hk b hb)).trans (hc j hj)⟩
theorem Rd.below (h : Rd w B A l) (hb : Below B w w') : Rd w' B A l := h.keep hb.block
theorem Rd.take (h : Rd w B A l) (n : Nat) : Rd w B A (l.take n) := fun h0 => by
  rw [List.length_take] at h0
  obtain ⟨b, o, e, hb, hc⟩ := h (by omega)
  refine ⟨b, o, e, hb, fun j hj => ?_⟩
  rw [List.length_take] at hj
  rw [hc j (by omega)]
  unfold nth
  rw [List.getD_eq_getElem?_getD, List.getD_eq_getElem?_getD, List.getElem?_take, if_pos (by omega)]

theorem Bk.lt (h : Bk w g L) : g < w.heap.size := by
  rcases Nat.lt_or_ge g w.heap.size with hlt | hge
  · exact hlt
  · unfold Bk at h; rw [Array.getElem?_eq_none hge] at h; cases h
theorem Bk.cell (h : Bk w g L) {i : Nat} (hi : i < L.length) : w.cell? ⟨g, i, none⟩ = some (.int .u32 ((nth L i : Nat) : Int)) := by
  rw [cell_of_row w g i _ _ _ h]
  simp [nth, U, hi]
theorem Bk.frozen (h : Bk w g L) (i : Nat) : w.frozen? ⟨g, i, none⟩ = false := frozen_of_row w g i _ _ h
theorem Bk.set_ (h : Bk w g L) (i x : Nat) : Bk (w.setCell ⟨g, i, none⟩ (.int .u32 (x : Int))) g (L.set i x) := by
  have := heap_setCell_same w g i _ _ (.int .u32 (x : Int)) h
  unfold Bk
  rw [this]
  simp [U, List.map_set]
theorem Bk.keep (h : Bk w g L) (hk : w'.heap[g]? = w.heap[g]?) : Bk w' g L := hk.trans h
theorem Bk.drew (h : Bk w g L) : Bk w.drew g L := h
theorem Bk.drewN (h : Bk w g L) (n : Nat) : Bk (w.drewN n) g L := h
theorem Bk.rd (h : Bk w g L) (hB : g < B) : Rd w B (some ⟨g, 0, none⟩) L := fun _ => ⟨g, 0, rfl, hB, fun j hj => by rw [Nat.zero_add]; exact h.cell hj⟩
theorem Bk.rd_take (h : Bk w g L) (hB : g < B) (n : Nat) : Rd w B (some ⟨g, 0, none⟩) (L.take n) := (h.rd hB).take n
theorem Bk.rd_sub (h : Bk w g L) (hB : g < B) (o n : Nat) : Rd w B (some ⟨g, o, none⟩) ((L.drop o).take n) := fun h0 => ⟨g, o, rfl, hB, fun j hj => by
  rw [List.length_take, List.length_drop] at hj
  rw [h.cell (by omega)]
  unfold nth
  rw [List.getD_eq_getElem?_getD, List.getD_eq_getElem?_getD, List.getElem?_take, if_pos (by omega), List.getElem?_drop]⟩
theorem Bk.below (h : Bk w g L) (hb : Below B w w') (hg : g < B) : Bk w' g L := h.keep (hb.block g hg)
end

/-- only block g has been written; nothing else has turned, no block is new -/
structure Upd (g : Nat) (w w' : World) : Prop where
  os : w'.os = w.os
  tape : w'.tape = w.tape
  output : w'.output = w.output
  size : w'.heap.size = w.heap.size
  block : ∀ k, k ≠ g → w'.heap[k]? = w.heap[k]?

section
variable {w w' w'' : World} {g B : Nat}
theorem Upd.refl (g : Nat) (w : World) : Upd g w w := ⟨rfl, rfl, rfl, rfl, fun _ _ => rfl⟩
theorem Upd.trans (h : Upd g w w') (k : Upd g w' w'') : Upd g w w'' :=
  ⟨k.os.trans h.os, k.tape.trans h.tape, k.output.trans h.output, k.size.trans h.size, fun i hi => (k.block i hi).trans (h.block i hi)⟩
theorem Upd.undrew (h : Upd g w.drew w') : Upd g w w' := ⟨h.os, h.tape, h.output, h.size, h.block⟩
theorem Upd.drewN (h : Upd g w w') (n : Nat) : Upd g w (w'.drewN n) := ⟨h.os, h.tape, h.output, h.size, h.block⟩
theorem Upd.drew (h : Upd g w w') : Upd g w w'.drew := ⟨h.os, h.tape, h.output, h.size, h.block⟩
theorem Upd.set_ (h : Upd g w w') (i : Nat) (u : Value) : Upd g w (w'.setCell ⟨g, i, none⟩ u) :=
  h.trans ⟨rfl, rfl, rfl, by simp [World.setCell], fun k hk => Below.heap_setCell _ _ _ _ hk⟩
theorem Upd.below (h : Upd g w w') (hg : B ≤ g) : Below B w w' :=
  ⟨h.os, h.tape, h.output, by rw [h.size]; exact Nat.le_refl _, fun k hk => h.block k (by omega)⟩
theorem Upd.cell (h : Upd g w w') {a : Addr} (ha : a.block ≠ g) : w'.cell? a = w.cell? a := World.cell?_of_block (w := w) (h.block _ ha)
end

theorem Tryd.infoU : (Tryd.prog.info? 176).map (fun i => (i.zero, i.size, i.bytes)) = some (some (.int .u32 0), 1, 4) := by kernel_rfl
theorem Tryd.sizeU : (Tryd.prog.info? 176).map (·.size) = some 1 := by kernel_rfl
theorem oneCell_map (l : List Nat) : ∀ u ∈ l.map U, u.oneCell' = true := by
  intro u hu
  obtain ⟨_, _, rfl⟩ := List.mem_map.1 hu
  rfl

theorem madeCells_U (n : Nat) : madeCells #[Value.int .u32 0] n = ((List.replicate n 0).map U).toArray := by
  apply Array.ext'
  rw [toList_madeCells_one]
  simp [U]

theorem bk_made (w : World) (n : Nat) : Bk (w.alloc (.cells (madeCells #[Value.int .u32 0] n) 176)) w.heap.size (List.replicate n 0) := by
  unfold Bk
  rw [heap_alloc_new, madeCells_U]

/-- make of a list of n limbs -/
theorem wpList_make_bk (w : World) {ops : Array Oper} {rest : List Oper} {o : Oper} {a : Act} {Q : Exit → Act → World → Prop}
    (hg : o.guard = none) (l c : Operand) (t : TypeId) (hop : o.op = Op.makeSlice t l c) (ht : Tryd.prog.underlying t = some (.slice 176))
    (kl kc : IntKind) (L C : Int) (n : Nat) (hl : a.eval l = .int kl L) (hc : a.eval c = .int kc C) (hL : L = (n : Int)) (hC : C = (n : Int)) (hn : n ≤ 1000000)
    (hK : ∀ w', Bk w' w.heap.size (List.replicate n 0) → w'.heap.size = w.heap.size + 1 → Below w.heap.size w w' → wpList Tryd.prog ops Q rest (a.put o.dst (.slice (some ⟨w.heap.size, 0, none⟩) n n)) w') :
    wpList Tryd.prog ops Q (o :: rest) a w := by
  obtain ⟨i0, hi, hz0, hz1, hz2⟩ := info_parts Tryd.infoU
  subst hL
  subst hC
  refine wpList_make_row w hg l c t hop 176 i0 _ ht hi hz0 hz1 rfl kl kc n hl hc (by rw [hz2]; omega) (by omega) ?_
  exact hK _ (bk_made w n) (by simp) ((Below.refl _ _).alloc (Nat.le_refl _) _)

/-- the addresses and cells of a list that reads -/
theorem rd_copy {w : World} {B : Nat} {A : Option Addr} {l : List Nat} (h : Rd w B A l) : 0 < (l.map U).length → ∃ ad, A = some ad ∧ ∀ j v, (l.map U)[j]? = some v → w.cell? (ad.add j) = some v := by
  intro h0
  rw [List.length_map] at h0
  obtain ⟨b, o, rfl, _, hc⟩ := h h0
  refine ⟨_, rfl, fun j v hv => ?_⟩
  rw [List.getElem?_map, Option.map_eq_some_iff] at hv
  obtain ⟨x, hx, rfl⟩ := hv
  have hj : j < l.length := by
    rcases Nat.lt_or_ge j l.length with h | h
    · exact h
    · rw [List.getElem?_eq_none h] at hx; cases hx
  rw [Addr.add_lit, hc j hj]
  unfold nth U
  rw [List.getD_eq_getElem?_getD, hx]; rfl

/-- copy of a list that is not longer onto a block that is known whole -/
theorem wpList_copy_bk {w : World} {ops : Array Oper} {rest : List Oper} {o : Oper} {a : Act} {Q : Exit → Act → World → Prop} (hgd : o.guard = none) (d s : Operand) (dT sT : TypeId)
    (ho : o.op = .call { callee := .builtin .copy, args := #[d, s], argTypes := #[dT, sT] }) (hu : Tryd.prog.underlying dT = some (.slice 176))
    (g m dCap : Nat) (L l : List Nat) (A : Option Addr) (n sCap B B0 : Nat) (w0 : World) (hd : a.eval d = .slice (some ⟨g, 0, none⟩) m dCap) (hs : a.eval s = .slice A n sCap)
    (hg : Bk w g L) (hL : L.length = m) (hr : Rd w B A l) (hl : l.length = n) (hnm : n ≤ m) (hb : Below B0 w0 w) (hBg : B0 ≤ g)
    (hK : ∀ w', Bk w' g (l ++ L.drop n) → w'.heap.size = w.heap.size → Below B0 w0 w' → wpList Tryd.prog ops Q rest (a.put o.dst (goInt n)) w') :
    wpList Tryd.prog ops Q (o :: rest) a w := by
  have hgl : w.heap[g]? = some (.cells (L.map U).toArray 176 (0, 0)) := hg
  have hcl : (l.map U).length = n := by rw [List.length_map, hl]
  have hsz := Tryd.sizeU
  rcases Nat.eq_zero_or_pos n with h0 | h0
  · have e : l = [] := List.eq_nil_of_length_eq_zero (by omega)
    subst e
    subst h0
    refine wpList_copy_nothing hgd d s dT sT ho 176 hu hsz _ A m dCap 0 sCap hd hs (by simp) ?_
    exact hK w (by simpa using hg) rfl hb
  · obtain ⟨ad, hA, hcells⟩ := rd_copy hr (by omega)
    subst hA
    refine wpList_copy_own hgd d s dT sT ho 176 hu hsz g 0 m dCap ad n sCap hd hs _ _ hgl (l.map U) (by rw [hcl]; exact (Nat.min_eq_left hnm).symm) hcells (by simp; omega) (oneCell_map l) ?_
    rw [hcl]
    refine hK _ ?_ (size_setRow _ _ _) (below_setRow hb hBg _)
    unfold Bk
    rw [setRow_heap w g _ _ _ _ hgl]
    simp

end Go.Proofs.YtignkplogkaigaaDoor.Nn

/-! What the functions of math/bits and the smallest functions of package natural answer. -/
namespace Go.Proofs.YtignkplogkaigaaDoor.Nn
open Go.RowKit Nt

theorem ret_uu {a b c d : Int} (h1 : a = c) (h2 : b = d) : Ending.returned (.tuple #[.int .u32 a, .int .u32 b]) = .returned (.tuple #[.int .u32 c, .int .u32 d]) := by rw [h1, h2]

theorem sub_bits (x y d : Nat) (hx : x < 4294967296) (hy : y < 4294967296) (hd : d < 4294967296) :
    bits BinOp.or IntKind.u32 (bits BinOp.and IntKind.u32 (bits BinOp.xor IntKind.u32 IntKind.u32.max ↑x) ↑y)
      (bits BinOp.and IntKind.u32 (bits BinOp.xor IntKind.u32 IntKind.u32.max (bits BinOp.xor IntKind.u32 ↑x ↑y)) (d : Int)) =
    ((((4294967295 ^^^ x) &&& y) ||| ((4294967295 ^^^ (x ^^^ y)) &&& d) : Nat) : Int) := by
  have hm : IntKind.u32.max = ((4294967295 : Nat) : Int) := rfl
  have b1 : 4294967295 ^^^ x < 2 ^ 32 := Nat.xor_lt_two_pow (by omega) (by omega)
  have b2 : x ^^^ y < 2 ^ 32 := Nat.xor_lt_two_pow (by omega) (by omega)
  have b3 : 4294967295 ^^^ (x ^^^ y) < 2 ^ 32 := Nat.xor_lt_two_pow (by omega) b2
  have b4 : (4294967295 ^^^ x) &&& y < 2 ^ 32 := Nat.and_lt_two_pow _ (by omega)
  have b5 : (4294967295 ^^^ (x ^^^ y)) &&& d < 2 ^ 32 := Nat.and_lt_two_pow _ (by omega)
  rw [hm, u32_xor_nat _ _ (by omega) hx, u32_xor_nat _ _ hx hy, u32_xor_nat _ _ (by omega) (by omega), u32_and_nat _ _ (by omega) hy, u32_and_nat _ _ (by omega) hd, u32_or_nat _ _ (by omega) (by omega)]

/-- the digit and the borrow of a subtraction -/
def dif (x y c : Nat) : Nat := (x + 8589934592 - y - c) % 4294967296
def brw (x y c : Nat) : Nat := if x < y + c then 1 else 0
theorem dif_lt (x y c : Nat) : dif x y c < 4294967296 := by unfold dif; omega
theorem brw_le (x y c : Nat) : brw x y c ≤ 1 := by unfold brw; split <;> omega
theorem dif_brw {x y c : Nat} (hx : x < 4294967296) (hy : y < 4294967296) (hc : c ≤ 1) : dif x y c + y + c = x + 4294967296 * brw x y c := by
  unfold dif brw; split <;> omega

theorem sub_low {x y c : Nat} (hx : x < 4294967296) (hy : y < 4294967296) (hc : c ≤ 1) : (((x : Int) - ↑y) % 4294967296 - ↑c) % 4294967296 = (dif x y c : Int) := by unfold dif; omega
theorem sub_low' {x y c : Nat} (hx : x < 4294967296) (hy : y < 4294967296) (hc : c ≤ 1) : ((x : Int) - ↑y - ↑c) % 4294967296 = (dif x y c : Int) := by unfold dif; omega
theorem sub_high {x y c : Nat} (hx : x < 4294967296) (hy : y < 4294967296) (hc : c ≤ 1) :
    bits BinOp.or IntKind.u32 (bits BinOp.and IntKind.u32 (bits BinOp.xor IntKind.u32 IntKind.u32.max ↑x) ↑y)
      (bits BinOp.and IntKind.u32 (bits BinOp.xor IntKind.u32 IntKind.u32.max (bits BinOp.xor IntKind.u32 ↑x ↑y)) (((x : Int) - ↑y - ↑c) % 4294967296)) / 2147483648 = (brw x y c : Int) := by
  rw [sub_low' hx hy hc, sub_bits x y _ hx hy (dif_lt x y c)]
  have := borrow_eq hx hy (dif_lt x y c) hc (brw_le x y c) (dif_brw hx hy hc)
  omega

theorem join_or {hi lo : Nat} (hh : hi < 4294967296) (hlo : lo < 4294967296) : bits BinOp.or IntKind.u64 ((hi : Int) * 4294967296) (lo : Int) = ((hi * 4294967296 + lo : Nat) : Int) := by
  have e : (hi : Int) * 4294967296 = ((hi * 4294967296 : Nat) : Int) := by omega
  rw [e, u64_or_nat _ _ (by omega) (by omega), nat_join 32 _ _ (by omega) (by omega)]

/-- the parts of a quotient by a limb -/
def quoL (hi lo y : Nat) : Nat := (hi * 4294967296 + lo) / y
def remL (hi lo y : Nat) : Nat := (hi * 4294967296 + lo) % y
theorem quoL_lt {hi lo y : Nat} (hlo : lo < 4294967296) (hh : hi < y) : quoL hi lo y < 4294967296 := by
  unfold quoL
  apply Nat.div_lt_of_lt_mul
  have : (hi + 1) * 4294967296 ≤ y * 4294967296 := Nat.mul_le_mul_right _ hh
  omega
theorem remL_lt {hi lo y : Nat} (hh : hi < y) : remL hi lo y < y := Nat.mod_lt _ (by omega)

/-- is a list of limbs valid -/
def vldB (l : List Nat) : Bool := decide (l.length ≤ 1024) && (l.length == 0 || nth l (l.length - 1) != 0)

theorem ret_bool {a b : Bool} (h : a = b) : Ending.returned (.bool a) = .returned (.bool b) := by rw [h]

/-- where a list is cut: n limbs are left -/
structure Cut (l : List Nat) (n : Nat) : Prop where
  le : n ≤ l.length
  zero : ∀ i, n ≤ i → i < l.length → nth l i = 0
theorem Cut.all (l : List Nat) : Cut l l.length := ⟨Nat.le_refl _, fun i h1 h2 => by omega⟩
theorem Cut.step {l : List Nat} {n : Nat} (h : Cut l n) (hp : 0 < n) (hz : nth l (n - 1) = 0) : Cut l (n - 1) :=
  ⟨by have := h.le; omega, fun i h1 h2 => by
    rcases Nat.lt_or_ge i n with hi | hi
    · have e : i = n - 1 := by omega
      rw [e]; exact hz
    · exact h.zero i hi h2⟩
theorem Cut.dg {l : List Nat} {n : Nat} (h : Cut l n) (hw : Wf l) (hs : n = 0 ∨ nth l (n - 1) ≠ 0) : Nt.dg (val l) = l.take n := dg_cut hw h.le h.zero hs

theorem ret_slice {A : Option Addr} {n m c : Nat} (h : n = m) : Ending.returned (.slice A n c) = .returned (.slice A m c) := by rw [h]

/-- what is left behind a cut reads as the digits -/
theorem dg_val_take {l : List Nat} (hw : Wf l) : dg (val l) = l.take (dg (val l)).length := by
  have : ∃ n, n ≤ l.length ∧ dg (val l) = l.take n := by
    induction l with
    | nil => exact ⟨0, by simp, by rw [val_nil, dg_zero]; rfl⟩
    | cons x l ih =>
      obtain ⟨hx, hl⟩ := wf_cons.1 hw
      obtain ⟨n, hn, e⟩ := ih hl
      by_cases h0 : val (x :: l) = 0
      · exact ⟨0, by simp, by rw [h0, dg_zero]; rfl⟩
      · refine ⟨n + 1, by simp; omega, ?_⟩
        rw [dg_pos h0, List.take_succ_cons, ← e]
        have e1 : val (x :: l) % 4294967296 = x := by rw [val_cons]; omega
        have e2 : val (x :: l) / 4294967296 = val l := by rw [val_cons]; omega
        rw [e1, e2]
  obtain ⟨n, hn, e⟩ := this
  have hl : (dg (val l)).length = n := by rw [e, List.length_take]; omega
  rw [hl]; exact e
theorem Rd.dg {w : World} {B : Nat} {A : Option Addr} {l : List Nat} (h : Rd w B A l) (hw : Wf l) : Rd w B A (Nt.dg (val l)) := by
  rw [dg_val_take hw]; exact h.take _

end Go.Proofs.YtignkplogkaigaaDoor.Nn

/-! The loops' invariants, as plain mathematics: sums, differences and multiples of lists of limbs. -/
namespace Go.Proofs.YtignkplogkaigaaDoor.Nn
open Nt

theorem nth_take {l : List Nat} {k j : Nat} (h : j < k) : nth (l.take k) j = nth l j := by
  unfold nth; rw [List.getD_eq_getElem?_getD, List.getD_eq_getElem?_getD, List.getElem?_take, if_pos h]
theorem nth_drop (l : List Nat) (o j : Nat) : nth (l.drop o) j = nth l (o + j) := by
  unfold nth; rw [List.getD_eq_getElem?_getD, List.getD_eq_getElem?_getD, List.getElem?_drop]
theorem nth_sub {l : List Nat} {o n j : Nat} (h : j < n) : nth ((l.drop o).take n) j = nth l (o + j) := by rw [nth_take h, nth_drop]
theorem nth_ge {l : List Nat} {k : Nat} (h : l.length ≤ k) : nth l k = 0 := by
  unfold nth; rw [List.getD_eq_getElem?_getD, List.getElem?_eq_none h]; rfl
theorem take_step (l : List Nat) (k : Nat) : val (l.take (k + 1)) = val (l.take k) + 4294967296 ^ k * nth l k := by
  rcases Nat.lt_or_ge k l.length with h | h
  · exact val_take_succ h
  · rw [nth_ge h, List.take_of_length_le (by omega), List.take_of_length_le (by omega)]; simp

theorem splice_zero (L : List Nat) (o : Nat) : splice L o [] = L := by unfold splice; simp
theorem length_spl {L X : List Nat} {o : Nat} (h : o + X.length ≤ L.length) : (splice L o X).length = L.length := length_splice L o X h
theorem nth_spl {L X : List Nat} {o j : Nat} (h : o + X.length ≤ L.length) (hj : o + X.length ≤ j) : nth (splice L o X) j = nth L j := by
  unfold nth splice
  rw [List.getD_eq_getElem?_getD, List.getD_eq_getElem?_getD, List.getElem?_append_right (by simp; omega), List.getElem?_append_right (by simp; omega), List.getElem?_drop]
  congr 2
  simp
  omega
theorem nth_spl_in {L X : List Nat} {o j : Nat} (h : o + X.length ≤ L.length) (hj : j < X.length) : nth (splice L o X) (o + j) = nth X j := by
  unfold nth splice
  rw [List.getD_eq_getElem?_getD, List.getD_eq_getElem?_getD, List.getElem?_append_right (by simp; omega), List.getElem?_append_left (by simp; omega)]
  congr 2
  simp
  omega
theorem nth_spl_before {L X : List Nat} {o j : Nat} (h : o + X.length ≤ L.length) (hj : j < o) : nth (splice L o X) j = nth L j := by
  unfold nth splice
  rw [List.getD_eq_getElem?_getD, List.getD_eq_getElem?_getD, List.getElem?_append_left (by simp; omega), List.getElem?_take, if_pos hj]
theorem spl_set {L X : List Nat} {o : Nat} (x : Nat) (h : o + X.length < L.length) : (splice L o X).set (o + X.length) x = splice L o (X ++ [x]) := by
  unfold splice
  rw [List.set_append_right _ _ (by simp; omega)]
  have e : o + X.length - (L.take o).length = X.length := by simp; omega
  rw [e, List.set_append_right _ _ (Nat.le_refl _), Nat.sub_self]
  rw [List.drop_eq_getElem_cons h, List.set_cons_zero]
  simp [Nat.add_assoc]

/-- after k limbs of a sum -/
structure AddInv (S M : List Nat) (k : Nat) (X : List Nat) (c : Nat) : Prop where
  len : X.length = k
  wf : Wf X
  c1 : c ≤ 1
  eq : val X + 4294967296 ^ k * c = val (S.take k) + val (M.take k)
theorem AddInv.start (S M : List Nat) : AddInv S M 0 [] 0 := ⟨rfl, wf_nil, by omega, by simp [val]⟩
theorem AddInv.step {S M : List Nat} {k : Nat} {X : List Nat} {c : Nat} (h : AddInv S M k X c) (hS : Wf S) (hM : Wf M) :
    AddInv S M (k + 1) (X ++ [(nth S k + nth M k + c) % 4294967296]) ((nth S k + nth M k + c) / 4294967296) := by
  have h1 := nth_lt hS k
  have h2 := nth_lt hM k
  have h3 := h.c1
  refine ⟨by simp [h.len], wf_append.2 ⟨h.wf, wf_cons.2 ⟨by omega, wf_nil⟩⟩, by omega, ?_⟩
  rw [val_snoc, h.len, take_step, take_step, Nat.pow_succ]
  exact add_step h.eq
/-- the carry stays away: the rest of S is left as it is -/
theorem AddInv.done {S M : List Nat} {k : Nat} {X : List Nat} {c : Nat} (h : AddInv S M k X c) (hS : Wf S) (hk : k ≤ S.length) (hm : M.length ≤ k) (hc : c = 0 ∨ k = S.length) :
    (X ++ S.drop k).length = S.length ∧ Wf (X ++ S.drop k) ∧ val (X ++ S.drop k) + 4294967296 ^ S.length * c = val S + val M := by
  have e : val S = val (S.take k) + 4294967296 ^ k * val (S.drop k) := by
    conv => lhs; rw [← List.take_append_drop k S]
    rw [val_append, List.length_take, Nat.min_eq_left hk]
  have q := h.eq
  rw [List.take_of_length_le hm] at q
  refine ⟨by simp [h.len]; omega, wf_append.2 ⟨h.wf, hS.drop k⟩, ?_⟩
  rw [val_append, h.len, e]
  rcases hc with rfl | rfl
  · simp at q ⊢; omega
  · simp [val] at q ⊢; omega

/-- after k limbs of a difference -/
structure SubInv (S M : List Nat) (k : Nat) (X : List Nat) (c : Nat) : Prop where
  len : X.length = k
  wf : Wf X
  c1 : c ≤ 1
  eq : val X + val (M.take k) = val (S.take k) + 4294967296 ^ k * c
theorem SubInv.start (S M : List Nat) : SubInv S M 0 [] 0 := ⟨rfl, wf_nil, by omega, by simp [val]⟩
theorem SubInv.step {S M : List Nat} {k : Nat} {X : List Nat} {c : Nat} (h : SubInv S M k X c) (hS : Wf S) (hM : Wf M) :
    SubInv S M (k + 1) (X ++ [dif (nth S k) (nth M k) c]) (brw (nth S k) (nth M k) c) := by
  have h1 := nth_lt hS k
  have h2 := nth_lt hM k
  have h3 := h.c1
  refine ⟨by simp [h.len], wf_append.2 ⟨h.wf, wf_cons.2 ⟨dif_lt _ _ _, wf_nil⟩⟩, brw_le _ _ _, ?_⟩
  rw [val_snoc, h.len, take_step, take_step, Nat.pow_succ]
  exact sub_step h.eq (dif_brw h1 h2 h3)
theorem SubInv.done {S M : List Nat} {k : Nat} {X : List Nat} {c : Nat} (h : SubInv S M k X c) (hS : Wf S) (hk : k ≤ S.length) (hm : M.length ≤ k) (hc : c = 0 ∨ k = S.length) :
    (X ++ S.drop k).length = S.length ∧ Wf (X ++ S.drop k) ∧ val (X ++ S.drop k) + val M = val S + 4294967296 ^ S.length * c := by
  have e : val S = val (S.take k) + 4294967296 ^ k * val (S.drop k) := by
    conv => lhs; rw [← List.take_append_drop k S]
    rw [val_append, List.length_take, Nat.min_eq_left hk]
  have q := h.eq
  rw [List.take_of_length_le hm] at q
  refine ⟨by simp [h.len]; omega, wf_append.2 ⟨h.wf, hS.drop k⟩, ?_⟩
  rw [val_append, h.len, e]
  rcases hc with rfl | rfl
  · simp at q ⊢; omega
  · simp [val] at q ⊢; omega

/-- after k limbs of a multiple that is added -/
structure MulInv (S M : List Nat) (f k : Nat) (X : List Nat) (c : Nat) : Prop where
  len : X.length = k
  wf : Wf X
  c1 : c ≤ 4294967295
  eq : val X + 4294967296 ^ k * c = val (S.take k) + f * val (M.take k)
theorem MulInv.start (S M : List Nat) (f : Nat) : MulInv S M f 0 [] 0 := ⟨rfl, wf_nil, by omega, by simp [val]⟩
theorem mul_bound {x f : Nat} (hx : x < 4294967296) (hf : f < 4294967296) : x * f ≤ 18446744065119617025 :=
  Nat.le_trans (Nat.mul_le_mul (show x ≤ 4294967295 by omega) (show f ≤ 4294967295 by omega)) (by omega)
theorem MulInv.step {S M : List Nat} {f k : Nat} {X : List Nat} {c : Nat} (h : MulInv S M f k X c) (hS : Wf S) (hM : Wf M) (hf : f < 4294967296) :
    MulInv S M f (k + 1) (X ++ [(nth M k * f + nth S k + c) % 4294967296]) ((nth M k * f + nth S k + c) / 4294967296) := by
  have h1 := nth_lt hS k
  have h2 := nth_lt hM k
  have h3 := h.c1
  have h4 := mul_bound h2 hf
  refine ⟨by simp [h.len], wf_append.2 ⟨h.wf, wf_cons.2 ⟨by omega, wf_nil⟩⟩, by omega, ?_⟩
  rw [val_snoc, h.len, take_step, take_step, Nat.pow_succ]
  exact mul_step h.eq

end Go.Proofs.YtignkplogkaigaaDoor.Nn

/-! natural.addTo: a number is added to a part of a block. -/
namespace Go.Proofs.YtignkplogkaigaaDoor.Nn
open Go.RowKit Nt

theorem ret_u {a b : Int} (h : a = b) : Ending.returned (.int .u32 a) = .returned (.int .u32 b) := by rw [h]

/-- what addTo leaves: block g's part from o on holds X, the carry is c -/
def Added (w : World) (g o n : Nat) (L M : List Nat) (e : Ending) (w' : World) : Prop :=
  ∃ X c, e = .returned (.int .u32 ((c : Nat) : Int)) ∧ X.length = n ∧ Wf X ∧ c ≤ 1 ∧ val X + 4294967296 ^ n * c = val ((L.drop o).take n) + val M ∧ Bk w' g (splice L o X) ∧ Upd g w w'

/-- k limbs are done -/
def AddSt (w wr : World) (g o n : Nat) (L M : List Nat) (k c : Nat) : Prop :=
  ∃ X, AddInv ((L.drop o).take n) M k X c ∧ Bk wr g (splice L o X) ∧ Upd g w wr

section
variable {w wr : World} {g o n k q : Nat} {L M : List Nat}
theorem AddSt.start (h : Bk w g L) : AddSt w w g o n L M 0 0 := ⟨[], AddInv.start _ _, by rw [splice_zero]; exact h, Upd.refl _ _⟩
theorem AddSt.cell (h : AddSt w wr g o n L M k q) (hon : o + n ≤ L.length) (hk : k < n) : wr.cell? ⟨g, o + k, none⟩ = some (.int .u32 ((nth L (o + k) : Nat) : Int)) := by
  obtain ⟨X, hi, hb, _⟩ := h
  have hl := hi.len
  rw [hb.cell (by rw [length_spl (by omega)]; omega), nth_spl (by omega) (by omega)]
theorem AddSt.frozen (h : AddSt w wr g o n L M k q) (i : Nat) : wr.frozen? ⟨g, i, none⟩ = false := by
  obtain ⟨X, _, hb, _⟩ := h
  exact hb.frozen i
theorem AddSt.far (h : AddSt w wr g o n L M k q) {a : Addr} (ha : a.block ≠ g) : wr.cell? a = w.cell? a := by
  obtain ⟨X, _, _, hu⟩ := h
  exact hu.cell ha
theorem AddSt.step (h : AddSt w wr g o n L M k q) (hL : Wf L) (hM : Wf M) (hon : o + n ≤ L.length) (hk : k < n) (d : Nat) :
    AddSt w ((wr.setCell ⟨g, o + k, none⟩ (.int .u32 (((nth L (o + k) : Int) + (nth M k : Int) + (q : Int)) % 4294967296))).drewN d) g o n L M (k + 1) ((nth L (o + k) + nth M k + q) / 4294967296) := by
  obtain ⟨X, hi, hb, hu⟩ := h
  have hl := hi.len
  have e : ((nth L (o + k) : Int) + (nth M k : Int) + (q : Int)) % 4294967296 = (((nth L (o + k) + nth M k + q) % 4294967296 : Nat) : Int) := by omega
  have hs := hi.step ((hL.drop o).take n) hM
  rw [nth_sub hk] at hs
  refine ⟨_, hs, ?_, (hu.set_ _ _).drewN d⟩
  rw [e]
  have := hb.set_ (o + k) ((nth L (o + k) + nth M k + q) % 4294967296)
  rw [← hl, spl_set _ (by omega), hl] at this
  exact this.drewN d
theorem AddSt.step0 (h : AddSt w wr g o n L M k q) (hL : Wf L) (hM : Wf M) (hon : o + n ≤ L.length) (hk : k < n) (hm : M.length ≤ k) :
    AddSt w (wr.setCell ⟨g, o + k, none⟩ (.int .u32 (((nth L (o + k) : Int) + (q : Int)) % 4294967296))) g o n L M (k + 1) ((nth L (o + k) + q) / 4294967296) := by
  have := h.step hL hM hon hk 0
  rw [nth_ge hm] at this
  exact this
theorem AddSt.done (h : AddSt w wr g o n L M k q) (hL : Wf L) (hon : o + n ≤ L.length) (hk : k ≤ n) (hm : M.length ≤ k) (hq : q = 0 ∨ k = n) :
    Added w g o n L M (.returned (.int .u32 ((q : Nat) : Int))) wr := by
  obtain ⟨X, hi, hb, hu⟩ := h
  have hn : ((L.drop o).take n).length = n := by simp; omega
  obtain ⟨e1, e2, e3⟩ := hi.done ((hL.drop o).take n) (by rw [hn]; exact hk) hm (by rw [hn]; exact hq)
  rw [hn] at e1 e3
  refine ⟨_, q, rfl, e1, e2, hi.c1, e3, ?_, hu⟩
  have e : splice L o (X ++ ((L.drop o).take n).drop k) = splice L o X := by
    have hl := hi.len
    unfold splice
    congr 1
    rw [List.append_assoc]
    congr 1
    apply List.ext_getElem?
    intro i
    rw [List.getElem?_append]
    simp only [List.length_drop, List.length_take, List.length_append, List.getElem?_drop, List.getElem?_take]
    split
    · rw [if_pos (by omega)]; congr 1; omega
    · congr 1; omega
  rw [e]; exact hb
end

end Go.Proofs.YtignkplogkaigaaDoor.Nn

/-! natural.subtractFrom: a number is subtracted from a part of a block. -/
namespace Go.Proofs.YtignkplogkaigaaDoor.Nn
open Go.RowKit Nt

/-- what subtractFrom leaves: block g's part from o on holds X, the carry is c -/
def Subbed (w : World) (g o n : Nat) (L M : List Nat) (e : Ending) (w' : World) : Prop :=
  ∃ X c, e = .returned (.tuple #[]) ∧ X.length = n ∧ Wf X ∧ c ≤ 1 ∧ val X + val M = val ((L.drop o).take n) + 4294967296 ^ n * c ∧ Bk w' g (splice L o X) ∧ Upd g w w'

/-- k limbs are done -/
def SubSt (w wr : World) (g o n : Nat) (L M : List Nat) (k c : Nat) : Prop :=
  ∃ X, SubInv ((L.drop o).take n) M k X c ∧ Bk wr g (splice L o X) ∧ Upd g w wr

section
variable {w wr : World} {g o n k q : Nat} {L M : List Nat}
theorem SubSt.start (h : Bk w g L) : SubSt w w g o n L M 0 0 := ⟨[], SubInv.start _ _, by rw [splice_zero]; exact h, Upd.refl _ _⟩
theorem SubSt.cell (h : SubSt w wr g o n L M k q) (hon : o + n ≤ L.length) (hk : k < n) : wr.cell? ⟨g, o + k, none⟩ = some (.int .u32 ((nth L (o + k) : Nat) : Int)) := by
  obtain ⟨X, hi, hb, _⟩ := h
  have hl := hi.len
  rw [hb.cell (by rw [length_spl (by omega)]; omega), nth_spl (by omega) (by omega)]
theorem SubSt.frozen (h : SubSt w wr g o n L M k q) (i : Nat) : wr.frozen? ⟨g, i, none⟩ = false := by
  obtain ⟨X, _, hb, _⟩ := h
  exact hb.frozen i
theorem SubSt.far (h : SubSt w wr g o n L M k q) {a : Addr} (ha : a.block ≠ g) : wr.cell? a = w.cell? a := by
  obtain ⟨X, _, _, hu⟩ := h
  exact hu.cell ha
theorem SubSt.step (h : SubSt w wr g o n L M k q) (hL : Wf L) (hM : Wf M) (hon : o + n ≤ L.length) (hk : k < n) (d : Nat) :
    SubSt w ((wr.setCell ⟨g, o + k, none⟩ (.int .u32 ((dif (nth L (o + k)) (nth M k) q : Nat) : Int))).drewN d) g o n L M (k + 1) (brw (nth L (o + k)) (nth M k) q) := by
  obtain ⟨X, hi, hb, hu⟩ := h
  have hl := hi.len
  have hs := hi.step ((hL.drop o).take n) hM
  rw [nth_sub hk] at hs
  refine ⟨_, hs, ?_, (hu.set_ _ _).drewN d⟩
  have := hb.set_ (o + k) (dif (nth L (o + k)) (nth M k) q)
  rw [← hl, spl_set _ (by omega), hl] at this
  exact this.drewN d
theorem SubSt.step0 (h : SubSt w wr g o n L M k q) (hL : Wf L) (hM : Wf M) (hon : o + n ≤ L.length) (hk : k < n) (hm : M.length ≤ k) :
    SubSt w (wr.setCell ⟨g, o + k, none⟩ (.int .u32 ((dif (nth L (o + k)) 0 q : Nat) : Int))) g o n L M (k + 1) (brw (nth L (o + k)) 0 q) := by
  have := h.step hL hM hon hk 0
  rw [nth_ge hm] at this
  exact this
theorem SubSt.done (h : SubSt w wr g o n L M k q) (hL : Wf L) (hon : o + n ≤ L.length) (hk : k ≤ n) (hm : M.length ≤ k) (hq : q = 0 ∨ k = n) :
    Subbed w g o n L M (.returned (.tuple #[])) wr := by
  obtain ⟨X, hi, hb, hu⟩ := h
  have hn : ((L.drop o).take n).length = n := by simp; omega
  obtain ⟨e1, e2, e3⟩ := hi.done ((hL.drop o).take n) (by rw [hn]; exact hk) hm (by rw [hn]; exact hq)
  rw [hn] at e1 e3
  refine ⟨_, q, rfl, e1, e2, hi.c1, e3, ?_, hu⟩
  have e : splice L o (X ++ ((L.drop o).take n).drop k) = splice L o X := by
    have hl := hi.len
    unfold splice
    congr 1
    rw [List.append_assoc]
    congr 1
    apply List.ext_getElem?
    intro i
    rw [List.getElem?_append]
    simp only [List.length_drop, List.length_take, List.length_append, List.getElem?_drop, List.getElem?_take]
    split
    · rw [if_pos (by omega)]; congr 1; omega
    · congr 1; omega
  rw [e]; exact hb
end

end Go.Proofs.YtignkplogkaigaaDoor.Nn

/-! natural.canonical, natural.limited, natural.Add: numbers in new memory. -/
namespace Go.Proofs.YtignkplogkaigaaDoor.Nn
open Go.RowKit Nt

/-- the value v reads as the digits of N -/
def Num (w : World) (v : Value) (N : Nat) : Prop := ∃ A c, v = .slice A (dg N).length c ∧ (dg N).length ≤ c ∧ Rd w w.heap.size A (dg N)

theorem Num.below {w w' : World} {v : Value} {N : Nat} (h : Num w v N) (hb : Below w.heap.size w w') : Num w' v N := by
  obtain ⟨A, c, rfl, hc, hr⟩ := h
  exact ⟨A, c, rfl, hc, (hr.below hb).mono hb.size⟩
theorem Num.nil (w : World) : Num w (.slice none 0 0) 0 := ⟨none, 0, by rw [dg_zero]; rfl, by rw [dg_zero]; simp, by rw [dg_zero]; exact Rd.nil⟩
theorem Num.bk {w : World} {g N : Nat} (h : Bk w g (dg N)) : Num w (.slice (some ⟨g, 0, none⟩) (dg N).length (dg N).length) N :=
  ⟨_, _, rfl, Nat.le_refl _, h.rd h.lt⟩

/-- what a function leaves that gives a number -/
def Gives1 (w : World) (N : Nat) (e : Ending) (w' : World) : Prop := ∃ v, e = .returned v ∧ Num w' v N ∧ Below w.heap.size w w'
/-- a number and an error -/
def Gives (w : World) (N : Nat) (err : Int) (e : Ending) (w' : World) : Prop := ∃ v, e = .returned (.tuple #[v, .int .i64 err]) ∧ Num w' v N ∧ Below w.heap.size w w'

/-- a number within the limit; the error -/
def lim (N : Nat) : Nat := if (dg N).length ≤ 1024 then N else 0
def limE (N : Nat) : Int := if (dg N).length ≤ 1024 then 0 else 2
theorem lim_of {N : Nat} (h : (dg N).length ≤ 1024) : lim N = N := if_pos h
theorem limE_of {N : Nat} (h : (dg N).length ≤ 1024) : limE N = 0 := if_pos h
theorem lim_not {N : Nat} (h : ¬ (dg N).length ≤ 1024) : lim N = 0 := if_neg h
theorem limE_not {N : Nat} (h : ¬ (dg N).length ≤ 1024) : limE N = 2 := if_neg h

theorem vldB_dg {N : Nat} (h : (dg N).length ≤ 1024) : vldB (dg N) = true := by
  unfold vldB
  rw [decide_eq_true h, Bool.true_and]
  rcases can_dg N with e | e
  · rw [e]; rfl
  · by_cases h0 : (dg N).length = 0
    · simp [h0]
    · rw [Bool.or_eq_true]
      right
      rw [List.getLast?_eq_getElem?, List.getElem?_eq_getElem (by omega)] at e
      rw [nth_getElem (by omega)]
      simpa using e

theorem vldB_iff {l : List Nat} (hw : Wf l) : vldB l = true ↔ l = dg (val l) ∧ (dg (val l)).length ≤ 1024 := by
  constructor
  · intro h
    unfold vldB at h
    rw [Bool.and_eq_true, decide_eq_true_eq, Bool.or_eq_true] at h
    have hc : Nt.Can l := by
      rcases h.2 with h2 | h2
      · exact .inl (List.eq_nil_of_length_eq_zero (by simpa using h2))
      · right
        by_cases h0 : l.length = 0
        · rw [List.eq_nil_of_length_eq_zero h0]; simp
        · rw [List.getLast?_eq_getElem?, List.getElem?_eq_getElem (by omega)]
          rw [nth_getElem (by omega)] at h2
          simpa using h2
    have e := dg_val hw hc
    exact ⟨e.symm, by rw [e]; exact h.1⟩
  · rintro ⟨e, h⟩
    rw [e]; exact vldB_dg h

end Go.Proofs.YtignkplogkaigaaDoor.Nn

/-! natural.Add: the sum of two numbers. -/
namespace Go.Proofs.YtignkplogkaigaaDoor.Nn
open Go.RowKit Nt

theorem splice_full {L X : List Nat} (h : X.length = L.length) : splice L 0 X = X := by unfold splice; simp [h]

/-- the sum's limbs have the sum's value -/
theorem sum_val {a b n c : Nat} {X : List Nat} (hab : a < 4294967296 ^ (n - 1)) (hb : b < 4294967296 ^ (n - 1)) (hn : 0 < n)
    (h : val X + 4294967296 ^ n * c = a + b) : val X = a + b := by
  obtain ⟨m, rfl⟩ : ∃ m, n = m + 1 := ⟨n - 1, by omega⟩
  rw [Nat.add_sub_cancel] at hab hb
  rw [Nat.pow_succ] at h
  generalize 4294967296 ^ m = P at h hab hb
  have : c = 0 := by
    rcases Nat.eq_zero_or_pos c with h0 | h0
    · exact h0
    · have : P * 4294967296 * 1 ≤ P * 4294967296 * c := Nat.mul_le_mul_left _ h0
      omega
  subst this
  rw [Nat.mul_zero, Nat.add_zero] at h
  exact h

theorem sum_of {w w' : World} {g n : Nat} {a b : Nat} {e : Ending} (hn : n = (dg a).length + 1) (hle : (dg b).length ≤ (dg a).length)
    (h : Added w g 0 n (dg a ++ (List.replicate n 0).drop (dg a).length) (dg b) e w') :
    ∃ c X, e = .returned (.int .u32 ((c : Nat) : Int)) ∧ Wf X ∧ X.length = n ∧ val X = a + b ∧ Bk w' g X ∧ Upd g w w' := by
  obtain ⟨X, c, he, hx, hw, _, hv, hb, hu⟩ := h
  have hl : (dg a ++ (List.replicate n 0).drop (dg a).length).length = n := by simp; omega
  have e1 : List.take n (List.drop 0 (dg a ++ (List.replicate n 0).drop (dg a).length)) = dg a ++ (List.replicate n 0).drop (dg a).length := by
    rw [List.drop_zero, List.take_of_length_le (by omega)]
  rw [e1, val_append, List.drop_replicate, val_replicate, val_dg, val_dg, Nat.mul_zero, Nat.add_zero] at hv
  rw [splice_full (by omega)] at hb
  have h1 := lt_pow_dg a
  have h2 : b < 4294967296 ^ (dg a).length := Nat.lt_of_lt_of_le (lt_pow_dg b) (Nat.pow_le_pow_right (by omega) hle)
  subst hn
  exact ⟨c, X, he, hw, hx, sum_val h1 h2 (by omega) hv, hb, hu⟩

theorem wf_sum (a n : Nat) : Wf (dg a ++ (List.replicate n 0).drop (dg a).length) := wf_append.2 ⟨wf_dg a, (wf_replicate n).drop _⟩

end Go.Proofs.YtignkplogkaigaaDoor.Nn

/-! natural.Compare, natural.Sub: the order of numbers, and their difference. -/
namespace Go.Proofs.YtignkplogkaigaaDoor.Nn
open Go.RowKit Nt

/-- -1, 0 or 1 -/
def cmpN (a b : Nat) : Int := if a < b then -1 else if b < a then 1 else 0
theorem cmpN_lt {a b : Nat} (h : a < b) : cmpN a b = -1 := if_pos h
theorem cmpN_gt {a b : Nat} (h : b < a) : cmpN a b = 1 := by unfold cmpN; rw [if_neg (by omega), if_pos h]
theorem cmpN_eq (a : Nat) : cmpN a a = 0 := by unfold cmpN; rw [if_neg (by omega), if_neg (by omega)]
theorem ret_i {a b : Int} (h : a = b) : Ending.returned (.int .i64 a) = .returned (.int .i64 b) := by rw [h]

/-- only draws lie between two worlds -/
def Qt (w w' : World) : Prop := ∃ n, w' = w.drewN n
theorem Qt.refl (w : World) : Qt w w := ⟨0, rfl⟩
theorem Qt.more {w w' : World} (h : Qt w w') (n : Nat) : Qt w (w'.drewN n) := by
  obtain ⟨m, rfl⟩ := h
  exact ⟨m + n, by simp⟩
theorem Qt.cell {w w' : World} (h : Qt w w') (a : Addr) : w'.cell? a = w.cell? a := by
  obtain ⟨m, rfl⟩ := h; rfl
theorem Qt.below {w w' : World} (h : Qt w w') (B : Nat) : Below B w w' := by
  obtain ⟨m, rfl⟩ := h; exact ⟨rfl, rfl, rfl, Nat.le_refl _, fun _ _ => rfl⟩
theorem Qt.size {w w' : World} (h : Qt w w') : w'.heap.size = w.heap.size := by
  obtain ⟨m, rfl⟩ := h; rfl

/-- the limbs above k are equal -/
def Eqa (l m : List Nat) (k : Nat) : Prop := ∀ j, k ≤ j → j < l.length → nth l j = nth m j

theorem cmp_top {a b k : Nat} (hl : (dg a).length = (dg b).length) (hk : k < (dg a).length) (he : Eqa (dg a) (dg b) (k + 1)) (hne : nth (dg a) k ≠ nth (dg b) k) :
    cmpN (nth (dg a) k) (nth (dg b) k) = cmpN a b := by
  rcases Nat.lt_or_ge (nth (dg a) k) (nth (dg b) k) with h | h
  · have := val_lt_of_top (wf_dg a) hl hk h (fun j h1 h2 => he j h1 h2)
    rw [val_dg, val_dg] at this
    rw [cmpN_lt h, cmpN_lt this]
  · have h' : nth (dg b) k < nth (dg a) k := by omega
    have := val_lt_of_top (wf_dg b) hl.symm (by omega) h' (fun j h1 h2 => (he j h1 (by omega)).symm)
    rw [val_dg, val_dg] at this
    rw [cmpN_gt h', cmpN_gt this]
theorem cmp_all {a b : Nat} (hl : (dg a).length = (dg b).length) (he : Eqa (dg a) (dg b) 0) : a = b := by
  apply dg_inj
  apply List.ext_getElem hl
  intro i h1 h2
  have := he i (Nat.zero_le _) h1
  rwa [nth_getElem h1, nth_getElem h2] at this
theorem cmp_len {a b : Nat} (h : (dg a).length ≠ (dg b).length) : cmpN (dg a).length (dg b).length = cmpN a b := by
  rcases Nat.lt_or_ge (dg a).length (dg b).length with h1 | h1
  · have : a < b := by
      rcases Nat.lt_or_ge a b with h2 | h2
      · exact h2
      · have := dg_length_mono h2; omega
    rw [cmpN_lt h1, cmpN_lt this]
  · have h1' : (dg b).length < (dg a).length := by omega
    have : b < a := by
      rcases Nat.lt_or_ge b a with h2 | h2
      · exact h2
      · have := dg_length_mono h2; omega
    rw [cmpN_gt h1', cmpN_gt this]

/-- the error of a difference -/
def subE (a b : Nat) : Int := if a < b then 10 else 0
theorem subE_lt {a b : Nat} (h : a < b) : subE a b = 10 := if_pos h
theorem subE_ge {a b : Nat} (h : b ≤ a) : subE a b = 0 := if_neg (by omega)

theorem sub_val {a b n c : Nat} {X : List Nat} (hw : Wf X) (hx : X.length = n) (hab : b ≤ a) (h : val X + b = a + 4294967296 ^ n * c) : val X = a - b := by
  have hv := val_lt hw
  rw [hx] at hv
  generalize 4294967296 ^ n = P at h hv
  have : c = 0 := by
    rcases Nat.eq_zero_or_pos c with h0 | h0
    · exact h0
    · have : P * 1 ≤ P * c := Nat.mul_le_mul_left _ h0
      omega
  subst this
  rw [Nat.mul_zero] at h
  omega

theorem diff_of {w w' : World} {g a b : Nat} {e : Ending} (hab : b ≤ a) (h : Subbed w g 0 (dg a).length (dg a) (dg b) e w') :
    ∃ X, e = .returned (.tuple #[]) ∧ Wf X ∧ X.length = (dg a).length ∧ val X = a - b ∧ Bk w' g X ∧ Upd g w w' := by
  obtain ⟨X, c, he, hx, hw, _, hv, hb, hu⟩ := h
  rw [List.drop_zero, List.take_of_length_le (Nat.le_refl _), val_dg, val_dg] at hv
  rw [splice_full hx] at hb
  exact ⟨X, he, hw, hx, sub_val hw hx hab hv, hb, hu⟩

end Go.Proofs.YtignkplogkaigaaDoor.Nn

/-! natural.Of, in the namespace of natural's texts. -/
namespace Go.Proofs.YtignkplogkaigaaDoor.Nn
open Go.RowKit Nt

theorem bk_two (w : World) {X Y : Int} {x y : Nat} (hX : X = (x : Int)) (hY : Y = (y : Int)) : Bk (w.alloc (.cells #[.int .u32 X, .int .u32 Y] 176)) w.heap.size [x, y] := by
  subst hX
  subst hY
  unfold Bk
  rw [heap_alloc_new]
  rfl
theorem bk_one (w : World) {X : Int} {x : Nat} (hX : X = (x : Int)) : Bk (w.alloc (.cells #[.int .u32 X] 176)) w.heap.size [x] := by
  subst hX
  unfold Bk
  rw [heap_alloc_new]
  rfl

theorem wf_two {x y : Nat} (hx : x < 4294967296) (hy : y < 4294967296) : Wf [x, y] := wf_cons.2 ⟨hx, wf_cons.2 ⟨hy, wf_nil⟩⟩

end Go.Proofs.YtignkplogkaigaaDoor.Nn
