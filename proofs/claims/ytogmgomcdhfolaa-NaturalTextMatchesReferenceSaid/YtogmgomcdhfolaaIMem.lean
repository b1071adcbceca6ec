/-
  Lists of int in memory, in the words that Mem has for lists of limbs.
-/
import Derived.Test.YtogmgomcdhfolaaRefBad
namespace Go.Proofs.Ytogmgomcdhfolaa.II
open Go.RowKit Nt

/-- a limb as a value -/
def U (x : Nat) : Value := .int .i64 (x : Int)

/-- the slice's address A leads to cells that hold l, in a block below B -/
def Rd (w : World) (B : Nat) (A : Option Addr) (l : List Nat) : Prop :=
  0 < l.length → ∃ b o, A = some ⟨b, o, none⟩ ∧ b < B ∧ ∀ j, j < l.length → w.cell? ⟨b, o + j, none⟩ = some (.int .i64 ((nth l j : Nat) : Int))

/-- block g holds just the limbs L, and may be written -/
def Bk (w : World) (g : Nat) (L : List Nat) : Prop := w.heap[g]? = some (.cells (L.map U).toArray 3 (0, 0))

section
variable {w w' : World} {B B' g : Nat} {A : Option Addr} {l L : List Nat}

theorem Rd.nil : Rd w B A [] := fun h => absurd h (by simp)
theorem Rd.mono (h : Rd w B A l) (hB : B ≤ B') : Rd w B' A l := fun h0 => by
  obtain ⟨b, o, e, hb, hc⟩ := h h0
  exact ⟨b, o, e, by omega, hc⟩
theorem Rd.keep (h : Rd w B A l) (hk : ∀ k, k < B → w'.heap[k]? = w.heap[k]?) : Rd w' B A l := fun h0 => by
  obtain ⟨b, o, e, hb, hc⟩ := h h0
  exact ⟨b, o, e, hb, fun j hj => (World.cell?_of_block (w := w) (hk b hb)).trans (hc j hj)⟩
theorem Rd.below (h : Rd w B A l) (hb : Below B w w') : Rd w' B A l := h.keep hb.block
theorem Rd.take (h : Rd w B A l) (n : Nat) : Rd w B A (l.take n) := fun h0 => by
  rw [List.length_take] at h0
  obtain ⟨b, o, e, hb, hc⟩ := h (by omega)
  refine ⟨b, o, e, hb, fun j hj => ?_⟩
  rw [List.length_take] at hj
  rw [hc j (by omega)]
  unfold nth
  rw [List.getD_eq_getElem?_getD, List.getD_eq_getElem?_getD, List.getElem?_take, if_pos (by omega)]

theorem Bk.lt (h : Bk w g L) : g < w.heap.size := by
  rcases Nat.lt_or_ge g w.heap.size with hlt | hge
  · exact hlt
  · unfold Bk at h; rw [Array.getElem?_eq_none hge] at h; cases h
theorem Bk.cell (h : Bk w g L) {i : Nat} (hi : i < L.length) : w.cell? ⟨g, i, none⟩ = some (.int .i64 ((nth L i : Nat) : Int)) := by
  rw [cell_of_row w g i _ _ _ h]
  simp [nth, U, hi]
theorem Bk.frozen (h : Bk w g L) (i : Nat) : w.frozen? ⟨g, i, none⟩ = false := frozen_of_row w g i _ _ h
theorem Bk.set_ (h : Bk w g L) (i x : Nat) : Bk (w.setCell ⟨g, i, none⟩ (.int .i64 (x : Int))) g (L.set i x) := by
  have := heap_setCell_same w g i _ _ (.int .i64 (x : Int)) h
  unfold Bk
  rw [this]
  simp [U, List.map_set]
theorem Bk.keep (h : Bk w g L) (hk : w'.heap[g]? = w.heap[g]?) : Bk w' g L := hk.trans h
theorem Bk.drew (h : Bk w g L) : Bk w.drew g L := h
theorem Bk.drewN (h : Bk w g L) (n : Nat) : Bk (w.drewN n) g L := h
theorem Bk.rd (h : Bk w g L) (hB : g < B) : Rd w B (some ⟨g, 0, none⟩) L := fun _ => ⟨g, 0, rfl, hB, fun j hj => by rw [Nat.zero_add]; exact h.cell hj⟩
theorem Bk.rd_take (h : Bk w g L) (hB : g < B) (n : Nat) : Rd w B (some ⟨g, 0, none⟩) (L.take n) := (h.rd hB).take n
theorem Bk.rd_sub (h : Bk w g L) (hB : g < B) (o n : Nat) : Rd w B (some ⟨g, o, none⟩) ((L.drop o).take n) := fun h0 => ⟨g, o, rfl, hB, fun j hj => by
  rw [List.length_take, List.length_drop] at hj
  rw [h.cell (by omega)]
  unfold nth
  rw [List.getD_eq_getElem?_getD, List.getD_eq_getElem?_getD, List.getElem?_take, if_pos (by omega), List.getElem?_drop]⟩
theorem Bk.below (h : Bk w g L) (hb : Below B w w') (hg : g < B) : Bk w' g L := h.keep (hb.block g hg)
end

theorem Try.infoU : (Try.prog.info? 3).map (fun i => (i.zero, i.size, i.bytes)) = some (some (.int .i64 0), 1, 8) := by kernel_rfl
theorem Try.sizeU : (Try.prog.info? 3).map (·.size) = some 1 := by kernel_rfl
theorem oneCell_map (l : List Nat) : ∀ u ∈ l.map U, u.oneCell' = true := by
  intro u hu
  obtain ⟨_, _, rfl⟩ := List.mem_map.1 hu
  rfl

theorem madeCells_U (n : Nat) : madeCells #[Value.int .i64 0] n = ((List.replicate n 0).map U).toArray := by
  apply Array.ext'
  rw [toList_madeCells_one]
  simp [U]

theorem bk_made (w : World) (n : Nat) : Bk (w.alloc (.cells (madeCells #[Value.int .i64 0] n) 3)) w.heap.size (List.replicate n 0) := by
  unfold Bk
  rw [heap_alloc_new, madeCells_U]

/-- make of a list of n limbs -/
theorem wpList_make_bk (w : World) {ops : Array Oper} {rest : List Oper} {o : Oper} {a : Act} {Q : Exit → Act → World → Prop}
    (hg : o.guard = none) (l c : Operand) (t : TypeId) (hop : o.op = Op.makeSlice t l c) (ht : Try.prog.underlying t = some (.slice 3))
    (kl kc : IntKind) (L C : Int) (n : Nat) (hl : a.eval l = .int kl L) (hc : a.eval c = .int kc C) (hL : L = (n : Int)) (hC : C = (n : Int)) (hn : n ≤ 1000000)
    (hK : ∀ w', Bk w' w.heap.size (List.replicate n 0) → w'.heap.size = w.heap.size + 1 → Below w.heap.size w w' → wpList Try.prog ops Q rest (a.put o.dst (.slice (some ⟨w.heap.size, 0, none⟩) n n)) w') :
    wpList Try.prog ops Q (o :: rest) a w := by
  obtain ⟨i0, hi, hz0, hz1, hz2⟩ := info_parts Try.infoU
  subst hL
  subst hC
  refine wpList_make_row w hg l c t hop 3 i0 _ ht hi hz0 hz1 rfl kl kc n hl hc (by rw [hz2]; omega) (by omega) ?_
  exact hK _ (bk_made w n) (by simp) ((Below.refl _ _).alloc (Nat.le_refl _) _)

/-- the addresses and cells of a list that reads -/
theorem rd_copy {w : World} {B : Nat} {A : Option Addr} {l : List Nat} (h : Rd w B A l) : 0 < (l.map U).length → ∃ ad, A = some ad ∧ ∀ j v, (l.map U)[j]? = some v → w.cell? (ad.add j) = some v := by
  intro h0
  rw [List.length_map] at h0
  obtain ⟨b, o, rfl, _, hc⟩ := h h0
  refine ⟨_, rfl, fun j v hv => ?_⟩
  rw [List.getElem?_map, Option.map_eq_some_iff] at hv
  obtain ⟨x, hx, rfl⟩ := hv
  have hj : j < l.length := by
    rcases Nat.lt_or_ge j l.length with h | h
    · exact h
    · rw [List.getElem?_eq_none h] at hx; cases hx
  rw [Addr.add_lit, hc j hj]
  unfold nth U
  rw [List.getD_eq_getElem?_getD, hx]; rfl

/-- copy of a list that is not longer onto a block that is known whole -/
theorem wpList_copy_bk {w : World} {ops : Array Oper} {rest : List Oper} {o : Oper} {a : Act} {Q : Exit → Act → World → Prop} (hgd : o.guard = none) (d s : Operand) (dT sT : TypeId)
    (ho : o.op = .call { callee := .builtin .copy, args := #[d, s], argTypes := #[dT, sT] }) (hu : Try.prog.underlying dT = some (.slice 3))
    (g m dCap : Nat) (L l : List Nat) (A : Option Addr) (n sCap B B0 : Nat) (w0 : World) (hd : a.eval d = .slice (some ⟨g, 0, none⟩) m dCap) (hs : a.eval s = .slice A n sCap)
    (hg : Bk w g L) (hL : L.length = m) (hr : Rd w B A l) (hl : l.length = n) (hnm : n ≤ m) (hb : Below B0 w0 w) (hBg : B0 ≤ g)
    (hK : ∀ w', Bk w' g (l ++ L.drop n) → w'.heap.size = w.heap.size → Below B0 w0 w' → wpList Try.prog ops Q rest (a.put o.dst (goInt n)) w') :
    wpList Try.prog ops Q (o :: rest) a w := by
  have hgl : w.heap[g]? = some (.cells (L.map U).toArray 3 (0, 0)) := hg
  have hcl : (l.map U).length = n := by rw [List.length_map, hl]
  have hsz := Try.sizeU
  rcases Nat.eq_zero_or_pos n with h0 | h0
  · have e : l = [] := List.eq_nil_of_length_eq_zero (by omega)
    subst e
    subst h0
    refine wpList_copy_nothing hgd d s dT sT ho 3 hu hsz _ A m dCap 0 sCap hd hs (by simp) ?_
    exact hK w (by simpa using hg) rfl hb
  · obtain ⟨ad, hA, hcells⟩ := rd_copy hr (by omega)
    subst hA
    refine wpList_copy_own hgd d s dT sT ho 3 hu hsz g 0 m dCap ad n sCap hd hs _ _ hgl (l.map U) (by rw [hcl]; exact (Nat.min_eq_left hnm).symm) hcells (by simp; omega) (oneCell_map l) ?_
    rw [hcl]
    refine hK _ ?_ (size_setRow _ _ _) (below_setRow hb hBg _)
    unfold Bk
    rw [setRow_heap w g _ _ _ _ hgl]
    simp

def Ow (w : World) (base g n c : Nat) (L : List Nat) : Prop := w.ownsRow base 3 1 (.slice (some ⟨g, 0, none⟩) n c) n (L.map U)
theorem Ow.len {w : World} {base g n c : Nat} {L : List Nat} (h : Ow w base g n c L) : L.length = n := by have := h.1; simpa using this
theorem Ow.cell {w : World} {base g n c j : Nat} {L : List Nat} (h : Ow w base g n c L) (hj : j < n) : w.cell? ⟨g, j, none⟩ = some (.int .i64 ((nth L j : Nat) : Int)) := by
  have hl := h.len
  rw [World.ownsRow.cellAt h j (by omega)]
  simp [nth, U, show j < L.length by omega]
theorem Ow.store {w : World} {base g n c : Nat} {L : List Nat} (h : Ow w base g n c L) (j x : Nat) : Ow (w.setCell ⟨g, j, none⟩ (.int .i64 (x : Int))) base g n c (L.set j x) := by
  have := (World.ownsRow.stored h j (.int .i64 (x : Int))).1
  unfold Ow
  rw [List.map_set]
  exact this
theorem own_rd {w : World} {base n : Nat} {v : Value} {l : List Nat} (h : w.ownsRow base 3 1 v n (l.map U)) : ∃ A c, v = .slice A n c ∧ n ≤ c ∧ l.length = n ∧ Rd w w.heap.size A l := by
  have hl : l.length = n := by have := h.1; simpa using this
  rcases h.2 with ⟨rfl, h0⟩ | ⟨g, cap, cur, rfl, hg, hh, hnc, _⟩
  · subst h0
    have e : l = [] := List.eq_nil_of_length_eq_zero hl
    subst e
    exact ⟨none, 0, rfl, Nat.le_refl _, rfl, Rd.nil⟩
  · refine ⟨_, cap, rfl, hnc, hl, fun _ => ⟨g, 0, rfl, ?_, fun j hj => ?_⟩⟩
    · exact (h.lt g rfl).2
    · rw [Nat.zero_add, h.cellAt j (by omega)]
      simp [nth, U, hj]
theorem own_form {w : World} {base n : Nat} {v : Value} {l : List Nat} (h : w.ownsRow base 3 1 v n (l.map U)) (hn : 0 < n) : ∃ g c, v = .slice (some ⟨g, 0, none⟩) n c ∧ Ow w base g n c l := by
  rcases h.2 with ⟨rfl, h0⟩ | ⟨g, cap, cur, rfl, hg, hh, hnc, _⟩
  · omega
  · exact ⟨g, cap, rfl, h⟩
theorem Ow.base {w : World} {base g n c : Nat} {L : List Nat} (h : Ow w base g n c L) : base ≤ g ∧ g < w.heap.size := World.ownsRow.lt h g rfl
theorem Ow.rd {w : World} {base g n c : Nat} {L : List Nat} (h : Ow w base g n c L) : Rd w w.heap.size (some ⟨g, 0, none⟩) L ∧ n ≤ c := by
  obtain ⟨A, c', e, h1, _, h2⟩ := own_rd h
  injection e with e1 _ e3
  subst e1
  subst e3
  exact ⟨h2, h1⟩
theorem bk_one (w : World) {X : Int} {x : Nat} (hX : X = (x : Int)) : Bk (w.alloc (.cells #[.int .i64 X] 3)) w.heap.size [x] := by
  subst hX
  unfold Bk
  rw [heap_alloc_new]
  rfl
theorem bk_rd_one (w : World) {x : Nat} : Rd (w.alloc (.cells #[.int .i64 (x : Int)] 3)) (w.heap.size + 1) (some ⟨w.heap.size, 0, none⟩) [x] :=
  (bk_one w (X := (x : Int)) (x := x) rfl).rd (Nat.lt_succ_self _)
theorem wpList_append_rd (w : World) {ops : Array Oper} {rest : List Oper} {o : Oper} {a : Act} {Q : Exit → Act → World → Prop} (hgd : o.guard = none) (s x : Operand) (t t' : TypeId)
    (ho : o.op = .call { callee := .builtin .append, args := #[s, x], argTypes := #[t, t'] }) (ht : Try.prog.underlying t = some (.slice 3)) (ht' : Try.prog.underlying t' = some (.slice 3))
    (base : Nat) (v : Value) (n : Nat) (xs l : List Nat) (hs : a.eval s = v) (hown : w.ownsRow base 3 1 v n (xs.map U))
    (B : Nat) (A : Option Addr) (m c : Nat) (hx : a.eval x = .slice A m c) (hr : Rd w B A l) (hl : l.length = m) (hb : n + m ≤ 1000000) (hbase : base ≤ w.heap.size)
    (hK : ∀ v' w', w'.ownsRow base 3 1 v' (n + m) ((xs ++ l).map U) → w.grownBy w' v.ownBlock → wpList Try.prog ops Q rest (a.put o.dst v') w') :
    wpList Try.prog ops Q (o :: rest) a w := by
  obtain ⟨i0, hi, hz0, hz1, hz2⟩ := info_parts Try.infoU
  have hrun : ∃ v' w', (Builtin.append_ #[t, t'] o.type #[v, .slice A m c]).run Try.prog w = .ok v' w' ∧ w'.ownsRow base 3 1 v' (n + m) ((xs ++ l).map U) ∧ w.grownBy w' v.ownBlock := by
    rcases Nat.eq_zero_or_pos m with h0 | h0
    · have e : l = [] := List.eq_nil_of_length_eq_zero (by omega)
      subst e
      subst h0
      refine ⟨v, w, ?_, by simpa using hown, World.grownBy.refl w _⟩
      rw [append_types w hi ht ht']
      exact run_append_none base t o.type 3 i0 1 _ w ht hi v n c A _ hown
    · obtain ⟨ad, rfl, hcells⟩ := rd_copy hr (by rw [List.length_map]; omega)
      obtain ⟨v', w', h1, h2, h3, _⟩ := run_append_own (P := Try.prog) w base t o.type 3 i0 _ 1 8 ht hi hz0 hz1 hz2 rfl (by omega) v n _ hown ad m c (l.map U) (by simp [hl]) hcells (oneCell_map l)
        (by unfold maxLen; omega) (by omega) hbase
      exact ⟨v', w', by rw [append_types w hi ht ht', h1], by rw [List.map_append]; exact h2, h3⟩
  obtain ⟨v', w', hrun, h2, h3⟩ := hrun
  refine wpList_plain hgd fun K hK' => ?_
  unfold Oper.wp execOp
  simp only [ho, resolve, invoke, builtin, Sem.run_bind, Sem.run_pure, Result.andThen_ok, List.map_toArray, List.map_cons, List.map_nil, hs, hx, hrun]
  exact hK' _ _ (hK v' w' h2 h3)
theorem own_empty (w : World) : (w.alloc (.cells #[] 3)).ownsRow w.heap.size 3 1 (.slice (some ⟨w.heap.size, 0, none⟩) 0 0) 0 (([] : List Nat).map U) :=
  ⟨rfl, .inr ⟨w.heap.size, 0, #[], rfl, Nat.le_refl _, heap_alloc_new w _, Nat.le_refl _, by unfold maxLen; omega, rfl, rfl⟩⟩

end Go.Proofs.Ytogmgomcdhfolaa.II
