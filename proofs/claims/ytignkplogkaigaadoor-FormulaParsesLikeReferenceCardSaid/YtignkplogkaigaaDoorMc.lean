/-
  Plain mathematics and contracts of package diagram, several texts in one: DTab, DNum, DNum2, DMemo, DSimple, DAll, DSame, DNew, DTruth, DUni, DMap, DBlk.
-/
import Derived.Test.YtignkplogkaigaaDoorMb
import Derived.Deep.AppendLies
import Derived.Deep.RegionLaw
import Derived.Laws.ResultCell
import Derived.WalkSmall
import Derived.Deep.DrawnRows
import Derived.Test.YtignkplogkaigaaDoorMa
import Derived.Maps.RangeWalk
import Derived.Maps.Ext

/-! The table of branches: a row that grows, and an index of it. -/
namespace Go.Proofs.YtignkplogkaigaaDoor
open Go.RowKit Dg Go.Maps

/-- a branch as ints -/
def ub (b : Br) : Bi := ((b.1 : Int), (b.2.1 : Int), (b.2.2 : Int))
/-- its numbers are small -/
def Sm (b : Br) : Prop := b.1 < 1000000 ∧ b.2.1 < 1000000 ∧ b.2.2 < 1000000
theorem sm_i3 {b : Br} (h : Sm b) : I3 (ub b) := by
  obtain ⟨h1, h2, h3⟩ := h
  exact ⟨⟨by show (-9223372036854775808 : Int) ≤ (b.1 : Int); omega, by show (b.1 : Int) ≤ _; omega⟩, ⟨by show (-9223372036854775808 : Int) ≤ (b.2.1 : Int); omega, by show (b.2.1 : Int) ≤ _; omega⟩, ⟨by show (-9223372036854775808 : Int) ≤ (b.2.2 : Int); omega, by show (b.2.2 : Int) ≤ _; omega⟩⟩
theorem ub_inj {a b : Br} (h : ub a = ub b) : a = b := by
  unfold ub at h
  simp only [Prod.mk.injEq] at h
  refine Prod.ext ?_ (Prod.ext ?_ ?_) <;> omega
/-- the cells of a list of branches -/
def flat (M : List Br) : List Value := M.flatMap fun b => [.int .i64 (b.1 : Int), .int .i64 (b.2.1 : Int), .int .i64 (b.2.2 : Int)]
theorem flat_len (M : List Br) : (flat M).length = M.length * 3 := by
  induction M with
  | nil => rfl
  | cons b M ih => rw [flat, List.flatMap_cons, List.length_append, show (M.flatMap fun b => [Value.int .i64 (b.1 : Int), .int .i64 (b.2.1 : Int), .int .i64 (b.2.2 : Int)]).length = M.length * 3 from ih]; simp; omega
theorem flat_snoc (M : List Br) (b : Br) : flat (M ++ [b]) = flat M ++ [.int .i64 (b.1 : Int), .int .i64 (b.2.1 : Int), .int .i64 (b.2.2 : Int)] := by unfold flat; simp
theorem flat_at (M : List Br) (k : Nat) (hk : k < M.length) : (flat M)[k * 3]? = some (.int .i64 (bv M k : Int)) ∧ (flat M)[k * 3 + 1]? = some (.int .i64 (bl M k : Int)) ∧ (flat M)[k * 3 + 2]? = some (.int .i64 (bh M k : Int)) := by
  induction M generalizing k with
  | nil => simp at hk
  | cons b M ih =>
    rcases k with _ | k
    · simp [flat, bv, bl, bh]
    · have h := ih k (by simpa using hk)
      have e : flat (b :: M) = [.int .i64 (b.1 : Int), .int .i64 (b.2.1 : Int), .int .i64 (b.2.2 : Int)] ++ flat M := by unfold flat; simp
      have eb : bv (b :: M) (k + 1) = bv M k ∧ bl (b :: M) (k + 1) = bl M k ∧ bh (b :: M) (k + 1) = bh M k := by unfold bv bl bh; simp
      rw [e, eb.1, eb.2.1, eb.2.2]
      rw [List.getElem?_append_right (by simp; omega), List.getElem?_append_right (by simp; omega), List.getElem?_append_right (by simp; omega)]
      simp only [List.length_cons, List.length_nil]
      rw [show (k + 1) * 3 - (0 + 1 + 1 + 1) = k * 3 by omega, show (k + 1) * 3 + 1 - (0 + 1 + 1 + 1) = k * 3 + 1 by omega, show (k + 1) * 3 + 2 - (0 + 1 + 1 + 1) = k * 3 + 2 by omega]
      exact h
/-- a row that the call owns reads as its branches -/
theorem own_rd {w : World} {base : Nat} {v : Value} {M : List Br} (h : w.ownsRow base 96 3 v M.length (flat M)) : ∃ A c, v = .slice A M.length c ∧ M.length ≤ c ∧ Rd w w.heap.size A (up M) := by
  rcases h.2 with ⟨rfl, h0⟩ | ⟨g, cap, cur, rfl, _, hh, hnc, _⟩
  · exact ⟨none, 0, by rw [h0], by omega, fun hp => by rw [up_len] at hp; omega⟩
  · have hown : w.ownsRow base 96 3 (.slice (some ⟨g, 0, none⟩) M.length cap) M.length (flat M) := h
    refine ⟨_, cap, rfl, hnc, fun hp => ⟨g, 0, rfl, (World.ownsRow.lt hown g rfl).2, fun j hj => ?_⟩⟩
    rw [up_len] at hj
    obtain ⟨f1, f2, f3⟩ := flat_at M j hj
    rw [iv_up, il_up, ih_up, Nat.zero_add]
    exact ⟨(hown.cellAt (j * 3) (by omega)).trans f1, (hown.cellAt (j * 3 + 1) (by omega)).trans f2, (hown.cellAt (j * 3 + 2) (by omega)).trans f3⟩

/-- block b is a map of the branches' numbers -/
def Ix (w : World) (b : Nat) (M : List Br) : Prop := ∃ (n : Nat) (D : DataW Unit), w.ownsMap Tryd.prog 96 (plainElem Tryd.prog 3) b n D ∧ n ≤ M.length ∧
  ∀ x, Sm x → Maps.has D (kb (ub x)) = decide (x ∈ M) ∧ (x ∈ M → D.atKey (kb (ub x)) (.lit (.int .i64 0)) = .lit (.int .i64 ((M.idxOf x + 2 : Nat) : Int)))

/-- the number of a branch in a list, 0 if it is not there -/
def fnd (M : List Br) (x : Br) : Nat := if x ∈ M then M.idxOf x + 2 else 0
theorem Ix.keep {w w' : World} {b : Nat} {M : List Br} (h : Ix w b M) (hk : w'.heap[b]? = w.heap[b]?) : Ix w' b M := by
  obtain ⟨n, D, ⟨es, clock, hb, F, h1, h2⟩, h3⟩ := h
  exact ⟨n, D, ⟨es, clock, hk.trans hb, F, h1, h2⟩, h3⟩
theorem Ix.lt {w : World} {b : Nat} {M : List Br} (h : Ix w b M) : b < w.heap.size := by
  obtain ⟨n, D, hown, _⟩ := h
  exact hown.lt

/-- the table at cells o and o + 1 of block g -/
structure Tb (w : World) (base g o : Nat) (M : List Br) (v : Value) (gi : Option Nat) : Prop where
  cn : w.cell? ⟨g, o, none⟩ = some v
  ci : w.cell? ⟨g, o + 1, none⟩ = some (.map gi)
  fn : w.frozen? ⟨g, o, none⟩ = false
  fi : w.frozen? ⟨g, o + 1, none⟩ = false
  own : w.ownsRow base 96 3 v M.length (flat M)
  idx : match gi with | none => M.length ≤ 16 | some b => base ≤ b ∧ b ≠ g ∧ Ix w b M
  vg : v.ownBlock ≠ some g
  gb : base ≤ g

theorem ret_nb {a b : Int} {x y : Bool} (h1 : a = b) (h2 : x = y) : Ending.returned (.tuple #[.int .i64 a, .bool x]) = .returned (.tuple #[.int .i64 b, .bool y]) := by rw [h1, h2]

/-- the first k branches are not x -/
def NoN (M : List Br) (x : Br) (k : Nat) : Prop := ∀ j, j < k → ¬ (x.1 = bv M j ∧ x.2.1 = bl M j ∧ x.2.2 = bh M j)
theorem NoN.not {M : List Br} {x : Br} (h : NoN M x M.length) : x ∉ M := by
  intro hin
  obtain ⟨k, hk, e⟩ := List.getElem_of_mem hin
  rw [br_at hk] at e
  subst e
  exact h k hk ⟨rfl, rfl, rfl⟩
theorem NoN.idx {M : List Br} {x : Br} {k : Nat} (h : NoN M x k) (hk : k < M.length) (h1 : x.1 = bv M k) (h2 : x.2.1 = bl M k) (h3 : x.2.2 = bh M k) : x ∈ M ∧ M.idxOf x = k := by
  have e : M[k] = x := by rw [br_at hk, ← h1, ← h2, ← h3]
  have hin : x ∈ M := by rw [← e]; exact List.getElem_mem hk
  have hi : M.idxOf x < M.length := List.idxOf_lt_length_iff.2 hin
  have hx : M[M.idxOf x] = x := List.getElem_idxOf hi
  refine ⟨hin, ?_⟩
  rcases Nat.lt_trichotomy (M.idxOf x) k with hlt | heq | hgt
  · rw [br_at hi] at hx
    exact absurd ⟨(congrArg Prod.fst hx).symm, (congrArg (fun b => b.2.1) hx).symm, (congrArg (fun b => b.2.2) hx).symm⟩ (h _ hlt)
  · exact heq
  · have := List.not_of_lt_findIdx (xs := M) (p := (· == x)) hgt
    rw [e] at this
    simp at this

end Go.Proofs.YtignkplogkaigaaDoor

/-! The table gives a branch its number: a new branch goes behind the others. -/
namespace Go.Proofs.YtignkplogkaigaaDoor
open Go.RowKit Dg Go.Maps

theorem Tryd.infoBr : (Tryd.prog.info? 96).map (fun i => (i.zero, i.size, i.bytes)) = some (some (.agg #[.int .i64 0, .int .i64 0, .int .i64 0]), 3, 24) := by kernel_rfl

/-- only blocks of S may have changed -/
structure Chg (S : Nat → Prop) (w w' : World) : Prop where
  os : w'.os = w.os
  tape : w'.tape = w.tape
  output : w'.output = w.output
  size : w.heap.size ≤ w'.heap.size
  block : ∀ k, k < w.heap.size → ¬ S k → w'.heap[k]? = w.heap[k]?
section
variable {S T : Nat → Prop} {a b c w w' : World} {B : Nat}
theorem Chg.refl (S : Nat → Prop) (w : World) : Chg S w w := ⟨rfl, rfl, rfl, Nat.le_refl _, fun _ _ _ => rfl⟩
theorem Chg.trans (h : Chg S a b) (k : Chg T b c) (ht : ∀ j, j < a.heap.size → T j → S j) : Chg S a c :=
  ⟨k.os.trans h.os, k.tape.trans h.tape, k.output.trans h.output, Nat.le_trans h.size k.size, fun j hj hn => (k.block j (Nat.lt_of_lt_of_le hj h.size) (fun e => hn (ht j hj e))).trans (h.block j hj hn)⟩
theorem Chg.mono (h : Chg S a b) (ht : ∀ j, j < a.heap.size → S j → T j) : Chg T a b := (Chg.refl T a).trans h ht
theorem Chg.of_below (h : Below a.heap.size a b) : Chg S a b := ⟨h.os, h.tape, h.output, h.size, fun j hj _ => h.block j hj⟩
theorem Chg.of_grown {row : Option Nat} (h : a.grownBy b row) (hr : ∀ k, row = some k → S k) : Chg S a b :=
  ⟨h.os, h.tape, h.output, h.size, fun j hj hn => h.block j hj (fun e => hn (hr j e.symm))⟩
theorem Chg.below (h : Chg S a b) (hB : B ≤ a.heap.size) (hS : ∀ k, k < B → ¬ S k) : Below B a b := ⟨h.os, h.tape, h.output, h.size, fun j hj => h.block j (Nat.lt_of_lt_of_le hj hB) (hS j hj)⟩
theorem Chg.set (h : Chg S a b) {p : Addr} (hp : S p.block) (u : Value) : Chg S a (b.setCell p u) :=
  h.trans ⟨rfl, rfl, rfl, by simp [World.setCell], fun k _ hk => Below.heap_setCell _ _ _ _ (fun e => hk e)⟩ (T := fun k => k = p.block) (fun j _ e => e ▸ hp)
theorem Chg.cell (h : Chg S a b) {p : Addr} (hp : p.block < a.heap.size) (hn : ¬ S p.block) : b.cell? p = a.cell? p := World.cell?_of_block (h.block _ hp hn)
theorem Chg.frozen (h : Chg S a b) {p : Addr} (hp : p.block < a.heap.size) (hn : ¬ S p.block) : b.frozen? p = a.frozen? p := World.frozen?_of_block (h.block _ hp hn)
theorem Chg.drew (h : Chg S a b) : Chg S a b.drew := ⟨h.os, h.tape, h.output, h.size, h.block⟩
theorem Chg.alloc (h : Chg S a b) (o : Obj) : Chg S a (b.alloc o) := h.trans (Chg.of_below (S := S) ((Below.refl _ _).alloc (Nat.le_refl _) o)) (fun _ _ e => e)
end

theorem cell_set_off (w : World) (g i j : Nat) (u : Value) (h : j ≠ i) : (w.setCell ⟨g, i, none⟩ u).cell? ⟨g, j, none⟩ = w.cell? ⟨g, j, none⟩ := by
  go_simp
theorem _root_.Go.World.ownsRow.alloc_own {w : World} {base e size n : Nat} {v : Value} {xs : List Value} (h : w.ownsRow base e size v n xs) (o : Obj) : (w.drew.alloc o).ownsRow base e size v n xs :=
  h.drew.kept (World.grownBy_alloc _ o none) (by rcases v.ownBlock with _ | _ <;> simp)

theorem _root_.Go.World.ownsRow.alloc_own2 {w : World} {base e size n : Nat} {v : Value} {xs : List Value} (h : w.ownsRow base e size v n xs) (o : Obj) : (w.alloc o).drew.ownsRow base e size v n xs :=
  (h.kept (World.grownBy_alloc w o none) (by rcases v.ownBlock with _ | _ <;> simp)).drew

/-- what number leaves -/
def Numd (w w' : World) (base g o : Nat) (v : Value) (gi : Option Nat) (M : List Br) : Prop := ∃ v' gi', Tb w' base g o M v' gi' ∧
  Chg (fun k => k = g ∨ v.ownBlock = some k ∨ gi = some k) w w' ∧ (∀ j, j ≠ o → j ≠ o + 1 → w'.cell? ⟨g, j, none⟩ = w.cell? ⟨g, j, none⟩) ∧ (∀ j, w'.frozen? ⟨g, j, none⟩ = w.frozen? ⟨g, j, none⟩) ∧
  (∀ k, v'.ownBlock = some k → v.ownBlock = some k ∨ w.heap.size ≤ k) ∧ (∀ k, gi' = some k → gi = some k ∨ w.heap.size ≤ k)

/-- the table is as it was -/
theorem Tb.keep {w w' : World} {base g o : Nat} {M : List Br} {v : Value} {gi : Option Nat} (h : Tb w base g o M v gi) (hb : Below w.heap.size w w') : Tb w' base g o M v gi := by
  have hg : g < w.heap.size := block_lt_of_cell h.cn
  have hown : w'.ownsRow base 96 3 v M.length (flat M) := h.own.kept (row := none) ⟨hb.os, hb.tape, hb.output, hb.size, fun k hk _ => hb.block k hk⟩ (by rcases h0 : v.ownBlock with _ | _ <;> simp)
  refine ⟨(hb.cell (p := ⟨g, o, none⟩) hg).trans h.cn, (hb.cell (p := ⟨g, o + 1, none⟩) hg).trans h.ci, (hb.frozen (p := ⟨g, o, none⟩) hg).trans h.fn, (hb.frozen (p := ⟨g, o + 1, none⟩) hg).trans h.fi, hown, ?_, h.vg, h.gb⟩
  have hi := h.idx
  rcases gi with _ | b
  · exact hi
  · exact ⟨hi.1, hi.2.1, hi.2.2.keep (hb.block b hi.2.2.lt)⟩

theorem numd_same {w w' : World} {base g o : Nat} {M : List Br} {v : Value} {gi : Option Nat} (h : Tb w base g o M v gi) (hb : Below w.heap.size w w') : Numd w w' base g o v gi M :=
  ⟨v, gi, h.keep hb, Chg.of_below hb, fun j _ _ => hb.cell (p := ⟨g, j, none⟩) (block_lt_of_cell (a := ⟨g, o, none⟩) h.cn), fun j => hb.frozen (p := ⟨g, j, none⟩) (block_lt_of_cell (a := ⟨g, o, none⟩) h.cn), fun _ e => .inl e, fun _ e => .inl e⟩

/-- the three cells of a branch -/
def c3 (x y z : Nat) : List Value := [.int .i64 (x : Int), .int .i64 (y : Int), .int .i64 (z : Int)]

/-- the row has one branch more, and cell o of block g points to it; the index is as it was -/
structure Half (w w4 : World) (base g o : Nat) (v : Value) (gi : Option Nat) (M : List Br) (x : Br) (v' : Value) : Prop where
  cn : w4.cell? ⟨g, o, none⟩ = some v'
  ci : w4.cell? ⟨g, o + 1, none⟩ = some (.map gi)
  fn : w4.frozen? ⟨g, o, none⟩ = false
  fi : w4.frozen? ⟨g, o + 1, none⟩ = false
  own : w4.ownsRow base 96 3 v' (M ++ [x]).length (flat (M ++ [x]))
  vg : v'.ownBlock ≠ some g
  gb : base ≤ g
  gl : g < w.heap.size
  idx : ∀ b, gi = some b → base ≤ b ∧ b ≠ g ∧ v'.ownBlock ≠ some b ∧ b < w.heap.size ∧ Ix w4 b M
  chg : Chg (fun k => k = g ∨ v.ownBlock = some k ∨ gi = some k) w w4
  cel : ∀ j, j ≠ o → j ≠ o + 1 → w4.cell? ⟨g, j, none⟩ = w.cell? ⟨g, j, none⟩
  frz : ∀ j, w4.frozen? ⟨g, j, none⟩ = w.frozen? ⟨g, j, none⟩
  ob : ∀ k, v'.ownBlock = some k → v.ownBlock = some k ∨ w.heap.size ≤ k

theorem half_of {w w2 w3 : World} {base g o n cap gn : Nat} {M : List Br} {v : Value} {gi : Option Nat} {x y z : Nat} (h : Tb w base g o M v gi) (hb2 : Below w.heap.size w w2) (hn : M.length = n)
    (hown : w3.ownsRow base 96 3 (.slice (some ⟨gn, 0, none⟩) (n + 1) cap) (n + 1) (flat M ++ c3 x y z)) (hgr : w2.grownBy w3 v.ownBlock) (hat : v.ownBlock = some gn ∨ w.heap.size ≤ gn) :
    Half w (w3.setCell ⟨g, o, none⟩ (.slice (some ⟨gn, 0, none⟩) (n + 1) cap)) base g o v gi M (x, y, z) (.slice (some ⟨gn, 0, none⟩) (n + 1) cap) := by
  have hg : g < w.heap.size := block_lt_of_cell (a := ⟨g, o, none⟩) h.cn
  have hgn : gn ≠ g := by
    rcases hat with e | e
    · exact fun e2 => h.vg (by rw [e, e2])
    · omega
  have far : ∀ a : Addr, a.block < w.heap.size → some a.block ≠ v.ownBlock → w3.cell? a = w.cell? a ∧ w3.frozen? a = w.frozen? a := fun a ha hne =>
    ⟨(hgr.cell_far a (Nat.lt_of_lt_of_le ha hb2.size) hne).trans (hb2.cell ha), (hgr.frozen_far a (Nat.lt_of_lt_of_le ha hb2.size) hne).trans (hb2.frozen ha)⟩
  have fg := fun j => far ⟨g, j, none⟩ hg (Ne.symm h.vg)
  have hset := grown_set w3 g o (.slice (some ⟨gn, 0, none⟩) (n + 1) cap)
  have ix : ∀ b, gi = some b → base ≤ b ∧ b ≠ g ∧ gn ≠ b ∧ b < w.heap.size ∧ Ix (w3.setCell ⟨g, o, none⟩ (.slice (some ⟨gn, 0, none⟩) (n + 1) cap)) b M := by
    intro b e
    subst e
    obtain ⟨i1, i2, i3⟩ := h.idx
    have hvb : v.ownBlock ≠ some b := by
      intro e2
      obtain ⟨n', D, ⟨es, clock, hb, _⟩, _⟩ := i3
      rcases h.own.2 with ⟨rfl, _⟩ | ⟨g', cap', cur, rfl, _, hh, _⟩
      · simp [Value.ownBlock] at e2
      · simp [Value.ownBlock] at e2
        rw [e2, hb] at hh
        simp at hh
    refine ⟨i1, i2, ?_, i3.lt, i3.keep ?_⟩
    · rcases hat with e3 | e3
      · exact fun e4 => hvb (by rw [e3, e4])
      · have := i3.lt; omega
    · rw [Below.heap_setCell _ _ _ _ (by exact i2), hgr.block b (Nat.lt_of_lt_of_le i3.lt hb2.size) (Ne.symm hvb), hb2.block b i3.lt]
  refine ⟨World.cell?_setCell_same _ _ _ ((fg o).1.trans h.cn), ?_, ?_, ?_, ?_, ?_, h.gb, hg, ?_, ?_, ?_, ?_, ?_⟩
  · rw [cell_set_off _ _ _ _ _ (by omega)]; exact (fg (o + 1)).1.trans h.ci
  · rw [World.frozen?_setCell]; exact (fg o).2.trans h.fn
  · rw [World.frozen?_setCell]; exact (fg (o + 1)).2.trans h.fi
  · rw [flat_snoc, List.length_append, hn]
    exact hown.kept hset (.inr (by simp [Value.ownBlock, hgn]))
  · simp [Value.ownBlock, hgn]
  · intro b e
    obtain ⟨i1, i2, i3, i4, i5⟩ := ix b e
    exact ⟨i1, i2, by simp [Value.ownBlock, i3], i4, i5⟩
  · refine Chg.set ((Chg.of_below hb2).trans (T := fun k => v.ownBlock = some k) (Chg.of_grown hgr (fun k e => e)) (fun j _ e => .inr (.inl e))) (.inl rfl) _
  · intro j h1 _
    rw [cell_set_off _ _ _ _ _ h1]; exact (fg j).1
  · intro j
    rw [World.frozen?_setCell]; exact (fg j).2
  · intro k e
    simp [Value.ownBlock] at e
    subst e
    exact hat

theorem below_in {w w1 w2 : World} (h1 : Below w.heap.size w w1) (h2 : Below w1.heap.size w1 w2) (o : Obj) : Below w.heap.size w (w2.alloc o).drew :=
  ((h1.trans (h2.mono h1.size)).alloc (Nat.le_trans h1.size h2.size) o).drew

/-- no index, and few branches -/
theorem Half.few {w w4 : World} {base g o : Nat} {v v' : Value} {M : List Br} {x : Br} (h : Half w w4 base g o v none M x v') (hf : M.length < 16) : Numd w w4 base g o v none (M ++ [x]) :=
  ⟨v', none, ⟨h.cn, h.ci, h.fn, h.fi, h.own, by simp; omega, h.vg, h.gb⟩, h.chg, h.cel, h.frz, h.ob, fun _ e => .inl e⟩

/-- what the index holds -/
def IxS (M : List Br) (D : DataW Unit) : Prop := ∀ x, Sm x → Maps.has D (kb (ub x)) = decide (x ∈ M) ∧ (x ∈ M → D.atKey (kb (ub x)) (.lit (.int .i64 0)) = .lit (.int .i64 ((M.idxOf x + 2 : Nat) : Int)))
theorem IxS.put {M : List Br} {D : DataW Unit} (h : IxS M D) (hD : IsMap D) {x : Br} (hx : Sm x) (hin : x ∉ M) : IxS (M ++ [x]) (D.put (kb (ub x)) (.lit (.int .i64 ((M.length + 2 : Nat) : Int)))) := by
  intro y hy
  by_cases e : y = x
  · subst e
    refine ⟨by rw [has_put_same hD (kb_key (sm_i3 hx))]; simp, fun _ => ?_⟩
    rw [atKey_put_same hD (kb_key (sm_i3 hx)), List.idxOf_append, if_neg hin]
    simp
  · have hne : kb (ub y) ≠ kb (ub x) := fun e2 => e (ub_inj (kb_inj (sm_i3 hy) (sm_i3 hx) e2))
    obtain ⟨h1, h2⟩ := h y hy
    refine ⟨by rw [has_put_other hne, h1]; simp [e], fun hm => ?_⟩
    have hm' : y ∈ M := by
      rcases List.mem_append.1 hm with q | q
      · exact q
      · simp at q; exact absurd q e
    rw [atKey_put_other hne, h2 hm', List.idxOf_append, if_pos hm']

/-- the index has the new branch too -/
theorem Half.put {w w4 w5 : World} {base g o b n : Nat} {v v' : Value} {M : List Br} {x : Br} {D : DataW Unit} (h : Half w w4 base g o v (some b) M x v') (hx : Sm x) (hin : x ∉ M) (hD : IsMap D) (hS : IxS M D) (hn : n ≤ M.length)
    (hown : w5.ownsMap Tryd.prog 96 (plainElem Tryd.prog 3) b (n + 1) (D.put (kb (ub x)) (.lit (.int .i64 ((M.length + 2 : Nat) : Int))))) (hg0 : w4.drew.grownBy w5 (some b)) : Numd w w5 base g o v (some b) (M ++ [x]) := by
  obtain ⟨i1, i2, i3, i4, _⟩ := h.idx b rfl
  have hg : w4.grownBy w5 (some b) := ⟨hg0.os, hg0.tape, hg0.output, hg0.size, hg0.block⟩
  have hg4 : g < w4.heap.size := block_lt_of_cell (a := ⟨g, o, none⟩) h.cn
  have hne : some g ≠ some b := fun e => i2 (Option.some.inj e).symm
  have hc : ∀ j, w5.cell? ⟨g, j, none⟩ = w4.cell? ⟨g, j, none⟩ := fun j => hg.cell_far ⟨g, j, none⟩ hg4 hne
  have hf : ∀ j, w5.frozen? ⟨g, j, none⟩ = w4.frozen? ⟨g, j, none⟩ := fun j => hg.frozen_far ⟨g, j, none⟩ hg4 hne
  refine ⟨v', some b, ⟨(hc o).trans h.cn, (hc (o + 1)).trans h.ci, (hf o).trans h.fn, (hf (o + 1)).trans h.fi, h.own.kept (w' := w5) (row := some b) hg (.inr i3), ⟨i1, i2, n + 1, _, hown, by simp; omega, hS.put hD hx hin⟩, h.vg, h.gb⟩,
    h.chg.trans (T := fun k => k = b) (Chg.of_grown hg (fun k e => (Option.some.inj e).symm)) (fun j _ e => .inr (.inr (by rw [e]))), fun j h1 h2 => (hc j).trans (h.cel j h1 h2), fun j => (hf j).trans (h.frz j), h.ob, fun _ e => .inl e⟩

end Go.Proofs.YtignkplogkaigaaDoor

/-! The table gives a branch its number: the seventeenth branch makes the index. -/
namespace Go.Proofs.YtignkplogkaigaaDoor
open Go.RowKit Dg Go.Maps

theorem ixs_nil : IxS [] (.map []) := fun x _ => ⟨by simp [has_eq], fun h => absurd h (by simp)⟩
theorem IxS.step {M : List Br} {k : Nat} {D : DataW Unit} (h : IxS (M.take k) D) (hD : IsMap D) (hnd : M.Nodup) (hk : k < M.length) (hs : Sm (bv M k, bl M k, bh M k)) : IxS (M.take (k + 1)) (D.put (kb (ub (bv M k, bl M k, bh M k))) (.lit (.int .i64 ((k + 2 : Nat) : Int)))) := by
  have e : M.take (k + 1) = M.take k ++ [(bv M k, bl M k, bh M k)] := by rw [List.take_succ_eq_append_getElem hk, br_at hk]
  have hl : (M.take k).length = k := by rw [List.length_take]; omega
  have hin : (bv M k, bl M k, bh M k) ∉ M.take k := by
    have h2 := hnd.sublist (List.take_sublist (k + 1) M)
    rw [e, List.nodup_append] at h2
    intro hm
    exact h2.2.2 _ hm _ (by simp) rfl
  have h3 := h.put hD hs hin
  rw [hl] at h3
  rw [e]
  exact h3

/-- the world with an empty index in block B -/
def Turn (w4 : World) (g o B : Nat) : World := (w4.setCell ⟨g, o + 1, none⟩ (.map (some B))).alloc (.map #[] 0)
theorem turn_heap {w4 : World} {g o B k : Nat} (hk : k < w4.heap.size) (hne : k ≠ g) : (Turn w4 g o B).heap[k]? = w4.heap[k]? := by
  unfold Turn
  rw [Below.heap_alloc _ _ _ (by simpa [World.setCell] using hk), Below.heap_setCell _ _ _ _ (by exact hne)]
theorem turn_grown (w4 : World) (g o B : Nat) : w4.grownBy (Turn w4 g o B) (some g) := grown_trans (grown_set w4 g (o + 1) (.map (some B))) (World.grownBy_alloc _ (.map #[] 0) (some g))
theorem turn_cell {w4 : World} {g o B j : Nat} (hg : g < w4.heap.size) (hj : j ≠ o + 1) : (Turn w4 g o B).cell? ⟨g, j, none⟩ = w4.cell? ⟨g, j, none⟩ := by
  unfold Turn
  rw [World.cell?_alloc_lt _ _ _ (by simpa [World.setCell] using hg), cell_set_off _ _ _ _ _ hj]
theorem turn_new {w4 : World} {g o B : Nat} {u : Value} (hg : g < w4.heap.size) (hc : w4.cell? ⟨g, o + 1, none⟩ = some u) : (Turn w4 g o B).cell? ⟨g, o + 1, none⟩ = some (.map (some B)) := by
  unfold Turn
  rw [World.cell?_alloc_lt _ _ _ (by simpa [World.setCell] using hg)]
  exact World.cell?_setCell_same _ _ _ hc
theorem turn_frozen {w4 : World} {g o B j : Nat} (hg : g < w4.heap.size) : (Turn w4 g o B).frozen? ⟨g, j, none⟩ = w4.frozen? ⟨g, j, none⟩ := by
  unfold Turn
  rw [World.frozen?_alloc_old _ _ _ (by simp [World.setCell]; omega), World.frozen?_setCell]

theorem Half.rd {w w4 : World} {base g o n cap gn : Nat} {v : Value} {M : List Br} {x : Br} (h : Half w w4 base g o v none M x (.slice (some ⟨gn, 0, none⟩) (n + 1) cap)) (B : Nat) : Rd (Turn w4 g o B) w4.heap.size (some ⟨gn, 0, none⟩) (up (M ++ [x])) := by
  obtain ⟨A, c, e, _, hr⟩ := own_rd (h.own.kept (grown_set w4 g (o + 1) (.map (some B))) (.inr h.vg))
  injection e with e1 e2 e3
  subst e1
  have hr2 : Rd (w4.setCell ⟨g, o + 1, none⟩ (.map (some B))) w4.heap.size (some ⟨gn, 0, none⟩) (up (M ++ [x])) := hr.mono (by simp [World.setCell])
  exact hr2.keep (fun k hk => Below.heap_alloc _ _ _ (by simpa [World.setCell] using hk))

/-- the index is made: block B holds it -/
theorem Half.turn {w w4 w5 : World} {base g o B n : Nat} {v v' : Value} {M : List Br} {x : Br} {D : DataW Unit} (h : Half w w4 base g o v none M x v') (hB : w4.heap.size = B) (hbase : base ≤ w.heap.size)
    (hb : Below B (Turn w4 g o B) w5) (hown : w5.ownsMap Tryd.prog 96 (plainElem Tryd.prog 3) B n D) (hS : IxS (M ++ [x]) D) (hn : n ≤ M.length + 1) : Numd w w5 base g o v none (M ++ [x]) := by
  subst hB
  have hg4 : g < w4.heap.size := block_lt_of_cell (a := ⟨g, o, none⟩) h.cn
  have hsz := h.chg.size
  have hgl := h.gl
  have hc : ∀ j, j ≠ o + 1 → w5.cell? ⟨g, j, none⟩ = w4.cell? ⟨g, j, none⟩ := fun j hj => (hb.cell (p := ⟨g, j, none⟩) hg4).trans (turn_cell hg4 hj)
  have hf : ∀ j, w5.frozen? ⟨g, j, none⟩ = w4.frozen? ⟨g, j, none⟩ := fun j => (hb.frozen (p := ⟨g, j, none⟩) hg4).trans (turn_frozen hg4)
  have hblk : ∀ k, k < w4.heap.size → k ≠ g → w5.heap[k]? = w4.heap[k]? := fun k hk hne => (hb.block k hk).trans (turn_heap hk hne)
  have tg := turn_grown w4 g o w4.heap.size
  have hgr : w4.grownBy w5 (some g) := ⟨hb.os.trans tg.os, hb.tape.trans tg.tape, hb.output.trans tg.output, Nat.le_trans tg.size hb.size, fun k hk hne => hblk k hk (fun e => hne (by rw [e]))⟩
  refine ⟨v', some w4.heap.size, ⟨(hc o (by omega)).trans h.cn, (hb.cell (p := ⟨g, o + 1, none⟩) hg4).trans (turn_new hg4 h.ci), (hf o).trans h.fn, (hf (o + 1)).trans h.fi, h.own.kept hgr (.inr h.vg), ⟨by omega, by omega, n, D, hown, by simp; omega, hS⟩, h.vg, h.gb⟩,
    h.chg.trans (T := fun k => k = g) (Chg.of_grown hgr (fun k e => (Option.some.inj e).symm)) (fun j _ e => .inl e), fun j h1 h2 => (hc j h2).trans (h.cel j h1 h2), fun j => (hf j).trans (h.frz j), h.ob, fun k e => .inr (by have := Option.some.inj e; omega)⟩

end Go.Proofs.YtignkplogkaigaaDoor

/-! The memory of results, while it is a list of cells. -/
namespace Go.Proofs.YtignkplogkaigaaDoor
open Go.RowKit Dg Go.Maps

def I32 (x : Nat) : Value := .int .i32 (x : Int)
/-- block L holds just the numbers E -/
def Ck (w : World) (L : Nat) (E : List Nat) : Prop := w.heap[L]? = some (.cells (E.map I32).toArray 21 (0, 0))
theorem Ck.lt {w : World} {L : Nat} {E : List Nat} (h : Ck w L E) : L < w.heap.size := by
  rcases Nat.lt_or_ge L w.heap.size with hlt | hge
  · exact hlt
  · unfold Ck at h; rw [Array.getElem?_eq_none hge] at h; cases h
theorem Ck.cell {w : World} {L : Nat} {E : List Nat} (h : Ck w L E) {i : Nat} (hi : i < E.length) : w.cell? ⟨L, i, none⟩ = some (.int .i32 ((E.getD i 0 : Nat) : Int)) := by
  rw [cell_of_row w L i _ _ _ h]
  simp [I32, hi]
theorem Ck.frozen {w : World} {L : Nat} {E : List Nat} (h : Ck w L E) (i : Nat) : w.frozen? ⟨L, i, none⟩ = false := frozen_of_row w L i _ _ h
theorem Ck.set_ {w : World} {L : Nat} {E : List Nat} (h : Ck w L E) (i x : Nat) : Ck (w.setCell ⟨L, i, none⟩ (.int .i32 (x : Int))) L (E.set i x) := by
  have := heap_setCell_same w L i _ _ (.int .i32 (x : Int)) h
  unfold Ck
  rw [this]
  simp [I32, List.map_set]

/-- the memory at cells o, o + 1, o + 2 of block g is a list of n cells; E has 0 for no result, else one more than it -/
structure ML (w : World) (base g o n L : Nat) (E : List Nat) : Prop where
  cc : w.cell? ⟨g, o, none⟩ = some (.int .i64 (n : Int))
  cl : w.cell? ⟨g, o + 2, none⟩ = some (.slice (some ⟨L, 0, none⟩) n n)
  blk : Ck w L E
  len : E.length = n
  small : ∀ e ∈ E, e < 1000000
  ne : L ≠ g
  bl : base ≤ L

theorem ret_ib {a b : Int} {x y : Bool} (h1 : a = b) (h2 : x = y) : Ending.returned (.tuple #[.int .i64 a, .bool x]) = .returned (.tuple #[.int .i64 b, .bool y]) := by rw [h1, h2]

/-- what put leaves -/
theorem ML.set_ {w : World} {base g o n L j r : Nat} {E : List Nat} (h : ML w base g o n L E) (hr : r < 999999) : ML (w.setCell ⟨L, j, none⟩ (.int .i32 ((r + 1 : Nat) : Int))) base g o n L (E.set j (r + 1)) := by
  refine ⟨?_, ?_, h.blk.set_ j (r + 1), by rw [List.length_set]; exact h.len, fun e he => ?_, h.ne, h.bl⟩
  · rw [World.cell?_of_block (w := w) (Below.heap_setCell w ⟨L, j, none⟩ _ g (Ne.symm h.ne))]; exact h.cc
  · rw [World.cell?_of_block (w := w) (Below.heap_setCell w ⟨L, j, none⟩ _ g (Ne.symm h.ne))]; exact h.cl
  · rcases List.mem_or_eq_of_mem_set he with q | q
    · exact h.small e q
    · omega

end Go.Proofs.YtignkplogkaigaaDoor

/-! The small functions of package diagram: complement, Constant, Var. -/
namespace Go.Proofs.YtignkplogkaigaaDoor
open Go.RowKit Dg

theorem results_cell1 {fn : Func} {p : Tmp} {ty : TypeId} (h : fn.results = #[.cell p ty]) (tmps : Array Value) (P : Program) (w : World) :
    (results fn tmps).run P w = ((asAddr (tmps.getD p undef)).run P w).andThen fun a w₁ => (loadVar ty a).run P w₁ := by
  simp only [results, h]
  simp [Sem.run_bind, Result.andThen]

/-- the number of the complement, for a constant -/
def cmpl (n : Nat) : Nat := if n < 2 then 1 - n else n
/-- a diagram as a value: it reads as M with root n, and is valid -/
def DV (w : World) (v : Value) (M : List Br) (n : Nat) : Prop := ∃ A c, v = .agg #[.slice A M.length c, .int .i64 (n : Int)] ∧ M.length ≤ c ∧ Rd w w.heap.size A (up M) ∧ Valid M n ∧ M.length ≤ 4096
theorem DV.below {w w' : World} {v : Value} {M : List Br} {n : Nat} (h : DV w v M n) (hb : Below w.heap.size w w') : DV w' v M n := by
  obtain ⟨A, c, e, hc, hr, hv, hl⟩ := h
  exact ⟨A, c, e, hc, (hr.below hb).mono hb.size, hv, hl⟩

theorem wi_up {M : List Br} (h : Ord M) (hl : M.length ≤ 1000000) : Wi (up M) := by
  intro k hk
  rw [up_len] at hk
  obtain ⟨h1, h2, h3, _, _⟩ := h k hk
  rw [iv_up, il_up, ih_up]
  omega

/-- the configuration of a number -/
def cfg (c : Nat) : Cfg := fun v => c.testBit v
theorem bit_test {x V : Nat} (hx : x < 18446744073709551616) : (bits .and .u64 ((x : Int) / 2 ^ V) 1 == 0) = !(cfg x V) := by
  have e : ((x : Int) / 2 ^ V) = ((x / 2 ^ V : Nat) : Int) := by simp
  have hlt : x / 2 ^ V < 18446744073709551616 := Nat.lt_of_le_of_lt (Nat.div_le_self _ _) hx
  rw [e]
  unfold cfg
  rw [Nat.testBit_eq_decide_div_mod_eq]
  clear e
  generalize x / 2 ^ V = y at *
  rw [and_one_u64 _ (by omega) (by omega)]
  rcases Nat.mod_two_eq_zero_or_one y with h | h
  · rw [decide_eq_false (by omega)]
    have : ((y : Int) % 2) = 0 := by omega
    rw [this]; rfl
  · rw [decide_eq_true h]
    have : ((y : Int) % 2) = 1 := by omega
    rw [this]; rfl

end Go.Proofs.YtignkplogkaigaaDoor

/-! checkAll and checkWith: the first error of several diagrams. -/
namespace Go.Proofs.YtignkplogkaigaaDoor
open Go.RowKit Dg

/-- any diagram, as it lies: its slice, its branches, its root -/
structure DA where
  A : Option Addr
  m : Nat
  c : Nat
  l : List Bi
  r : Int
/-- it reads so in w -/
structure DOk (w : World) (d : DA) : Prop where
  rd : Rd w w.heap.size d.A d.l
  wi : Wi d.l
  len : d.l.length = d.m
  lm : d.m ≤ 9223372036854775800
  mc : d.m ≤ d.c
  ri : I64 d.r
theorem DOk.below {w w' : World} {d : DA} (h : DOk w d) (hb : Below w.heap.size w w') : DOk w' d := ⟨(h.rd.below hb).mono hb.size, h.wi, h.len, h.lm, h.mc, h.ri⟩
/-- the first error -/
def chkAll : List DA → Int
  | [] => 0
  | d :: ds => if chk d.l d.r = 0 then chkAll ds else chk d.l d.r
theorem chkAll_ok {ds : List DA} (h : ∀ d ∈ ds, chk d.l d.r = 0) : chkAll ds = 0 := by
  induction ds with
  | nil => rfl
  | cons d ds ih => unfold chkAll; rw [if_pos (h d (by simp))]; exact ih (fun e he => h e (by simp [he]))
theorem chkAll_at {ds : List DA} {k : Nat} (hk : k < ds.length) (h : ∀ j (hj : j < k), chk (ds[j]'(by omega)).l (ds[j]'(by omega)).r = 0) (hne : chk ds[k].l ds[k].r ≠ 0) : chkAll ds = chk ds[k].l ds[k].r := by
  induction ds generalizing k with
  | nil => simp at hk
  | cons d ds ih =>
    unfold chkAll
    rcases k with _ | k
    · simp at hne ⊢; intro h0; exact absurd h0 hne
    · have h0 := h 0 (by omega)
      simp at h0
      rw [if_pos h0]
      simp at hne ⊢
      exact ih (by simpa using hk) (fun j hj => by have := h (j + 1) (by omega); simpa using this) hne

/-- the error of a diagram with a condition -/
def chkWith (l : List Bi) (r v : Int) : Int := if chk l r = 0 then (if conB v then 0 else 1) else chk l r
end Go.Proofs.YtignkplogkaigaaDoor

/-! slices.Equal of branches; Same. -/
namespace Go.Proofs.YtignkplogkaigaaDoor
open Go.RowKit Dg

theorem run_neq_br (w : World) (a b c x y z : Int) :
    (binOp .neq 96 (.agg #[.int .i64 a, .int .i64 b, .int .i64 c]) (.agg #[.int .i64 x, .int .i64 y, .int .i64 z])).run Tryd.prog w = .ok (.bool (!(a == x && (b == y && c == z)))) w := by
  have h := run_eql_br w a b c x y z
  have hf : Tryd.prog.underlying 96 = some (.struct (Tryd.prog.fieldsOf 96)) := by kernel_rfl
  rw [run_eql_struct] at h
  rw [run_neq_struct]
  rcases hh : (Op.equalIn 10000 96 (.agg #[.int .i64 a, .int .i64 b, .int .i64 c]) (.agg #[.int .i64 x, .int .i64 y, .int .i64 z])).run Tryd.prog w with _ | _ <;> rw [hh] at h <;> simp [Result.andThen] at h ⊢
  simp [h]

/-- the first k branches are equal -/
def EqTo (l l' : List Bi) (k : Nat) : Prop := ∀ j, j < k → iv l j = iv l' j ∧ il l j = il l' j ∧ ih l j = ih l' j
theorem EqTo.all {l l' : List Bi} (hl : l.length = l'.length) (h : EqTo l l' l.length) : l = l' := by
  apply List.ext_getElem hl
  intro k h1 h2
  rw [bi_at h1, bi_at h2]
  obtain ⟨e1, e2, e3⟩ := h k h1
  rw [e1, e2, e3]

end Go.Proofs.YtignkplogkaigaaDoor

/-! A new memory of few cells is a list. -/
namespace Go.Proofs.YtignkplogkaigaaDoor
open Go.RowKit Dg Go.Maps

theorem Tryd.infoI32 : (Tryd.prog.info? 21).map (fun i => (i.zero, i.size, i.bytes)) = some (some (.int .i32 0), 1, 4) := by kernel_rfl
theorem madeCells_I (n : Nat) : madeCells #[Value.int .i32 0] n = ((List.replicate n 0).map I32).toArray := by
  apply Array.ext'
  rw [toList_madeCells_one]
  simp [I32]

end Go.Proofs.YtignkplogkaigaaDoor

/-! The truth table of an operation. -/
namespace Go.Proofs.YtignkplogkaigaaDoor
open Go.RowKit Dg St

/-- a function of three truths that turns no world -/
def Op3 (f : Nat) (T : Nat) : Prop := (∀ (args : Array Value) (w : World), Sem.run Tryd.prog (callFunc f args) w = .ok (.enter f args) w) ∧ ∀ (p q r : Bool) (w : World), Calls Tryd.prog f #[.bool p, .bool q, .bool r] w fun e w' => e = .returned (.bool (tt T p q r)) ∧ w = w'

/-- the bits of a row -/
theorem row_bits : ∀ k : Nat, k < 8 → (bits .and .i64 (k : Int) 1 != 0) = k.testBit 0 ∧ (bits .and .i64 (k : Int) 2 != 0) = k.testBit 1 ∧ (bits .and .i64 (k : Int) 4 != 0) = k.testBit 2 := by decide +kernel

theorem ret_u8 {a b : Int} (h : a = b) : Ending.returned (.int .u8 a) = .returned (.int .u8 b) := by rw [h]
theorem row_num : ∀ k : Nat, k < 8 → (k.testBit 0).toNat + 2 * (k.testBit 1).toNat + 4 * (k.testBit 2).toNat = k := by decide +kernel
theorem tstep0 : ∀ T : Nat, T < 256 → ∀ k : Nat, k < 8 → T.testBit k = false → T % 2 ^ (k + 1) = T % 2 ^ k := by decide +kernel
theorem tstep1 : ∀ T : Nat, T < 256 → ∀ k : Nat, k < 8 → T.testBit k = true → bits .or .u8 ((T % 2 ^ k : Nat) : Int) ((2 : Int) ^ k % 256) = ((T % 2 ^ (k + 1) : Nat) : Int) := by decide +kernel

end Go.Proofs.YtignkplogkaigaaDoor

/-! The reference's unique: the number of a branch in a list of different branches, and the list with it. -/
namespace Go.Proofs.YtignkplogkaigaaDoor
open Go.RowKit Dg Go.Maps

theorem own_below {w w' : World} {base e size n : Nat} {v : Value} {xs : List Value} (h : w.ownsRow base e size v n xs) (hb : Below w.heap.size w w') : w'.ownsRow base e size v n xs :=
  h.kept (row := none) ⟨hb.os, hb.tape, hb.output, hb.size, fun k hk _ => hb.block k hk⟩ (by rcases h0 : v.ownBlock with _ | _ <;> simp)
/-- a branch is put in, or the side where both are equal -/
def unq (M : List Br) (b : Br) : List Br × Nat := if b.2.1 = b.2.2 then (M, b.2.1) else ins M b
theorem unq_eq {M : List Br} {x y : Nat} : unq M (x, y, y) = (M, y) := if_pos rfl
theorem unq_ne {M : List Br} {x y z : Nat} (h : y ≠ z) : unq M (x, y, z) = ins M (x, y, z) := if_neg h
/-- what unique answers: the list's slice and the number -/
def Unq (w w' : World) (base : Nat) (v : Value) (M : List Br) (r : Nat) (e : Ending) : Prop := ∃ v', e = .returned (.tuple #[v', .int .i64 (r : Int)]) ∧ w'.ownsRow base 96 3 v' M.length (flat M) ∧
  Chg (fun k => v.ownBlock = some k) w w' ∧ (∀ k, v'.ownBlock = some k → v.ownBlock = some k ∨ w.heap.size ≤ k)
theorem Unq.same {w w' : World} {base : Nat} {v : Value} {M : List Br} {r : Nat} (h : w.ownsRow base 96 3 v M.length (flat M)) (hb : Below w.heap.size w w') : Unq w w' base v M r (.returned (.tuple #[v, .int .i64 (r : Int)])) :=
  ⟨v, rfl, own_below h hb, Chg.of_below hb, fun _ e => .inl e⟩

theorem ret_vi {v : Value} {a b : Int} (h : a = b) : Ending.returned (.tuple #[v, .int .i64 a]) = .returned (.tuple #[v, .int .i64 b]) := by rw [h]

set_option maxHeartbeats 4000000 in
set_option maxRecDepth 100000 in
theorem uni_eq (base m c x y : Nat) (M : List Br) (A : Option Addr) (w : World) (ho : Hid (w.ownsRow base 96 3 (.slice A m c) M.length (flat M))) :
    Calls Tryd.prog 108 #[.slice A m c, .agg #[.int .i64 (x : Int), .int .i64 (y : Int), .int .i64 (y : Int)]] w fun e w' => Unq w w' base (.slice A m c) (unq M (x, y, y)).1 (unq M (x, y, y)).2 e := by
  rw [unq_eq]
  have b1 := Lib.hid ((Below.refl w.heap.size w).alloc (Nat.le_refl _) (.cells #[.int .i64 (x : Int), .int .i64 (y : Int), .int .i64 (y : Int)] 96))
  have hyy : ((y : Int) == (y : Int)) = true := by simp
  go_enter Tryd.func108, Tryd.ntmps108
  go_wp2
  go_quiet (fail)
  go_wp2
  go_ret2
  exact Unq.same ho.out (below_drewN b1.out _)

set_option maxHeartbeats 4000000 in
set_option maxRecDepth 100000 in
theorem uni_ne (base m c x y z : Nat) (M : List Br) (A : Option Addr) (w : World) (ho : Hid (w.ownsRow base 96 3 (.slice A m c) M.length (flat M))) (hm : Hid (M.length = m)) (hm2 : m < 1000000000) (hbase : base ≤ w.heap.size) (hyz : Hid (y ≠ z)) :
    Calls Tryd.prog 108 #[.slice A m c, .agg #[.int .i64 (x : Int), .int .i64 (y : Int), .int .i64 (z : Int)]] w fun e w' => Unq w w' base (.slice A m c) (unq M (x, y, z)).1 (unq M (x, y, z)).2 e := by
  rw [unq_ne hyz.out]
  have b1 := (Below.refl w.heap.size w).alloc (Nat.le_refl _) (.cells #[.int .i64 (x : Int), .int .i64 (y : Int), .int .i64 (z : Int)] 96)
  have hne : ((y : Int) == (z : Int)) = false := beq_eq_false_iff_ne.2 (by have := hyz.out; omega)
  obtain ⟨i0, hi, hz0, hz1, hz2⟩ := info_parts Tryd.infoBr
  have hrd : Rd w w.heap.size A (up M) := by
    obtain ⟨A', c', e, _, h⟩ := own_rd ho.out
    rw [Value.slice.injEq] at e
    rw [e.1]; exact h
  have HR := Lib.hid hrd
  have HB1 := Lib.hid b1
  have R0 := Below.refl (w.heap.size + 1) (w.alloc (.cells #[.int .i64 (x : Int), .int .i64 (y : Int), .int .i64 (z : Int)] 96))
  clear b1 hrd
  go_enter Tryd.func108, Tryd.ntmps108
  go_wp2
  go_loopw [6] (fun i wr => ∃ k : Nat, k ≤ m ∧ i = .int .i64 k ∧ Hid (NoN M (x, y, z) k) ∧ Hid (Below (w.heap.size + 1) (w.alloc (.cells #[.int .i64 (x : Int), .int .i64 (y : Int), .int .i64 (z : Int)] 96)) wr)) (fun i _ => m - (intOf i).toNat)
  case atStart => exact ⟨0, Nat.zero_le _, rfl, fun j hj => absurd hj (by omega), R0⟩
  case round =>
    obtain ⟨k, hk, rfl, hno, hbl⟩ := hrel
    have hbb := HB1.out.trans (hbl.out.mono (Nat.le_succ _))
    have x1 : wr.cell? ⟨w.heap.size, 0, none⟩ = some (.int .i64 (x : Int)) := by rw [hbl.out.cell (p := ⟨w.heap.size, 0, none⟩) (Nat.lt_succ_self _)]; go_simp
    have x2 : wr.cell? ⟨w.heap.size, 1, none⟩ = some (.int .i64 (y : Int)) := by rw [hbl.out.cell (p := ⟨w.heap.size, 1, none⟩) (Nat.lt_succ_self _)]; go_simp
    have x3 : wr.cell? ⟨w.heap.size, 2, none⟩ = some (.int .i64 (z : Int)) := by rw [hbl.out.cell (p := ⟨w.heap.size, 2, none⟩) (Nat.lt_succ_self _)]; go_simp
    by_cases hlt : k < m
    · obtain ⟨b', o', e, hb, hc⟩ := (HR.out.below hbb) (by rw [up_len, hm.out]; omega)
      subst e
      obtain ⟨d1, d2, d3⟩ := hc k (by rw [up_len, hm.out]; exact hlt)
      rw [iv_up] at d1
      rw [il_up] at d2
      rw [ih_up] at d3
      have hidx := fun h1 h2 h3 => hno.out.idx (x := (x, y, z)) (by rw [hm.out]; exact hlt) h1 h2 h3
      have hnx : ∀ hne : ¬ (x = bv M k ∧ y = bl M k ∧ z = bh M k), NoN M (x, y, z) (k + 1) := fun hne j hj => by
        rcases Nat.lt_or_ge j k with h | h
        · exact hno.out j h
        · rw [show j = k by omega]; exact hne
      have HNX := Lib.hid hnx
      have HIDX := Lib.hid hidx
      have HBB := Lib.hid hbb
      have i1 : (0 : Int) ≤ (k : Int) := by omega
      have i2 : (k : Int) < (m : Int) := by omega
      clear hnx hidx hc hbb
      generalize bv M k = V at *
      generalize bl M k = L at *
      generalize bh M k = H at *
      have heq := fun W : World => run_eql_br W (V : Int) (L : Int) (H : Int) (x : Int) (y : Int) (z : Int)
      by_cases q : x = V ∧ y = L ∧ z = H
      · have hq : ((V : Int) == (x : Int) && ((L : Int) == (y : Int) && (H : Int) == (z : Int))) = true := by simp [q.1, q.2.1, q.2.2]
        have HQ := Lib.hid (HIDX.out q.1 q.2.1 q.2.2)
        rw [hq] at heq
        clear q hq
        go_wp2
        go_quiet (fail)
        go_wp2
        go_ret2
        have h := Unq.same (r := k + 2) ho.out (below_drewN HBB.out (by assumption))
        rw [ins_in HQ.out.1, HQ.out.2]
        first | exact h | exact Unq.same (r := k + 2) ho.out (below_drewN HBB.out _)
      · have hq : ((V : Int) == (x : Int) && ((L : Int) == (y : Int) && (H : Int) == (z : Int))) = false := by
          rcases h : ((V : Int) == (x : Int) && ((L : Int) == (y : Int) && (H : Int) == (z : Int))) with _ | _
          · rfl
          · simp at h; exact absurd ⟨by omega, by omega, by omega⟩ q
        have HN := Lib.hid (HNX.out q)
        rw [hq] at heq
        clear q hq
        go_wp2
        go_quiet (fail)
        go_wp2
        go_roundw
        case rel => exact ⟨k + 1, by omega, by go_num, HN, below_drewN hbl.out _⟩
        case measure => simp [intOf]; omega
    · obtain rfl : k = m := by omega
      have hnot : Hid ((x, y, z) ∉ M) := NoN.not (by rw [hm.out]; exact hno.out)
      have HBB := Lib.hid hbb
      have hown : wr.ownsRow base 96 3 (.slice A k c) k (flat M) := by
        have := own_below ho.out HBB.out
        rwa [hm.out] at this
      have HO := Lib.hid hown
      clear hbb hown
      go_wp2_with (refine wpList_append_lies _ rfl _ _ _ rfl base 96 i0 _ 3 24 Tryd.underlying38 hi hz0 hz1 hz2 rfl (by omega) (.slice A k c) k (flat M) rfl (HO.out.alloc _) _ _ _ (c3 x y z) rfl rfl (World.news_of_block (heap_alloc_new _ _)) (by simp [c3, Value.oneCell']) (by omega) (by simp only [maxLen]; omega) (by omega) (by have := HBB.out.size; simp; omega) _ rfl ?_; intro gn cap w1 hown hgrow hat hlt')
      go_ret2
      rw [ins_not hnot.out]
      have hl : (M ++ [(x, y, z)]).length = k + 1 := by rw [List.length_append, hm.out]; rfl
      refine ⟨.slice (some ⟨gn, 0, none⟩) (k + 1) cap, ret_vi (by show (k : Int) + 1 + 1 = ((M.length + 2 : Nat) : Int); rw [hm.out]; omega), ?_, ?_, ?_⟩
      · show w1.ownsRow base 96 3 (.slice (some ⟨gn, 0, none⟩) (k + 1) cap) (M ++ [(x, y, z)]).length (flat (M ++ [(x, y, z)]))
        rw [hl, flat_snoc]
        exact hown
      · exact (Chg.of_below (HBB.out.alloc HBB.out.size _)).trans (T := fun q => (Value.slice A k c).ownBlock = some q) (Chg.of_grown hgrow (fun q e => e)) (fun j _ e => e)
      · intro q e
        simp only [Value.ownBlock, Option.some.injEq] at e
        subst e
        rcases hat with e | e
        · exact .inl e
        · refine .inr ?_
          rw [e]; have := HBB.out.size; simp; omega

/-- unique of any branch -/
theorem uni_any (base x y z : Nat) (v : Value) (M : List Br) (w : World) (ho : Hid (w.ownsRow base 96 3 v M.length (flat M))) (hm2 : Hid (M.length < 1000000000)) (hbase : base ≤ w.heap.size) :
    Calls Tryd.prog 108 #[v, .agg #[.int .i64 (x : Int), .int .i64 (y : Int), .int .i64 (z : Int)]] w fun e w' => Unq w w' base v (unq M (x, y, z)).1 (unq M (x, y, z)).2 e := by
  obtain ⟨A, c, rfl, _, _⟩ := own_rd ho.out
  by_cases h : y = z
  · subst h
    exact uni_eq base _ c x y M A w ho
  · exact uni_ne base M.length c x y z M A w ho (Lib.hid rfl) hm2.out hbase (Lib.hid h)

end Go.Proofs.YtignkplogkaigaaDoor

/-! The memory of results, while it is a map; and how it becomes a list. -/
namespace Go.Proofs.YtignkplogkaigaaDoor
open Go.RowKit Dg St Go.Maps

theorem Tryd.lawInt : Keyed Tryd.prog 3 := int_keyed Tryd.underlying3
/-- the key of a cell -/
abbrev ck (j : Nat) : Lit := .int .i64 (j : Int)
theorem ck_inj {i j : Nat} (h : ck i = ck j) : i = j := by
  simp only [ck, Lit.int.injEq, true_and] at h; omega
/-- what the map holds: E has 0 for no result, else one more than it -/
structure MpS (n : Nat) (D : DataW Unit) (E : Nat → Nat) : Prop where
  has : ∀ j, j < n → Maps.has D (ck j) = decide (E j ≠ 0)
  at' : ∀ j, j < n → E j ≠ 0 → ∀ zd, D.atKey (ck j) zd = .lit (.int .i32 ((E j : Int) - 1))
  key : ∀ kl, Maps.has D kl = true → ∃ j, j < n ∧ kl = ck j
  small : ∀ j, j < n → E j < 1000000
/-- the memory at cells o, o + 1, o + 2 of block g is the map b -/
structure MP (w : World) (base g o n b : Nat) (D : DataW Unit) (E : Nat → Nat) : Prop where
  cc : w.cell? ⟨g, o, none⟩ = some (.int .i64 (n : Int))
  cp : w.cell? ⟨g, o + 1, none⟩ = some (.map (some b))
  cl : w.cell? ⟨g, o + 2, none⟩ = some (.slice none 0 0)
  fp : w.frozen? ⟨g, o + 1, none⟩ = false
  fl : w.frozen? ⟨g, o + 2, none⟩ = false
  own : w.ownsMap Tryd.prog 3 (plainElem Tryd.prog 21) b (Maps.size D) D
  sp : MpS n D E
  ne : b ≠ g
  bl : base ≤ b

/-- the bound on a map's entries is their number -/
theorem own_tight {w : World} {k : TypeId} {R : Value → Option (DataW Unit × List MemPlace)} {b n : Nat} {D : DataW Unit} (h : w.ownsMap Tryd.prog k R b n D) : w.ownsMap Tryd.prog k R b (Maps.size D) D := by
  obtain ⟨es, clock, hb, F, hs, hD⟩ := h
  refine ⟨es, clock, hb, F, ?_, hD⟩
  rw [hD]
  show es.size ≤ (((es.toList.map (Go.WideElems.rg Tryd.prog k R)).foldr DataW.insert []) : List (Lit × DataW Unit)).length
  rw [length_read]; exact Nat.le_refl _

theorem wf_ck {j : Nat} (h : j < 9223372036854775808) : (Lit.int .i64 (j : Int)).wf = true := by
  simp [Lit.wf, IntKind.min, IntKind.max, IntKind.signed, IntKind.bits]; omega
theorem ck_key {j : Nat} (h : j < 9223372036854775808) : keyOf Tryd.prog 3 (.int .i64 (j : Int)) = some (ck j) := keyOf_int_mk Tryd.underlying3 (wf_ck h)
theorem ck_lit {j : Nat} (h : j < 9223372036854775808) : WideAt.IsKeyLit (ck j) := Tryd.lawInt.key (ck_key h)
/-- a put that the map takes -/
theorem MpS.put {n j r : Nat} {D : DataW Unit} {E : Nat → Nat} (h : MpS n D E) (hD : IsMap D) (hj : j < n) (hn : n ≤ 1000000000000) (hr : r < 999999) : MpS n (D.put (ck j) (.lit (.int .i32 (r : Int)))) (upd E j (r + 1)) := by
  have hl := ck_lit (j := j) (by omega)
  refine ⟨fun i hi => ?_, fun i hi hne zd => ?_, fun kl hk => ?_, fun i hi => ?_⟩
  · unfold upd
    by_cases e : i = j
    · subst e
      rw [has_put_same hD hl, if_pos rfl]; rfl
    · rw [has_put_other (fun q => e (ck_inj q)), if_neg e]; exact h.has i hi
  · unfold upd at hne ⊢
    by_cases e : i = j
    · subst e
      rw [atKey_put_same hD hl, if_pos rfl]
      congr 2
      push_cast; omega
    · rw [if_neg e] at hne ⊢
      rw [atKey_put_other (fun q => e (ck_inj q))]
      exact h.at' i hi hne zd
  · by_cases e : kl = ck j
    · exact ⟨j, hj, e⟩
    · rw [has_put_other e] at hk
      exact h.key kl hk
  · unfold upd
    split
    · omega
    · exact h.small i hi

/-- the list that the map has become so far: what is still to come is missing -/
def lst (n : Nat) (E : Nat → Nat) (left : Lit → Bool) : List Nat := (List.range n).map fun j => if left (ck j) then 0 else E j
theorem lst_len (n : Nat) (E : Nat → Nat) (left : Lit → Bool) : (lst n E left).length = n := by unfold lst; simp
theorem lst_at {n j : Nat} {E : Nat → Nat} {left : Lit → Bool} (h : j < n) : (lst n E left).getD j 0 = if left (ck j) then 0 else E j := by
  unfold lst
  rw [List.getD_eq_getElem?_getD, List.getElem?_map, List.getElem?_range h]; rfl
theorem lst_get {n i : Nat} {E : Nat → Nat} {left : Lit → Bool} (h : i < (lst n E left).length) : (lst n E left)[i] = if left (ck i) then 0 else E i := by simp [lst]
theorem lst_start {n : Nat} {D : DataW Unit} {E : Nat → Nat} (h : MpS n D E) : lst n E (Maps.has D) = List.replicate n 0 := by
  apply List.ext_getElem
  · rw [lst_len]; simp
  · intro i h1 h2
    rw [lst_get, List.getElem_replicate]
    rw [lst_len] at h1
    rw [h.has i h1]
    by_cases e : E i = 0
    · simp [e]
    · simp [e]
theorem lst_step {n j : Nat} {E : Nat → Nat} {left : Lit → Bool} (_h : j < n) : lst n E (fun z => left z && !z.sameKey (ck j)) = (lst n E left).set j (E j) := by
  apply List.ext_getElem
  · rw [List.length_set, lst_len, lst_len]
  · intro i h1 h2
    rw [List.getElem_set, lst_get, lst_get]
    by_cases e : j = i
    · subst e
      simp [Lit.sameKey]
    · have : (ck i).sameKey (ck j) = false := by
        simp [Lit.sameKey]; omega
      rw [if_neg e, this]
      simp
theorem lst_end {n : Nat} {E : Nat → Nat} {left : Lit → Bool} (h : ∀ kl, left kl = false) {j : Nat} (hj : j < n) : (lst n E left).getD j 0 = E j := by rw [lst_at hj, h]; rfl

theorem MP.below {w w' : World} {base g o n b : Nat} {D : DataW Unit} {E : Nat → Nat} (h : MP w base g o n b D E) (hb : Below w.heap.size w w') : MP w' base g o n b D E := by
  have hg : g < w.heap.size := block_lt_of_cell h.cc
  exact ⟨(hb.cell (p := ⟨g, o, none⟩) hg).trans h.cc, (hb.cell (p := ⟨g, o + 1, none⟩) hg).trans h.cp, (hb.cell (p := ⟨g, o + 2, none⟩) hg).trans h.cl, (hb.frozen (p := ⟨g, o + 1, none⟩) hg).trans h.fp, (hb.frozen (p := ⟨g, o + 2, none⟩) hg).trans h.fl,
    h.own.kept (row := none) ⟨hb.os, hb.tape, hb.output, hb.size, fun k hk _ => hb.block k hk⟩ (by simp), h.sp, h.ne, h.bl⟩
/-- while the map becomes the list L -/
structure Tn (w wr : World) (g o n b L : Nat) (D : DataW Unit) (E : Nat → Nat) (left : Lit → Bool) : Prop where
  chg : Chg (fun k => k = g) w wr
  cc : wr.cell? ⟨g, o, none⟩ = some (.int .i64 (n : Int))
  cp : wr.cell? ⟨g, o + 1, none⟩ = some (.map (some b))
  cl : wr.cell? ⟨g, o + 2, none⟩ = some (.slice (some ⟨L, 0, none⟩) n n)
  fp : wr.frozen? ⟨g, o + 1, none⟩ = false
  lk : Ck wr L (lst n E left)
  low : ∀ i, i < o → wr.cell? ⟨g, i, none⟩ = w.cell? ⟨g, i, none⟩ ∧ wr.frozen? ⟨g, i, none⟩ = w.frozen? ⟨g, i, none⟩
  hl : ∀ kl, left kl = true → Maps.has D kl = true
  hL : w.heap.size ≤ L
  hg : g < w.heap.size
/-- the iterator alone turns -/
theorem Tn.grown {w wr w1 : World} {g o n b L r : Nat} {D : DataW Unit} {E : Nat → Nat} {left : Lit → Bool} (h : Tn w wr g o n b L D E left) (hg1 : wr.grownBy w1 (some r)) (hr : w.heap.size ≤ r) (hrL : r ≠ L) : Tn w w1 g o n b L D E left := by
  have hgr : g ≠ r := by have := h.hg; omega
  have hgl : g < wr.heap.size := block_lt_of_cell h.cc
  have hk : w1.heap[g]? = wr.heap[g]? := hg1.block g hgl (fun e => hgr (Option.some.inj e))
  have hc := fun i => World.cell?_of_block (w := wr) (w' := w1) (a := ⟨g, i, none⟩) hk
  have hf := fun i => World.frozen?_of_block (w := wr) (w' := w1) (a := ⟨g, i, none⟩) hk
  exact ⟨⟨hg1.os.trans h.chg.os, hg1.tape.trans h.chg.tape, hg1.output.trans h.chg.output, Nat.le_trans h.chg.size hg1.size, fun k hk hn => (hg1.block k (Nat.lt_of_lt_of_le hk h.chg.size) (fun e => by have := Option.some.inj e; omega)).trans (h.chg.block k hk hn)⟩,
    (hc _).trans h.cc, (hc _).trans h.cp, (hc _).trans h.cl, (hf _).trans h.fp, (hg1.block L h.lk.lt (fun e => hrL (Option.some.inj e).symm)).trans h.lk, fun i hi => ⟨(hc i).trans (h.low i hi).1, (hf i).trans (h.low i hi).2⟩, h.hl, h.hL, h.hg⟩
theorem Tn.store {w wr : World} {g o n b L i : Nat} {D : DataW Unit} {E : Nat → Nat} {left : Lit → Bool} (h : Tn w wr g o n b L D E left) (hi : i < n) : Tn w (wr.setCell ⟨L, i, none⟩ (.int .i32 ((E i : Nat) : Int))) g o n b L D E (fun z => left z && !z.sameKey (ck i)) := by
  have hgL : g ≠ L := by have := h.hg; have := h.hL; omega
  have hk : (wr.setCell ⟨L, i, none⟩ (.int .i32 ((E i : Nat) : Int))).heap[g]? = wr.heap[g]? := Below.heap_setCell wr ⟨L, i, none⟩ _ g hgL
  have hc := fun i => World.cell?_of_block (w := wr) (a := ⟨g, i, none⟩) hk
  have hf := fun i => World.frozen?_of_block (w := wr) (a := ⟨g, i, none⟩) hk
  refine ⟨h.chg.trans (T := fun k => k = L) ⟨rfl, rfl, rfl, by simp [World.setCell], fun k _ hn => Below.heap_setCell wr ⟨L, i, none⟩ _ k (fun e => hn e)⟩ (fun q hq e => by have := h.hL; omega), (hc _).trans h.cc, (hc _).trans h.cp, (hc _).trans h.cl, (hf _).trans h.fp, ?_, fun i hi => ⟨(hc i).trans (h.low i hi).1, (hf i).trans (h.low i hi).2⟩, fun kl hk => h.hl kl (by simp only [Bool.and_eq_true] at hk; exact hk.1), h.hL, h.hg⟩
  rw [lst_step hi]
  exact h.lk.set_ i (E i)
theorem ranges_store {w : World} {k : TypeId} {R : Value → Option (DataW Unit × List MemPlace)} {b r n cnt : Nat} {D : DataW Unit} {left : Lit → Bool} (h : w.ranges Tryd.prog k R b r n D left cnt) {p : Addr} (hb : b ≠ p.block) (hr : r ≠ p.block) (u : Value) : (w.setCell p u).ranges Tryd.prog k R b r n D left cnt :=
  h.kept (row := some p.block) ⟨rfl, rfl, rfl, by simp [World.setCell], fun q _ hn => Below.heap_setCell _ _ _ _ (fun e => hn (by rw [e]))⟩ (fun e => hb (Option.some.inj e)) (fun e => hr (Option.some.inj e))

/-- a new memory: a list, or a map -/
def NewM (w w' : World) (n L : Nat) (mv lv : Value) : Prop := w.heap.size ≤ L ∧
  ((mv = .map none ∧ lv = .slice (some ⟨L, 0, none⟩) n n ∧ Ck w' L (List.replicate n 0)) ∨ (mv = .map (some L) ∧ lv = .slice none 0 0 ∧ w'.ownsMap Tryd.prog 3 (plainElem (H := Unit) Tryd.prog 21) L 0 (.map [])))
/-- the memory at cells o, o + 1, o + 2 of block g, its own block b: 0 for no result, else one more -/
def Mm (w : World) (base g o n b : Nat) (E : Nat → Nat) : Prop := n ≤ 1000000000000 ∧ ((∃ l : List Nat, ML w base g o n b l ∧ ∀ j, j < n → E j = l.getD j 0) ∨ ∃ D, MP w base g o n b D E)
theorem Mm.lt {w : World} {base g o n b : Nat} {E : Nat → Nat} (h : Mm w base g o n b E) : b < w.heap.size := by
  rcases h.2 with ⟨l, hl, _⟩ | ⟨D, hm⟩
  · exact hl.blk.lt
  · exact hm.own.lt
theorem Mm.ge {w : World} {base g o n b : Nat} {E : Nat → Nat} (h : Mm w base g o n b E) : base ≤ b := by
  rcases h.2 with ⟨l, hl, _⟩ | ⟨D, hm⟩
  · exact hl.bl
  · exact hm.bl
theorem Mm.ne {w : World} {base g o n b : Nat} {E : Nat → Nat} (h : Mm w base g o n b E) : b ≠ g := by
  rcases h.2 with ⟨l, hl, _⟩ | ⟨D, hm⟩
  · exact hl.ne
  · exact hm.ne
/-- it stays while its three cells and its own block stay -/
theorem Mm.keepC {w w' : World} {base g o n b : Nat} {E : Nat → Nat} (h : Mm w base g o n b E) (h0 : w'.cell? ⟨g, o, none⟩ = w.cell? ⟨g, o, none⟩) (h1 : w'.cell? ⟨g, o + 1, none⟩ = w.cell? ⟨g, o + 1, none⟩) (h2 : w'.cell? ⟨g, o + 2, none⟩ = w.cell? ⟨g, o + 2, none⟩)
    (f1 : w'.frozen? ⟨g, o + 1, none⟩ = w.frozen? ⟨g, o + 1, none⟩) (f2 : w'.frozen? ⟨g, o + 2, none⟩ = w.frozen? ⟨g, o + 2, none⟩) (hb : w'.heap[b]? = w.heap[b]?) : Mm w' base g o n b E := by
  refine ⟨h.1, ?_⟩
  rcases h.2 with ⟨l, hl, he⟩ | ⟨D, hm⟩
  · exact .inl ⟨l, ⟨h0.trans hl.cc, h2.trans hl.cl, hb.trans hl.blk, hl.len, hl.small, hl.ne, hl.bl⟩, he⟩
  · obtain ⟨es, clock, hh, hr⟩ := hm.own
    exact .inr ⟨D, ⟨h0.trans hm.cc, h1.trans hm.cp, h2.trans hm.cl, f1.trans hm.fp, f2.trans hm.fl, ⟨es, clock, hb.trans hh, hr⟩, hm.sp, hm.ne, hm.bl⟩⟩
theorem Mm.keep {w w' : World} {base g o n b : Nat} {E : Nat → Nat} (h : Mm w base g o n b E) (hg : w'.heap[g]? = w.heap[g]?) (hb : w'.heap[b]? = w.heap[b]?) : Mm w' base g o n b E :=
  h.keepC (World.cell?_of_block (w := w) hg) (World.cell?_of_block (w := w) hg) (World.cell?_of_block (w := w) hg) (World.frozen?_of_block (w := w) hg) (World.frozen?_of_block (w := w) hg) hb

end Go.Proofs.YtignkplogkaigaaDoor

/-! A block whose cells are known, as a function. -/
namespace Go.Proofs.YtignkplogkaigaaDoor
open Go.RowKit Dg St

/-- the first n cells of block g are F, and may be written -/
def Blk (w : World) (g n : Nat) (F : Nat → Value) : Prop := ∀ i, i < n → w.cell? ⟨g, i, none⟩ = some (F i) ∧ w.frozen? ⟨g, i, none⟩ = false
/-- one cell more is known -/
def fup (F : Nat → Value) (i : Nat) (v : Value) : Nat → Value := fun j => if j = i then v else F j
theorem fup_same (F : Nat → Value) (i : Nat) (v : Value) : fup F i v i = v := if_pos rfl
theorem fup_ne (F : Nat → Value) {i j : Nat} (v : Value) (h : j ≠ i) : fup F i v j = F j := if_neg h
theorem Blk.keep {w w' : World} {g n : Nat} {F : Nat → Value} (h : Blk w g n F) (hk : w'.heap[g]? = w.heap[g]?) : Blk w' g n F := fun i hi =>
  ⟨(World.cell?_of_block (w := w) hk).trans (h i hi).1, (World.frozen?_of_block (w := w) hk).trans (h i hi).2⟩
theorem Blk.lt {w : World} {g n : Nat} {F : Nat → Value} (h : Blk w g n F) (hn : 0 < n) : g < w.heap.size := block_lt_of_cell (h 0 hn).1
theorem Blk.below {w w' : World} {g n : Nat} {F : Nat → Value} (h : Blk w g n F) (hn : 0 < n) (hb : Below w.heap.size w w') : Blk w' g n F := h.keep (hb.block g (h.lt hn))
theorem Blk.alloc {w : World} {g n : Nat} {F : Nat → Value} (h : Blk w g n F) (hn : 0 < n) (o : Obj) : Blk (w.alloc o) g n F := h.below hn ((Below.refl _ _).alloc (Nat.le_refl _) o)
theorem Blk.other {w : World} {g n : Nat} {F : Nat → Value} (h : Blk w g n F) {p : Addr} (hp : p.block ≠ g) (u : Value) : Blk (w.setCell p u) g n F := h.keep (Below.heap_setCell _ _ _ _ (fun e => hp e.symm))
theorem Blk.set {w : World} {g n i : Nat} {F : Nat → Value} (h : Blk w g n F) (hi : i < n) (v : Value) : Blk (w.setCell ⟨g, i, none⟩ v) g n (fup F i v) := fun j hj => by
  refine ⟨?_, by rw [World.frozen?_setCell]; exact (h j hj).2⟩
  by_cases e : j = i
  · subst e
    rw [fup_same]
    exact World.cell?_setCell_same _ _ _ (h j hj).1
  · rw [fup_ne _ _ e, cell_set_off _ _ _ _ _ e]
    exact (h j hj).1
theorem Blk.congr {w : World} {g n : Nat} {F F' : Nat → Value} (h : Blk w g n F) (e : ∀ i, i < n → F i = F' i) : Blk w g n F' := fun i hi => ⟨(h i hi).1.trans (by rw [e i hi]), (h i hi).2⟩
theorem Blk.new {w : World} {H : Nat} (hH : w.heap.size = H) (l : List Value) (T : Nat) : Blk (w.alloc (.cells l.toArray T)) H l.length (fun i => l.getD i undef) := fun i hi => by
  subst hH
  have hb := heap_alloc_new w (.cells l.toArray T)
  refine ⟨?_, frozen_of_row _ _ i _ _ hb⟩
  rw [cell_of_row _ _ i _ _ _ hb]
  simp [hi]

end Go.Proofs.YtignkplogkaigaaDoor
