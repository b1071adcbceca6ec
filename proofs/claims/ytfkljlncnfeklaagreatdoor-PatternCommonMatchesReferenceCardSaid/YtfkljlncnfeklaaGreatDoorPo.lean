/-
  Plain mathematics and contracts of package diagram, several texts in one: XSo, XAv.
-/
import Derived.Test.YtfkljlncnfeklaaGreatDoorPv
import Derived.Test.YtfkljlncnfeklaaGreatDoorPn
import Derived.Shelf.SlSortCmp.WholeK

/-! slices.SortFunc at the search's pairs: the shelf's contract at this translation. -/
namespace Go.Proofs.YtfkljlncnfeklaaGreatDoor
open Go.RowKit Go.Shelf Go.Lib Go.Sort
set_option linter.unusedVariables false
set_option linter.unusedSimpArgs false

set_option maxRecDepth 100000 in
def sortPr_ren : Go.Shelf.Ren := ⟨fun | 6 => 87 | 15 => 99 | 14 => 98 | 28 => 115 | 29 => 116 | 20 => 107 | 21 => 108 | 22 => 109 | 23 => 110 | 24 => 111 | 25 => 112 | 26 => 113 | 27 => 114 | 46 => 120 | 47 => 121 | 48 => 122 | 49 => 123 | 50 => 124 | 57 => 125 | n => n, fun | 22 => 120 | 24 => 148 | 25 => 151 | 3 => 3 | 39 => 141 | 0 => 0 | 53 => 172 | 55 => 93 | 4 => 4 | 46 => 166 | 45 => 165 | 50 => 27 | 5 => 5 | 9 => 9 | 66 => 173 | 70 => 177 | 76 => 179 | 77 => 180 | n => n, fun | n => n⟩
theorem sortPr : Go.Proofs.SlLaysF0.n6 Tryz.prog sortPr_ren := {
  mixed := by kernel_rfl
  f6 := Exists.intro "slices.SortFunc[[]koine/pattern.pair,koine/pattern.pair]" ⟨by decide, Tryz.func87.trans (congrArg some (by kernel_rfl))⟩
  f14 := Exists.intro "slices.pdqsortCmpFunc[koine/pattern.pair]" ⟨by decide, Tryz.func98.trans (congrArg some (by kernel_rfl))⟩
  f15 := Tryz.func99.trans (congrArg some (by kernel_rfl))
  f20 := Exists.intro "slices.insertionSortCmpFunc[koine/pattern.pair]" ⟨by decide, Tryz.func107.trans (congrArg some (by kernel_rfl))⟩
  f21 := Exists.intro "slices.heapSortCmpFunc[koine/pattern.pair]" ⟨by decide, Tryz.func108.trans (congrArg some (by kernel_rfl))⟩
  f22 := Exists.intro "slices.breakPatternsCmpFunc[koine/pattern.pair]" ⟨by decide, Tryz.func109.trans (congrArg some (by kernel_rfl))⟩
  f23 := Exists.intro "slices.choosePivotCmpFunc[koine/pattern.pair]" ⟨by decide, Tryz.func110.trans (congrArg some (by kernel_rfl))⟩
  f24 := Exists.intro "slices.reverseRangeCmpFunc[koine/pattern.pair]" ⟨by decide, Tryz.func111.trans (congrArg some (by kernel_rfl))⟩
  f25 := Exists.intro "slices.partialInsertionSortCmpFunc[koine/pattern.pair]" ⟨by decide, Tryz.func112.trans (congrArg some (by kernel_rfl))⟩
  f26 := Exists.intro "slices.partitionEqualCmpFunc[koine/pattern.pair]" ⟨by decide, Tryz.func113.trans (congrArg some (by kernel_rfl))⟩
  f27 := Exists.intro "slices.partitionCmpFunc[koine/pattern.pair]" ⟨by decide, Tryz.func114.trans (congrArg some (by kernel_rfl))⟩
  f28 := Tryz.func115.trans (congrArg some (by kernel_rfl))
  f29 := Tryz.func116.trans (congrArg some (by kernel_rfl))
  f46 := Exists.intro "slices.siftDownCmpFunc[koine/pattern.pair]" ⟨by decide, Tryz.func120.trans (congrArg some (by kernel_rfl))⟩
  f47 := Tryz.func121.trans (congrArg some (by kernel_rfl))
  f48 := Tryz.func122.trans (congrArg some (by kernel_rfl))
  f49 := Exists.intro "slices.medianAdjacentCmpFunc[koine/pattern.pair]" ⟨by decide, Tryz.func123.trans (congrArg some (by kernel_rfl))⟩
  f50 := Exists.intro "slices.medianCmpFunc[koine/pattern.pair]" ⟨by decide, Tryz.func124.trans (congrArg some (by kernel_rfl))⟩
  f57 := Exists.intro "slices.order2CmpFunc[koine/pattern.pair]" ⟨by decide, Tryz.func125.trans (congrArg some (by kernel_rfl))⟩
  t0 := Tryz.underlying0
  a0 := Tryz.isAgg0
  z0 := Tryz.sizeOf0
  v0 := Tryz.zeroValue0
  t3 := Tryz.underlying3
  a3 := Tryz.isAgg3
  z3 := Tryz.sizeOf3
  v3 := Tryz.zeroValue3
  t4 := Tryz.underlying4
  a4 := Tryz.isAgg4
  z4 := Tryz.sizeOf4
  v4 := Tryz.zeroValue4
  t5 := Tryz.underlying5
  a5 := Tryz.isAgg5
  z5 := Tryz.sizeOf5
  v5 := Tryz.zeroValue5
  t9 := Tryz.underlying9
  a9 := Tryz.isAgg9
  z9 := Tryz.sizeOf9
  v9 := Tryz.zeroValue9
  t22 := Tryz.underlying120
  a22 := Tryz.isAgg120
  z22 := Tryz.sizeOf120
  v22 := Tryz.zeroValue120
  t25 := Tryz.underlying151
  a25 := Tryz.isAgg151
  z25 := Tryz.sizeOf151
  v25 := Tryz.zeroValue151
  t39 := Tryz.underlying141
  a39 := Tryz.isAgg141
  z39 := Tryz.sizeOf141
  v39 := Tryz.zeroValue141
  t45 := Tryz.underlying165
  a45 := Tryz.isAgg165
  z45 := Tryz.sizeOf165
  v45 := Tryz.zeroValue165
  t46 := Tryz.underlying166
  a46 := Tryz.isAgg166
  z46 := Tryz.sizeOf166
  v46 := Tryz.zeroValue166
  t50 := Tryz.underlying27
  a50 := Tryz.isAgg27
  z50 := Tryz.sizeOf27
  v50 := Tryz.zeroValue27
  t53 := Tryz.underlying172
  a53 := Tryz.isAgg172
  z53 := Tryz.sizeOf172
  v53 := Tryz.zeroValue172
  t55 := Tryz.underlying93
  a55 := Tryz.isAgg93
  z55 := Tryz.sizeOf93
  v55 := Tryz.zeroValue93
  t66 := Tryz.underlying173
  a66 := Tryz.isAgg173
  z66 := Tryz.sizeOf173
  v66 := Tryz.zeroValue173
  t70 := Tryz.underlying177
  a70 := Tryz.isAgg177
  z70 := Tryz.sizeOf177
  v70 := Tryz.zeroValue177
  t76 := Tryz.underlying179
  a76 := Tryz.isAgg179
  z76 := Tryz.sizeOf179
  v76 := Tryz.zeroValue179
  t77 := Tryz.underlying180
  a77 := Tryz.isAgg180
  z77 := Tryz.sizeOf180
  v77 := Tryz.zeroValue180 }

section
variable (a b : Rx)
def encP (x : Nat × Nat) : List Value := [.int .i64 (x.1 : Int), .int .i64 (x.2 : Int), .int .i64 (leN a b x : Int)]
def cfP (x y : Nat × Nat) : Int := cpI (leN a b x : Int) (leN a b y : Int)
theorem ltP (x y : Nat × Nat) : ltOf (cfP a b) x y = decide (leN a b x < leN a b y) := by
  unfold ltOf cfP cpI
  by_cases h1 : leN a b x < leN a b y
  · have : (leN a b x : Int) < (leN a b y : Int) := by omega
    simp [h1, this]
  · have h2 : ¬ (leN a b x : Int) < (leN a b y : Int) := by omega
    rw [if_neg h2]
    by_cases h3 : (leN a b y : Int) < (leN a b x : Int) <;> simp [h1, h3]
theorem swoP : SWO (ltOf (cfP a b)) where
  irrefl x := by rw [ltP]; simp
  trans x y z h1 h2 := by rw [ltP] at *; simp at *; omega
  ntrans x y z h1 h2 := by rw [ltP] at *; simp at *; omega
theorem flat_prC (d : Array (Nat × Nat)) : (flatK (encP a b) 3 d).toList = prC a b d.toList := by
  apply List.ext_getElem
  · rw [prC_len, Array.length_toList, size_flatK, Array.length_toList]
  · intro t h1 h2
    have ht : t < d.size * 3 := by simpa using h1
    have hi : t / 3 < d.size := by omega
    have e1 := get_flatK (encP a b) 3 d t ht
    rw [getElem!_pos _ t (by simpa using ht)] at e1
    rw [Array.getElem_toList, e1, getElem!_pos d _ hi]
    obtain ⟨p0, p1, p2⟩ := prC_at a b d.toList (i := t / 3) (x := d[t / 3]) (by simp [hi])
    have e2 : (prC a b d.toList)[t]? = some ((prC a b d.toList)[t]) := List.getElem?_eq_getElem h2
    rcases (show t % 3 = 0 ∨ t % 3 = 1 ∨ t % 3 = 2 by omega) with e | e | e
    · rw [e]
      rw [show t / 3 * 3 = t by omega, e2] at p0
      exact (Option.some.inj p0).symm
    · rw [e]
      rw [show t / 3 * 3 + 1 = t by omega, e2] at p1
      exact (Option.some.inj p1).symm
    · rw [e]
      rw [show t / 3 * 3 + 2 = t by omega, e2] at p2
      exact (Option.some.inj p2).symm
/-- by their least bytes -/
def srtP (l : List (Nat × Nat)) : Prop := ∀ (i j : Nat) (x y : Nat × Nat), i < j → l[i]? = some x → l[j]? = some y → leN a b x ≤ leN a b y
end
theorem sort_any (a b : Rx) (H g n c : Nat) (l : List (Nat × Nat)) (w : World) (h : w.ownsRow H 148 3 (.slice (some ⟨g, 0, none⟩) n c) n (prC a b l)) (hl : l.length = n) (hn : n < 4611686018427387904) :
    Calls Tryz.prog 87 #[.slice (some ⟨g, 0, none⟩) n c, .func (.func 88) #[] #[]] w fun e w' => e = .returned (.tuple #[]) ∧ ∃ l', l'.Perm l ∧ srtP a b l' ∧ w'.ownsRow H 148 3 (.slice (some ⟨g, 0, none⟩) n c) n (prC a b l') ∧ Go.RowKit.Below H w w' := by
  subst hl
  have hB := World.ownsRow.lt h g rfl
  have hH : HoldsK (encP a b) 3 w g 0 l.toArray := fun j hj => by
    have hj' : j < l.length * 3 := by simpa using hj
    rw [Nat.zero_add]
    refine ⟨?_, World.ownsRow.frozenAt h _⟩
    rw [World.ownsRow.cellAt h j hj', ← (show (flatK (encP a b) 3 l.toArray).toList = prC a b l from flat_prC a b l.toArray)]
    have : j < (flatK (encP a b) 3 l.toArray).size := hj
    rw [Array.getElem?_toList, Array.getElem?_eq_getElem this, getElem!_pos _ j this]
    rfl
  have eg : ∀ args w, (callFunc 88 args).run Tryz.prog w = .ok (.enter 88 args) w := enters_of Tryz.func88 (by kernel_rfl) rfl
  have hcmp : CmpLays Tryz.prog 88 #[] (encP a b) 3 (cfP a b) g 0 l.toArray.size w := fun m os dk _ x y =>
    (bylow_any _ _ _ _ _ _ _).mono (fun e w' h => by
      obtain ⟨h1, rfl⟩ := h
      exact ⟨h1, 0, _, by rw [alloc_eq_grow, alloc_eq_grow, grow_grow]; rfl⟩)
  have hS := AnyQ.slices_SortFunc sortPr 3 Tryz.isAgg148 Tryz.sizeOf148 (encP a b) (fun _ => rfl) (fun x v hv => by simp [encP] at hv; rcases hv with rfl | rfl | rfl <;> rfl) (cfP a b) (swoP a b) 88 #[] g 0 c l.toArray w eg hcmp hH hB.2 (by simpa using hn)
  refine hS.mono ?_
  rintro e w' ⟨he, d', m, os, ⟨h1, _, h2⟩, h3, rfl⟩
  have hsz : d'.size = l.length := by simpa using h1
  refine ⟨he, d'.toList, ?_, ?_, ?_, ?_⟩
  · have e1 : (d'.extract 0 l.toArray.size) = d' := by
      rw [← h1]; exact Array.extract_size
    have e2 : (l.toArray.extract 0 l.toArray.size) = l.toArray := Array.extract_size
    rw [e1, e2] at h2
    simpa using h2
  · intro i j x y hij hx hy
    have hj : j < d'.size := by
      have := (List.getElem?_eq_some_iff.1 hy).1
      simpa using this
    have h4 := h3 i j (Nat.zero_le _) hij (by simpa [hsz] using hj)
    rw [ltP, getElem!_pos d' j hj, getElem!_pos d' i (by omega)] at h4
    have ex : d'[i]'(by omega) = x := by
      rw [Array.getElem?_toList, Array.getElem?_eq_getElem (by omega : i < d'.size)] at hx
      exact Option.some.inj hx
    have ey : d'[j] = y := by
      rw [Array.getElem?_toList, Array.getElem?_eq_getElem hj] at hy
      exact Option.some.inj hy
    rw [ex, ey] at h4
    simpa using h4
  · obtain ⟨_, h5⟩ := h
    rcases h5 with ⟨q, _⟩ | ⟨q, cap, cur, q1, q2, q3, q4, q5, q6, q7⟩
    · cases q
    · injection q1 with q1 _ q8
      injection q1 with q1
      injection q1 with q1 _ _
      subst q1
      subst q8
      refine ⟨by rw [prC_len, Array.length_toList, hsz], .inr ⟨g, c, putCells id 0 (flatK (encP a b) 3 d') cur, rfl, q2, ?_, q4, q5, ?_, ?_⟩⟩
      · have hlt := hB.2
        simp [sortWorldK, putRowK, putRow, mapBlock, grow, Array.getElem?_append, Array.getElem?_modify, hlt, onCells, Sort.ahead] at q3 ⊢
        rw [Array.getElem_modify_self, q3]
        rfl
      · simpa [putCells] using q6
      · rw [← flat_prC]
        apply List.ext_getElem
        · simp [putCells, q6, hsz]; omega
        · intro t k1 k2
          have ht : t < d'.size * 3 := by simpa using k2
          simp [putCells, List.getElem_take, ht]
  · refine ⟨rfl, rfl, rfl, by simp [sortWorldK, putRowK, putRow, mapBlock, grow, Sort.ahead], fun i hi => ?_⟩
    have hne : g ≠ i := by omega
    have hlt : i < w.heap.size := by omega
    simp [sortWorldK, putRowK, putRow, mapBlock, grow, Array.getElem?_append, Array.getElem?_modify, hne, hlt, Sort.ahead]
    rw [Array.getElem_modify_of_ne hne]

end Go.Proofs.YtfkljlncnfeklaaGreatDoor

/-! search.advance. -/
namespace Go.Proofs.YtfkljlncnfeklaaGreatDoor
open Go.RowKit Go.Shelf
set_option linter.unusedVariables false
set_option linter.unusedSimpArgs false
attribute [local go_sem ↓] Go.wp_at_zero Go.wp_at_succ

theorem own_mono {w : World} {B B' e size n : Nat} {v : Value} {xs : List Value} (h : w.ownsRow B e size v n xs) (hB : B' ≤ B) : w.ownsRow B' e size v n xs := by
  obtain ⟨h1, h2 | ⟨g, cap, cur, q1, q2, q3⟩⟩ := h
  · exact ⟨h1, .inl h2⟩
  · exact ⟨h1, .inr ⟨g, cap, cur, q1, Nat.le_trans hB q2, q3⟩⟩
/-- the search in memory: its fronts lie below H -/
structure FrM (w2 W : World) (H mb1 mb2 ab sb n : Nat) (a b : Rx) (ag : List (List Nat)) (vf : Value) (Fs : List Fr) (sn : List (List Nat)) : Prop where
  sr : SrB w2 W mb1 mb2 ab sb n ag sn vf
  fo : W.ownsRow w2.heap.size 153 3 vf Fs.length (frC Fs)
  ps : ∀ f ∈ Fs, W.ownsRow w2.heap.size 148 3 (.slice (some ⟨f.pb, 0, none⟩) f.ps.length f.pc) f.ps.length (prC a b f.ps)
  bv : ∀ k, vf.ownBlock = some k → k < H
  bp : ∀ f ∈ Fs, f.pb < H
  ba : ab < H
  bs : sb < H
  b2 : w2.heap.size < H
  hH : H ≤ W.heap.size
section
variable {w2 W W' : World} {H mb1 mb2 ab sb n : Nat} {a b : Rx} {ag : List (List Nat)} {vf : Value} {Fs : List Fr} {sn sn' : List (List Nat)}
theorem FrM.met (h : FrM w2 W H mb1 mb2 ab sb n a b ag vf Fs sn) (hs : SrB w2 W' mb1 mb2 ab sb n ag sn' vf) (hm : Mw H sb W W') : FrM w2 W' H mb1 mb2 ab sb n a b ag vf Fs sn' := by
  have hsz := hm.size
  have hH := h.hH
  refine ⟨hs, own_block h.fo (fun k hk => hm.block k (h.bv k hk) (fun e => ?_)), fun f hf => own_block (h.ps f hf) (fun k hk => ?_), h.bv, h.bp, h.ba, h.bs, h.b2, by omega⟩
  · subst e
    exact own_ty h.fo h.sr.os.own (by decide) hk rfl
  · have e1 : f.pb = k := Option.some.inj hk
    subst e1
    refine hm.block _ (h.bp f hf) (fun e => ?_)
    exact own_ty (h.ps f hf) h.sr.os.own (by decide) rfl (by rw [e]; rfl)
theorem FrM.up (h : FrM w2 W H mb1 mb2 ab sb n a b ag vf Fs sn) {H' : Nat} (h1 : H ≤ H') (h2 : H' ≤ W.heap.size) : FrM w2 W H' mb1 mb2 ab sb n a b ag vf Fs sn :=
  ⟨h.sr, h.fo, h.ps, fun k hk => Nat.lt_of_lt_of_le (h.bv k hk) h1, fun f hf => Nat.lt_of_lt_of_le (h.bp f hf) h1, Nat.lt_of_lt_of_le h.ba h1, Nat.lt_of_lt_of_le h.bs h1, Nat.lt_of_lt_of_le h.b2 h1, h2⟩
/-- only blocks from H on have changed -/
theorem FrM.below (h : FrM w2 W H mb1 mb2 ab sb n a b ag vf Fs sn) (hb : Below H W W') : FrM w2 W' H mb1 mb2 ab sb n a b ag vf Fs sn := by
  have hH := h.hH
  have hsz := hb.size
  have hb2 := h.b2
  have bl : ∀ k, k < H → W'.heap[k]? = W.heap[k]? := hb.block
  refine ⟨⟨h.sr.bel.trans (hb.mono (by omega)), (bl _ (by omega)).trans h.sr.bx, own_block h.sr.oa.own (fun k hk => bl k ?_), own_block h.sr.os.own (fun k hk => bl k ?_), h.sr.la, h.sr.ls, h.sr.ne⟩, own_block h.fo (fun k hk => bl k (h.bv k hk)), fun f hf => own_block (h.ps f hf) (fun k hk => bl k ?_), h.bv, h.bp, h.ba, h.bs, h.b2, by omega⟩
  · have e1 : ab = k := Option.some.inj hk
    rw [← e1]; exact h.ba
  · have e1 : sb = k := Option.some.inj hk
    rw [← e1]; exact h.bs
  · have e1 : f.pb = k := Option.some.inj hk
    rw [← e1]; exact h.bp f hf
/-- a front comes in -/
theorem FrM.push (h : FrM w2 W H mb1 mb2 ab sb n a b ag vf Fs sn) {Wa : World} (hb : Below W.heap.size W Wa) {g cap : Nat} (f : Fr) (hrow : W.ownsRow w2.heap.size 148 3 (.slice (some ⟨f.pb, 0, none⟩) f.ps.length f.pc) f.ps.length (prC a b f.ps))
    (hown : W'.ownsRow w2.heap.size 153 3 (.slice (some ⟨g, 0, none⟩) (Fs.length + 1) cap) (Fs.length + 1) (frC Fs ++ frC [f])) (hg : Wa.grownBy W' vf.ownBlock) :
    FrM w2 (W'.setCell ⟨w2.heap.size, 4, none⟩ (.slice (some ⟨g, 0, none⟩) (Fs.length + 1) cap)) (W'.setCell ⟨w2.heap.size, 4, none⟩ (.slice (some ⟨g, 0, none⟩) (Fs.length + 1) cap)).heap.size mb1 mb2 ab sb n a b ag (.slice (some ⟨g, 0, none⟩) (Fs.length + 1) cap) (Fs ++ [f]) sn ∧ Below w2.heap.size W (W'.setCell ⟨w2.heap.size, 4, none⟩ (.slice (some ⟨g, 0, none⟩) (Fs.length + 1) cap)) := by
  have hba := hb.size
  have hgs := hg.size
  have hlt := h.sr.lt
  have keep : ∀ k, k < W.heap.size → vf.ownBlock ≠ some k → k ≠ w2.heap.size → (W'.setCell ⟨w2.heap.size, 4, none⟩ (.slice (some ⟨g, 0, none⟩) (Fs.length + 1) cap)).heap[k]? = W.heap[k]? := fun k hk hn h1 =>
    (hp_set W' _ _ _ h1).trans ((hg.block k (by omega) (fun e => hn e.symm)).trans (hb.block k hk))
  have so : ∀ {B T s m : Nat} {u : Value} {xs : List Value}, W.ownsRow B T s u m xs → T ≠ 153 → T ≠ 118 → (W'.setCell ⟨w2.heap.size, 4, none⟩ (.slice (some ⟨g, 0, none⟩) (Fs.length + 1) cap)).ownsRow B T s u m xs := fun q ne n1 =>
    own_block q (fun k hk => keep k (World.ownsRow.lt q k hk).2 (fun e => own_ty h.fo q (fun e => ne e.symm) e hk) (fun e => own_ne q h.sr.bx (fun e => n1 e.symm) (by rw [hk, e])))
  have x1 : Bx W' w2.heap.size _ 118 := (hg.block _ (by omega) (fun e => own_ne h.fo h.sr.bx (by decide) e.symm)).trans ((hb.block _ hlt).trans h.sr.bx)
  have hs' : Below w2.heap.size W (W'.setCell ⟨w2.heap.size, 4, none⟩ (.slice (some ⟨g, 0, none⟩) (Fs.length + 1) cap)) := by
    have b1 : Below w2.heap.size W W' := (hb.mono (by omega)).trans (by
      refine ⟨hg.os, hg.tape, hg.output, hg.size, fun k hk => hg.block k (by omega) (fun e => ?_)⟩
      have := World.ownsRow.lt h.fo k e.symm
      omega)
    exact b1.setCell (p := ⟨w2.heap.size, 4, none⟩) (Nat.le_refl _) _
  have hsz : (W'.setCell ⟨w2.heap.size, 4, none⟩ (.slice (some ⟨g, 0, none⟩) (Fs.length + 1) cap)).heap.size = W'.heap.size := by simp
  have hgl := World.ownsRow.lt hown g rfl
  refine ⟨⟨⟨h.sr.bel.trans hs', heap_set W' _ 4 _ x1, so h.sr.oa.own (by decide) (by decide), so h.sr.os.own (by decide) (by decide), h.sr.la, h.sr.ls, h.sr.ne⟩, ?_, fun f' hf' => ?_, fun k hk => ?_, fun f' hf' => ?_, ?_, ?_, ?_, Nat.le_refl _⟩, hs'⟩
  · rw [frC_app, List.length_append]
    exact own_block hown (fun k hk => hp_set W' _ _ _ (fun e => by
      subst e
      exact own_ne hown x1 (by decide) hk))
  · rcases List.mem_append.1 hf' with q | q
    · exact so (h.ps f' q) (by decide) (by decide)
    · obtain rfl : f' = f := by simpa using q
      exact so hrow (by decide) (by decide)
  · rw [hsz]
    have : g = k := Option.some.inj hk
    omega
  · rw [hsz]
    rcases List.mem_append.1 hf' with q | q
    · have := (World.ownsRow.lt (h.ps f' q) f'.pb rfl).2; omega
    · obtain rfl : f' = f := by simpa using q
      have := (World.ownsRow.lt hrow f'.pb rfl).2; omega
  · rw [hsz]; have := h.sr.oa.lt.2; omega
  · rw [hsz]; have := h.sr.os.lt.2; omega
  · rw [hsz]; omega
end
theorem Tryz.infoFr : (Tryz.prog.info? 153).map (fun i => (i.zero, i.size, i.bytes)) = some (some (.agg #[.int .i64 0, .int .u8 0, .slice none 0 0]), 3, 40) := by kernel_rfl
set_option maxRecDepth 100000 in
set_option maxHeartbeats 4000000 in
theorem advance_any (w2 w : World) (H mb1 mb2 ab sb n c : Nat) (A : Option Addr) (a b : Rx) (ag sn : List (List Nat)) (vf : Value) (Fs : List Fr) (be : Int) (la : UInt8) (tx : List UInt8) (l : List (Nat × Nat)) (hF : Hid (FrM w2 w H mb1 mb2 ab sb n a b ag vf Fs sn))
    (hrow : Hid (w.ownsRow H 148 3 (.slice A l.length c) l.length (prC a b l))) (hl : l.length ≤ 65536) (hFl : Fs.length ≤ 65536) :
    Calls Tryz.prog 69 #[.pointer (some ⟨w2.heap.size, 0, none⟩), .int .i64 be, .int .u8 ((la.toNat : Nat) : Int), .slice A l.length c] w fun e w' => e = .returned (.tuple #[]) ∧ Below w2.heap.size w w' ∧ ((l = [] ∧ w' = w) ∨ (l ≠ [] ∧ ∃ f vf', f.be = be ∧ f.la = la ∧ f.tx = tx ∧ f.ps.Perm l ∧ srtP a b f.ps ∧ FrM w2 w' w'.heap.size mb1 mb2 ab sb n a b ag vf' (Fs ++ [f]) sn)) := by
  obtain ⟨i0, hif, hzf, hzs, hzb⟩ := info_parts Tryz.infoFr
  obtain ⟨A', cf, rfl, _, _⟩ := own_form hF.out.fo
  by_cases h0 : l = []
  · subst h0
    go_enter Tryz.func69, Tryz.ntmps69
    go_wp2
    refine bodyPost_ret (results_none rfl _ _ _) rfl ?_
    exact ⟨by simp, Below.refl _ _, .inl ⟨by simp, by simp⟩⟩
  · have hpos : 0 < l.length := by rcases l with _ | ⟨x, l⟩; exact absurd rfl h0; simp
    obtain ⟨g, cap, e1, _⟩ := World.ownsRow.form hrow.out hpos
    injection e1 with e1 _ e3
    subst e1
    subst e3
    have S := lid' (sort_any a b H g l.length c l w hrow.out rfl (by omega))
    have HL := lid' h0
    have c0 : ((l.length : Int) == 0) = false := by simp; omega
    clear h0
    go_enter Tryz.func69, Tryz.ntmps69
    go_upto_region 2 with (go_at_call 87; with_reducible refine S.out.mono ?_; rintro e w1 ⟨rfl, l', hpm, hsr, hro, hbl⟩)
    have hlen := hpm.length_eq
    have hF1 := lid' (hF.out.below hbl)
    have hH2 := hF.out.b2
    have HR := lid' (own_mono hro (Nat.le_of_lt hF.out.b2))
    have HB := lid' (hbl.mono (Nat.le_of_lt hF.out.b2))
    have y4 := hF1.out.sr.bx.cell 4
    have yf := frozen_of_row _ _ 4 _ _ hF1.out.sr.bx
    simp at y4
    have HPM := lid' hpm
    have HSR := lid' hsr
    have HLE := lid' hlen
    clear hro hbl hpm hsr hlen S
    go_wp2_with (at_builtin; refine wpList_append_lies _ rfl _ _ _ rfl w2.heap.size 153 i0 _ 3 40 Tryz.underlying116 hif hzf hzs hzb rfl (by omega) (.slice A' Fs.length cf) Fs.length (frC Fs) rfl (hF1.out.fo.alloc _) _ _ _ [.int .i64 be, .int .u8 ((la.toNat : Nat) : Int), .slice (some ⟨g, 0, none⟩) l.length c] rfl rfl (World.news_of_block (heap_alloc_new _ _)) (by simp [Value.oneCell']) (by omega) (by simp only [maxLen]; omega) (by omega) (by simp; have := hF1.out.sr.lt; omega) _ rfl ?_)
    intro g2 c2 W4 hown hgrow hat hlt2
    have hbn := (Below.refl w1.heap.size w1).alloc (Nat.le_refl _) (.cells #[.int .i64 be, .int .u8 ((la.toNat : Nat) : Int), .slice (some ⟨g, 0, none⟩) l.length c] 153)
    have hP := lid' (hF1.out.push (f := ⟨be, la, tx, l', g, c⟩) hbn (by show w1.ownsRow _ _ _ (.slice (some ⟨g, 0, none⟩) l'.length c) l'.length (prC a b l'); rw [HLE.out]; exact HR.out) (by show W4.ownsRow _ _ _ _ _ (frC Fs ++ [.int .i64 be, .int .u8 ((la.toNat : Nat) : Int), .slice (some ⟨g, 0, none⟩) l'.length c]); rw [HLE.out]; exact hown) hgrow)
    have x4 := (hgrow.block _ (Nat.lt_of_lt_of_le hF1.out.sr.lt hbn.size) (fun e => own_ne hF1.out.fo hF1.out.sr.bx (by decide) e.symm)).trans ((hbn.block _ hF1.out.sr.lt).trans hF1.out.sr.bx)
    have w4 := frozen_of_row _ _ 4 _ _ x4
    have w5 := cell_of_row _ _ 4 _ _ _ x4
    simp at w5
    clear y4 yf hown hgrow hat hlt2 hbn x4
    go_wp2
    go_end0
    exact ⟨rfl, HB.out.trans hP.out.2, .inr ⟨HL.out, _, _, rfl, rfl, rfl, HPM.out, HSR.out, hP.out.1⟩⟩

end Go.Proofs.YtfkljlncnfeklaaGreatDoor
