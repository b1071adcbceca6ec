/-
  Plain mathematics and contracts of package diagram, several texts in one: FRp.
-/
import Derived.Test.YtignkplogkaigaaDoorFk
import Derived.Test.YtignkplogkaigaaDoorFg
import Derived.BigQuiet

/-! The reference's parser in memory; put and next. (Written by rpgen.py.) -/
namespace Go.Proofs.YtignkplogkaigaaDoor
open Go.RowKit Dg St
set_option linter.unusedVariables false
set_option linter.unusedSimpArgs false
attribute [local go_sem ↓] Go.wp_at_zero Go.wp_at_succ

/-- the list at cell 3 of block g -/
structure RoM (w : World) (B g : Nat) (vf : Value) (l : List Fi) : Prop where
  cf : w.cell? ⟨g, 3, none⟩ = some vf
  ff : w.frozen? ⟨g, 3, none⟩ = false
  rf : w.ownsRow B 53 4 vf l.length (fiC l)
  gf : vf.ownBlock ≠ some g
  gb : B ≤ g
theorem RoM.lt {w : World} {B g : Nat} {vf : Value} {l : List Fi} (h : RoM w B g vf l) : g < w.heap.size := block_lt_of_cell (a := ⟨g, 3, none⟩) h.cf
theorem RoM.keep {w w' : World} {B g : Nat} {vf : Value} {l : List Fi} (h : RoM w B g vf l) (hb : Below w.heap.size w w') : RoM w' B g vf l := by
  have hg := h.lt
  refine ⟨(hb.cell (p := ⟨g, 3, none⟩) hg).trans h.cf, (hb.frozen (p := ⟨g, 3, none⟩) hg).trans h.ff, ?_, h.gf, h.gb⟩
  exact h.rf.kept (row := none) ⟨hb.os, hb.tape, hb.output, hb.size, fun k hk _ => hb.block k hk⟩ (by rcases h0 : vf.ownBlock with _ | _ <;> simp)
/-- from w to w' the list became l; nothing else but it has changed -/
structure RoE (w w' : World) (B g : Nat) (vf vf' : Value) (l : List Fi) : Prop where
  m : RoM w' B g vf' l
  chg : Chg (fun k => k = g ∨ vf.ownBlock = some k) w w'
  cel : ∀ j, j ≠ 3 → w'.cell? ⟨g, j, none⟩ = w.cell? ⟨g, j, none⟩
  frz : ∀ j, w'.frozen? ⟨g, j, none⟩ = w.frozen? ⟨g, j, none⟩
  obf : ∀ k, vf'.ownBlock = some k → vf.ownBlock = some k ∨ w.heap.size ≤ k
section
variable {w w' w1 w2 w3 : World} {B g : Nat} {vf vf1 vf2 : Value} {l l1 l2 : List Fi}
theorem RoE.trans (h : RoE w w1 B g vf vf1 l1) (k : RoE w1 w2 B g vf1 vf2 l2) : RoE w w2 B g vf vf2 l2 := by
  refine ⟨k.m, h.chg.trans k.chg ?_, fun j h1 => (k.cel j h1).trans (h.cel j h1), fun j => (k.frz j).trans (h.frz j), ?_⟩
  · rintro j hj (e | e)
    · exact .inl e
    · rcases h.obf j e with q | q
      · exact .inr q
      · omega
  · intro j e
    rcases k.obf j e with q | q
    · exact h.obf j q
    · have := h.chg.size; exact .inr (by omega)
theorem RoE.same (h : RoM w B g vf l) (hb : Below w.heap.size w w') : RoE w w' B g vf vf l :=
  ⟨h.keep hb, Chg.of_below hb, fun j _ => hb.cell (p := ⟨g, j, none⟩) h.lt, fun j => hb.frozen (p := ⟨g, j, none⟩) h.lt, fun _ e => .inl e⟩
/-- the nodes have grown, and are stored -/
theorem RoM.node {gn cap : Nat} {x : Fi} (h : RoM w B g vf l) (hb : Below w.heap.size w w2) (hown : w3.ownsRow B 53 4 (.slice (some ⟨gn, 0, none⟩) (l.length + 1) cap) (l.length + 1) (fiC l ++ c4 x)) (hgr : w2.grownBy w3 vf.ownBlock) (hat : vf.ownBlock = some gn ∨ w.heap.size ≤ gn) :
    RoE w (w3.setCell ⟨g, 3, none⟩ (.slice (some ⟨gn, 0, none⟩) (l.length + 1) cap)) B g vf (.slice (some ⟨gn, 0, none⟩) (l.length + 1) cap) (l ++ [x]) := by
  have hg := h.lt
  have hgn : gn ≠ g := by
    rcases hat with e | e
    · exact fun e2 => h.gf (by rw [e, e2])
    · omega
  have far : ∀ a : Addr, a.block < w.heap.size → some a.block ≠ vf.ownBlock → w3.cell? a = w.cell? a ∧ w3.frozen? a = w.frozen? a := fun a ha hne =>
    ⟨(hgr.cell_far a (Nat.lt_of_lt_of_le ha hb.size) hne).trans (hb.cell ha), (hgr.frozen_far a (Nat.lt_of_lt_of_le ha hb.size) hne).trans (hb.frozen ha)⟩
  have fg := fun j => far ⟨g, j, none⟩ hg (Ne.symm h.gf)
  have hset := grown_set w3 g 3 (.slice (some ⟨gn, 0, none⟩) (l.length + 1) cap)
  refine ⟨⟨World.cell?_setCell_same _ _ _ ((fg 3).1.trans h.cf), ?_, ?_, ?_, h.gb⟩, ?_, ?_, ?_, ?_⟩
  · rw [World.frozen?_setCell]; exact (fg 3).2.trans h.ff
  · rw [fiC_snoc, List.length_append]
    exact hown.kept hset (.inr (by simp [Value.ownBlock, hgn]))
  · simp [Value.ownBlock, hgn]
  · exact Chg.set ((Chg.of_below hb).trans (T := fun k => vf.ownBlock = some k) (Chg.of_grown hgr (fun k e => e)) (fun j _ e => .inr e)) (.inl rfl) _
  · intro j h1
    rw [cell_set_off _ _ _ _ _ h1]; exact (fg j).1
  · intro j
    rw [World.frozen?_setCell]; exact (fg j).2
  · intro k e
    simp [Value.ownBlock] at e
    subst e
    exact hat
theorem RoE.below (h : RoM w B g vf l) (e : RoE w w' B g vf vf1 l1) : Below B w w' := by
  refine e.chg.below (by have := h.lt; have := h.gb; omega) (fun k hk => ?_)
  rintro (e1 | e1)
  · have := h.gb; omega
  · have := (h.rf.lt k e1).1; omega
end
/-- what a method of the parser's list leaves -/
def RdO (w w' : World) (B g : Nat) (vf : Value) (l : List Fi) : Prop := ∃ vf', RoE w w' B g vf vf' l
theorem rdO_trans {w w1 w2 : World} {B g : Nat} {vf vf1 : Value} {l1 l2 : List Fi} (h : RoE w w1 B g vf vf1 l1) (k : RdO w1 w2 B g vf1 l2) : RdO w w2 B g vf l2 := by
  obtain ⟨vf2, hk⟩ := k
  exact ⟨vf2, h.trans hk⟩

set_option maxHeartbeats 4000000 in
set_option maxRecDepth 100000 in
theorem rput (B g n : Nat) (vf : Value) (p q r s : Int) (l : List Fi) (w : World) (h : Hid (RoM w B g vf l)) (hl : Hid (l.length = n)) (hn1 : n ≤ 100000) :
    Calls Tryd.prog 71 #[.pointer (some ⟨g, 0, none⟩), .agg #[.int .i64 p, .int .i64 q, .int .i64 r, .int .i64 s]] w fun e w' => e = .returned (.int .i64 (n : Int)) ∧ RdO w w' B g vf (l ++ [(p, q, r, s)]) := by
  obtain ⟨i0, hi, hz0, hz1, hz2⟩ := info_parts Tryd.infoFn
  have HSZ : Hid (B ≤ w.heap.size) := Lib.hid (by have := h.out.lt; have := h.out.gb; omega)
  have HB1 : Hid (Below w.heap.size w (w.alloc (.cells #[.int .i64 p, .int .i64 q, .int .i64 r, .int .i64 s] 53))) := Lib.hid ((Below.refl _ _).alloc (Nat.le_refl _) _)
  obtain ⟨Af, cf, ef, hcf, _⟩ := own_form h.out.rf
  rw [hl.out] at ef
  subst ef
  have hbw : w.heap.size < (w.alloc (.cells #[.int .i64 p, .int .i64 q, .int .i64 r, .int .i64 s] 53)).heap.size := by simp
  have HX := Lib.hid (heap_alloc_new w (.cells #[.int .i64 p, .int .i64 q, .int .i64 r, .int .i64 s] 53))
  clear hcf
  go_enter Tryd.func71, Tryd.ntmps71
  go_upto_region 1 with fail
  have E2 := Lib.hid (RoE.same h.out HB1.out)
  generalize w.alloc (.cells #[.int .i64 p, .int .i64 q, .int .i64 r, .int .i64 s] 53) = w1 at *
  generalize hb : w.heap.size = b at *
  have HL1 : Hid (w.heap.size = b) := Lib.hid hb
  clear hb
  obtain ⟨u0, u1, u2, u3⟩ := bx4 HX.out
  have c0 := E2.out.m.cf
  have f0 := E2.out.m.ff
  have HO : Hid (w1.ownsRow B 53 4 (.slice Af n cf) n (fiC l)) := Lib.hid (by have := E2.out.m.rf; rw [hl.out] at this; exact this)
  have hgl := E2.out.m.lt
  have hgn : ¬ g = w1.heap.size := by omega
  have hbn : ¬ b = w1.heap.size := by omega
  have hsz2 : B ≤ w1.heap.size := by have := HSZ.out; omega
  have hvg : (Value.slice Af n cf).ownBlock ≠ some g := E2.out.m.gf
  go_region_law ((refine step_append_lies _ (by rfl) _ _ _ (by rfl) B 53 i0 _ 4 32 Tryd.underlying23 hi hz0 hz1 hz2 rfl (by omega) (.slice Af n cf) n (fiC l) (by rfl) (by first | exact HO.out.alloc_own _ | exact HO.out.alloc_own2 _) _ _ _ (c4 (p, q, r, s)) (by rfl) (by rfl) (World.news_of_block (heap_alloc_new _ _)) (by simp [c4, Value.oneCell']) (by omega) (by simp only [maxLen]; omega) (by omega) (by simp; omega) _ rfl ?_; intro gn cap w4 hown hgrow hat hlt; have d1 := (hgrow.cell_far ⟨g, 3, none⟩ (by simp; omega) (Ne.symm hvg)).trans (show _ = some (Value.slice Af n cf) by go_simp); have e1 := (hgrow.frozen_far ⟨g, 3, none⟩ (by simp; omega) (Ne.symm hvg)).trans (show _ = false by go_simp)))
  all_goals
    have hE := RoM.node E2.out.m (by first | exact ((Below.refl _ _).alloc (Nat.le_refl _) _).drew | exact (Below.refl _ _).drew.alloc (Nat.le_refl _) _) (by rw [hl.out]; exact hown) hgrow (hat.imp id (fun e => by rw [e]; simp))
    rw [hl.out] at hE
    have E3 := Lib.hid (E2.out.trans hE)
    clear hE hown hgrow hat hlt d1 e1 c0 f0 u0 u1 u2 u3 HO
    generalize hw5 : World.setCell _ ⟨g, 3, none⟩ (.slice (some ⟨gn, 0, none⟩) (n + 1) cap) = w5 at *
    clear hw5
    have c1 := E3.out.m.cf
    go_wp2
    go_ret
    exact ⟨rfl, _, E3.out⟩

/-- the parser in block g, from B on: names, tokens, place, nodes, bad, unknown -/
structure RpM (w : World) (B g : Nat) (vn vl vf : Value) (N : List Fi) (a : Nat) (bad u : Bool) : Prop where
  o : RoM w B g vf N
  c0 : w.cell? ⟨g, 0, none⟩ = some vn
  c1 : w.cell? ⟨g, 1, none⟩ = some vl
  c2 : w.cell? ⟨g, 2, none⟩ = some (.int .i64 (a : Int))
  c4 : w.cell? ⟨g, 4, none⟩ = some (.bool bad)
  c5 : w.cell? ⟨g, 5, none⟩ = some (.bool u)
  f2 : w.frozen? ⟨g, 2, none⟩ = false
  f4 : w.frozen? ⟨g, 4, none⟩ = false
  f5 : w.frozen? ⟨g, 5, none⟩ = false
section
variable {w w' : World} {B g : Nat} {vn vl vf vf' : Value} {N N' : List Fi} {a : Nat} {bad u : Bool}
theorem RpM.keep (h : RpM w B g vn vl vf N a bad u) (hb : Below w.heap.size w w') : RpM w' B g vn vl vf N a bad u := by
  have hg := h.o.lt
  have c := fun j => hb.cell (p := ⟨g, j, none⟩) hg
  have f := fun j => hb.frozen (p := ⟨g, j, none⟩) hg
  exact ⟨h.o.keep hb, (c 0).trans h.c0, (c 1).trans h.c1, (c 2).trans h.c2, (c 4).trans h.c4, (c 5).trans h.c5, (f 2).trans h.f2, (f 4).trans h.f4, (f 5).trans h.f5⟩
theorem RpM.node (h : RpM w B g vn vl vf N a bad u) (e : RoE w w' B g vf vf' N') : RpM w' B g vn vl vf' N' a bad u :=
  ⟨e.m, (e.cel 0 (by omega)).trans h.c0, (e.cel 1 (by omega)).trans h.c1, (e.cel 2 (by omega)).trans h.c2, (e.cel 4 (by omega)).trans h.c4, (e.cel 5 (by omega)).trans h.c5, (e.frz 2).trans h.f2, (e.frz 4).trans h.f4, (e.frz 5).trans h.f5⟩
theorem RoM.aside (h : RoM w B g vf N) {j : Nat} (h1 : j ≠ 3) (v : Value) : RoM (w.setCell ⟨g, j, none⟩ v) B g vf N := by
  have hset := grown_set w g j v
  refine ⟨?_, ?_, h.rf.kept hset (.inr h.gf), h.gf, h.gb⟩
  · rw [cell_set_off _ _ _ _ _ (by omega)]; exact h.cf
  · rw [World.frozen?_setCell]; exact h.ff
theorem RpM.go (h : RpM w B g vn vl vf N a bad u) (b : Nat) : RpM (w.setCell ⟨g, 2, none⟩ (.int .i64 (b : Int))) B g vn vl vf N b bad u := by
  refine ⟨h.o.aside (by omega) _, ?_, ?_, World.cell?_setCell_same _ _ _ h.c2, ?_, ?_, ?_, ?_, ?_⟩
  · rw [cell_set_off _ _ _ _ _ (by omega)]; exact h.c0
  · rw [cell_set_off _ _ _ _ _ (by omega)]; exact h.c1
  · rw [cell_set_off _ _ _ _ _ (by omega)]; exact h.c4
  · rw [cell_set_off _ _ _ _ _ (by omega)]; exact h.c5
  · rw [World.frozen?_setCell]; exact h.f2
  · rw [World.frozen?_setCell]; exact h.f4
  · rw [World.frozen?_setCell]; exact h.f5
theorem RpM.fail (h : RpM w B g vn vl vf N a bad u) : RpM (w.setCell ⟨g, 4, none⟩ (.bool true)) B g vn vl vf N a true u := by
  refine ⟨h.o.aside (by omega) _, ?_, ?_, ?_, World.cell?_setCell_same _ _ _ h.c4, ?_, ?_, ?_, ?_⟩
  · rw [cell_set_off _ _ _ _ _ (by omega)]; exact h.c0
  · rw [cell_set_off _ _ _ _ _ (by omega)]; exact h.c1
  · rw [cell_set_off _ _ _ _ _ (by omega)]; exact h.c2
  · rw [cell_set_off _ _ _ _ _ (by omega)]; exact h.c5
  · rw [World.frozen?_setCell]; exact h.f2
  · rw [World.frozen?_setCell]; exact h.f4
  · rw [World.frozen?_setCell]; exact h.f5
theorem RpM.unk (h : RpM w B g vn vl vf N a bad u) : RpM (w.setCell ⟨g, 5, none⟩ (.bool true)) B g vn vl vf N a bad true := by
  refine ⟨h.o.aside (by omega) _, ?_, ?_, ?_, ?_, World.cell?_setCell_same _ _ _ h.c5, ?_, ?_, ?_⟩
  · rw [cell_set_off _ _ _ _ _ (by omega)]; exact h.c0
  · rw [cell_set_off _ _ _ _ _ (by omega)]; exact h.c1
  · rw [cell_set_off _ _ _ _ _ (by omega)]; exact h.c2
  · rw [cell_set_off _ _ _ _ _ (by omega)]; exact h.c4
  · rw [World.frozen?_setCell]; exact h.f2
  · rw [World.frozen?_setCell]; exact h.f4
  · rw [World.frozen?_setCell]; exact h.f5
end
/-- what stays for the parser: the names and the tokens, below B -/
structure RpK (w : World) (B : Nat) (NA TA : Option Addr) (L TL : List ByteArray) : Prop where
  n : Rstr w B NA L
  t : Rstr w B TA TL
  z : ∀ j, (sg TL j).size ≤ 1000000
theorem RpK.below {w w' : World} {B : Nat} {NA TA : Option Addr} {L TL : List ByteArray} (h : RpK w B NA TA L TL) (hb : Below B w w') : RpK w' B NA TA L TL := ⟨h.n.below hb, h.t.below hb, h.z⟩

set_option maxHeartbeats 4000000 in
set_option maxRecDepth 100000 in
/-- the next token is the one that is asked for -/
theorem rnext_yes (B g n nc m mc a : Nat) (NA TA : Option Addr) (L TL : List ByteArray) (t : ByteArray) (vf : Value) (N : List Fi) (bad u : Bool) (w : World) (h : Hid (RpM w B g (.slice NA n nc) (.slice TA m mc) vf N a bad u)) (hk : Hid (RpK w B NA TA L TL)) (hm : Hid (TL.length = m)) (hm6 : m ≤ 1000000) (ha : a < m) (ht : sg TL a = t) :
    Calls Tryd.prog 70 #[.pointer (some ⟨g, 0, none⟩), .string t] w fun e w' => e = .returned (.bool true) ∧ RpM w' B g (.slice NA n nc) (.slice TA m mc) vf N (a + 1) bad u ∧ Below B w w' := by
  obtain ⟨b, o, eA, hb, hc⟩ := hk.out.t (by rw [hm.out]; omega)
  subst eA
  have d0 := hc a (by rw [hm.out]; exact ha)
  rw [ht] at d0
  have c1 := h.out.c1
  have c2 := h.out.c2
  have f2 := h.out.f2
  have hg := h.out.o.lt
  have hgb := h.out.o.gb
  have i1 : (a : Int) < (m : Int) := by omega
  have i2 : (0 : Int) ≤ (a : Int) := by omega
  have hbg : ¬ b = g := by omega
  have HR := Lib.hid (fun nq => (h.out.keep (below_drewN (Below.refl w.heap.size w) nq)).go (a + 1))
  have HB := Lib.hid (fun nq => (below_drewN (Below.refl B w) nq).setCell (p := ⟨g, 2, none⟩) hgb (.int .i64 (((a + 1 : Nat)) : Int)))
  rw [show (((a + 1 : Nat)) : Int) = (a : Int) + 1 by omega] at HR HB
  clear hc h ht
  go_enter Tryd.func70, Tryd.ntmps70
  go_wp2
  go_quiet (fail)
  go_wp2
  go_ret
  exact ⟨rfl, HR.out _, HB.out _⟩
set_option maxHeartbeats 4000000 in
set_option maxRecDepth 100000 in
/-- the next token is another one, or there is none -/
theorem rnext_no (B g n nc m mc a : Nat) (NA TA : Option Addr) (L TL : List ByteArray) (t : ByteArray) (vf : Value) (N : List Fi) (bad u : Bool) (w : World) (h : Hid (RpM w B g (.slice NA n nc) (.slice TA m mc) vf N a bad u)) (hk : Hid (RpK w B NA TA L TL)) (hm : Hid (TL.length = m)) (hm6 : m ≤ 1000000) (ht : a < m → sg TL a ≠ t) :
    Calls Tryd.prog 70 #[.pointer (some ⟨g, 0, none⟩), .string t] w fun e w' => e = .returned (.bool false) ∧ Below w.heap.size w w' := by
  have c1 := h.out.c1
  have c2 := h.out.c2
  have hg := h.out.o.lt
  have hgb := h.out.o.gb
  by_cases ha : a < m
  · obtain ⟨b, o, eA, hb, hc⟩ := hk.out.t (by rw [hm.out]; omega)
    subst eA
    have d0 := hc a (by rw [hm.out]; exact ha)
    have i1 : (a : Int) < (m : Int) := by omega
    have i2 : (0 : Int) ≤ (a : Int) := by omega
    have q1 : ((sg TL a).toList == t.toList) = false := beq_eq_false_iff_ne.2 (fun e => ht ha (tl_inj e))
    clear hc h ht
    go_enter Tryd.func70, Tryd.ntmps70
    go_wp2
    go_quiet (fail)
    go_wp2
    go_ret
    exact ⟨rfl, below_drewN (Below.refl _ _) _⟩
  · have i1 : decide ((a : Int) < (m : Int)) = false := decide_eq_false (by omega)
    clear h ht
    go_enter Tryd.func70, Tryd.ntmps70
    go_wp2
    go_quiet (fail)
    go_wp2
    go_ret
    exact ⟨rfl, below_drewN (Below.refl _ _) _⟩

end Go.Proofs.YtignkplogkaigaaDoor
