/-
  The reference's writer of canonical formulas: put, variable, joined, number. (Written by wrgen.py.)
-/
import Derived.Test.YtkconfadhcomnaaDoorFk
import Derived.Test.YtkconfadhcomnaaDoorFg
import Derived.Test.YtkconfadhcomnaaDoorPWrM
namespace Go.Proofs.YtkconfadhcomnaaDoor
open Go.RowKit Dg St
set_option linter.unusedVariables false
set_option linter.unusedSimpArgs false
attribute [local go_sem ↓] Go.wp_at_zero Go.wp_at_succ

/-- the list at cell 2 of block g -/
structure WoM (w : World) (B g : Nat) (vf : Value) (l : List Fi) : Prop where
  cf : w.cell? ⟨g, 2, none⟩ = some vf
  ff : w.frozen? ⟨g, 2, none⟩ = false
  rf : w.ownsRow B 53 4 vf l.length (fiC l)
  gf : vf.ownBlock ≠ some g
  gb : B ≤ g
theorem WoM.lt {w : World} {B g : Nat} {vf : Value} {l : List Fi} (h : WoM w B g vf l) : g < w.heap.size := block_lt_of_cell (a := ⟨g, 2, none⟩) h.cf
theorem WoM.keep {w w' : World} {B g : Nat} {vf : Value} {l : List Fi} (h : WoM w B g vf l) (hb : Below w.heap.size w w') : WoM w' B g vf l := by
  have hg := h.lt
  refine ⟨(hb.cell (p := ⟨g, 2, none⟩) hg).trans h.cf, (hb.frozen (p := ⟨g, 2, none⟩) hg).trans h.ff, ?_, h.gf, h.gb⟩
  exact h.rf.kept (row := none) ⟨hb.os, hb.tape, hb.output, hb.size, fun k hk _ => hb.block k hk⟩ (by rcases h0 : vf.ownBlock with _ | _ <;> simp)
/-- from w to w' the list became l; nothing else but it has changed -/
structure WoE (w w' : World) (B g : Nat) (vf vf' : Value) (l : List Fi) : Prop where
  m : WoM w' B g vf' l
  chg : Chg (fun k => k = g ∨ vf.ownBlock = some k) w w'
  cel : ∀ j, j ≠ 2 → w'.cell? ⟨g, j, none⟩ = w.cell? ⟨g, j, none⟩
  frz : ∀ j, w'.frozen? ⟨g, j, none⟩ = w.frozen? ⟨g, j, none⟩
  obf : ∀ k, vf'.ownBlock = some k → vf.ownBlock = some k ∨ w.heap.size ≤ k
section
variable {w w' w1 w2 w3 : World} {B g : Nat} {vf vf1 vf2 : Value} {l l1 l2 : List Fi}
theorem WoE.trans (h : WoE w w1 B g vf vf1 l1) (k : WoE w1 w2 B g vf1 vf2 l2) : WoE w w2 B g vf vf2 l2 := by
  refine ⟨k.m, h.chg.trans k.chg ?_, fun j h1 => (k.cel j h1).trans (h.cel j h1), fun j => (k.frz j).trans (h.frz j), ?_⟩
  · rintro j hj (e | e)
    · exact .inl e
    · rcases h.obf j e with q | q
      · exact .inr q
      · omega
  · intro j e
    rcases k.obf j e with q | q
    · exact h.obf j q
    · have := h.chg.size; exact .inr (by omega)
theorem WoE.same (h : WoM w B g vf l) (hb : Below w.heap.size w w') : WoE w w' B g vf vf l :=
  ⟨h.keep hb, Chg.of_below hb, fun j _ => hb.cell (p := ⟨g, j, none⟩) h.lt, fun j => hb.frozen (p := ⟨g, j, none⟩) h.lt, fun _ e => .inl e⟩
/-- the nodes have grown, and are stored -/
theorem WoM.node {gn cap : Nat} {x : Fi} (h : WoM w B g vf l) (hb : Below w.heap.size w w2) (hown : w3.ownsRow B 53 4 (.slice (some ⟨gn, 0, none⟩) (l.length + 1) cap) (l.length + 1) (fiC l ++ c4 x)) (hgr : w2.grownBy w3 vf.ownBlock) (hat : vf.ownBlock = some gn ∨ w.heap.size ≤ gn) :
    WoE w (w3.setCell ⟨g, 2, none⟩ (.slice (some ⟨gn, 0, none⟩) (l.length + 1) cap)) B g vf (.slice (some ⟨gn, 0, none⟩) (l.length + 1) cap) (l ++ [x]) := by
  have hg := h.lt
  have hgn : gn ≠ g := by
    rcases hat with e | e
    · exact fun e2 => h.gf (by rw [e, e2])
    · omega
  have far : ∀ a : Addr, a.block < w.heap.size → some a.block ≠ vf.ownBlock → w3.cell? a = w.cell? a ∧ w3.frozen? a = w.frozen? a := fun a ha hne =>
    ⟨(hgr.cell_far a (Nat.lt_of_lt_of_le ha hb.size) hne).trans (hb.cell ha), (hgr.frozen_far a (Nat.lt_of_lt_of_le ha hb.size) hne).trans (hb.frozen ha)⟩
  have fg := fun j => far ⟨g, j, none⟩ hg (Ne.symm h.gf)
  have hset := grown_set w3 g 2 (.slice (some ⟨gn, 0, none⟩) (l.length + 1) cap)
  refine ⟨⟨World.cell?_setCell_same _ _ _ ((fg 2).1.trans h.cf), ?_, ?_, ?_, h.gb⟩, ?_, ?_, ?_, ?_⟩
  · rw [World.frozen?_setCell]; exact (fg 2).2.trans h.ff
  · rw [fiC_snoc, List.length_append]
    exact hown.kept hset (.inr (by simp [Value.ownBlock, hgn]))
  · simp [Value.ownBlock, hgn]
  · exact Chg.set ((Chg.of_below hb).trans (T := fun k => vf.ownBlock = some k) (Chg.of_grown hgr (fun k e => e)) (fun j _ e => .inr e)) (.inl rfl) _
  · intro j h1
    rw [cell_set_off _ _ _ _ _ h1]; exact (fg j).1
  · intro j
    rw [World.frozen?_setCell]; exact (fg j).2
  · intro k e
    simp [Value.ownBlock] at e
    subst e
    exact hat
theorem WoE.below (h : WoM w B g vf l) (e : WoE w w' B g vf vf1 l1) : Below B w w' := by
  refine e.chg.below (by have := h.lt; have := h.gb; omega) (fun k hk => ?_)
  rintro (e1 | e1)
  · have := h.gb; omega
  · have := (h.rf.lt k e1).1; omega
end
/-- what a method of the writer leaves -/
def WdO (w w' : World) (B g : Nat) (vf : Value) (l : List Fi) : Prop := ∃ vf', WoE w w' B g vf vf' l
theorem wdO_trans {w w1 w2 : World} {B g : Nat} {vf vf1 : Value} {l1 l2 : List Fi} (h : WoE w w1 B g vf vf1 l1) (k : WdO w1 w2 B g vf1 l2) : WdO w w2 B g vf l2 := by
  obtain ⟨vf2, hk⟩ := k
  exact ⟨vf2, h.trans hk⟩

set_option maxHeartbeats 4000000 in
set_option maxRecDepth 100000 in
theorem qput (B g n : Nat) (vf : Value) (p q r s : Int) (l : List Fi) (w : World) (h : Hid (WoM w B g vf l)) (hl : Hid (l.length = n)) (hn1 : n ≤ 512) :
    Calls Tryd.prog 77 #[.pointer (some ⟨g, 0, none⟩), .agg #[.int .i64 p, .int .i64 q, .int .i64 r, .int .i64 s]] w fun e w' => e = .returned (.int .i64 (n : Int)) ∧ WdO w w' B g vf (l ++ [(p, q, r, s)]) := by
  obtain ⟨i0, hi, hz0, hz1, hz2⟩ := info_parts Tryd.infoFn
  have HSZ : Hid (B ≤ w.heap.size) := Lib.hid (by have := h.out.lt; have := h.out.gb; omega)
  have HB1 : Hid (Below w.heap.size w (w.alloc (.cells #[.int .i64 p, .int .i64 q, .int .i64 r, .int .i64 s] 53))) := Lib.hid ((Below.refl _ _).alloc (Nat.le_refl _) _)
  obtain ⟨Af, cf, ef, hcf, _⟩ := own_form h.out.rf
  rw [hl.out] at ef
  subst ef
  have hbw : w.heap.size < (w.alloc (.cells #[.int .i64 p, .int .i64 q, .int .i64 r, .int .i64 s] 53)).heap.size := by simp
  have HX := Lib.hid (heap_alloc_new w (.cells #[.int .i64 p, .int .i64 q, .int .i64 r, .int .i64 s] 53))
  clear hcf
  go_enter Tryd.func77, Tryd.ntmps77
  go_upto_region 1 with fail
  have E2 := Lib.hid (WoE.same h.out HB1.out)
  generalize w.alloc (.cells #[.int .i64 p, .int .i64 q, .int .i64 r, .int .i64 s] 53) = w1 at *
  generalize hb : w.heap.size = b at *
  have HL1 : Hid (w.heap.size = b) := Lib.hid hb
  clear hb
  obtain ⟨u0, u1, u2, u3⟩ := bx4 HX.out
  have c0 := E2.out.m.cf
  have f0 := E2.out.m.ff
  have HO : Hid (w1.ownsRow B 53 4 (.slice Af n cf) n (fiC l)) := Lib.hid (by have := E2.out.m.rf; rw [hl.out] at this; exact this)
  have hgl := E2.out.m.lt
  have hgn : ¬ g = w1.heap.size := by omega
  have hbn : ¬ b = w1.heap.size := by omega
  have hsz2 : B ≤ w1.heap.size := by have := HSZ.out; omega
  have hvg : (Value.slice Af n cf).ownBlock ≠ some g := E2.out.m.gf
  go_region_law ((refine step_append_lies _ (by rfl) _ _ _ (by rfl) B 53 i0 _ 4 32 Tryd.underlying23 hi hz0 hz1 hz2 rfl (by omega) (.slice Af n cf) n (fiC l) (by rfl) (by first | exact HO.out.alloc_own _ | exact HO.out.alloc_own2 _) _ _ _ (c4 (p, q, r, s)) (by rfl) (by rfl) (World.news_of_block (heap_alloc_new _ _)) (by simp [c4, Value.oneCell']) (by omega) (by simp only [maxLen]; omega) (by omega) (by simp; omega) _ rfl ?_; intro gn cap w4 hown hgrow hat hlt; have d1 := (hgrow.cell_far ⟨g, 2, none⟩ (by simp; omega) (Ne.symm hvg)).trans (show _ = some (Value.slice Af n cf) by go_simp); have e1 := (hgrow.frozen_far ⟨g, 2, none⟩ (by simp; omega) (Ne.symm hvg)).trans (show _ = false by go_simp)))
  all_goals
    have hE := WoM.node E2.out.m (by first | exact ((Below.refl _ _).alloc (Nat.le_refl _) _).drew | exact (Below.refl _ _).drew.alloc (Nat.le_refl _) _) (by rw [hl.out]; exact hown) hgrow (hat.imp id (fun e => by rw [e]; simp))
    rw [hl.out] at hE
    have E3 := Lib.hid (E2.out.trans hE)
    clear hE hown hgrow hat hlt d1 e1 c0 f0 u0 u1 u2 u3 HO
    generalize hw5 : World.setCell _ ⟨g, 2, none⟩ (.slice (some ⟨gn, 0, none⟩) (n + 1) cap) = w5 at *
    clear hw5
    have c1 := E3.out.m.cf
    go_wp2
    go_ret
    exact ⟨rfl, _, E3.out⟩

theorem litW_len (v : Nat) (b : Bool) (l : List Fi) : (litW v b l).length = l.length + litK b := by cases b <;> simp [litW, litK]
set_option maxHeartbeats 2000000 in
theorem qvar (B g v : Nat) (b : Bool) (vf : Value) (l : List Fi) (w : World) (h : Hid (WoM w B g vf l)) (hl : l.length + litK b ≤ 512) :
    Calls Tryd.prog 78 #[.pointer (some ⟨g, 0, none⟩), .int .i64 (v : Int), .bool b] w fun e w' => e = .returned (.int .i64 (((litW v b l).length - 1 : Nat) : Int)) ∧ WdO w w' B g vf (litW v b l) := by
  have HN : Hid ((litW v b l).length - 1 = if b then l.length else l.length + 1) := Lib.hid (by rw [litW_len]; cases b <;> simp [litK])
  have HA := Lib.hid (qput B g l.length vf 2 (v : Int) 0 0 l w h (Lib.hid rfl) (by unfold litK at hl; split at hl <;> omega))
  cases b
  · have HB2 : Hid (∀ (W : World) (vf1 : Value), WoM W B g vf1 (l ++ [(2, (v : Int), 0, 0)]) → Calls Tryd.prog 77 #[.pointer (some ⟨g, 0, none⟩), .agg #[.int .i64 3, .int .i64 0, .int .i64 (l.length : Int), .int .i64 0]] W fun e w' => e = .returned (.int .i64 ((l.length : Int) + 1)) ∧ WdO W w' B g vf1 (litW v false l)) := Lib.hid (fun W vf1 h1 => by
      have := qput B g (l.length + 1) vf1 3 0 (l.length : Int) 0 _ W (Lib.hid h1) (Lib.hid (by simp)) (show l.length + 1 ≤ 512 by have h9 : l.length + 2 ≤ 512 := hl; omega)
      exact this)
    have HR : Hid ((((litW v false l).length - 1 : Nat) : Int) = (l.length : Int) + 1) := Lib.hid (by rw [HN.out]; simp)
    clear h hl HN
    generalize litW v false l = LW at *
    rw [HR.out]
    go_enter Tryd.func78, Tryd.ntmps78
    go_wp2_with fail
    with_reducible refine HA.out.mono ?_
    rintro e w2 ⟨rfl, vf1, hE⟩
    have HC := Lib.hid (HB2.out w2 vf1 hE.m)
    have HE := Lib.hid hE
    clear hE HA HB2
    go_wp2_with fail
    with_reducible refine HC.out.mono ?_
    rintro e w3 ⟨rfl, hx⟩
    have HX := Lib.hid (wdO_trans HE.out hx)
    clear hx HC
    go_wp2
    go_ret
    exact ⟨rfl, HX.out⟩
  · have HR : Hid ((((litW v true l).length - 1 : Nat) : Int) = (l.length : Int)) := Lib.hid (by rw [HN.out]; simp)
    rw [HR.out]
    clear h hl HN
    go_enter Tryd.func78, Tryd.ntmps78
    go_wp2_with fail
    with_reducible refine HA.out.mono ?_
    rintro e w2 ⟨rfl, hx⟩
    have HX := Lib.hid hx
    clear hx HA
    go_wp2
    go_ret
    exact ⟨rfl, HX.out⟩

/-- the contract of number at a number, whatever the state -/
abbrev NuC (w0 : World) (B g : Nat) (vn : Value) (F : List Fi → List Fi) (k r : Nat) : Prop := ∀ (W : World) (vf : Value) (l : List Fi), Below B w0 W → WoM W B g vf l → W.cell? ⟨g, 0, none⟩ = some vn → l.length + k ≤ 512 →
  Calls Tryd.prog 48 #[.pointer (some ⟨g, 0, none⟩), .int .i64 (r : Int)] W fun e w' => e = .returned (.int .i64 (((F l).length - 1 : Nat) : Int)) ∧ WdO W w' B g vf (F l)

set_option maxHeartbeats 2000000 in
theorem qjoin (B g v r k : Nat) (op : Int) (b : Bool) (F : List Fi → List Fi) (vn vf : Value) (l : List Fi) (w0 w : World) (hb : Hid (Below B w0 w)) (h : Hid (WoM w B g vf l)) (hc : Hid (w.cell? ⟨g, 0, none⟩ = some vn)) (hl : l.length + (litK b + k + 1) ≤ 512)
    (hF : Hid (∀ l, l.length + k ≤ 512 → (F l).length = l.length + k)) (HX : Hid (NuC w0 B g vn F k r)) :
    Calls Tryd.prog 79 #[.pointer (some ⟨g, 0, none⟩), .int .i64 op, .int .i64 (v : Int), .bool b, .int .i64 (r : Int)] w fun e w' => e = .returned (.int .i64 (((jnW op v b F l).length - 1 : Nat) : Int)) ∧ WdO w w' B g vf (jnW op v b F l) := by
  have hll := litW_len v b l
  have hfl := hF.out (litW v b l) (by rw [hll]; omega)
  have HA := Lib.hid (qvar B g v b vf l w h (by omega))
  have HD : Hid (∀ (W : World) (vf1 : Value), WoM W B g vf1 (F (litW v b l)) → Calls Tryd.prog 77 #[.pointer (some ⟨g, 0, none⟩), .agg #[.int .i64 op, .int .i64 0, .int .i64 (((litW v b l).length - 1 : Nat) : Int), .int .i64 (((F (litW v b l)).length - 1 : Nat) : Int)]] W fun e w' => e = .returned (.int .i64 ((F (litW v b l)).length : Int)) ∧ WdO W w' B g vf1 (jnW op v b F l)) := Lib.hid (fun W vf1 h1 => by
    have := qput B g (F (litW v b l)).length vf1 op 0 (((litW v b l).length - 1 : Nat) : Int) (((F (litW v b l)).length - 1 : Nat) : Int) _ W (Lib.hid h1) (Lib.hid rfl) (by omega)
    exact this)
  have HC : Hid (∀ (W : World) (vf1 : Value), Below B w0 W → WoM W B g vf1 (litW v b l) → W.cell? ⟨g, 0, none⟩ = some vn → Calls Tryd.prog 48 #[.pointer (some ⟨g, 0, none⟩), .int .i64 (r : Int)] W fun e w' => e = .returned (.int .i64 (((F (litW v b l)).length - 1 : Nat) : Int)) ∧ WdO W w' B g vf1 (F (litW v b l))) := Lib.hid (fun W vf1 h1 h2 h3 => HX.out W vf1 _ h1 h2 h3 (by omega))
  have HR : Hid ((((jnW op v b F l).length - 1 : Nat) : Int) = ((F (litW v b l)).length : Int)) := Lib.hid (by unfold jnW; simp)
  rw [HR.out]
  clear HX hll hfl hF hl
  generalize jnW op v b F l = J at *
  generalize F (litW v b l) = FL at *
  generalize litW v b l = LW at *
  generalize (((LW.length - 1 : Nat)) : Int) = x1 at *
  generalize (((FL.length - 1 : Nat)) : Int) = x2 at *
  generalize ((FL.length : Nat) : Int) = x3 at *
  go_enter Tryd.func79, Tryd.ntmps79
  go_wp2_with fail
  with_reducible refine HA.out.mono ?_
  rintro e w2 ⟨rfl, vf1, hE⟩
  have HC2 := Lib.hid (HC.out w2 vf1 (hb.out.trans (hE.below h.out)) hE.m ((hE.cel 0 (by omega)).trans hc.out))
  have HE := Lib.hid hE
  clear hE HA HC
  go_wp2_with fail
  with_reducible refine HC2.out.mono ?_
  rintro e w3 ⟨rfl, vf2, hE2⟩
  have HD2 := Lib.hid (HD.out w3 vf2 hE2.m)
  have HEE := Lib.hid (HE.out.trans hE2)
  clear hE2 HC2 HD
  go_wp2_with fail
  with_reducible refine HD2.out.mono ?_
  rintro e w4 ⟨rfl, hx⟩
  have HXX := Lib.hid (wdO_trans HEE.out hx)
  clear hx HD2
  go_wp2
  go_ret
  exact ⟨rfl, HXX.out⟩


end Go.Proofs.YtkconfadhcomnaaDoor
