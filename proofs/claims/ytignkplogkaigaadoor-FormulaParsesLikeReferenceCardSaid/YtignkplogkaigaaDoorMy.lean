/-
  Plain mathematics and contracts of package diagram, several texts in one: DBig, DChOv.
-/
import Derived.Test.YtignkplogkaigaaDoorMk
import Derived.Test.YtignkplogkaigaaDoorMt

/-! The reference's numbered, combine and Union where the result may have more than 4096 branches. (Written by dbig.py.) -/
namespace Go.Proofs.YtignkplogkaigaaDoor
open Go.RowKit Dg St Go.Maps
set_option linter.unusedVariables false
set_option linter.unusedSimpArgs false

/-- a diagram of any size -/
structure Dg6 (w : World) (A : Option Addr) (m c r : Nat) (f : Cfg → Bool) : Prop where
  rd : Rd w w.heap.size A (up (cn f).1)
  len : (cn f).1.length = m
  rt : (cn f).2 = r
  mc : m ≤ c
  lm : m ≤ 1000000
  d : D64 f
theorem Dg6.below {w w' : World} {A : Option Addr} {m c r : Nat} {f : Cfg → Bool} (h : Dg6 w A m c r f) (hb : Below w.heap.size w w') : Dg6 w' A m c r f := ⟨(h.rd.below hb).mono hb.size, h.len, h.rt, h.mc, h.lm, h.d⟩
theorem Dg6.congr {w : World} {A : Option Addr} {m c r : Nat} {f g : Cfg → Bool} (h : Dg6 w A m c r f) (q : f = g) : Dg6 w A m c r g := q ▸ h
theorem Dg6.put {w : World} {H m c r : Nat} {A : Option Addr} {f : Cfg → Bool} (h : Dg6 w A m c r f) (hf : Fr A (H + 1)) (u v : Value) : Dg6 ((w.setCell ⟨H, 0, none⟩ u).setCell ⟨H, 1, none⟩ v) A m c r f := by
  refine ⟨?_, h.len, h.rt, h.mc, h.lm, h.d⟩
  have k := (h.rd.setF (n := 0) hf u).setF (n := 1) hf v
  simpa [World.setCell] using k
def DgOk (w w' : World) (f : Cfg → Bool) (e : Ending) : Prop := (∃ (A : Option Addr) (m c r : Nat), e = .returned (.agg #[.slice A m c, .int .i64 (r : Int)]) ∧ Dg6 w' A m c r f ∧ Fr A w.heap.size) ∧ Below w.heap.size w w'
theorem DgOk.congr {w w' : World} {f g : Cfg → Bool} {e : Ending} (h : DgOk w w' f e) (q : f = g) : DgOk w w' g e := q ▸ h

set_option maxHeartbeats 4000000 in
set_option maxRecDepth 100000 in
/-- numbered: the diagram of a number of a list -/
theorem numbered_bg (m c n : Nat) (A : Option Addr) (N : List Br) (w : World) (hN : Hid (Dg.Good N)) (hNl : Hid (N.length = m)) (hm : m ≤ 1000000) (hn : n < m + 2) (hrd : Hid (Rd w w.heap.size A (up N))) (hsz : Hid ((cn (Den N n)).1.length ≤ 1000000)) :
    Calls Tryd.prog 98 #[.slice A m c, .int .i64 (n : Int)] w fun e w' => DgOk w w' (Den N n) e := by
  obtain ⟨i0, hi, hz0, hz1, hz2⟩ := info_parts Tryd.infoInt
  have X0 := nb2 w (.slice none 0 0) (.int .i64 0) 40
  have HB0 := Lib.hid (ab2 w (.cells #[.slice none 0 0, .int .i64 0] 40))
  go_enter Tryd.func98, Tryd.ntmps98
  go_wp2_with (refine wpList_make_row _ rfl _ _ _ rfl 3 i0 _ Tryd.underlying69 hi hz0 hz1 rfl .i64 .i64 m rfl rfl (by rw [hz2]; omega) (by omega) ?_)
  have hrow := Blk.new (w := w.alloc (.cells #[.slice none 0 0, .int .i64 0] 40)) rfl (List.replicate m (Value.int .i64 0)) 3
  rw [List.length_replicate] at hrow
  have b1 := ab2 (w.alloc (.cells #[.slice none 0 0, .int .i64 0] 40)) (.cells (List.replicate m (Value.int .i64 0)).toArray 3)
  have hst := Blk.new (w := (w.alloc (.cells #[.slice none 0 0, .int .i64 0] 40)).alloc (.cells (List.replicate m (Value.int .i64 0)).toArray 3)) rfl [.slice A m c, .slice (some ⟨w.heap.size + 1, 0, none⟩) m m, .slice none 0 0] 145
  have b2 := ab2 ((w.alloc (.cells #[.slice none 0 0, .int .i64 0] 40)).alloc (.cells (List.replicate m (Value.int .i64 0)).toArray 3)) (.cells #[.slice A m c, .slice (some ⟨w.heap.size + 1, 0, none⟩) m m, .slice none 0 0] 145)
  have X2 := rb2 (rb2 X0 b1) b2
  have HB2 := Lib.hid ((HB0.out.trans (b1.mono HB0.out.size)).trans (b2.mono (HB0.out.trans (b1.mono HB0.out.size)).size))
  rw [show (w.alloc (.cells #[.slice none 0 0, .int .i64 0] 40)).heap.size = w.heap.size + 1 by simp] at hrow
  rw [show ((w.alloc (.cells #[.slice none 0 0, .int .i64 0] 40)).alloc (.cells (List.replicate m (Value.int .i64 0)).toArray 3)).heap.size = w.heap.size + 1 + 1 by simp] at hst
  have hrow2 : Blk (((w.alloc (.cells #[.slice none 0 0, .int .i64 0] 40)).alloc (.cells (List.replicate m (Value.int .i64 0)).toArray 3)).alloc (.cells #[.slice A m c, .slice (some ⟨w.heap.size + 1, 0, none⟩) m m, .slice none 0 0] 145)) (w.heap.size + 1) m (fun i => .int .i64 (((fun _ => 0 : Nat → Nat) i : Nat) : Int)) := by
    have h : Blk (((w.alloc (.cells #[.slice none 0 0, .int .i64 0] 40)).alloc (.cells (List.replicate m (Value.int .i64 0)).toArray 3)).alloc (.cells #[.slice A m c, .slice (some ⟨w.heap.size + 1, 0, none⟩) m m, .slice none 0 0] 145)) (w.heap.size + 1) m _ := fun i hi => hrow.below (by omega) b2 i hi
    refine h.congr (fun i hi => ?_)
    simp only [List.getD_eq_getElem?_getD, List.getElem?_replicate, hi, if_true, Option.getD_some]
    rfl
  have hq : Vw (((w.alloc (.cells #[.slice none 0 0, .int .i64 0] 40)).alloc (.cells (List.replicate m (Value.int .i64 0)).toArray 3)).alloc (.cells #[.slice A m c, .slice (some ⟨w.heap.size + 1, 0, none⟩) m m, .slice none 0 0] 145)) (w.heap.size + 1) (w.heap.size + 1 + 1) (w.heap.size + 1) A m c m (fun _ => 0) [] (.slice none 0 0) :=
    ⟨(hst 0 (by simp)).1, (hst 1 (by simp)).1, (hst 2 (by simp)).1, (hst 2 (by simp)).2, hrow2, own_nil _ _ _ _, by simp [Value.ownBlock], by simp [Value.ownBlock], by omega, by omega, by omega⟩
  have hv := vis_any (w.heap.size + 1) (w.heap.size + 1 + 1) (w.heap.size + 1) m c m A N hN.out hNl.out hm (n + 1) n [] (fun _ => 0) (.slice none 0 0) _ (by omega) hn (by simp) hq (vi_nil N) ((hrd.out.below HB2.out).mono (by omega))
  have HV := Lib.hid hv
  have HDP := Lib.hid (den_dep64 hN.out.ord (n := n) (by rw [hNl.out]; omega))
  clear hrow hst b1 b2 hrow2 hq hv
  rw [madeCells_N]
  refine HV.out.mono ?_
  rintro e w5 ⟨rfl, num5, v5, q5, _, _, c5, _⟩
  have hH : ¬ (w.heap.size = w.heap.size + 1 + 1 ∨ w.heap.size = w.heap.size + 1 ∨ (Value.slice none 0 0).ownBlock = some w.heap.size) := by
    rintro (e | e | e)
    · omega
    · omega
    · simp [Value.ownBlock] at e
  have hlt : w.heap.size < (((w.alloc (.cells #[.slice none 0 0, .int .i64 0] 40)).alloc (.cells (List.replicate m (Value.int .i64 0)).toArray 3)).alloc (.cells #[.slice A m c, .slice (some ⟨w.heap.size + 1, 0, none⟩) m m, .slice none 0 0] 145)).heap.size := by simp; omega
  have X5 : Hid (B2 w5 w.heap.size (.slice none 0 0) (.int .i64 0)) := fun i hi => ⟨(c5.cell (p := ⟨w.heap.size, i, none⟩) hlt hH).trans (X2.out i hi).1, (c5.frozen (p := ⟨w.heap.size, i, none⟩) hlt hH).trans (X2.out i hi).2⟩
  have HB5 : Hid (Below w.heap.size w w5) := Lib.hid (HB2.out.trans (c5.below (by omega) (fun k hk e => by
    rcases e with e | e | e
    · omega
    · omega
    · simp [Value.ownBlock] at e)))
  have hown := q5.own
  have hx2 := q5.c2
  have hg5 : w.heap.size + 1 + 1 < w5.heap.size := block_lt_of_cell hx2
  obtain ⟨A5, cc5, he5, hcap, hrd5⟩ := own_rd hown
  rw [he5] at hx2 hown
  have HF := Lib.hid (own_fr hown)
  have HRD5 := Lib.hid hrd5
  have HCAP := Lib.hid hcap
  have hcn : put 64 (Den N n) [] = cn (Den N n) := rfl
  rw [hcn] at hx2 HRD5 HCAP ⊢
  have HSZ := Lib.hid hsz.out
  clear q5 c5 hH hlt hown hrd5 hcap he5 hsz HV hcn
  generalize hR : cn (Den N n) = R at *
  obtain ⟨MR, rr⟩ := R
  have HR := Lib.hid hR
  clear hR
  obtain ⟨p0, q0, n0⟩ := xb2 X5
  obtain ⟨_, z0⟩ := X5.out 0 (by omega)
  obtain ⟨_, z1⟩ := X5.out 1 (by omega)
  simp only at hx2
  go_wp2
  refine bodyPost_ret (v := .agg #[.slice A5 MR.length cc5, .int .i64 (rr : Int)]) ?_ rfl ⟨⟨A5, MR.length, cc5, rr, rfl, ?_, HF.out.mono (by omega)⟩, ?_⟩
  · rw [results_cell1 rfl]
    go_simp
  · refine Dg6.put (H := w.heap.size) ⟨?_, by rw [HR.out], by rw [HR.out], HCAP.out, HSZ.out, HDP.out⟩ HF.out _ _
    rw [HR.out]
    exact HRD5.out
  · exact (HB5.out.setCell (Nat.le_refl _) _).setCell (Nat.le_refl _) _

set_option maxHeartbeats 4000000 in
set_option maxRecDepth 100000 in
/-- combine of two diagrams -/
theorem rcombine_bg (op T m0 c0 r0 m1 c1 r1 : Nat) (bop : Bool → Bool → Bool) (A0 A1 : Option Addr) (fa fb : Cfg → Bool) (w : World) (hop : Hid (OpT op T bop)) (h0 : Hid (Dn w A0 m0 c0 r0 fa)) (h1 : Hid (Dn w A1 m1 c1 r1 fb)) (hsz : Hid ((cn (fun x => bop (fa x) (fb x))).1.length ≤ 1000000)) :
    Calls Tryd.prog 86 #[.agg #[.slice A0 m0 c0, .int .i64 (r0 : Int)], .agg #[.slice A1 m1 c1, .int .i64 (r1 : Int)], .int .i64 (op : Int)] w fun e w' => DgOk w w' (fun x => bop (fa x) (fb x)) e := by
  have hd : D64 (fun x => bop (fa x) (fb x)) := d64_bin bop h0.out.d h1.out.d
  have rdA := h0.out.rd
  have rdB := h1.out.rd
  have lenA := h0.out.len
  have lenB := h1.out.len
  have ordA := h0.out.valid.good.ord
  have ordB := h1.out.valid.good.ord
  have denA := h0.out.den
  have denB := h1.out.den
  have ltA := h0.out.lt
  have ltB := h1.out.lt
  have lmA := h0.out.lm
  have lmB := h1.out.lm
  generalize (cn fa).1 = NA at rdA lenA ordA denA
  generalize (cn fb).1 = NB at rdB lenB ordB denB
  obtain ⟨P, hP⟩ : ∃ P : Ac, P = ⟨A0, m0, c0, r0, A1, m1, c1, r1, op, NA, NB, T⟩ := ⟨_, rfl⟩
  have hf2 : f2 P.T P.A P.B r0 r1 = fun x => bop (fa x) (fb x) := by
    subst hP
    funext x
    show tt T (Den NA r0 x) (Den NB r1 x) (Den [] 0 x) = _
    rw [denA, denB, Den_zero, hop.out.tab]
  have hPlt : r0 < P.m0 + 2 ∧ r1 < P.m1 + 2 := by subst hP; exact ⟨ltA, ltB⟩
  have hPOK : ∀ w' : World, Below w.heap.size w w' → ∀ base, w.heap.size ≤ base → P.Ok w' base := fun w' hb base hle => by
    subst hP
    exact ⟨ordA, ordB, lenA, lenB, lmA, lmB, (rdA.below hb).mono hle, (rdB.below hb).mono hle, hop.out.op2, hop.out.con⟩
  have HPOK := Lib.hid hPOK
  have HPL := Lib.hid hPlt
  have HP := Lib.hid hP
  have HF2 := Lib.hid hf2
  have HD := Lib.hid hd
  clear rdA rdB lenA lenB ordA ordB denA denB ltA ltB lmA lmB hPOK hPlt hf2 hd
  have b1 := ab2 w (.cells #[.slice A0 m0 c0, .int .i64 (r0 : Int)] 40)
  have b2 := ab2 (w.alloc (.cells #[.slice A0 m0 c0, .int .i64 (r0 : Int)] 40)) (.cells #[.slice A1 m1 c1, .int .i64 (r1 : Int)] 40)
  have b3 := ab2 ((w.alloc (.cells #[.slice A0 m0 c0, .int .i64 (r0 : Int)] 40)).alloc (.cells #[.slice A1 m1 c1, .int .i64 (r1 : Int)] 40)) (.cells #[.slice none 0 0, .int .i64 0] 40)
  have X3 := nb2 ((w.alloc (.cells #[.slice A0 m0 c0, .int .i64 (r0 : Int)] 40)).alloc (.cells #[.slice A1 m1 c1, .int .i64 (r1 : Int)] 40)) (.slice none 0 0) (.int .i64 0) 40
  have B03 := b1.trans ((b2.trans (b3.mono b2.size)).mono b1.size)
  have hs3 : (((w.alloc (.cells #[.slice A0 m0 c0, .int .i64 (r0 : Int)] 40)).alloc (.cells #[.slice A1 m1 c1, .int .i64 (r1 : Int)] 40)).alloc (.cells #[.slice none 0 0, .int .i64 0] 40)).heap.size = w.heap.size + 1 + 1 + 1 := by simp
  rw [show ((w.alloc (.cells #[.slice A0 m0 c0, .int .i64 (r0 : Int)] 40)).alloc (.cells #[.slice A1 m1 c1, .int .i64 (r1 : Int)] 40)).heap.size = w.heap.size + 1 + 1 by simp] at X3
  have HB3 := Lib.hid B03
  clear b1 b2 b3 B03
  go_enter Tryd.func86, Tryd.ntmps86
  go_wp2_with fail
  generalize (((w.alloc (.cells #[.slice A0 m0 c0, .int .i64 (r0 : Int)] 40)).alloc (.cells #[.slice A1 m1 c1, .int .i64 (r1 : Int)] 40)).alloc (.cells #[.slice none 0 0, .int .i64 0] 40)) = w3 at *
  have hst := Blk.new (w := w3) hs3 [.slice A0 m0 c0, .int .i64 (r0 : Int), .slice A1 m1 c1, .int .i64 (r1 : Int), .int .i64 (op : Int), .slice none 0 0, .slice none 0 0] 137
  have b4 := ab2 w3 (.cells #[.slice A0 m0 c0, .int .i64 (r0 : Int), .slice A1 m1 c1, .int .i64 (r1 : Int), .int .i64 (op : Int), .slice none 0 0, .slice none 0 0] 137)
  have HB4 := btr HB3 b4 HB3.out.size
  have X4 := rb2 X3 b4
  have hrs : Rs (w3.alloc (.cells #[.slice A0 m0 c0, .int .i64 (r0 : Int), .slice A1 m1 c1, .int .i64 (r1 : Int), .int .i64 (op : Int), .slice none 0 0, .slice none 0 0] 137)) (w.heap.size + 1 + 1 + 1) (w.heap.size + 1 + 1 + 1) P [] [] (.slice none 0 0) (.slice none 0 0) := by
    subst hP
    exact ⟨(hst 0 (by simp)).1, (hst 1 (by simp)).1, (hst 2 (by simp)).1, (hst 3 (by simp)).1, (hst 4 (by simp)).1, (hst 5 (by simp)).1, (hst 6 (by simp)).1, (hst 5 (by simp)).2, (hst 6 (by simp)).2, own_nil _ _ _ _, own_nil _ _ _ _, by simp [Value.ownBlock], by simp [Value.ownBlock], by simp [Value.ownBlock], Nat.le_refl _⟩
  have hat := at_any (w.heap.size + 1 + 1 + 1) (w.heap.size + 1 + 1 + 1) P (r0 + r1 + 1) r0 r1 [] [] _ _ _ (by omega) HPL.out.1 HPL.out.2 (HPOK.out _ HB4.out _ (by omega)) hrs (sn_nil _ _ _ _ _) good_nil
  rw [HF2.out] at hat
  have HAT := Lib.hid hat
  have hpo := put_ok64 HD.out good_nil
  have HPO := Lib.hid hpo
  clear hrs hat hst b4 hpo hs3
  have HS0 : Hid ((put 64 (fun x => bop (fa x) (fb x)) []).1.length ≤ 1000000) := hsz
  with_reducible refine HAT.out.mono ?_
  clear HAT
  generalize put 64 (fun x => bop (fa x) (fb x)) [] = R5 at *
  obtain ⟨M5, rr⟩ := R5
  rintro e w5 ⟨rfl, S5, v5, s5, rs5, sn5, _, bl5⟩
  have hx5 := rs5.cn
  obtain ⟨A5, cc5, he5, _, hrd5⟩ := own_rd rs5.own
  rw [he5] at hx5
  have HRD5 := Lib.hid hrd5
  have X5 : Hid (B2 w5 (w.heap.size + 1 + 1) (.slice none 0 0) (.int .i64 0)) := fun i hi => ⟨(bl5.cell (p := ⟨w.heap.size + 1 + 1, i, none⟩) (by show w.heap.size + 1 + 1 < w.heap.size + 1 + 1 + 1; omega)).trans (X4.out i hi).1, (bl5.frozen (p := ⟨w.heap.size + 1 + 1, i, none⟩) (by show w.heap.size + 1 + 1 < w.heap.size + 1 + 1 + 1; omega)).trans (X4.out i hi).2⟩
  have HB5 : Hid (Below w.heap.size w w5) := Lib.hid (HB4.out.trans (bl5.mono (by omega)))
  have hg5 : w.heap.size + 1 + 1 + 1 < w5.heap.size := block_lt_of_cell hx5
  have hlen5 : M5.length ≤ 1000000 := HS0.out
  have hden : Den M5 rr = fun x => bop (fa x) (fb x) := HPO.out.den
  have HN5 := Lib.hid (numbered_bg M5.length cc5 rr A5 M5 w5 (Lib.hid HPO.out.good) (Lib.hid rfl) hlen5 HPO.out.lt (Lib.hid hrd5) (Lib.hid (by rw [hden]; exact hsz.out)))
  have HDEN := Lib.hid hden
  clear rs5 sn5 bl5 hrd5 he5 hlen5 hden hP
  simp only at hx5
  go_wp2_with fail
  with_reducible refine HN5.out.mono ?_
  rintro e w6 ⟨⟨A9, m9, c9, r9, rfl, d9, f9⟩, b9⟩
  have X6 := rb2 X5 b9
  have D9 := Lib.hid (d9.congr HDEN.out)
  have F9 := Lib.hid (f9.mono (show w.heap.size + 1 + 1 + 1 ≤ _ by omega))
  have HB6 := btr HB5 b9 HB5.out.size
  clear d9 f9 b9 hx5
  obtain ⟨p0, q0, n0⟩ := xb2 X6
  obtain ⟨_, z0⟩ := X6.out 0 (by omega)
  obtain ⟨_, z1⟩ := X6.out 1 (by omega)
  go_wp2
  refine bodyPost_ret (v := .agg #[.slice A9 m9 c9, .int .i64 (r9 : Int)]) ?_ rfl ⟨⟨A9, m9, c9, r9, rfl, D9.out.put F9.out _ _, F9.out.mono (by omega)⟩, ?_⟩
  · rw [results_cell1 rfl]
    go_simp
  · exact (HB6.out.setCell (by simp; omega) _).setCell (by simp; omega) _

end Go.Proofs.YtignkplogkaigaaDoor

/-! Choose whose result has more than 4096 branches. (Written by dchov.py.) -/
namespace Go.Proofs.YtignkplogkaigaaDoor
open Go.RowKit Dg St
set_option linter.unusedVariables false
set_option linter.unusedSimpArgs false
attribute [local go_sem ↓] Go.wp_at_zero Go.wp_at_succ

end Go.Proofs.YtignkplogkaigaaDoor
