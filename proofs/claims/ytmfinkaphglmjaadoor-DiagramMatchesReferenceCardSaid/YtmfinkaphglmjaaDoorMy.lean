/-
  Plain mathematics and contracts of package diagram, several texts in one: DBig, DChOv.
-/
import Derived.Test.YtmfinkaphglmjaaDoorMk
import Derived.Test.YtmfinkaphglmjaaDoorMt

/-! The reference's numbered, combine and Union where the result may have more than 4096 branches. (Written by dbig.py.) -/
namespace Go.Proofs.YtmfinkaphglmjaaDoor
open Go.RowKit Dg St Go.Maps
set_option linter.unusedVariables false
set_option linter.unusedSimpArgs false

/-- a diagram of any size -/
structure Dg6 (w : World) (A : Option Addr) (m c r : Nat) (f : Cfg → Bool) : Prop where
  rd : Rd w w.heap.size A (up (cn f).1)
  len : (cn f).1.length = m
  rt : (cn f).2 = r
  mc : m ≤ c
  lm : m ≤ 1000000
  d : D64 f
theorem Dg6.below {w w' : World} {A : Option Addr} {m c r : Nat} {f : Cfg → Bool} (h : Dg6 w A m c r f) (hb : Below w.heap.size w w') : Dg6 w' A m c r f := ⟨(h.rd.below hb).mono hb.size, h.len, h.rt, h.mc, h.lm, h.d⟩
theorem Dg6.congr {w : World} {A : Option Addr} {m c r : Nat} {f g : Cfg → Bool} (h : Dg6 w A m c r f) (q : f = g) : Dg6 w A m c r g := q ▸ h
theorem Dg6.put {w : World} {H m c r : Nat} {A : Option Addr} {f : Cfg → Bool} (h : Dg6 w A m c r f) (hf : Fr A (H + 1)) (u v : Value) : Dg6 ((w.setCell ⟨H, 0, none⟩ u).setCell ⟨H, 1, none⟩ v) A m c r f := by
  refine ⟨?_, h.len, h.rt, h.mc, h.lm, h.d⟩
  have k := (h.rd.setF (n := 0) hf u).setF (n := 1) hf v
  simpa [World.setCell] using k
def DgOk (w w' : World) (f : Cfg → Bool) (e : Ending) : Prop := (∃ (A : Option Addr) (m c r : Nat), e = .returned (.agg #[.slice A m c, .int .i64 (r : Int)]) ∧ Dg6 w' A m c r f ∧ Fr A w.heap.size) ∧ Below w.heap.size w w'
theorem DgOk.congr {w w' : World} {f g : Cfg → Bool} {e : Ending} (h : DgOk w w' f e) (q : f = g) : DgOk w w' g e := q ▸ h

set_option maxHeartbeats 4000000 in
set_option maxRecDepth 100000 in
/-- numbered: the diagram of a number of a list -/
theorem numbered_bg (m c n : Nat) (A : Option Addr) (N : List Br) (w : World) (hN : Hid (Dg.Good N)) (hNl : Hid (N.length = m)) (hm : m ≤ 1000000) (hn : n < m + 2) (hrd : Hid (Rd w w.heap.size A (up N))) (hsz : Hid ((cn (Den N n)).1.length ≤ 1000000)) :
    Calls Tryd.prog 107 #[.slice A m c, .int .i64 (n : Int)] w fun e w' => DgOk w w' (Den N n) e := by
  obtain ⟨i0, hi, hz0, hz1, hz2⟩ := info_parts Tryd.infoInt
  have X0 := nb2 w (.slice none 0 0) (.int .i64 0) 24
  have HB0 := Lib.hid (ab2 w (.cells #[.slice none 0 0, .int .i64 0] 24))
  go_enter Tryd.func107, Tryd.ntmps107
  go_wp2_with (refine wpList_make_row _ rfl _ _ _ rfl 3 i0 _ Tryd.underlying49 hi hz0 hz1 rfl .i64 .i64 m rfl rfl (by rw [hz2]; omega) (by omega) ?_)
  have hrow := Blk.new (w := w.alloc (.cells #[.slice none 0 0, .int .i64 0] 24)) rfl (List.replicate m (Value.int .i64 0)) 3
  rw [List.length_replicate] at hrow
  have b1 := ab2 (w.alloc (.cells #[.slice none 0 0, .int .i64 0] 24)) (.cells (List.replicate m (Value.int .i64 0)).toArray 3)
  have hst := Blk.new (w := (w.alloc (.cells #[.slice none 0 0, .int .i64 0] 24)).alloc (.cells (List.replicate m (Value.int .i64 0)).toArray 3)) rfl [.slice A m c, .slice (some ⟨w.heap.size + 1, 0, none⟩) m m, .slice none 0 0] 146
  have b2 := ab2 ((w.alloc (.cells #[.slice none 0 0, .int .i64 0] 24)).alloc (.cells (List.replicate m (Value.int .i64 0)).toArray 3)) (.cells #[.slice A m c, .slice (some ⟨w.heap.size + 1, 0, none⟩) m m, .slice none 0 0] 146)
  have X2 := rb2 (rb2 X0 b1) b2
  have HB2 := Lib.hid ((HB0.out.trans (b1.mono HB0.out.size)).trans (b2.mono (HB0.out.trans (b1.mono HB0.out.size)).size))
  rw [show (w.alloc (.cells #[.slice none 0 0, .int .i64 0] 24)).heap.size = w.heap.size + 1 by simp] at hrow
  rw [show ((w.alloc (.cells #[.slice none 0 0, .int .i64 0] 24)).alloc (.cells (List.replicate m (Value.int .i64 0)).toArray 3)).heap.size = w.heap.size + 1 + 1 by simp] at hst
  have hrow2 : Blk (((w.alloc (.cells #[.slice none 0 0, .int .i64 0] 24)).alloc (.cells (List.replicate m (Value.int .i64 0)).toArray 3)).alloc (.cells #[.slice A m c, .slice (some ⟨w.heap.size + 1, 0, none⟩) m m, .slice none 0 0] 146)) (w.heap.size + 1) m (fun i => .int .i64 (((fun _ => 0 : Nat → Nat) i : Nat) : Int)) := by
    have h : Blk (((w.alloc (.cells #[.slice none 0 0, .int .i64 0] 24)).alloc (.cells (List.replicate m (Value.int .i64 0)).toArray 3)).alloc (.cells #[.slice A m c, .slice (some ⟨w.heap.size + 1, 0, none⟩) m m, .slice none 0 0] 146)) (w.heap.size + 1) m _ := fun i hi => hrow.below (by omega) b2 i hi
    refine h.congr (fun i hi => ?_)
    simp only [List.getD_eq_getElem?_getD, List.getElem?_replicate, hi, if_true, Option.getD_some]
    rfl
  have hq : Vw (((w.alloc (.cells #[.slice none 0 0, .int .i64 0] 24)).alloc (.cells (List.replicate m (Value.int .i64 0)).toArray 3)).alloc (.cells #[.slice A m c, .slice (some ⟨w.heap.size + 1, 0, none⟩) m m, .slice none 0 0] 146)) (w.heap.size + 1) (w.heap.size + 1 + 1) (w.heap.size + 1) A m c m (fun _ => 0) [] (.slice none 0 0) :=
    ⟨(hst 0 (by simp)).1, (hst 1 (by simp)).1, (hst 2 (by simp)).1, (hst 2 (by simp)).2, hrow2, own_nil _ _ _ _, by simp [Value.ownBlock], by simp [Value.ownBlock], by omega, by omega, by omega⟩
  have hv := vis_any (w.heap.size + 1) (w.heap.size + 1 + 1) (w.heap.size + 1) m c m A N hN.out hNl.out hm (n + 1) n [] (fun _ => 0) (.slice none 0 0) _ (by omega) hn (by simp) hq (vi_nil N) ((hrd.out.below HB2.out).mono (by omega))
  have HV := Lib.hid hv
  have HDP := Lib.hid (den_dep64 hN.out.ord (n := n) (by rw [hNl.out]; omega))
  clear hrow hst b1 b2 hrow2 hq hv
  rw [madeCells_N]
  refine HV.out.mono ?_
  rintro e w5 ⟨rfl, num5, v5, q5, _, _, c5, _⟩
  have hH : ¬ (w.heap.size = w.heap.size + 1 + 1 ∨ w.heap.size = w.heap.size + 1 ∨ (Value.slice none 0 0).ownBlock = some w.heap.size) := by
    rintro (e | e | e)
    · omega
    · omega
    · simp [Value.ownBlock] at e
  have hlt : w.heap.size < (((w.alloc (.cells #[.slice none 0 0, .int .i64 0] 24)).alloc (.cells (List.replicate m (Value.int .i64 0)).toArray 3)).alloc (.cells #[.slice A m c, .slice (some ⟨w.heap.size + 1, 0, none⟩) m m, .slice none 0 0] 146)).heap.size := by simp; omega
  have X5 : Hid (B2 w5 w.heap.size (.slice none 0 0) (.int .i64 0)) := fun i hi => ⟨(c5.cell (p := ⟨w.heap.size, i, none⟩) hlt hH).trans (X2.out i hi).1, (c5.frozen (p := ⟨w.heap.size, i, none⟩) hlt hH).trans (X2.out i hi).2⟩
  have HB5 : Hid (Below w.heap.size w w5) := Lib.hid (HB2.out.trans (c5.below (by omega) (fun k hk e => by
    rcases e with e | e | e
    · omega
    · omega
    · simp [Value.ownBlock] at e)))
  have hown := q5.own
  have hx2 := q5.c2
  have hg5 : w.heap.size + 1 + 1 < w5.heap.size := block_lt_of_cell hx2
  obtain ⟨A5, cc5, he5, hcap, hrd5⟩ := own_rd hown
  rw [he5] at hx2 hown
  have HF := Lib.hid (own_fr hown)
  have HRD5 := Lib.hid hrd5
  have HCAP := Lib.hid hcap
  have hcn : put 64 (Den N n) [] = cn (Den N n) := rfl
  rw [hcn] at hx2 HRD5 HCAP ⊢
  have HSZ := Lib.hid hsz.out
  clear q5 c5 hH hlt hown hrd5 hcap he5 hsz HV hcn
  generalize hR : cn (Den N n) = R at *
  obtain ⟨MR, rr⟩ := R
  have HR := Lib.hid hR
  clear hR
  obtain ⟨p0, q0, n0⟩ := xb2 X5
  obtain ⟨_, z0⟩ := X5.out 0 (by omega)
  obtain ⟨_, z1⟩ := X5.out 1 (by omega)
  simp only at hx2
  go_wp2
  refine bodyPost_ret (v := .agg #[.slice A5 MR.length cc5, .int .i64 (rr : Int)]) ?_ rfl ⟨⟨A5, MR.length, cc5, rr, rfl, ?_, HF.out.mono (by omega)⟩, ?_⟩
  · rw [results_cell1 rfl]
    go_simp
  · refine Dg6.put (H := w.heap.size) ⟨?_, by rw [HR.out], by rw [HR.out], HCAP.out, HSZ.out, HDP.out⟩ HF.out _ _
    rw [HR.out]
    exact HRD5.out
  · exact (HB5.out.setCell (Nat.le_refl _) _).setCell (Nat.le_refl _) _

set_option maxHeartbeats 4000000 in
set_option maxRecDepth 100000 in
/-- combine of two diagrams -/
theorem rcombine_bg (op T m0 c0 r0 m1 c1 r1 : Nat) (bop : Bool → Bool → Bool) (A0 A1 : Option Addr) (fa fb : Cfg → Bool) (w : World) (hop : Hid (OpT op T bop)) (h0 : Hid (Dn w A0 m0 c0 r0 fa)) (h1 : Hid (Dn w A1 m1 c1 r1 fb)) (hsz : Hid ((cn (fun x => bop (fa x) (fb x))).1.length ≤ 1000000)) :
    Calls Tryd.prog 102 #[.agg #[.slice A0 m0 c0, .int .i64 (r0 : Int)], .agg #[.slice A1 m1 c1, .int .i64 (r1 : Int)], .int .i64 (op : Int)] w fun e w' => DgOk w w' (fun x => bop (fa x) (fb x)) e := by
  have hd : D64 (fun x => bop (fa x) (fb x)) := d64_bin bop h0.out.d h1.out.d
  have rdA := h0.out.rd
  have rdB := h1.out.rd
  have lenA := h0.out.len
  have lenB := h1.out.len
  have ordA := h0.out.valid.good.ord
  have ordB := h1.out.valid.good.ord
  have denA := h0.out.den
  have denB := h1.out.den
  have ltA := h0.out.lt
  have ltB := h1.out.lt
  have lmA := h0.out.lm
  have lmB := h1.out.lm
  generalize (cn fa).1 = NA at rdA lenA ordA denA
  generalize (cn fb).1 = NB at rdB lenB ordB denB
  obtain ⟨P, hP⟩ : ∃ P : Ac, P = ⟨A0, m0, c0, r0, A1, m1, c1, r1, op, NA, NB, T⟩ := ⟨_, rfl⟩
  have hf2 : f2 P.T P.A P.B r0 r1 = fun x => bop (fa x) (fb x) := by
    subst hP
    funext x
    show tt T (Den NA r0 x) (Den NB r1 x) (Den [] 0 x) = _
    rw [denA, denB, Den_zero, hop.out.tab]
  have hPlt : r0 < P.m0 + 2 ∧ r1 < P.m1 + 2 := by subst hP; exact ⟨ltA, ltB⟩
  have hPOK : ∀ w' : World, Below w.heap.size w w' → ∀ base, w.heap.size ≤ base → P.Ok w' base := fun w' hb base hle => by
    subst hP
    exact ⟨ordA, ordB, lenA, lenB, lmA, lmB, (rdA.below hb).mono hle, (rdB.below hb).mono hle, hop.out.op2, hop.out.con⟩
  have HPOK := Lib.hid hPOK
  have HPL := Lib.hid hPlt
  have HP := Lib.hid hP
  have HF2 := Lib.hid hf2
  have HD := Lib.hid hd
  clear rdA rdB lenA lenB ordA ordB denA denB ltA ltB lmA lmB hPOK hPlt hf2 hd
  have b1 := ab2 w (.cells #[.slice A0 m0 c0, .int .i64 (r0 : Int)] 24)
  have b2 := ab2 (w.alloc (.cells #[.slice A0 m0 c0, .int .i64 (r0 : Int)] 24)) (.cells #[.slice A1 m1 c1, .int .i64 (r1 : Int)] 24)
  have b3 := ab2 ((w.alloc (.cells #[.slice A0 m0 c0, .int .i64 (r0 : Int)] 24)).alloc (.cells #[.slice A1 m1 c1, .int .i64 (r1 : Int)] 24)) (.cells #[.slice none 0 0, .int .i64 0] 24)
  have X3 := nb2 ((w.alloc (.cells #[.slice A0 m0 c0, .int .i64 (r0 : Int)] 24)).alloc (.cells #[.slice A1 m1 c1, .int .i64 (r1 : Int)] 24)) (.slice none 0 0) (.int .i64 0) 24
  have B03 := b1.trans ((b2.trans (b3.mono b2.size)).mono b1.size)
  have hs3 : (((w.alloc (.cells #[.slice A0 m0 c0, .int .i64 (r0 : Int)] 24)).alloc (.cells #[.slice A1 m1 c1, .int .i64 (r1 : Int)] 24)).alloc (.cells #[.slice none 0 0, .int .i64 0] 24)).heap.size = w.heap.size + 1 + 1 + 1 := by simp
  rw [show ((w.alloc (.cells #[.slice A0 m0 c0, .int .i64 (r0 : Int)] 24)).alloc (.cells #[.slice A1 m1 c1, .int .i64 (r1 : Int)] 24)).heap.size = w.heap.size + 1 + 1 by simp] at X3
  have HB3 := Lib.hid B03
  clear b1 b2 b3 B03
  go_enter Tryd.func102, Tryd.ntmps102
  go_wp2_with fail
  generalize (((w.alloc (.cells #[.slice A0 m0 c0, .int .i64 (r0 : Int)] 24)).alloc (.cells #[.slice A1 m1 c1, .int .i64 (r1 : Int)] 24)).alloc (.cells #[.slice none 0 0, .int .i64 0] 24)) = w3 at *
  have hst := Blk.new (w := w3) hs3 [.slice A0 m0 c0, .int .i64 (r0 : Int), .slice A1 m1 c1, .int .i64 (r1 : Int), .int .i64 (op : Int), .slice none 0 0, .slice none 0 0] 141
  have b4 := ab2 w3 (.cells #[.slice A0 m0 c0, .int .i64 (r0 : Int), .slice A1 m1 c1, .int .i64 (r1 : Int), .int .i64 (op : Int), .slice none 0 0, .slice none 0 0] 141)
  have HB4 := btr HB3 b4 HB3.out.size
  have X4 := rb2 X3 b4
  have hrs : Rs (w3.alloc (.cells #[.slice A0 m0 c0, .int .i64 (r0 : Int), .slice A1 m1 c1, .int .i64 (r1 : Int), .int .i64 (op : Int), .slice none 0 0, .slice none 0 0] 141)) (w.heap.size + 1 + 1 + 1) (w.heap.size + 1 + 1 + 1) P [] [] (.slice none 0 0) (.slice none 0 0) := by
    subst hP
    exact ⟨(hst 0 (by simp)).1, (hst 1 (by simp)).1, (hst 2 (by simp)).1, (hst 3 (by simp)).1, (hst 4 (by simp)).1, (hst 5 (by simp)).1, (hst 6 (by simp)).1, (hst 5 (by simp)).2, (hst 6 (by simp)).2, own_nil _ _ _ _, own_nil _ _ _ _, by simp [Value.ownBlock], by simp [Value.ownBlock], by simp [Value.ownBlock], Nat.le_refl _⟩
  have hat := at_any (w.heap.size + 1 + 1 + 1) (w.heap.size + 1 + 1 + 1) P (r0 + r1 + 1) r0 r1 [] [] _ _ _ (by omega) HPL.out.1 HPL.out.2 (HPOK.out _ HB4.out _ (by omega)) hrs (sn_nil _ _ _ _ _) good_nil
  rw [HF2.out] at hat
  have HAT := Lib.hid hat
  have hpo := put_ok64 HD.out good_nil
  have HPO := Lib.hid hpo
  clear hrs hat hst b4 hpo hs3
  have HS0 : Hid ((put 64 (fun x => bop (fa x) (fb x)) []).1.length ≤ 1000000) := hsz
  with_reducible refine HAT.out.mono ?_
  clear HAT
  generalize put 64 (fun x => bop (fa x) (fb x)) [] = R5 at *
  obtain ⟨M5, rr⟩ := R5
  rintro e w5 ⟨rfl, S5, v5, s5, rs5, sn5, _, bl5⟩
  have hx5 := rs5.cn
  obtain ⟨A5, cc5, he5, _, hrd5⟩ := own_rd rs5.own
  rw [he5] at hx5
  have HRD5 := Lib.hid hrd5
  have X5 : Hid (B2 w5 (w.heap.size + 1 + 1) (.slice none 0 0) (.int .i64 0)) := fun i hi => ⟨(bl5.cell (p := ⟨w.heap.size + 1 + 1, i, none⟩) (by show w.heap.size + 1 + 1 < w.heap.size + 1 + 1 + 1; omega)).trans (X4.out i hi).1, (bl5.frozen (p := ⟨w.heap.size + 1 + 1, i, none⟩) (by show w.heap.size + 1 + 1 < w.heap.size + 1 + 1 + 1; omega)).trans (X4.out i hi).2⟩
  have HB5 : Hid (Below w.heap.size w w5) := Lib.hid (HB4.out.trans (bl5.mono (by omega)))
  have hg5 : w.heap.size + 1 + 1 + 1 < w5.heap.size := block_lt_of_cell hx5
  have hlen5 : M5.length ≤ 1000000 := HS0.out
  have hden : Den M5 rr = fun x => bop (fa x) (fb x) := HPO.out.den
  have HN5 := Lib.hid (numbered_bg M5.length cc5 rr A5 M5 w5 (Lib.hid HPO.out.good) (Lib.hid rfl) hlen5 HPO.out.lt (Lib.hid hrd5) (Lib.hid (by rw [hden]; exact hsz.out)))
  have HDEN := Lib.hid hden
  clear rs5 sn5 bl5 hrd5 he5 hlen5 hden hP
  simp only at hx5
  go_wp2_with fail
  with_reducible refine HN5.out.mono ?_
  rintro e w6 ⟨⟨A9, m9, c9, r9, rfl, d9, f9⟩, b9⟩
  have X6 := rb2 X5 b9
  have D9 := Lib.hid (d9.congr HDEN.out)
  have F9 := Lib.hid (f9.mono (show w.heap.size + 1 + 1 + 1 ≤ _ by omega))
  have HB6 := btr HB5 b9 HB5.out.size
  clear d9 f9 b9 hx5
  obtain ⟨p0, q0, n0⟩ := xb2 X6
  obtain ⟨_, z0⟩ := X6.out 0 (by omega)
  obtain ⟨_, z1⟩ := X6.out 1 (by omega)
  go_wp2
  refine bodyPost_ret (v := .agg #[.slice A9 m9 c9, .int .i64 (r9 : Int)]) ?_ rfl ⟨⟨A9, m9, c9, r9, rfl, D9.out.put F9.out _ _, F9.out.mono (by omega)⟩, ?_⟩
  · rw [results_cell1 rfl]
    go_simp
  · exact (HB6.out.setCell (by simp; omega) _).setCell (by simp; omega) _

set_option maxHeartbeats 4000000 in
set_option maxRecDepth 100000 in
theorem union_bg (m0 c0 r0 m1 c1 r1 : Nat) (A0 A1 : Option Addr) (fa fb : Cfg → Bool) (w : World) (h0 : Hid (Dn w A0 m0 c0 r0 fa)) (h1 : Hid (Dn w A1 m1 c1 r1 fb)) (hsz : Hid ((cn (fun x => or (fa x) (fb x))).1.length ≤ 1000000)) :
    Calls Tryd.prog 76 #[.agg #[.slice A0 m0 c0, .int .i64 (r0 : Int)], .agg #[.slice A1 m1 c1, .int .i64 (r1 : Int)]] w fun e w' => DgOk w w' (fun x => or (fa x) (fb x)) e := by
  have b1 := ab2 w (.cells #[.slice A0 m0 c0, .int .i64 (r0 : Int)] 24)
  have b2 := ab2 (w.alloc (.cells #[.slice A0 m0 c0, .int .i64 (r0 : Int)] 24)) (.cells #[.slice A1 m1 c1, .int .i64 (r1 : Int)] 24)
  have b3 := ab2 ((w.alloc (.cells #[.slice A0 m0 c0, .int .i64 (r0 : Int)] 24)).alloc (.cells #[.slice A1 m1 c1, .int .i64 (r1 : Int)] 24)) (.cells #[.slice none 0 0, .int .i64 0] 24)
  have X3 := nb2 ((w.alloc (.cells #[.slice A0 m0 c0, .int .i64 (r0 : Int)] 24)).alloc (.cells #[.slice A1 m1 c1, .int .i64 (r1 : Int)] 24)) (.slice none 0 0) (.int .i64 0) 24
  rw [show ((w.alloc (.cells #[.slice A0 m0 c0, .int .i64 (r0 : Int)] 24)).alloc (.cells #[.slice A1 m1 c1, .int .i64 (r1 : Int)] 24)).heap.size = w.heap.size + 1 + 1 by simp] at X3
  have HB3 := Lib.hid (b1.trans ((b2.trans (b3.mono b2.size)).mono b1.size))
  clear b1 b2 b3
  have hc : ∀ w3, Below w.heap.size w w3 → Calls Tryd.prog 102 #[.agg #[.slice A0 m0 c0, .int .i64 (r0 : Int)], .agg #[.slice A1 m1 c1, .int .i64 (r1 : Int)], .int .i64 1] w3 fun e w' => DgOk w3 w' (fun x => or (fa x) (fb x)) e :=
    fun w3 hb => rcombine_bg 1 238 m0 c0 r0 m1 c1 r1 _ A0 A1 fa fb w3 (Lib.hid opt_or) (rdn h0 hb) (rdn h1 hb) hsz
  have HC := Lib.hid hc
  clear hc
  go_enter Tryd.func76, Tryd.ntmps76
  go_wp2_with fail
  generalize (((w.alloc (.cells #[.slice A0 m0 c0, .int .i64 (r0 : Int)] 24)).alloc (.cells #[.slice A1 m1 c1, .int .i64 (r1 : Int)] 24)).alloc (.cells #[.slice none 0 0, .int .i64 0] 24)) = w3 at *
  with_reducible refine (HC.out w3 HB3.out).mono ?_
  rintro e w6 ⟨⟨A9, m9, c9, r9, rfl, d9, f9⟩, b9⟩
  have X6 := rb2 X3 b9
  have hs3 := X3.out.lt (by omega)
  have D9 := Lib.hid d9
  have F9 := Lib.hid (f9.mono (show w.heap.size + 1 + 1 + 1 ≤ _ by omega))
  have HB6 := btr HB3 b9 HB3.out.size
  clear d9 f9 b9 hs3
  obtain ⟨p0, q0, n0⟩ := xb2 X6
  obtain ⟨_, z0⟩ := X6.out 0 (by omega)
  obtain ⟨_, z1⟩ := X6.out 1 (by omega)
  go_wp2
  refine bodyPost_ret (v := .agg #[.slice A9 m9 c9, .int .i64 (r9 : Int)]) ?_ rfl ⟨⟨A9, m9, c9, r9, rfl, D9.out.put F9.out _ _, F9.out.mono (by omega)⟩, ?_⟩
  · rw [results_cell1 rfl]
    go_simp
  · exact (HB6.out.setCell (by simp; omega) _).setCell (by simp; omega) _

end Go.Proofs.YtmfinkaphglmjaaDoor

/-! Choose whose result has more than 4096 branches. (Written by dchov.py.) -/
namespace Go.Proofs.YtmfinkaphglmjaaDoor
open Go.RowKit Dg St
set_option linter.unusedVariables false
set_option linter.unusedSimpArgs false
attribute [local go_sem ↓] Go.wp_at_zero Go.wp_at_succ

set_option maxHeartbeats 2000000 in
set_option maxRecDepth 100000 in
theorem limited_over (b cp f T n : Nat) (D : Ca) (w : World) (hn : n ≤ 3) (hb : b < w.heap.size) (hT : Hid (T < 256)) (hTt : Hid (T ∈ tabs)) (hin : Hid (Ins w 0)) (hsame : Hid (∀ x, x < D.r 1 + 1 → x < D.r 2 + 1 → Den (D.N 1) x = Den (D.N 2) x))
    (M : List Br) (r : Nat) (hres : Hid (put 64 (fx T (D.N 0) (D.N 1) (D.N 2) (D.r 0) (D.r 1) (D.r 2)) [] = (M, r))) (hlen : Hid (4096 < M.length)) (hf : Hid (Op3 f T)) (hD : Hid (D.Ok n w)) (hargs : Hid (CArgs w b n D)) (hprod : Hid (∀ k, k ≤ 3 → D.pr k ≤ 1000000000000)) :
    Calls Tryd.prog 72 #[.func (.func f) #[] #[], .slice (some ⟨b, 0, none⟩) n cp] w (fun e w' => e = .returned (.tuple #[.agg #[.slice none 0 0, .int .i64 0], .int .i64 2]) ∧ Below w.heap.size w w') := by
  have b1 := (Below.refl w.heap.size w).alloc (Nat.le_refl _) (.cells #[.slice none 0 0, .int .i64 0] 24)
  have hb1 : b < (w.alloc (.cells #[.slice none 0 0, .int .i64 0] 24)).heap.size := by simp; omega
  have hin1 := Lib.hid (hin.out.below b1)
  have hD1 := Lib.hid (hD.out.below b1)
  have ha1 : Hid (CArgs (w.alloc (.cells #[.slice none 0 0, .int .i64 0] 24)) b n D) := hargs.out.below hb b1
  have X1 := nb2 w (.slice none 0 0) (.int .i64 0) 24
  have HB1 := Lib.hid b1
  have HLT1 := Lib.hid hb1
  clear b1 hb1
  go_enter Tryd.func72, Tryd.ntmps72
  go_wp2_with fail
  refine (combine_over b cp 4096 f T n D _ hn HLT1.out hT hTt (by omega) hin1 hsame M r hres hlen hf hD1 ha1 hprod).mono ?_
  rintro e w2 ⟨rfl, hb2⟩
  have X2 := rb2 X1 hb2
  have HB2 := btr HB1 hb2 HB1.out.size
  clear hb2
  obtain ⟨y0, y0f⟩ := X2.out 0 (by omega)
  obtain ⟨y1, y1f⟩ := X2.out 1 (by omega)
  have XL := X2.out.lt (by omega)
  go_wp2
  refine bodyPost_ret (v := .tuple #[.agg #[.slice none 0 0, .int .i64 0], .int .i64 2]) ?_ rfl ⟨rfl, ?_⟩
  · rw [results_cell_tmp rfl]
    go_simp
  · first
      | exact (HB2.out.setCell (Nat.le_refl _) _).setCell (Nat.le_refl _) _
      | exact ((HB2.out.setCell (Nat.le_refl _) _).setCell (Nat.le_refl _) _).alloc (by simp [World.setCell]; omega) _

set_option maxRecDepth 100000 in
theorem ch_over (m0 c0 r0 n c r1 r2 : Nat) (A0 A : Option Addr) (N : List Br) (fc fa fb : Cfg → Bool) (b : Nat) (w : World) (h0 : Dn w A0 m0 c0 r0 fc) (hrd : Rd w w.heap.size A (up N)) (hl : N.length = n) (hn : n ≤ 4096) (hg : Dg.Good N) (q1 : r1 < n + 2) (q2 : r2 < n + 2) (d1 : Den N r1 = fa) (d2 : Den N r2 = fb)
    (hin : Ins w 0) (hb : Blk w b 6 (fun i => (L6 A0 A A m0 c0 r0 n c r1 n c r2).getD i undef)) (MR : List Br) (rr : Nat) (hcn : cn (fun x => if fc x then fa x else fb x) = (MR, rr)) (hsz : 4096 < MR.length) :
    Calls Tryd.prog 72 #[.func (.func 73) #[] #[], .slice (some ⟨b, 0, none⟩) 3 3] w (fun e w' => e = .returned (.tuple #[.agg #[.slice none 0 0, .int .i64 0], .int .i64 2]) ∧ Below w.heap.size w w') := by
  have hlt := hb.lt (by omega)
  have l0 := h0.lt
  have m4 := h0.lm
  have rd0 := h0.rd
  have ln0 := h0.len
  have or0 := h0.valid.good.ord
  have dn0 := h0.den
  clear h0
  generalize (cn fc).1 = M at *
  have hD : (tri A0 A m0 c0 r0 n c r1 r2 M N).Ok 3 w := tri_ok rd0 hrd ln0 hl m4 hn or0 hg.ord l0 q1 q2
  have hfx : fx 216 ((tri A0 A m0 c0 r0 n c r1 r2 M N).N 0) ((tri A0 A m0 c0 r0 n c r1 r2 M N).N 1) ((tri A0 A m0 c0 r0 n c r1 r2 M N).N 2) ((tri A0 A m0 c0 r0 n c r1 r2 M N).r 0) ((tri A0 A m0 c0 r0 n c r1 r2 M N).r 1) ((tri A0 A m0 c0 r0 n c r1 r2 M N).r 2) = fun x => if fc x then fa x else fb x := by
    show fx 216 M N N r0 r1 r2 = _
    funext x
    unfold fx
    rw [dn0, d1, d2, tt_choose]
  have hres : put 64 (fx 216 ((tri A0 A m0 c0 r0 n c r1 r2 M N).N 0) ((tri A0 A m0 c0 r0 n c r1 r2 M N).N 1) ((tri A0 A m0 c0 r0 n c r1 r2 M N).N 2) ((tri A0 A m0 c0 r0 n c r1 r2 M N).r 0) ((tri A0 A m0 c0 r0 n c r1 r2 M N).r 1) ((tri A0 A m0 c0 r0 n c r1 r2 M N).r 2)) [] = (MR, rr) := by
    rw [hfx]; exact hcn
  have hca : CArgs w b 3 (tri A0 A m0 c0 r0 n c r1 r2 M N) := by
    intro t ht
    obtain rfl | rfl | rfl : t = 0 ∨ t = 1 ∨ t = 2 := by omega
    · exact ⟨(hb 0 (by omega)).1, (hb 1 (by omega)).1⟩
    · exact ⟨(hb 2 (by omega)).1, (hb 3 (by omega)).1⟩
    · exact ⟨(hb 4 (by omega)).1, (hb 5 (by omega)).1⟩
  have hsame : ∀ x, x < (tri A0 A m0 c0 r0 n c r1 r2 M N).r 1 + 1 → x < (tri A0 A m0 c0 r0 n c r1 r2 M N).r 2 + 1 → Den ((tri A0 A m0 c0 r0 n c r1 r2 M N).N 1) x = Den ((tri A0 A m0 c0 r0 n c r1 r2 M N).N 2) x := fun x _ _ => by
    have e : (tri A0 A m0 c0 r0 n c r1 r2 M N).N 1 = (tri A0 A m0 c0 r0 n c r1 r2 M N).N 2 := rfl
    rw [e]
  have hpr := tri_pr (A0 := A0) (A1 := A) (m0 := m0) (c0 := c0) (m1 := n) (c1 := c) (N0 := M) (N1 := N) (r0 := r0) (r1 := r1) (r2 := r2) (by omega) (by omega) (by omega)
  exact limited_over b 3 73 216 3 (tri A0 A m0 c0 r0 n c r1 r2 M N) w (by omega) hlt (Lib.hid (by omega)) (Lib.hid (by decide)) (Lib.hid hin) (Lib.hid hsame) MR rr (Lib.hid hres) (Lib.hid hsz) (Lib.hid choose_op) (Lib.hid hD) (Lib.hid hca) hpr
set_option maxHeartbeats 4000000 in
set_option maxRecDepth 100000 in
theorem choose_over (m0 c0 r0 m1 c1 r1 m2 c2 r2 : Nat) (A0 A1 A2 : Option Addr) (f0 f1 f2 : Cfg → Bool) (w : World) (h0 : Hid (Dn w A0 m0 c0 r0 f0)) (h1 : Hid (Dn w A1 m1 c1 r1 f1)) (h2 : Hid (Dn w A2 m2 c2 r2 f2)) (hin : Hid (Ins w 0)) (hm : m1 + m2 ≤ 4096) (hsz : Hid (4096 < (cn (fun x => if f0 x then f1 x else f2 x)).1.length)) :
    Calls Tryd.prog 27 #[.agg #[.slice A0 m0 c0, .int .i64 (r0 : Int)], .agg #[.slice A1 m1 c1, .int .i64 (r1 : Int)], .agg #[.slice A2 m2 c2, .int .i64 (r2 : Int)]] w fun e w' => e = .returned (.tuple #[.agg #[.slice none 0 0, .int .i64 0], .int .i64 2]) ∧ Below w.heap.size w w' := by
  have hdd : Hid (D64 (fun x => if f0 x then f1 x else f2 x)) := Lib.hid (d64_ite h0.out.d h1.out.d h2.out.d)
  have hsz0 := hsz.out
  clear hsz
  obtain ⟨W0, hW0⟩ : ∃ W, W = (((w.alloc (.cells #[.slice A0 m0 c0, .int .i64 (r0 : Int)] 24)).alloc (.cells #[.slice A1 m1 c1, .int .i64 (r1 : Int)] 24)).alloc (.cells #[.slice A2 m2 c2, .int .i64 (r2 : Int)] 24)).alloc (.cells #[.slice none 0 0, .int .i64 0] 24) := ⟨_, rfl⟩
  have hW := hW0
  obtain ⟨H, hH⟩ : ∃ H, w.heap.size = H := ⟨_, rfl⟩
  have hs0 : W0.heap.size = H + 1 + 1 + 1 + 1 := by rw [hW0]; simp [hH]
  have hbW : Below H w W0 := by rw [hW0, ← hH]; exact (((ab2 w _).alloc (by simp) _).alloc (by simp; omega) _).alloc (by simp; omega) _
  have X0 : Hid (B2 W0 H (.slice A0 m0 c0) (.int .i64 (r0 : Int))) := Lib.hid (by
    rw [hW0]; exact (((Blk.new (w := w) hH [.slice A0 m0 c0, .int .i64 (r0 : Int)] _).alloc (by simp) _).alloc (by simp) _).alloc (by simp) _)
  have X1 : Hid (B2 W0 (H + 1) (.slice A1 m1 c1) (.int .i64 (r1 : Int))) := Lib.hid (by
    rw [hW0]; exact ((Blk.new (w := w.alloc _) (by simp [hH]) [.slice A1 m1 c1, .int .i64 (r1 : Int)] _).alloc (by simp) _).alloc (by simp) _)
  have X2 : Hid (B2 W0 (H + 1 + 1) (.slice A2 m2 c2) (.int .i64 (r2 : Int))) := Lib.hid (by
    rw [hW0]; exact (Blk.new (w := (w.alloc _).alloc _) (by simp [hH]) [.slice A2 m2 c2, .int .i64 (r2 : Int)] _).alloc (by simp) _)
  have X3 : Hid (B2 W0 (H + 1 + 1 + 1) (.slice none 0 0) (.int .i64 0)) := Lib.hid (by
    rw [hW0]; exact Blk.new (w := ((w.alloc _).alloc _).alloc _) (by simp [hH]) [.slice none 0 0, .int .i64 0] _)
  generalize hR : cn (fun x => if f0 x then f1 x else f2 x) = R at hsz0
  obtain ⟨MR, rr⟩ := R
  have HR := Lib.hid hR
  have HSZ := Lib.hid hsz0
  clear hR hsz0
  have HB0 := Lib.hid hbW
  have ab := ab2 W0 (.cells #[.slice A0 m0 c0, .int .i64 (r0 : Int), .slice A1 m1 c1, .int .i64 (r1 : Int), .slice A2 m2 c2, .int .i64 (r2 : Int)] 24)
  have HB1 : Hid (Below H w _) := Lib.hid (hbW.trans (ab.mono (by omega)))
  have X61 : Hid (Blk _ (H + 1 + 1 + 1 + 1) 6 _) := Lib.hid (Blk.new (w := W0) hs0 (L6 A0 A1 A2 m0 c0 r0 m1 c1 r1 m2 c2 r2) 24)
  have Y0 := rb2 X0 ab
  have Y1 := rb2 X1 ab
  have Y2 := rb2 X2 ab
  have Y3 := rb2 X3 ab
  clear ab hbW X0 X1 X2 X3
  go_enter Tryd.func27, Tryd.ntmps27
  go_wp2_with fail
  rw [← hW]
  generalize W0.alloc (.cells #[.slice A0 m0 c0, .int .i64 (r0 : Int), .slice A1 m1 c1, .int .i64 (r1 : Int), .slice A2 m2 c2, .int .i64 (r2 : Int)] 24) = w1 at *
  clear hW hW0 hs0 HB0
  have HK : Hid (∀ wx, Below H w wx → Below w.heap.size w wx) := fun wx h => by rw [hH]; exact h
  have hs1 : H ≤ w1.heap.size := by have := HB1.out.size; omega
  with_reducible refine (ch_check m0 c0 r0 m1 c1 r1 m2 c2 r2 A0 A1 A2 f0 f1 f2 _ w1 (rdn h0 (HK.out _ HB1.out)).out (rdn h1 (HK.out _ HB1.out)).out (rdn h2 (HK.out _ HB1.out)).out X61.out).mono ?_
  rintro e w2 ⟨rfl, b2⟩
  replace Y0 := rb2 Y0 b2
  replace Y1 := rb2 Y1 b2
  replace Y2 := rb2 Y2 b2
  replace Y3 := rb2 Y3 b2
  have HB2 := btr HB1 b2 hs1
  have hs2 : H ≤ w2.heap.size := by have := b2.size; omega
  have hs2b : H + 1 + 1 + 1 < w2.heap.size := Y3.out.lt (by omega)
  clear b2 X61 HB1 hs1
  obtain ⟨u0, u1, un⟩ := xb2 Y0
  obtain ⟨v0, v1, vn⟩ := xb2 Y1
  obtain ⟨z0, z1, zn⟩ := xb2 Y2
  go_wp2_with fail
  with_reducible refine (shared_ok m1 c1 r1 m2 c2 r2 A1 A2 f1 f2 w2 (rdn h1 (HK.out _ HB2.out)) (rdn h2 (HK.out _ HB2.out)) hm).mono ?_
  rintro e w3 ⟨⟨A, n, c, N, ra, rb, rfl, hl, hnc, hnm, hg, hrd, q1, q2, d1, d2, hfr⟩, b3⟩
  clear u0 u1 un v0 v1 vn z0 z1 zn
  replace Y0 := rb2 Y0 b3
  replace Y1 := rb2 Y1 b3
  replace Y2 := rb2 Y2 b3
  replace Y3 := rb2 Y3 b3
  have HB3 := btr HB2 b3 hs2
  have hs3 : H + 1 + 1 + 1 < w3.heap.size := Y3.out.lt (by omega)
  have HFR : Hid (Fr A (H + 1 + 1 + 1 + 1)) := Lib.hid (hfr.mono (by omega))
  obtain ⟨u0, u1, un⟩ := xb2 Y0
  obtain ⟨v0, v0f⟩ := Y1.out 0 (by omega)
  obtain ⟨v1, v1f⟩ := Y1.out 1 (by omega)
  obtain ⟨z0, z0f⟩ := Y2.out 0 (by omega)
  obtain ⟨z1, z1f⟩ := Y2.out 1 (by omega)
  go_wp2_with fail
  have hb4 : Below H w ((((w3.setCell ⟨H + 1, 0, none⟩ (.slice A n c)).setCell ⟨H + 1, 1, none⟩ (.int .i64 (ra : Int))).setCell ⟨H + 1 + 1, 0, none⟩ (.slice A n c)).setCell ⟨H + 1 + 1, 1, none⟩ (.int .i64 (rb : Int))) :=
    (((HB3.out.setCell (by show H ≤ H + 1; omega) _).setCell (by show H ≤ H + 1; omega) _).setCell (by show H ≤ H + 1 + 1; omega) _).setCell (by show H ≤ H + 1 + 1; omega) _
  have hy3 : B2 ((((w3.setCell ⟨H + 1, 0, none⟩ (.slice A n c)).setCell ⟨H + 1, 1, none⟩ (.int .i64 (ra : Int))).setCell ⟨H + 1 + 1, 0, none⟩ (.slice A n c)).setCell ⟨H + 1 + 1, 1, none⟩ (.int .i64 (rb : Int))) (H + 1 + 1 + 1) (.slice none 0 0) (.int .i64 0) :=
    (((Y3.out.other (by show H + 1 ≠ _; omega) _).other (by show H + 1 ≠ _; omega) _).other (by show H + 1 + 1 ≠ _; omega) _).other (by show H + 1 + 1 ≠ _; omega) _
  have f2 := HFR.out.mono (show H + 1 + 1 ≤ H + 1 + 1 + 1 + 1 by omega)
  have f3 := HFR.out.mono (show H + 1 + 1 + 1 ≤ H + 1 + 1 + 1 + 1 by omega)
  have hr4 := (((hrd.setF (n := 0) f2 (.slice A n c)).setF (n := 1) f2 (.int .i64 (ra : Int))).setF (n := 0) f3 (.slice A n c)).setF (n := 1) f3 (.int .i64 (rb : Int))
  have hz4 : ((((w3.setCell ⟨H + 1, 0, none⟩ (.slice A n c)).setCell ⟨H + 1, 1, none⟩ (.int .i64 (ra : Int))).setCell ⟨H + 1 + 1, 0, none⟩ (.slice A n c)).setCell ⟨H + 1 + 1, 1, none⟩ (.int .i64 (rb : Int))).heap.size = w3.heap.size := by simp [World.setCell]
  have hb5 := ab2 ((((w3.setCell ⟨H + 1, 0, none⟩ (.slice A n c)).setCell ⟨H + 1, 1, none⟩ (.int .i64 (ra : Int))).setCell ⟨H + 1 + 1, 0, none⟩ (.slice A n c)).setCell ⟨H + 1 + 1, 1, none⟩ (.int .i64 (rb : Int))) (.cells #[.slice A0 m0 c0, .int .i64 (r0 : Int), .slice A n c, .int .i64 (ra : Int), .slice A n c, .int .i64 (rb : Int)] 24)
  have X65 := Lib.hid (Blk.new hz4 (L6 A0 A A m0 c0 r0 n c ra n c rb) 24)
  have HZ : H ≤ w3.heap.size := by omega
  have HB5 := Lib.hid (hb4.trans (hb5.mono (by rw [hz4]; exact HZ)))
  have HR5 := Lib.hid ((hr4.below (by rw [← hz4]; exact hb5)).mono (show w3.heap.size ≤ _ by rw [← hz4]; exact hb5.size))
  have Y5 := Lib.hid (hy3.below (by omega) hb5)
  have hz5 : H + 1 + 1 + 1 < _ := Y5.out.lt (by omega)
  clear u0 u1 un v0 v0f v1 v1f z0 z0f z1 z1f hb4 hy3 f2 f3 hr4 hz4 hb5 hrd Y0 Y1 Y2 Y3 HB2 HB3
  generalize ((((w3.setCell ⟨H + 1, 0, none⟩ (.slice A n c)).setCell ⟨H + 1, 1, none⟩ (.int .i64 (ra : Int))).setCell ⟨H + 1 + 1, 0, none⟩ (.slice A n c)).setCell ⟨H + 1 + 1, 1, none⟩ (.int .i64 (rb : Int))).alloc (.cells #[.slice A0 m0 c0, .int .i64 (r0 : Int), .slice A n c, .int .i64 (ra : Int), .slice A n c, .int .i64 (rb : Int)] 24) = w5 at *
  with_reducible refine (ch_over m0 c0 r0 n c ra rb A0 A N f0 f1 f2 _ w5 (rdn h0 (HK.out _ HB5.out)).out HR5.out hl (by omega) hg q1 q2 d1 d2 (hin.out.below (HK.out _ HB5.out)) X65.out MR rr HR.out HSZ.out).mono ?_
  rintro e w6 ⟨rfl, b6⟩
  have Y6 := rb2 Y5 b6
  have HB6 := btr HB5 b6 (by omega)
  clear b6
  obtain ⟨y0, y0f⟩ := Y6.out 0 (by omega)
  obtain ⟨y1, y1f⟩ := Y6.out 1 (by omega)
  go_wp2
  refine bodyPost_ret (v := .tuple #[.agg #[.slice none 0 0, .int .i64 0], .int .i64 2]) ?_ rfl ⟨rfl, by rw [hH]; exact (HB6.out.setCell (by show H ≤ H + 1 + 1 + 1; omega) _).setCell (by show H ≤ H + 1 + 1 + 1; omega) _⟩
  rw [results_cell_tmp rfl]
  go_simp

end Go.Proofs.YtmfinkaphglmjaaDoor
