/-
  The reference's search: the list of pairs in memory; met. (Seat of the great laws.) (Written by qngen.py.)
-/
import Derived.Test.YtfkljlncnfeklaaGreatDoorXQkM
namespace Go.Proofs.YtfkljlncnfeklaaGreatDoor
open Go.RowKit Go.Shelf
set_option linter.unusedVariables false
set_option linter.unusedSimpArgs false
attribute [local go_sem ↓] Go.wp_at_zero Go.wp_at_succ

/-- an element of the list: the pair, and where the rows of its two states lie -/
abbrev En := Pr2 × (Nat × Nat) × (Nat × Nat)
def s1V (m : Nat) (e : En) : Value := .agg #[.bool e.1.1.1.1, .slice (some ⟨e.2.1.1, 0, none⟩) m e.2.1.2]
def s2V (m' : Nat) (e : En) : Value := .agg #[.bool e.1.1.2.1, .slice (some ⟨e.2.2.1, 0, none⟩) m' e.2.2.2]
def enC2 (m m' : Nat) (e : En) : List Value := [.bool e.1.1.1.1, .slice (some ⟨e.2.1.1, 0, none⟩) m e.2.1.2, .bool e.1.1.2.1, .slice (some ⟨e.2.2.1, 0, none⟩) m' e.2.2.2, .string ⟨e.1.2.toArray⟩]
def qC (m m' : Nat) (es : List En) : List Value := es.flatMap (enC2 m m')
theorem qC_len (m m' : Nat) : ∀ es : List En, (qC m m' es).length = es.length * 5
  | [] => rfl
  | e :: es => by
    show (enC2 m m' e ++ qC m m' es).length = _
    rw [List.length_append, qC_len m m' es, List.length_cons]
    show 5 + _ = _
    omega
theorem qC_app (m m' : Nat) (es : List En) (e : En) : qC m m' (es ++ [e]) = qC m m' es ++ enC2 m m' e := by unfold qC; rw [List.flatMap_append]; simp
theorem qC_at (m m' : Nat) : ∀ (es : List En) (i : Nat) (h : i < es.length) (j : Nat), j < 5 → (qC m m' es)[i * 5 + j]? = (enC2 m m' (es[i]'h))[j]?
  | e :: es, 0, h, j, hj => by
    show (enC2 m m' e ++ qC m m' es)[0 * 5 + j]? = _
    rw [Nat.zero_mul, Nat.zero_add, List.getElem?_append_left (by show j < 5; exact hj)]
    rfl
  | e :: es, i + 1, h, j, hj => by
    show (enC2 m m' e ++ qC m m' es)[(i + 1) * 5 + j]? = _
    rw [List.getElem?_append_right (by show 5 ≤ _; omega)]
    show (qC m m' es)[(i + 1) * 5 + j - 5]? = _
    rw [show (i + 1) * 5 + j - 5 = i * 5 + j by omega]
    exact qC_at m m' es i (by simpa using h) j hj
/-- the rows of an element -/
def EnM (W : World) (B m m' : Nat) (e : En) : Prop := (B ≤ e.2.1.1 ∧ Bq W e.2.1.1 e.1.1.1.2 ∧ e.1.1.1.2.length = m) ∧ (B ≤ e.2.2.1 ∧ Bq W e.2.2.1 e.1.1.2.2 ∧ e.1.1.2.2.length = m')
theorem EnM.below {W W' : World} {B m m' : Nat} {e : En} (h : EnM W B m m' e) (hb : Below W.heap.size W W') : EnM W' B m m' e := ⟨⟨h.1.1, h.1.2.1.below hb, h.1.2.2⟩, h.2.1, h.2.2.1.below hb, h.2.2.2⟩
theorem EnM.s1 {W : World} {B m m' : Nat} {e : En} (h : EnM W B m m' e) : SvM W B m (s1V m e) e.1.1.1 := ⟨_, _, rfl, h.1.1, h.1.2.1, h.1.2.2⟩
theorem EnM.s2 {W : World} {B m m' : Nat} {e : En} (h : EnM W B m m' e) : SvM W B m' (s2V m' e) e.1.1.2 := ⟨_, _, rfl, h.2.1, h.2.2.1, h.2.2.2⟩
/-- the list in memory -/
structure QuM (W : World) (B m m' g cp : Nat) (es : List En) : Prop where
  own : W.ownsRow B 81 5 (.slice (some ⟨g, 0, none⟩) es.length cp) es.length (qC m m' es)
  mem : ∀ e ∈ es, EnM W B m m' e
theorem QuM.below {W W' : World} {B m m' g cp : Nat} {es : List En} (h : QuM W B m m' g cp es) (hb : Below W.heap.size W W') : QuM W' B m m' g cp es := ⟨own_below h.own hb, fun e he => (h.mem e he).below hb⟩
theorem QuM.cells {W : World} {B m m' g cp : Nat} {es : List En} (h : QuM W B m m' g cp es) {i : Nat} (hi : i < es.length) {e : En} (he : es[i]'hi = e) :
    W.cell? ⟨g, i * 5, none⟩ = some (.bool e.1.1.1.1) ∧ W.cell? ⟨g, i * 5 + 1, none⟩ = some (.slice (some ⟨e.2.1.1, 0, none⟩) m e.2.1.2) ∧ W.cell? ⟨g, i * 5 + 2, none⟩ = some (.bool e.1.1.2.1) ∧ W.cell? ⟨g, i * 5 + 3, none⟩ = some (.slice (some ⟨e.2.2.1, 0, none⟩) m' e.2.2.2) ∧ W.cell? ⟨g, i * 5 + 4, none⟩ = some (.string ⟨e.1.2.toArray⟩) := by
  subst he
  have at_ : ∀ j : Nat, j < 5 → W.cell? ⟨g, i * 5 + j, none⟩ = (enC2 m m' (es[i]'hi))[j]? := fun j hj => (World.ownsRow.cellAt h.own (i * 5 + j) (by omega)).trans (qC_at m m' es i hi j hj)
  exact ⟨at_ 0 (by omega), at_ 1 (by omega), at_ 2 (by omega), at_ 3 (by omega), at_ 4 (by omega)⟩
theorem cp_pair (w : World) (a0 a1 a2 a3 a4 : Value) : ∀ W, w.alloc (.cells #[a0, a1, a2, a3, a4] 81) = W → Below w.heap.size w W ∧ Bx W w.heap.size #[a0, a1, a2, a3, a4] 81 := by
  rintro W rfl
  exact ⟨(Below.refl _ _).alloc (Nat.le_refl _) _, bx_new rfl _ _⟩
set_option maxRecDepth 100000 in
set_option maxHeartbeats 8000000 in
theorem rmet_any (B m m' g cp : Nat) (es : List En) (e0 : En) (n : Nat) (w : World) (hn : Hid (es.length = n)) (hq : Hid (QuM w B m m' g cp es)) (h0 : Hid (EnM w B m m' e0)) (hm : m ≤ 1000000) (hm' : m' ≤ 1000000) (hes : n ≤ 1000000000) :
    Calls Tryz.prog 49 #[.slice (some ⟨g, 0, none⟩) n cp, .agg #[.bool e0.1.1.1.1, .slice (some ⟨e0.2.1.1, 0, none⟩) m e0.2.1.2, .bool e0.1.1.2.1, .slice (some ⟨e0.2.2.1, 0, none⟩) m' e0.2.2.2, .string ⟨e0.1.2.toArray⟩]] w fun e w' => e = .returned (.bool (decide (∃ y ∈ es, y.1.1 = e0.1.1))) ∧ Hid (Below w.heap.size w w') := by
  have P := cp_pair w (.bool e0.1.1.1.1) (.slice (some ⟨e0.2.1.1, 0, none⟩) m e0.2.1.2) (.bool e0.1.1.2.1) (.slice (some ⟨e0.2.2.1, 0, none⟩) m' e0.2.2.2) (.string ⟨e0.1.2.toArray⟩)
  have HSA : Hid (∀ W e, Hid (EnM W B m m' e) → Hid (EnM W B m m' e0) → Calls Tryz.prog 73 #[.agg #[.bool e.1.1.1.1, .slice (some ⟨e.2.1.1, 0, none⟩) m e.2.1.2], .agg #[.bool e0.1.1.1.1, .slice (some ⟨e0.2.1.1, 0, none⟩) m e0.2.1.2]] W fun r w' => r = .returned (.bool (decide (e.1.1.1 = e0.1.1.1))) ∧ Hid (Below W.heap.size W w')) := Lib.hid (fun W e h1 h2 => rsameS_any _ _ B B m _ _ W (Lib.hid h1.out.s1) (Lib.hid h2.out.s1) hm)
  have HSB : Hid (∀ W e, Hid (EnM W B m m' e) → Hid (EnM W B m m' e0) → Calls Tryz.prog 73 #[.agg #[.bool e.1.1.2.1, .slice (some ⟨e.2.2.1, 0, none⟩) m' e.2.2.2], .agg #[.bool e0.1.1.2.1, .slice (some ⟨e0.2.2.1, 0, none⟩) m' e0.2.2.2]] W fun r w' => r = .returned (.bool (decide (e.1.1.2 = e0.1.1.2))) ∧ Hid (Below W.heap.size W w')) := Lib.hid (fun W e h1 h2 => rsameS_any _ _ B B m' _ _ W (Lib.hid h1.out.s2) (Lib.hid h2.out.s2) hm')
  go_enter Tryz.func49, Tryz.ntmps49
  go_upto_region 1 with fail
  generalize hwa : World.alloc w _ = wa
  obtain ⟨b1, X1⟩ := P _ hwa
  have HB0 := Lib.hid b1
  have HQ0 := Lib.hid (hq.out.below b1)
  have HE0 := Lib.hid (h0.out.below b1)
  have HX0 := Lib.hid X1
  clear hwa P X1 b1 hq h0
  go_wp2
  go_loopw [5] (fun v5 wr => ∃ i : Nat, v5 = .int .i64 (i : Int) ∧ i ≤ n ∧ Hid (∀ j, ∀ h : j < es.length, j < i → (es[j]'h).1.1 ≠ e0.1.1) ∧ Hid (Below w.heap.size w wr) ∧ Hid (QuM wr B m m' g cp es) ∧ Hid (EnM wr B m m' e0) ∧ Hid (Bx wr w.heap.size #[.bool e0.1.1.1.1, .slice (some ⟨e0.2.1.1, 0, none⟩) m e0.2.1.2, .bool e0.1.1.2.1, .slice (some ⟨e0.2.2.1, 0, none⟩) m' e0.2.2.2, .string ⟨e0.1.2.toArray⟩] 81)) (fun v5 wr => n - (intOf v5).toNat)
  case atStart => exact ⟨0, rfl, Nat.zero_le _, Lib.hid (fun j h hj => absurd hj (Nat.not_lt_zero _)), HB0, HQ0, HE0, HX0⟩
  case round =>
    clear HB0 HQ0 HE0 HX0
    obtain ⟨i, rfl, hi, hno, HB, HQ, HE, HX⟩ := hrel
    by_cases hlt : i < n
    · have i1 : (i : Int) < (n : Int) := by omega
      have i0 : (0 : Int) ≤ (i : Int) := by omega
      have hil : i < es.length := by rw [hn.out]; exact hlt
      obtain ⟨e, he⟩ : ∃ e, es[i]'hil = e := ⟨_, rfl⟩
      have hem : e ∈ es := he ▸ List.getElem_mem hil
      have HEM := Lib.hid (HQ.out.mem e hem)
      obtain ⟨c0, c1, c2, c3, c4⟩ := HQ.out.cells hil he
      obtain ⟨x0, x1, x2, x3, x4⟩ := bx5 HX.out
      have HD : Hid (∀ wd, wd = wr.drew → (QuM wd B m m' g cp es ∧ EnM wd B m m' e0 ∧ Bx wd w.heap.size #[.bool e0.1.1.1.1, .slice (some ⟨e0.2.1.1, 0, none⟩) m e0.2.1.2, .bool e0.1.1.2.1, .slice (some ⟨e0.2.2.1, 0, none⟩) m' e0.2.2.2, .string ⟨e0.1.2.toArray⟩] 81 ∧ EnM wd B m m' e ∧ Below w.heap.size w wd)) := Lib.hid (fun wd hwd => by
        subst hwd
        have hb : Below wr.heap.size wr wr.drew := (Below.refl _ _).drew
        exact ⟨HQ.out.below hb, HE.out.below hb, HX.out.below hb, HEM.out.below hb, HB.out.drew⟩)
      have HYES : Hid (e.1.1.1 = e0.1.1.1 → e.1.1.2 = e0.1.1.2 → decide (∃ y ∈ es, y.1.1 = e0.1.1) = true) := Lib.hid (fun q1 q2 => decide_eq_true ⟨e, hem, Prod.ext q1 q2⟩)
      have HNX : Hid ((e.1.1.1 ≠ e0.1.1.1 ∨ e.1.1.2 ≠ e0.1.1.2) → ∀ j, ∀ h : j < es.length, j < i + 1 → (es[j]'h).1.1 ≠ e0.1.1) := Lib.hid (fun q j h hj => by
        rcases Nat.lt_or_ge j i with r | r
        · exact hno.out j h r
        · obtain rfl : j = i := by omega
          rw [he]
          intro ee
          rcases q with q | q
          · exact q (by rw [ee])
          · exact q (by rw [ee]))
      have HIH := Lib.hid he
      clear he hno hem
      obtain ⟨hD1, hD2, hD3, hD4, hD5⟩ := HD.out _ rfl
      have HQd := Lib.hid hD1
      have HEd := Lib.hid hD2
      have HXd := Lib.hid hD3
      have HEMd := Lib.hid hD4
      have HBd := Lib.hid hD5
      have HC1 := Lib.hid (HSA.out wr.drew e HEMd HEd)
      have HSB' := Lib.hid (fun W => HSB.out W e)
      have HQC := Lib.hid (fun W (h : QuM W B m m' g cp es) => h.cells hil HIH.out)
      clear hD1 hD2 hD3 hD4 hD5 HD HIH
      obtain ⟨c0, c1, c2, c3, c4⟩ := HQC.out _ HQd.out
      obtain ⟨x0, x1, x2, x3, x4⟩ := bx5 HXd.out
      generalize hst : decide (e.1.1.1 = e0.1.1.1) = f1 at *
      generalize hst2 : decide (e.1.1.2 = e0.1.1.2) = f2 at *
      go_upto_region 4 with fail

      rcases f1 with _ | _
      · have hne := Lib.hid (of_decide_eq_false hst)
        have HST2 := Lib.hid hst2
        clear hst hst2
        refine wp_region_held_drew (S := (fun w' => w'.cell? ⟨g, i * 5, none⟩ = some (.bool e.1.1.1.1) ∧ w'.cell? ⟨g, i * 5 + 1, none⟩ = some (.slice (some ⟨e.2.1.1, 0, none⟩) m e.2.1.2) ∧ w'.cell? ⟨g, i * 5 + 2, none⟩ = some (.bool e.1.1.2.1) ∧ w'.cell? ⟨g, i * 5 + 3, none⟩ = some (.slice (some ⟨e.2.2.1, 0, none⟩) m' e.2.2.2) ∧ w'.cell? ⟨w.heap.size, 0, none⟩ = some (.bool e0.1.1.1.1) ∧ w'.cell? ⟨w.heap.size, 1, none⟩ = some (.slice (some ⟨e0.2.1.1, 0, none⟩) m e0.2.1.2) ∧ w'.cell? ⟨w.heap.size, 2, none⟩ = some (.bool e0.1.1.2.1) ∧ w'.cell? ⟨w.heap.size, 3, none⟩ = some (.slice (some ⟨e0.2.2.1, 0, none⟩) m' e0.2.2.2))) (by kernel_rfl) ?_ (fun hHeld => ?_)
        · (try dsimp only); first | (refine ⟨?_, ?_, ?_, ?_, ?_, ?_, ?_, ?_⟩ <;> (with_reducible assumption)) | go_keep
        refine hTake (i := 0) (v := .slice (some ⟨g, 0, none⟩) n cp) 12 rfl rfl (by kernel_rfl) (by kernel_rfl) (by kernel_rfl) (fun _ _ _ h => h) (Or.inl ⟨by rfl, ?_⟩) hHeld ?_
        · (intro wS hSw; (try dsimp only at hSw); go_simp)
        simp only [Act.put, List.setIfInBounds_toArray, List.set_cons_zero, List.set_cons_succ]
        refine hTake (i := 1) (v := .int .i64 (i : Int)) 13 rfl rfl (by kernel_rfl) (by kernel_rfl) (by kernel_rfl) (fun _ _ _ h => h) (Or.inl ⟨by rfl, ?_⟩) hHeld ?_
        · (intro wS hSw; (try dsimp only at hSw); go_simp)
        simp only [Act.put, List.setIfInBounds_toArray, List.set_cons_zero, List.set_cons_succ]
        refine hTake (i := 2) (v := .pointer (some ⟨g, i * 5, none⟩)) 14 rfl rfl (by kernel_rfl) (by kernel_rfl) (by kernel_rfl) (fun _ _ _ h => h) (Or.inl ⟨by rfl, ?_⟩) hHeld ?_
        · (intro wS hSw; (try dsimp only at hSw); go_simp)
        simp only [Act.put, List.setIfInBounds_toArray, List.set_cons_zero, List.set_cons_succ]
        refine hTake (i := 3) (v := .pointer (some ⟨g, i * 5, none⟩)) 15 rfl rfl (by kernel_rfl) (by kernel_rfl) (by kernel_rfl) (fun _ _ _ h => h) (Or.inl ⟨by rfl, ?_⟩) hHeld ?_
        · (intro wS hSw; (try dsimp only at hSw); go_simp)
        simp only [Act.put, List.setIfInBounds_toArray, List.set_cons_zero, List.set_cons_succ]
        refine hTake (i := 4) (v := .agg #[.bool e.1.1.1.1, .slice (some ⟨e.2.1.1, 0, none⟩) m e.2.1.2]) 16 rfl rfl (by kernel_rfl) (by kernel_rfl) (by kernel_rfl) (fun _ _ _ h => h) (Or.inl ⟨by rfl, ?_⟩) hHeld ?_
        · (intro wS hSw; (try dsimp only at hSw); go_simp)
        simp only [Act.put, List.setIfInBounds_toArray, List.set_cons_zero, List.set_cons_succ]
        refine hTake (i := 5) (v := .pointer (some ⟨w.heap.size, 0, none⟩)) 17 rfl rfl (by kernel_rfl) (by kernel_rfl) (by kernel_rfl) (fun _ _ _ h => h) (Or.inl ⟨by rfl, ?_⟩) hHeld ?_
        · (intro wS hSw; (try dsimp only at hSw); go_simp)
        simp only [Act.put, List.setIfInBounds_toArray, List.set_cons_zero, List.set_cons_succ]
        refine hTake (i := 6) (v := .agg #[.bool e0.1.1.1.1, .slice (some ⟨e0.2.1.1, 0, none⟩) m e0.2.1.2]) 18 rfl rfl (by kernel_rfl) (by kernel_rfl) (by kernel_rfl) (fun _ _ _ h => h) (Or.inl ⟨by rfl, ?_⟩) hHeld ?_
        · (intro wS hSw; (try dsimp only at hSw); go_simp)
        simp only [Act.put, List.setIfInBounds_toArray, List.set_cons_zero, List.set_cons_succ]
        refine wpAnyH_ready (rs := [7]) (by kernel_rfl) (by simp) ?_
        refine AllReadyH.cons rfl (fun K hK => ?_) AllReadyH.nil
        go_simp
        go_at_call 73
        with_reducible refine HC1.out.mono ?_
        rintro er w2 ⟨rfl, b2⟩
        clear c0 c1 c2 c3 c4 x0 x1 x2 x3 x4
        have HQ2 := Lib.hid (HQd.out.below b2.out)
        have HE2 := Lib.hid (HEd.out.below b2.out)
        have HX2 := Lib.hid (HXd.out.below b2.out)
        have HEM2 := Lib.hid (HEMd.out.below b2.out)
        have HB2 := Lib.hid (HBd.out.trans (b2.out.mono HBd.out.size))
        have HC2 := Lib.hid (HSB'.out w2 HEM2 HE2)
        obtain ⟨c0, c1, c2, c3, c4⟩ := HQC.out _ HQ2.out
        obtain ⟨x0, x1, x2, x3, x4⟩ := bx5 HX2.out
        clear b2
        go_wp2_with fail
        refine hK.out _ _ ?_ (fun hHeld => ?_)
        · (try dsimp only); first | (refine ⟨?_, ?_, ?_, ?_, ?_, ?_, ?_, ?_⟩ <;> (with_reducible assumption)) | go_keep
        clear hK K
        try simp only [Act.put, List.setIfInBounds_toArray, List.set_cons_zero, List.set_cons_succ]
        refine hTake (i := 8) (v := .bool false) 20 rfl rfl (by kernel_rfl) (by kernel_rfl) (by kernel_rfl) (fun _ _ _ h => h) (Or.inl ⟨by rfl, ?_⟩) hHeld ?_
        · (intro wS hSw; (try dsimp only at hSw); go_simp)
        simp only [Act.put, List.setIfInBounds_toArray, List.set_cons_zero, List.set_cons_succ]
        refine hTake (i := 9) (v := undef) 21 rfl rfl (by kernel_rfl) (by kernel_rfl) (by kernel_rfl) (fun _ _ _ h => h) (Or.inr ⟨by rfl, rfl⟩) hHeld ?_
        simp only [Act.put, List.setIfInBounds_toArray, List.set_cons_zero, List.set_cons_succ]
        refine hTake (i := 10) (v := undef) 22 rfl rfl (by kernel_rfl) (by kernel_rfl) (by kernel_rfl) (fun _ _ _ h => h) (Or.inr ⟨by rfl, rfl⟩) hHeld ?_
        simp only [Act.put, List.setIfInBounds_toArray, List.set_cons_zero, List.set_cons_succ]
        refine hTake (i := 11) (v := undef) 23 rfl rfl (by kernel_rfl) (by kernel_rfl) (by kernel_rfl) (fun _ _ _ h => h) (Or.inr ⟨by rfl, rfl⟩) hHeld ?_
        simp only [Act.put, List.setIfInBounds_toArray, List.set_cons_zero, List.set_cons_succ]
        refine hTake (i := 12) (v := undef) 24 rfl rfl (by kernel_rfl) (by kernel_rfl) (by kernel_rfl) (fun _ _ _ h => h) (Or.inr ⟨by rfl, rfl⟩) hHeld ?_
        simp only [Act.put, List.setIfInBounds_toArray, List.set_cons_zero, List.set_cons_succ]
        refine hTake (i := 13) (v := undef) 25 rfl rfl (by kernel_rfl) (by kernel_rfl) (by kernel_rfl) (fun _ _ _ h => h) (Or.inr ⟨by rfl, rfl⟩) hHeld ?_
        simp only [Act.put, List.setIfInBounds_toArray, List.set_cons_zero, List.set_cons_succ]
        refine hTake (i := 14) (v := undef) 26 rfl rfl (by kernel_rfl) (by kernel_rfl) (by kernel_rfl) (fun _ _ _ h => h) (Or.inr ⟨by rfl, rfl⟩) hHeld ?_
        simp only [Act.put, List.setIfInBounds_toArray, List.set_cons_zero, List.set_cons_succ]
        refine hTake (i := 15) (v := undef) 27 rfl rfl (by kernel_rfl) (by kernel_rfl) (by kernel_rfl) (fun _ _ _ h => h) (Or.inr ⟨by rfl, rfl⟩) hHeld ?_
        simp only [Act.put, List.setIfInBounds_toArray, List.set_cons_zero, List.set_cons_succ]
        refine hTake (i := 16) (v := undef) 28 rfl rfl (by kernel_rfl) (by kernel_rfl) (by kernel_rfl) (fun _ _ _ h => h) (Or.inr ⟨by rfl, rfl⟩) hHeld ?_
        simp only [Act.put, List.setIfInBounds_toArray, List.set_cons_zero, List.set_cons_succ]
        refine hTake (i := 17) (v := .bool false) 29 rfl rfl (by kernel_rfl) (by kernel_rfl) (by kernel_rfl) (fun _ _ _ h => h) (Or.inl ⟨by rfl, ?_⟩) hHeld ?_
        · (intro wS hSw; (try dsimp only at hSw); go_simp)
        simp only [Act.put, List.setIfInBounds_toArray, List.set_cons_zero, List.set_cons_succ]
        refine wpAnyH_done (by kernel_rfl) ?_ _
        go_wp2
        go_roundw
        case rel => exact ⟨i + 1, by go_num, by omega, Lib.hid (HNX.out (.inl hne.out)), HB2, HQ2, HE2, HX2⟩
        case measure => simp only [intOf]; omega
      · have heq := Lib.hid (of_decide_eq_true hst)
        have HST2 := Lib.hid hst2
        clear hst hst2
        refine wp_region_held_drew (S := (fun w' => w'.cell? ⟨g, i * 5, none⟩ = some (.bool e.1.1.1.1) ∧ w'.cell? ⟨g, i * 5 + 1, none⟩ = some (.slice (some ⟨e.2.1.1, 0, none⟩) m e.2.1.2) ∧ w'.cell? ⟨g, i * 5 + 2, none⟩ = some (.bool e.1.1.2.1) ∧ w'.cell? ⟨g, i * 5 + 3, none⟩ = some (.slice (some ⟨e.2.2.1, 0, none⟩) m' e.2.2.2) ∧ w'.cell? ⟨w.heap.size, 0, none⟩ = some (.bool e0.1.1.1.1) ∧ w'.cell? ⟨w.heap.size, 1, none⟩ = some (.slice (some ⟨e0.2.1.1, 0, none⟩) m e0.2.1.2) ∧ w'.cell? ⟨w.heap.size, 2, none⟩ = some (.bool e0.1.1.2.1) ∧ w'.cell? ⟨w.heap.size, 3, none⟩ = some (.slice (some ⟨e0.2.2.1, 0, none⟩) m' e0.2.2.2))) (by kernel_rfl) ?_ (fun hHeld => ?_)
        · (try dsimp only); first | (refine ⟨?_, ?_, ?_, ?_, ?_, ?_, ?_, ?_⟩ <;> (with_reducible assumption)) | go_keep
        refine hTake (i := 0) (v := .slice (some ⟨g, 0, none⟩) n cp) 12 rfl rfl (by kernel_rfl) (by kernel_rfl) (by kernel_rfl) (fun _ _ _ h => h) (Or.inl ⟨by rfl, ?_⟩) hHeld ?_
        · (intro wS hSw; (try dsimp only at hSw); go_simp)
        simp only [Act.put, List.setIfInBounds_toArray, List.set_cons_zero, List.set_cons_succ]
        refine hTake (i := 1) (v := .int .i64 (i : Int)) 13 rfl rfl (by kernel_rfl) (by kernel_rfl) (by kernel_rfl) (fun _ _ _ h => h) (Or.inl ⟨by rfl, ?_⟩) hHeld ?_
        · (intro wS hSw; (try dsimp only at hSw); go_simp)
        simp only [Act.put, List.setIfInBounds_toArray, List.set_cons_zero, List.set_cons_succ]
        refine hTake (i := 2) (v := .pointer (some ⟨g, i * 5, none⟩)) 14 rfl rfl (by kernel_rfl) (by kernel_rfl) (by kernel_rfl) (fun _ _ _ h => h) (Or.inl ⟨by rfl, ?_⟩) hHeld ?_
        · (intro wS hSw; (try dsimp only at hSw); go_simp)
        simp only [Act.put, List.setIfInBounds_toArray, List.set_cons_zero, List.set_cons_succ]
        refine hTake (i := 3) (v := .pointer (some ⟨g, i * 5, none⟩)) 15 rfl rfl (by kernel_rfl) (by kernel_rfl) (by kernel_rfl) (fun _ _ _ h => h) (Or.inl ⟨by rfl, ?_⟩) hHeld ?_
        · (intro wS hSw; (try dsimp only at hSw); go_simp)
        simp only [Act.put, List.setIfInBounds_toArray, List.set_cons_zero, List.set_cons_succ]
        refine hTake (i := 4) (v := .agg #[.bool e.1.1.1.1, .slice (some ⟨e.2.1.1, 0, none⟩) m e.2.1.2]) 16 rfl rfl (by kernel_rfl) (by kernel_rfl) (by kernel_rfl) (fun _ _ _ h => h) (Or.inl ⟨by rfl, ?_⟩) hHeld ?_
        · (intro wS hSw; (try dsimp only at hSw); go_simp)
        simp only [Act.put, List.setIfInBounds_toArray, List.set_cons_zero, List.set_cons_succ]
        refine hTake (i := 5) (v := .pointer (some ⟨w.heap.size, 0, none⟩)) 17 rfl rfl (by kernel_rfl) (by kernel_rfl) (by kernel_rfl) (fun _ _ _ h => h) (Or.inl ⟨by rfl, ?_⟩) hHeld ?_
        · (intro wS hSw; (try dsimp only at hSw); go_simp)
        simp only [Act.put, List.setIfInBounds_toArray, List.set_cons_zero, List.set_cons_succ]
        refine hTake (i := 6) (v := .agg #[.bool e0.1.1.1.1, .slice (some ⟨e0.2.1.1, 0, none⟩) m e0.2.1.2]) 18 rfl rfl (by kernel_rfl) (by kernel_rfl) (by kernel_rfl) (fun _ _ _ h => h) (Or.inl ⟨by rfl, ?_⟩) hHeld ?_
        · (intro wS hSw; (try dsimp only at hSw); go_simp)
        simp only [Act.put, List.setIfInBounds_toArray, List.set_cons_zero, List.set_cons_succ]
        refine wpAnyH_ready (rs := [7]) (by kernel_rfl) (by simp) ?_
        refine AllReadyH.cons rfl (fun K hK => ?_) AllReadyH.nil
        go_simp
        go_at_call 73
        with_reducible refine HC1.out.mono ?_
        rintro er w2 ⟨rfl, b2⟩
        clear c0 c1 c2 c3 c4 x0 x1 x2 x3 x4
        have HQ2 := Lib.hid (HQd.out.below b2.out)
        have HE2 := Lib.hid (HEd.out.below b2.out)
        have HX2 := Lib.hid (HXd.out.below b2.out)
        have HEM2 := Lib.hid (HEMd.out.below b2.out)
        have HB2 := Lib.hid (HBd.out.trans (b2.out.mono HBd.out.size))
        have HC2 := Lib.hid (HSB'.out w2 HEM2 HE2)
        obtain ⟨c0, c1, c2, c3, c4⟩ := HQC.out _ HQ2.out
        obtain ⟨x0, x1, x2, x3, x4⟩ := bx5 HX2.out
        clear b2
        go_wp2_with fail
        refine hK.out _ _ ?_ (fun hHeld => ?_)
        · (try dsimp only); first | (refine ⟨?_, ?_, ?_, ?_, ?_, ?_, ?_, ?_⟩ <;> (with_reducible assumption)) | go_keep
        clear hK K
        try simp only [Act.put, List.setIfInBounds_toArray, List.set_cons_zero, List.set_cons_succ]
        refine hTake (i := 8) (v := .bool true) 20 rfl rfl (by kernel_rfl) (by kernel_rfl) (by kernel_rfl) (fun _ _ _ h => h) (Or.inl ⟨by rfl, ?_⟩) hHeld ?_
        · (intro wS hSw; (try dsimp only at hSw); go_simp)
        simp only [Act.put, List.setIfInBounds_toArray, List.set_cons_zero, List.set_cons_succ]
        refine hTake (i := 9) (v := .slice (some ⟨g, 0, none⟩) n cp) 21 rfl rfl (by kernel_rfl) (by kernel_rfl) (by kernel_rfl) (fun _ _ _ h => h) (Or.inl ⟨by rfl, ?_⟩) hHeld ?_
        · (intro wS hSw; (try dsimp only at hSw); go_simp)
        simp only [Act.put, List.setIfInBounds_toArray, List.set_cons_zero, List.set_cons_succ]
        refine hTake (i := 10) (v := .int .i64 (i : Int)) 22 rfl rfl (by kernel_rfl) (by kernel_rfl) (by kernel_rfl) (fun _ _ _ h => h) (Or.inl ⟨by rfl, ?_⟩) hHeld ?_
        · (intro wS hSw; (try dsimp only at hSw); go_simp)
        simp only [Act.put, List.setIfInBounds_toArray, List.set_cons_zero, List.set_cons_succ]
        refine hTake (i := 11) (v := .pointer (some ⟨g, i * 5, none⟩)) 23 rfl rfl (by kernel_rfl) (by kernel_rfl) (by kernel_rfl) (fun _ _ _ h => h) (Or.inl ⟨by rfl, ?_⟩) hHeld ?_
        · (intro wS hSw; (try dsimp only at hSw); go_simp)
        simp only [Act.put, List.setIfInBounds_toArray, List.set_cons_zero, List.set_cons_succ]
        refine hTake (i := 12) (v := .pointer (some ⟨g, i * 5 + 2, none⟩)) 24 rfl rfl (by kernel_rfl) (by kernel_rfl) (by kernel_rfl) (fun _ _ _ h => h) (Or.inl ⟨by rfl, ?_⟩) hHeld ?_
        · (intro wS hSw; (try dsimp only at hSw); go_simp)
        simp only [Act.put, List.setIfInBounds_toArray, List.set_cons_zero, List.set_cons_succ]
        refine hTake (i := 13) (v := .agg #[.bool e.1.1.2.1, .slice (some ⟨e.2.2.1, 0, none⟩) m' e.2.2.2]) 25 rfl rfl (by kernel_rfl) (by kernel_rfl) (by kernel_rfl) (fun _ _ _ h => h) (Or.inl ⟨by rfl, ?_⟩) hHeld ?_
        · (intro wS hSw; (try dsimp only at hSw); go_simp)
        simp only [Act.put, List.setIfInBounds_toArray, List.set_cons_zero, List.set_cons_succ]
        refine hTake (i := 14) (v := .pointer (some ⟨w.heap.size, 2, none⟩)) 26 rfl rfl (by kernel_rfl) (by kernel_rfl) (by kernel_rfl) (fun _ _ _ h => h) (Or.inl ⟨by rfl, ?_⟩) hHeld ?_
        · (intro wS hSw; (try dsimp only at hSw); go_simp)
        simp only [Act.put, List.setIfInBounds_toArray, List.set_cons_zero, List.set_cons_succ]
        refine hTake (i := 15) (v := .agg #[.bool e0.1.1.2.1, .slice (some ⟨e0.2.2.1, 0, none⟩) m' e0.2.2.2]) 27 rfl rfl (by kernel_rfl) (by kernel_rfl) (by kernel_rfl) (fun _ _ _ h => h) (Or.inl ⟨by rfl, ?_⟩) hHeld ?_
        · (intro wS hSw; (try dsimp only at hSw); go_simp)
        simp only [Act.put, List.setIfInBounds_toArray, List.set_cons_zero, List.set_cons_succ]
        refine wpAnyH_ready (rs := [16]) (by kernel_rfl) (by simp) ?_
        refine AllReadyH.cons rfl (fun K hK => ?_) AllReadyH.nil
        go_simp
        skip
        go_at_call 73
        with_reducible refine HC2.out.mono ?_
        rintro er w3 ⟨rfl, b3⟩
        clear c0 c1 c2 c3 c4 x0 x1 x2 x3 x4
        have HQ3 := Lib.hid (HQ2.out.below b3.out)
        have HE3 := Lib.hid (HE2.out.below b3.out)
        have HX3 := Lib.hid (HX2.out.below b3.out)
        have HB3 := Lib.hid (HB2.out.trans (b3.out.mono HB2.out.size))
        obtain ⟨c0, c1, c2, c3, c4⟩ := HQC.out _ HQ3.out
        obtain ⟨x0, x1, x2, x3, x4⟩ := bx5 HX3.out
        clear b3
        go_wp2_with fail
        refine hK.out _ _ ?_ (fun hHeld => ?_)
        · (try dsimp only); first | (refine ⟨?_, ?_, ?_, ?_, ?_, ?_, ?_, ?_⟩ <;> (with_reducible assumption)) | go_keep
        clear hK K
        try simp only [Act.put, List.setIfInBounds_toArray, List.set_cons_zero, List.set_cons_succ]
        refine hTake (i := 17) (v := .bool f2) 29 rfl rfl (by kernel_rfl) (by kernel_rfl) (by kernel_rfl) (fun _ _ _ h => h) (Or.inl ⟨by rfl, ?_⟩) hHeld ?_
        · (intro wS hSw; (try dsimp only at hSw); go_simp)
        simp only [Act.put, List.setIfInBounds_toArray, List.set_cons_zero, List.set_cons_succ]
        refine wpAnyH_done (by kernel_rfl) ?_ _
        rcases f2 with _ | _
        · have hne := Lib.hid (of_decide_eq_false HST2.out)
          go_wp2
          go_roundw
          case rel => exact ⟨i + 1, by go_num, by omega, Lib.hid (HNX.out (.inr hne.out)), HB3, HQ3, HE3, HX3⟩
          case measure => simp only [intOf]; omega
        · have HY := Lib.hid (HYES.out heq.out (of_decide_eq_true HST2.out))
          go_wp2
          go_ret
          rw [HY.out]
          exact ⟨rfl, HB3⟩
    · obtain rfl : i = n := by omega
      have HN := Lib.hid (show decide (∃ y ∈ es, y.1.1 = e0.1.1) = false from decide_eq_false (fun ⟨y, hy, he⟩ => by
        obtain ⟨j, h, rfl⟩ := List.mem_iff_getElem.1 hy
        exact hno.out j h (by rw [← hn.out]; exact h) he))
      go_wp2
      go_ret
      rw [HN.out]
      exact ⟨rfl, HB⟩

end Go.Proofs.YtfkljlncnfeklaaGreatDoor
