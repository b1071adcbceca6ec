/-
  The reference's automaton: dead, sameState, Begin. (Seat of the great laws.)
-/
import Derived.Test.YtfkljlncnfeklaaGreatDoorXQfM
import Derived.Test.YtfkljlncnfeklaaGreatDoorPd
namespace Go.Proofs.YtfkljlncnfeklaaGreatDoor
open Go.RowKit Go.Shelf
set_option linter.unusedVariables false
set_option linter.unusedSimpArgs false
attribute [local go_sem ↓] Go.wp_at_zero Go.wp_at_succ

/-- a state's value: its row of booleans lies in a block from B on -/
def SvM (W : World) (B m : Nat) (v : Value) (x : Stt) : Prop := ∃ g cl, v = .agg #[.bool x.1, .slice (some ⟨g, 0, none⟩) m cl] ∧ B ≤ g ∧ Bq W g x.2 ∧ x.2.length = m
theorem SvM.below {W W' : World} {B m : Nat} {v : Value} {x : Stt} (h : SvM W B m v x) (hb : Below W.heap.size W W') : SvM W' B m v x := by
  obtain ⟨g, cl, e, h1, h2, h3⟩ := h
  exact ⟨g, cl, e, h1, h2.below hb, h3⟩
theorem SvM.mono {W : World} {B B' m : Nat} {v : Value} {x : Stt} (h : SvM W B m v x) (hB : B' ≤ B) : SvM W B' m v x := by
  obtain ⟨g, cl, e, h1, h2, h3⟩ := h
  exact ⟨g, cl, e, by omega, h2, h3⟩
theorem dead_iff (x : Stt) : deadR x = true ↔ ∀ j, j < x.2.length → x.2.getD j false = false := by
  unfold deadR
  rw [List.all_eq_true]
  constructor
  · intro h j hj
    have := h (x.2[j]) (List.getElem_mem hj)
    rw [List.getD_eq_getElem?_getD, List.getElem?_eq_getElem hj]
    simpa using this
  · intro h b hb
    obtain ⟨j, hj, rfl⟩ := List.mem_iff_getElem.1 hb
    have := h j hj
    rw [List.getD_eq_getElem?_getD, List.getElem?_eq_getElem hj] at this
    simpa using this
theorem st_box (w : World) (a0 a1 : Value) : ∀ W, w.alloc (.cells #[a0, a1] 78) = W → Below w.heap.size w W ∧ Bx W w.heap.size #[a0, a1] 78 := by
  rintro W rfl
  exact ⟨(Below.refl _ _).alloc (Nat.le_refl _) _, bx_new rfl _ _⟩
theorem bx2 {W : World} {g T : Nat} {a0 a1 : Value} (h : Bx W g #[a0, a1] T) : W.cell? ⟨g, 0, none⟩ = some a0 ∧ W.cell? ⟨g, 1, none⟩ = some a1 := ⟨h.cell 0, h.cell 1⟩
set_option maxRecDepth 100000 in
set_option maxHeartbeats 2000000 in
theorem rdead_any (v : Value) (B m : Nat) (x : Stt) (w : World) (hv : Hid (SvM w B m v x)) (hm : m ≤ 1000000) : Calls Tryz.prog 48 #[v] w fun e w' => e = .returned (.bool (deadR x)) ∧ Hid (Below w.heap.size w w') := by
  obtain ⟨g, cl, rfl, hB, hq, hl⟩ := hv.out
  have P := st_box w (.bool x.1) (.slice (some ⟨g, 0, none⟩) m cl)
  have HQ := Lib.hid hq
  clear hv hq
  go_enter Tryz.func48, Tryz.ntmps48
  go_upto_region 1 with fail
  generalize hwa : World.alloc w _ = wa
  obtain ⟨b1, X1⟩ := P _ hwa
  obtain ⟨y0, y1⟩ := bx2 X1
  have HB := Lib.hid b1
  have HQ1 := Lib.hid (HQ.out.below b1)
  clear hwa P X1 b1 HQ
  go_wp2
  go_loopw [3] (fun v3 wr => wr = wa ∧ ∃ i : Nat, v3 = .int .i64 (i : Int) ∧ i ≤ m ∧ Hid (∀ j, j < i → x.2.getD j false = false)) (fun v3 wr => m - (intOf v3).toNat)
  case atStart => exact ⟨rfl, 0, rfl, Nat.zero_le _, Lib.hid (fun j hj => absurd hj (Nat.not_lt_zero _))⟩
  case round =>
    obtain ⟨rfl, i, rfl, hi, hno⟩ := hrel
    by_cases hlt : i < m
    · have i1 : (i : Int) < (m : Int) := by omega
      have i0 : (0 : Int) ≤ (i : Int) := by omega
      have d0 := HQ1.out.cell' (j := i) (by rw [hl]; exact hlt)
      rcases hb : x.2.getD i false with _ | _
      · rw [hb] at d0
        have HN : Hid (∀ j, j < i + 1 → x.2.getD j false = false) := Lib.hid (fun j hj => by
          rcases Nat.lt_or_ge j i with q | q
          · exact hno.out j q
          · rw [show j = i by omega]; exact hb)
        clear hb
        go_wp2
        go_roundw
        · exact ⟨trivial, i + 1, by simp, by omega, HN⟩
        · simp only [intOf]; omega
      · rw [hb] at d0
        have HD := Lib.hid (show deadR x = false by
          rcases h : deadR x with _ | _
          · rfl
          · have := (dead_iff x).1 h i (by rw [hl]; exact hlt)
            rw [hb] at this; cases this)
        clear hb
        go_wp2
        go_ret
        rw [HD.out]
        exact ⟨rfl, HB⟩
    · obtain rfl : i = m := by omega
      have HD := Lib.hid (show deadR x = true from (dead_iff x).2 (by rw [hl]; exact hno.out))
      go_wp2
      go_ret
      rw [HD.out]
      exact ⟨rfl, HB⟩
theorem rows_eq {s t : List Bool} (hl : s.length = t.length) (h : ∀ j, j < s.length → s.getD j false = t.getD j false) : s = t := by
  apply List.ext_getElem hl
  intro i h1 h2
  have := h i h1
  rw [List.getD_eq_getElem?_getD, List.getD_eq_getElem?_getD, List.getElem?_eq_getElem h1, List.getElem?_eq_getElem h2] at this
  exact this
set_option maxRecDepth 100000 in
set_option maxHeartbeats 2000000 in
theorem rsameS_any (v v' : Value) (B B' m : Nat) (x y : Stt) (w : World) (hv : Hid (SvM w B m v x)) (hv' : Hid (SvM w B' m v' y)) (hm : m ≤ 1000000) : Calls Tryz.prog 73 #[v, v'] w fun e w' => e = .returned (.bool (decide (x = y))) ∧ Hid (Below w.heap.size w w') := by
  obtain ⟨g, cl, rfl, hB, hq, hl⟩ := hv.out
  obtain ⟨g', cl', rfl, hB', hq', hl'⟩ := hv'.out
  have P : ∀ W, (w.alloc (.cells #[.bool x.1, .slice (some ⟨g, 0, none⟩) m cl] 78)).alloc (.cells #[.bool y.1, .slice (some ⟨g', 0, none⟩) m cl'] 78) = W → Below w.heap.size w W ∧ Bx W w.heap.size #[.bool x.1, .slice (some ⟨g, 0, none⟩) m cl] 78 ∧ Bx W (w.heap.size + 1) #[.bool y.1, .slice (some ⟨g', 0, none⟩) m cl'] 78 := by
    rintro W rfl
    exact ⟨((Below.refl _ _).alloc (Nat.le_refl _) _).alloc (by simp) _, bx_al (bx_new rfl _ _) _, bx_new (by simp) _ _⟩
  have HQ := Lib.hid hq
  have HQ' := Lib.hid hq'
  clear hv hv' hq hq'
  go_enter Tryz.func73, Tryz.ntmps73
  go_upto_region 1 with fail
  generalize hwa : World.alloc (World.alloc w _) _ = wa
  obtain ⟨b1, X1, X2⟩ := P _ hwa
  obtain ⟨y0, y1⟩ := bx2 X1
  obtain ⟨z0, z1⟩ := bx2 X2
  have HB := Lib.hid b1
  have HQ1 := Lib.hid (HQ.out.below b1)
  have HQ2 := Lib.hid (HQ'.out.below b1)
  clear hwa P X1 X2 b1 HQ HQ'
  go_wp2
  go_loopw [5] (fun v5 wr => ∃ i j : Nat, wr = wa.drewN j ∧ v5 = .int .i64 (i : Int) ∧ i ≤ m ∧ Hid (∀ j, j < i → x.2.getD j false = y.2.getD j false)) (fun v5 wr => m - (intOf v5).toNat)
  case atStart => exact ⟨0, 0, rfl, rfl, Nat.zero_le _, Lib.hid (fun j hj => absurd hj (Nat.not_lt_zero _))⟩
  case round =>
    obtain ⟨i, nj, rfl, rfl, hi, hno⟩ := hrel
    by_cases hlt : i < m
    · have i1 : (i : Int) < (m : Int) := by omega
      have i0 : (0 : Int) ≤ (i : Int) := by omega
      have d0 := HQ1.out.cell' (j := i) (by rw [hl]; exact hlt)
      have d1 := HQ2.out.cell' (j := i) (by rw [hl']; exact hlt)
      by_cases hb : x.2.getD i false = y.2.getD i false
      · rw [← hb] at d1
        have HN : Hid (∀ j, j < i + 1 → x.2.getD j false = y.2.getD j false) := Lib.hid (fun j hj => by
          rcases Nat.lt_or_ge j i with q | q
          · exact hno.out j q
          · rw [show j = i by omega]; exact hb)
        generalize x.2.getD i false = u at *
        clear hb
        go_wp2
        go_quiet (fail)
        go_wp2
        go_roundw
        · exact ⟨i + 1, _, rfl, by go_num, by omega, HN⟩
        · simp only [intOf]; omega
      · have HD := Lib.hid (show decide (x = y) = false from decide_eq_false (fun e => hb (by rw [e])))
        have hbb : (x.2.getD i false == y.2.getD i false) = false := beq_eq_false_iff_ne.2 hb
        generalize x.2.getD i false = u at *
        generalize y.2.getD i false = u' at *
        clear hb
        go_wp2
        go_quiet (fail)
        go_wp2
        go_ret
        rw [HD.out]
        exact ⟨rfl, Lib.hid (below_drewN (below_drewN HB.out _) _)⟩
    · obtain rfl : i = m := by omega
      have hxy : x.2 = y.2 := rows_eq (by rw [hl, hl']) (by rw [hl]; exact hno.out)
      have HD := Lib.hid (show decide (x = y) = (x.1 == y.1) by
        rcases x with ⟨a, s⟩
        rcases y with ⟨b, t⟩
        change s = t at hxy
        subst hxy
        cases a <;> cases b <;> simp)
      clear hxy
      go_wp2
      go_ret
      rw [HD.out]
      exact ⟨rfl, Lib.hid (below_drewN HB.out _)⟩

/-- below a bound that is not above the block, what the move leaves -/
theorem Mv.low {g B : Nat} {a b : World} (h : Mv g a b) (hg : B ≤ g ∧ B ≤ a.heap.size) : Below B a b := ⟨h.os, h.tape, h.output, h.size, fun k hk => h.block k (by omega) (by omega)⟩
theorem infB1 : (Tryz.prog.info? 4).map (fun i => (i.zero, i.size, i.bytes)) = some (some (.bool false), 1, 1) := by kernel_rfl
theorem bq_made {w : World} {H : Nat} (hH : w.heap.size = H) (n : Nat) : Bq (w.alloc (.cells (madeCells #[Value.bool false] n) 4)) H (List.replicate n false) := by
  have e : madeCells #[Value.bool false] n = boC (List.replicate n false) := by
    apply Array.ext'
    rw [toList_madeCells_one]
    unfold boC
    simp
  rw [e]
  exact bx_new hH _ _
/-- a state's cell is stored -/
theorem bx_s0 {W : World} {g T : Nat} {a0 a1 : Value} (h : Bx W g #[a0, a1] T) (v : Value) : Bx (W.setCell ⟨g, 0, none⟩ v) g #[v, a1] T := heap_set W g 0 v h
theorem bx_s1 {W : World} {g T : Nat} {a0 a1 : Value} (h : Bx W g #[a0, a1] T) (v : Value) : Bx (W.setCell ⟨g, 1, none⟩ v) g #[a0, v] T := heap_set W g 1 v h
theorem bx_so {W : World} {g k T : Nat} {cs : Array Value} (h : Bx W k cs T) (hn : k ≠ g) (i : Nat) (v : Value) : Bx (W.setCell ⟨g, i, none⟩ v) k cs T := (hp_set W g i v hn).trans h
set_option maxRecDepth 100000 in
set_option maxHeartbeats 4000000 in
theorem rbegin_any (A : Option Addr) (m c : Nat) (l : List Pn) (w : World) (hl : Hid (l.length = m)) (h : okP l) (hr : Hid (Rp w w.heap.size A l)) :
    Calls Tryz.prog 46 #[.slice A m c] w fun e w' => ∃ v, e = .returned v ∧ Hid (SvM w' w.heap.size m v (beR l)) ∧ Hid (Below w.heap.size w w') := by
  obtain ⟨i0, hi, hz0, hz1, hz2⟩ := info_parts infB1
  have hlen := h.len
  have hm1 : 1 ≤ m ∧ m ≤ 512 := by rw [← hl.out]; exact hlen
  have hEN := renter_all A m c l w.heap.size hl h (l.length - 1) (by omega)
  obtain ⟨q, hq⟩ : ∃ q, l.length - 1 = q := ⟨_, rfl⟩
  rw [hq] at hEN
  have hbe : enR l (q + 1) q (List.replicate m false) = beR l := by
    unfold beR
    rw [← hq, show l.length - 1 + 1 = l.length by omega, hl.out]
  have hm2 : (m : Int) - 1 = (q : Int) := by have := hl.out; omega
  have hqb : (q : Int) ≤ 512 := by omega
  have hq0 : (0 : Int) ≤ (q : Int) := by omega
  have hbl : (beR l).2.length = m := by rw [(sem_begin h).len, hl.out]
  have P : ∀ W, ((w.alloc (.cells #[.bool false, .slice none 0 0] 78)).alloc (.cells (madeCells #[Value.bool false] m) 4)).alloc (.cells #[.bool false, .slice (some ⟨w.heap.size + 1, 0, none⟩) m m] 78) = W → Below w.heap.size w W ∧ Bx W w.heap.size #[.bool false, .slice none 0 0] 78 ∧ Bq W (w.heap.size + 1) (List.replicate m false) ∧ Bx W (w.heap.size + 1 + 1) #[.bool false, .slice (some ⟨w.heap.size + 1, 0, none⟩) m m] 78 := by
    rintro W rfl
    exact ⟨(((Below.refl _ _).alloc (Nat.le_refl _) _).alloc (by simp) _).alloc (by simp; omega) _, bx_al (bx_al (bx_new rfl _ _) _) _, bx_al (bq_made (by simp) m) _, bx_new (by simp) _ _⟩
  have HE : Hid (∀ W, Below w.heap.size w W → Hid (Bq W (w.heap.size + 1) (List.replicate m false)) → Calls Tryz.prog 71 #[.slice A m c, .int .i64 (q : Int), .slice (some ⟨w.heap.size + 1, 0, none⟩) m m] W fun e w' => e = .returned (.bool (beR l).1) ∧ Hid (Bq w' (w.heap.size + 1) (beR l).2) ∧ Hid (Mv (w.heap.size + 1) W w')) := Lib.hid (fun W hb hqq => by
    have := hEN W (w.heap.size + 1) m (List.replicate m false) (Lib.hid (hr.out.below hb)) (by omega) hqq List.length_replicate
    rw [hbe] at this
    exact this)
  have hmI : (m : Int) ≤ 512 := by omega
  have hm0 : (0 : Int) ≤ (m : Int) := by omega
  have n1 : w.heap.size ≠ w.heap.size + 1 := by omega
  have n2 : w.heap.size + 1 + 1 ≠ w.heap.size + 1 := by omega
  have n3 : w.heap.size ≠ w.heap.size + 1 + 1 := by omega
  have n4 : w.heap.size + 1 ≠ w.heap.size + 1 + 1 := by omega
  have n5 : w.heap.size + 1 ≠ w.heap.size := by omega
  clear hEN hbe hq hlen
  go_enter Tryz.func46, Tryz.ntmps46
  go_upto_region 2 with (at_make; refine wpList_make_row _ rfl _ _ 76 rfl 4 i0 _ Tryz.underlying76 hi hz0 hz1 rfl _ _ m rfl rfl (by rw [hz2]; omega) (by omega) ?_)
  generalize hwa : World.alloc (World.alloc (World.alloc w _) _) _ = wa
  obtain ⟨b1, X0, Q1, X2⟩ := P _ hwa
  obtain ⟨y0, y1⟩ := bx2 X2
  have HB := Lib.hid b1
  have HC := Lib.hid (HE.out wa b1 (Lib.hid Q1))
  have HX0 := Lib.hid X0
  have HX2 := Lib.hid X2
  have hbf : (beR l).1 = (beR l).1 := rfl
  generalize hbR : beR l = R at *
  have HBR := Lib.hid hbR
  clear hwa P b1 X0 Q1 X2 HE hbf hbR
  go_wp2_with (go_at_call 71; with_reducible refine HC.out.mono ?_; rintro e w2 ⟨rfl, q2, m2⟩; have HX := Lib.hid (m2.out.bx HX0.out n1); have HX3 := Lib.hid (m2.out.bx HX2.out n2); have HB2 := Lib.hid (HB.out.trans (m2.out.low ⟨by omega, HB.out.size⟩)); obtain ⟨y0, y1⟩ := bx2 HX3.out; obtain ⟨x0, x1⟩ := bx2 HX.out; have f0 := Bx.frz HX.out; have f1 := Bx.frz HX3.out)
  refine bodyPost_ret (v := .agg #[.bool R.1, .slice (some ⟨w.heap.size + 1, 0, none⟩) m m]) ?_ rfl ⟨_, rfl, ?_, ?_⟩
  · rw [results_cell1 rfl]
    go_simp
  · rw [HBR.out]
    refine Lib.hid ⟨w.heap.size + 1, m, rfl, by omega, ?_, hbl⟩
    exact bx_so (bx_so (bx_so q2.out n4 _ _) n5 _ _) n5 _ _
  · exact Lib.hid (((HB2.out.setCell (p := ⟨w.heap.size + 1 + 1, 0, none⟩) (by simp; omega) _).setCell (p := ⟨w.heap.size, 0, none⟩) (Nat.le_refl _) _).setCell (p := ⟨w.heap.size, 1, none⟩) (Nat.le_refl _) _)

end Go.Proofs.YtfkljlncnfeklaaGreatDoor
