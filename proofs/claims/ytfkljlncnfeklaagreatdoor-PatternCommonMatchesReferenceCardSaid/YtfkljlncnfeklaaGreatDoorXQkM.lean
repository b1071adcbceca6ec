/-
  The reference's automaton: Step. (Seat of the great laws.)
-/
import Derived.Test.YtfkljlncnfeklaaGreatDoorXQgM
namespace Go.Proofs.YtfkljlncnfeklaaGreatDoor
open Go.RowKit Go.Shelf
set_option linter.unusedVariables false
set_option linter.unusedSimpArgs false
attribute [local go_sem ↓] Go.wp_at_zero Go.wp_at_succ

/-- while the nodes are looked at: the given state x, the new one q -/
structure SpI (w wr : World) (m gx cl : Nat) (x q : Stt) : Prop where
  bs : Bx wr w.heap.size #[.bool x.1, .slice (some ⟨gx, 0, none⟩) m cl] 78
  br : Bx wr (w.heap.size + 1) #[.bool false, .slice none 0 0] 78
  bo : Bx wr (w.heap.size + 1 + 1 + 1) #[.bool q.1, .slice (some ⟨w.heap.size + 1 + 1, 0, none⟩) m m] 78
  bq : Bq wr (w.heap.size + 1 + 1) q.2
  bx : Bq wr gx x.2
  bel : Below w.heap.size w wr
theorem SpI.start {w : World} {m gx cl : Nat} {x : Stt} (hx : Bq w gx x.2) : ∀ W, (((w.alloc (.cells #[.bool x.1, .slice (some ⟨gx, 0, none⟩) m cl] 78)).alloc (.cells #[.bool false, .slice none 0 0] 78)).alloc (.cells (madeCells #[Value.bool false] m) 4)).alloc (.cells #[.bool false, .slice (some ⟨w.heap.size + 1 + 1, 0, none⟩) m m] 78) = W → SpI w W m gx cl x (false, List.replicate m false) := by
  rintro W rfl
  refine ⟨bx_al (bx_al (bx_al (bx_new rfl _ _) _) _) _, bx_al (bx_al (bx_new (by simp) _ _) _) _, bx_new (by simp) _ _, bx_al (bq_made (by simp) m) _, bx_al (bx_al (bx_al (bx_al hx _) _) _) _, ?_⟩
  exact ((((Below.refl _ _).alloc (Nat.le_refl _) _).alloc (by simp) _).alloc (by simp; omega) _).alloc (by simp; omega) _
theorem SpI.mv {w wr w2 : World} {m gx cl : Nat} {x q : Stt} {s : List Bool} (h : SpI w wr m gx cl x q) (hg : gx < w.heap.size) (hm : Mv (w.heap.size + 1 + 1) wr w2) (hs : Bq w2 (w.heap.size + 1 + 1) s) : SpI w w2 m gx cl x (q.1, s) :=
  ⟨hm.bx h.bs (by omega), hm.bx h.br (by omega), hm.bx h.bo (by omega), hs, hm.bx h.bx (by omega), h.bel.trans (hm.low ⟨by omega, h.bel.size⟩)⟩
theorem SpI.endd {w wr : World} {m gx cl : Nat} {x q : Stt} (h : SpI w wr m gx cl x q) (hg : gx < w.heap.size) (e : Bool) : SpI w (wr.setCell ⟨w.heap.size + 1 + 1 + 1, 0, none⟩ (.bool e)) m gx cl x (e, q.2) :=
  ⟨bx_so h.bs (by omega) _ _, bx_so h.br (by omega) _ _, bx_s0 h.bo _, bx_so h.bq (by omega) _ _, bx_so h.bx (by omega) _ _, h.bel.setCell (p := ⟨w.heap.size + 1 + 1 + 1, 0, none⟩) (by simp; omega) _⟩
theorem SpI.cells {w wr : World} {m gx cl : Nat} {x q : Stt} (h : SpI w wr m gx cl x q) : (wr.cell? ⟨w.heap.size, 1, none⟩ = some (.slice (some ⟨gx, 0, none⟩) m cl)) ∧ (wr.cell? ⟨w.heap.size + 1 + 1 + 1, 0, none⟩ = some (.bool q.1)) ∧ (wr.cell? ⟨w.heap.size + 1 + 1 + 1, 1, none⟩ = some (.slice (some ⟨w.heap.size + 1 + 1, 0, none⟩) m m)) ∧ (∀ k, wr.frozen? ⟨w.heap.size + 1 + 1 + 1, k, none⟩ = false) :=
  ⟨(bx2 h.bs).2, (bx2 h.bo).1, (bx2 h.bo).2, Bx.frz h.bo⟩
theorem stG_yes {l : List Pn} {s : List Bool} {b i : Nat} (h : rdR l s b i = true) {q : Stt} (hq : stG l s b i = q) : stG l s b (i + 1) = (q.1 || (lvN l i q.2).1, (lvN l i q.2).2) := by rw [stG, if_pos h, hq]; rfl
theorem stG_no {l : List Pn} {s : List Bool} {b i : Nat} (h : rdR l s b i = false) {q : Stt} (hq : stG l s b i = q) : stG l s b (i + 1) = q := by rw [stG, h, hq]; rfl
set_option maxRecDepth 100000 in
set_option maxHeartbeats 8000000 in
theorem rstep_any (A : Option Addr) (m c : Nat) (l : List Pn) (v : Value) (B : Nat) (x : Stt) (b : Nat) (w : World) (hl : Hid (l.length = m)) (h : okP l) (hr : Hid (Rp w w.heap.size A l)) (hv : Hid (SvM w B m v x)) :
    Calls Tryz.prog 47 #[.slice A m c, v, .int .i64 (b : Int)] w fun e w' => ∃ v', e = .returned v' ∧ Hid (SvM w' w.heap.size m v' (stR l x b)) ∧ Hid (Below w.heap.size w w') := by
  obtain ⟨i0, hi, hz0, hz1, hz2⟩ := info_parts infB1
  have hlen := h.len
  have hm1 : 1 ≤ m ∧ m ≤ 512 := by rw [← hl.out]; exact hlen
  obtain ⟨gx, cl, rfl, hBx, hqx, hlx⟩ := hv.out
  have hgx : gx < w.heap.size := hqx.lt
  obtain ⟨bb, o, e, hbb, hc⟩ := hr.out (by omega)
  subst e
  have HS0 := Lib.hid (SpI.start (w := w) (m := m) (gx := gx) (cl := cl) (x := x) hqx)
  have HNAT : Hid (∀ W i, Below w.heap.size w W → i < l.length → W.cell? ⟨bb, o + i * 5 + 1, none⟩ = some (.int .i64 (plo l i)) ∧ W.cell? ⟨bb, o + i * 5 + 2, none⟩ = some (.int .i64 (phi l i))) := Lib.hid (fun W i hb hi' => by
    obtain ⟨_, q1, q2, _, _⟩ := Rp.nat (hr.out.below hb) hi'
    exact ⟨q1, q2⟩)
  have HLV : Hid (∀ W i s, i < l.length → Below w.heap.size w W → Hid (Bq W (w.heap.size + 1 + 1) s) → s.length = m → Calls Tryz.prog 72 #[.slice (some ⟨bb, o, none⟩) m c, .int .i64 (i : Int), .slice (some ⟨w.heap.size + 1 + 1, 0, none⟩) m m] W fun e w' => e = .returned (.bool (lvN l i s).1) ∧ Hid (Bq w' (w.heap.size + 1 + 1) (lvN l i s).2) ∧ Hid (Mv (w.heap.size + 1 + 1) W w')) := Lib.hid (fun W i s hi' hb hq hs => rleave_all _ m c l w.heap.size hl h l.length i (by omega) hi' W (w.heap.size + 1 + 1) m s (Lib.hid (hr.out.below hb)) (by omega) hq hs)
  have HGL : Hid (∀ i, i ≤ l.length → (stG l x.2 b i).2.length = m) := Lib.hid (fun i hi' => by rw [(stG_ok h x.2 b i hi').1, hl.out])
  have hmI : (m : Int) ≤ 512 := by omega
  have hm0 : (0 : Int) ≤ (m : Int) := by omega
  have n1 : w.heap.size + 1 + 1 + 1 ≠ w.heap.size + 1 := by omega
  have hst0 : stG l x.2 b 0 = (false, List.replicate m false) := by rw [stG, hl.out]
  have HST0 := Lib.hid hst0
  clear hv hc hlen hqx hst0
  go_enter Tryz.func47, Tryz.ntmps47
  go_upto_region 2 with (at_make; refine wpList_make_row _ rfl _ _ 76 rfl 4 i0 _ Tryz.underlying76 hi hz0 hz1 rfl _ _ m rfl rfl (by rw [hz2]; omega) (by omega) ?_)
  generalize hwa : World.alloc (World.alloc (World.alloc (World.alloc w _) _) _) _ = wa
  have HS := Lib.hid (HS0.out _ hwa)
  clear hwa HS0
  go_wp2
  go_loopw [8, 9] (fun v8 v9 wr => ∃ i : Nat, i ≤ m ∧ v8 = .int .i64 (i : Int) ∧ Hid (SpI w wr m gx cl x (stG l x.2 b i))) (fun v8 v9 wr => m - (intOf v8).toNat)
  case atStart => exact ⟨0, Nat.zero_le _, rfl, by rw [HST0.out]; exact HS⟩
  case round =>
    clear HS HST0
    obtain ⟨i, him, rfl, hS⟩ := hrel
    have hil : i ≤ l.length := by rw [hl.out]; exact him
    have hgl := HGL.out i hil
    by_cases hlt : i < m
    · have i1 : (i : Int) < (m : Int) := by omega
      have k0 : (0 : Int) ≤ (i : Int) := by omega
      have hil' : i < l.length := by rw [hl.out]; exact hlt
      obtain ⟨y1, z0, z1, zf⟩ := hS.out.cells
      have d0 := hS.out.bx.cell' (j := i) (by rw [hlx]; exact hlt)
      obtain ⟨p1, p2⟩ := HNAT.out wr i hS.out.bel hil'
      have hrd : rdR l x.2 b i = (x.2.getD i false && decide (plo l i ≤ (b : Int)) && decide ((b : Int) ≤ phi l i)) := rfl
      have HY := Lib.hid (fun hh => stG_yes (l := l) (s := x.2) (b := b) (i := i) hh rfl)
      have HN := Lib.hid (fun hh => stG_no (l := l) (s := x.2) (b := b) (i := i) hh rfl)
      obtain ⟨qq, hqq⟩ : ∃ q, stG l x.2 b i = q := ⟨_, rfl⟩
      rw [hqq] at HY HN hgl z0
      have hS2 : Hid (SpI w wr m gx cl x qq) := by rw [← hqq]; exact hS
      have HV := Lib.hid (HLV.out wr i qq.2 hil' hS2.out.bel (Lib.hid hS2.out.bq) hgl)
      clear hqq hS
      generalize x.2.getD i false = f at *
      generalize plo l i = LO at *
      generalize phi l i = HI at *
      rcases f with _ | _
      · have HE := Lib.hid (HN.out (by rw [hrd]; rfl))
        clear HY HN hrd HV
        go_wp2
        go_roundw
        case rel => exact ⟨i + 1, by omega, by go_num, by rw [HE.out]; exact hS2⟩
        case measure => simp only [intOf]; omega
      · by_cases q1 : LO ≤ (b : Int)
        · have q1b : decide (LO ≤ (b : Int)) = true := decide_eq_true q1
          by_cases q2 : (b : Int) ≤ HI
          · have q2b : decide ((b : Int) ≤ HI) = true := decide_eq_true q2
            have HE := Lib.hid (HY.out (by rw [hrd, q1b, q2b]; rfl))
            generalize hrr : lvN l i qq.2 = r at *
            clear HY HN hrd hrr
            obtain ⟨qa, qs⟩ := qq
            obtain ⟨ra, rs⟩ := r
            rcases qa with _ | _
            · go_wp2_with (go_at_call 72; with_reducible refine HV.out.mono ?_; rintro e w2 ⟨rfl, q2, m2⟩; have HS3 := Lib.hid (hS2.out.mv hgx m2.out q2.out); obtain ⟨y1, z0, z1, zf⟩ := hS2.out.mv hgx m2.out q2.out |>.cells; have HS4 := Lib.hid (HS3.out.endd hgx ra))
              go_roundw
              case rel => exact ⟨i + 1, by omega, by go_num, by rw [HE.out]; exact HS4⟩
              case measure => simp only [intOf]; omega
            · go_wp2_with (go_at_call 72; with_reducible refine HV.out.mono ?_; rintro e w2 ⟨rfl, q2, m2⟩; have HS3 := Lib.hid (hS2.out.mv hgx m2.out q2.out); obtain ⟨y1, z0, z1, zf⟩ := hS2.out.mv hgx m2.out q2.out |>.cells; have HS4 := Lib.hid (HS3.out.endd hgx true))
              go_roundw
              case rel => exact ⟨i + 1, by omega, by go_num, by rw [HE.out]; exact HS4⟩
              case measure => simp only [intOf]; omega
          · have q2b : decide ((b : Int) ≤ HI) = false := decide_eq_false q2
            have HE := Lib.hid (HN.out (by rw [hrd, q1b, q2b]; rfl))
            clear HY HN hrd HV
            go_wp2
            go_roundw
            case rel => exact ⟨i + 1, by omega, by go_num, by rw [HE.out]; exact hS2⟩
            case measure => simp only [intOf]; omega
        · have q1b : decide (LO ≤ (b : Int)) = false := decide_eq_false q1
          have HE := Lib.hid (HN.out (by rw [hrd, q1b]; rfl))
          clear HY HN hrd HV
          go_wp2
          go_roundw
          case rel => exact ⟨i + 1, by omega, by go_num, by rw [HE.out]; exact hS2⟩
          case measure => simp only [intOf]; omega
    · obtain rfl : i = m := by omega
      have HEQ := Lib.hid (show stG l x.2 b i = stR l x b by unfold stR; rw [hl.out])
      rw [HEQ.out] at hS hgl
      obtain ⟨R, hR⟩ : ∃ R, stR l x b = R := ⟨_, rfl⟩
      rw [hR] at hS hgl
      have HR := Lib.hid hR
      clear hR HEQ
      obtain ⟨y1, z0, z1, zf⟩ := hS.out.cells
      obtain ⟨x0, x1⟩ := bx2 hS.out.br
      have xf := Bx.frz hS.out.br
      go_wp2
      refine bodyPost_ret (v := .agg #[.bool R.1, .slice (some ⟨w.heap.size + 1 + 1, 0, none⟩) i i]) ?_ rfl ⟨_, rfl, ?_, ?_⟩
      · rw [results_cell1 rfl]
        go_simp
      · rw [HR.out]
        refine Lib.hid ⟨w.heap.size + 1 + 1, i, rfl, by omega, ?_, hgl⟩
        exact bx_so (bx_so hS.out.bq (by omega) _ _) (by omega) _ _
      · exact Lib.hid ((hS.out.bel.setCell (p := ⟨w.heap.size + 1, 0, none⟩) (by simp) _).setCell (p := ⟨w.heap.size + 1, 1, none⟩) (by simp) _)

end Go.Proofs.YtfkljlncnfeklaaGreatDoor
