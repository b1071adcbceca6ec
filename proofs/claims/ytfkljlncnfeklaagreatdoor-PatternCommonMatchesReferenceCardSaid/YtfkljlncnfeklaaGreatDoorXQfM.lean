/-
  The reference's leave. (Seat of the great laws.) (Written by qfgen.py.)
-/
import Derived.Test.YtfkljlncnfeklaaGreatDoorXQeM
namespace Go.Proofs.YtfkljlncnfeklaaGreatDoor
open Go.RowKit Go.Shelf
set_option linter.unusedVariables false
set_option linter.unusedSimpArgs false
attribute [local go_sem ↓] Go.wp_at_zero Go.wp_at_succ

theorem leR_fuel {l : List Pn} : ∀ (n n' i : Nat), l.length ≤ i + n → l.length ≤ i + n' → ∀ s, leR l n i s = leR l n' i s
  | 0, 0, i, _, _, s => rfl
  | 0, n' + 1, i, h, h', s => by
    have hp : parO l i = none := by unfold parO; rw [show l.length - (i + 1) = 0 by omega]; rfl
    rw [leR, leR, hp]
  | n + 1, 0, i, h, h', s => by
    have hp : parO l i = none := by unfold parO; rw [show l.length - (i + 1) = 0 by omega]; rfl
    rw [leR, leR, hp]
  | n + 1, n' + 1, i, h, h', s => by
    rw [leR, leR]
    rcases hp : parO l i with _ | k
    · rfl
    · obtain ⟨h1, h2, _, _⟩ := parO_some hp
      have ih := fun s => leR_fuel (l := l) n n' k (by omega) (by omega) s
      simp only [ih]
/-- leave at node i -/
def lvN (l : List Pn) (i : Nat) (s : List Bool) : Bool × List Bool := leR l (l.length - i) i s
theorem lvN_none {l : List Pn} {i : Nat} (hi : i < l.length) (h : parO l i = none) (s : List Bool) : lvN l i s = (true, s) := by
  unfold lvN
  rw [show l.length - i = l.length - i - 1 + 1 by omega, leR, h]
theorem lvN_some {l : List Pn} {i k : Nat} (h : parO l i = some k) (s : List Bool) : lvN l i s = (if pk l k = 4 then lvN l k (enR l (k + 1) k s).2 else if pk l k = 2 ∧ op1 l i k = true then (if (enR l ((pb l k).toNat + 1) (pb l k).toNat s).1 = true then lvN l k (enR l ((pb l k).toNat + 1) (pb l k).toNat s).2 else (false, (enR l ((pb l k).toNat + 1) (pb l k).toNat s).2)) else lvN l k s) := by
  obtain ⟨h1, h2, _, _⟩ := parO_some h
  unfold lvN
  rw [show l.length - i = l.length - i - 1 + 1 by omega, leR, h]
  have ih := fun s => leR_fuel (l := l) (l.length - i - 1) (l.length - k) k (by omega) (by omega) s
  simp only [ih]
theorem par_step {l : List Pn} {i k : Nat} (hk : k < l.length) (h : parO l i = parF l i (l.length - k) k) : (op1 l i k || op2 l i k) = false → parO l i = parF l i (l.length - (k + 1)) (k + 1) := fun hn => by
  rw [h, show l.length - k = l.length - (k + 1) + 1 by omega, parF, hn]
  rfl
theorem par_hit {l : List Pn} {i k : Nat} (hk : k < l.length) (h : parO l i = parF l i (l.length - k) k) : (op1 l i k || op2 l i k) = true → parO l i = some k := fun hn => by
  rw [h, show l.length - k = l.length - (k + 1) + 1 by omega, parF, hn]
  rfl
theorem op1_eq (l : List Pn) (i k : Nat) : op1 l i k = (decide (1 ≤ arP (pk l k)) && (pa l k == (i : Int))) := by
  unfold op1
  by_cases h : pa l k = (i : Int) <;> simp [h]
theorem op2_eq (l : List Pn) (i k : Nat) : op2 l i k = (decide (2 ≤ arP (pk l k)) && (pb l k == (i : Int))) := by
  unfold op2
  by_cases h : pb l k = (i : Int) <;> simp [h]
/-- the call of leave at node i -/
def LvC (A : Option Addr) (m c : Nat) (l : List Pn) (B : Nat) (i : Nat) : Prop := ∀ (W : World) (g cl : Nat) (s : List Bool), Hid (Rp W B A l) → B ≤ g → Hid (Bq W g s) → s.length = m →
  Calls Tryz.prog 72 #[.slice A m c, .int .i64 (i : Int), .slice (some ⟨g, 0, none⟩) m cl] W fun e w' => e = .returned (.bool (lvN l i s).1) ∧ Hid (Bq w' g (lvN l i s).2) ∧ Hid (Mv g W w')
set_option maxRecDepth 100000 in
set_option maxHeartbeats 8000000 in
theorem lv_step (A : Option Addr) (m c : Nat) (l : List Pn) (B : Nat) (hl : Hid (l.length = m)) (h : okP l) (i : Nat) (hi : i < l.length) (IH : ∀ k, i < k → k < l.length → LvC A m c l B k) : LvC A m c l B i := fun W g cl s hr hBg hq hs => by
  obtain ⟨b, o, e, hb, hc⟩ := hr.out (by omega)
  subst e
  have hlen := h.len
  have hm512 : m ≤ 512 := by rw [← hl.out]; exact hlen.2
  have him : i < m := by rw [← hl.out]; exact hi
  have i1 : (0 : Int) ≤ (i : Int) := by omega
  have i2 : (i : Int) < (m : Int) := by omega
  have imI : (m : Int) ≤ 512 := by omega
  have hgW := hq.out.lt
  have hbg : b ≠ g := by omega
  have hbW : b < W.heap.size := by omega
  have HC := Lib.hid hc
  have HEN : Hid (∀ k W' s', k < l.length → Hid (Mv g W W') → Hid (Bq W' g s') → s'.length = m → Calls Tryz.prog 71 #[.slice (some ⟨b, o, none⟩) m c, .int .i64 (k : Int), .slice (some ⟨g, 0, none⟩) m cl] W' fun e w' => e = .returned (.bool (enR l (k + 1) k s').1) ∧ Hid (Bq w' g (enR l (k + 1) k s').2) ∧ Hid (Mv g W' w')) := Lib.hid (fun k W' s' hk hm hq' hs' => renter_all _ m c l B hl h k hk W' g cl s' (Lib.hid (hr.out.mv hm.out (by omega) hBg)) hBg hq' hs')
  have HLV : Hid (∀ k W' s', i < k → k < l.length → Hid (Mv g W W') → Hid (Bq W' g s') → s'.length = m → Calls Tryz.prog 72 #[.slice (some ⟨b, o, none⟩) m c, .int .i64 (k : Int), .slice (some ⟨g, 0, none⟩) m cl] W' fun e w' => e = .returned (.bool (lvN l k s').1) ∧ Hid (Bq w' g (lvN l k s').2) ∧ Hid (Mv g W' w')) := Lib.hid (fun k W' s' hk1 hk hm hq' hs' => IH k hk1 hk W' g cl s' (Lib.hid (hr.out.mv hm.out (by omega) hBg)) hBg hq' hs')
  have HM0 := Lib.hid (Mv.refl g W)
  have HP0 : Hid (parO l i = parF l i (l.length - (i + 1)) (i + 1)) := Lib.hid rfl
  have HLE : Hid (∀ k s', k < l.length → s'.length = m → (enR l (k + 1) k s').2.length = m) := Lib.hid (fun k s' hk hs' => by rw [enR_len h hk (by rw [hs', hl.out]), hl.out])
  clear IH hc
  go_enter Tryz.func72, Tryz.ntmps72
  go_wp2
  go_loopw [7] (fun v7 wr => wr = W ∧ ∃ k : Nat, v7 = .int .i64 (k : Int) ∧ i < k ∧ k ≤ m ∧ Hid (parO l i = parF l i (l.length - k) k)) (fun v7 wr => m - (intOf v7).toNat)
  case atStart => exact ⟨rfl, i + 1, by go_num, by omega, by omega, HP0⟩
  case round =>
    clear HP0
    obtain ⟨rfl, k, rfl, hik, hkm, hpar⟩ := hrel
    by_cases hlt : k < m
    · have hkl : k < l.length := by rw [hl.out]; exact hlt
      have k1 : (0 : Int) ≤ (k : Int) := by omega
      have k2 : (k : Int) < (m : Int) := by omega
      obtain ⟨d0, d1, d2, d3, d4⟩ := HC.out k hkl
      have nd := h.nd hkl
      have ho1 := op1_eq l i k
      have ho2 := op2_eq l i k
      have HST := Lib.hid (par_step hkl hpar.out)
      have HHT := Lib.hid (par_hit hkl hpar.out)
      have hone := fun hu => (use_one h hkl hik hu).2
      have HLS := Lib.hid (fun hh => lvN_some (l := l) (i := i) (k := k) hh s)
      have hnd1 := nd.a1
      have hnd2 := nd.b1
      rcases (show pk l k = 0 ∨ pk l k = 1 ∨ pk l k = 2 ∨ pk l k = 3 ∨ pk l k = 4 by have := nd.kd; omega) with c1 | c1 | c1 | c1 | c1

      · rw [c1] at d0 ho1 ho2 HLS
        have HOP : Hid (∀ W : World, Calls Tryz.prog 40 #[.int .i64 0] W fun e w' => e = .returned (.tuple #[.int .i64 0, .bool true]) ∧ w' = W) := Lib.hid (fun W => roperands_any 0 W)
        have HN := Lib.hid (HST.out (by rw [ho1, ho2]; rfl))
        clear HHT HLS hone hnd1 hnd2 nd hpar
        go_wp2_with (go_at_call 40; with_reducible refine (HOP.out _).mono ?_; rintro e w4 ⟨rfl, hw⟩; subst hw)
        go_roundw
        case rel => exact ⟨trivial, k + 1, by go_num, by omega, by omega, HN⟩
        case measure => simp only [intOf]; omega
      · rw [c1] at d0 ho1 ho2 HLS
        have HOP : Hid (∀ W : World, Calls Tryz.prog 40 #[.int .i64 1] W fun e w' => e = .returned (.tuple #[.int .i64 0, .bool true]) ∧ w' = W) := Lib.hid (fun W => roperands_any 1 W)
        have HN := Lib.hid (HST.out (by rw [ho1, ho2]; rfl))
        clear HHT HLS hone hnd1 hnd2 nd hpar
        go_wp2_with (go_at_call 40; with_reducible refine (HOP.out _).mono ?_; rintro e w4 ⟨rfl, hw⟩; subst hw)
        go_roundw
        case rel => exact ⟨trivial, k + 1, by go_num, by omega, by omega, HN⟩
        case measure => simp only [intOf]; omega
      · rw [c1] at d0 ho1 ho2 HLS
        have HOP : Hid (∀ W : World, Calls Tryz.prog 40 #[.int .i64 2] W fun e w' => e = .returned (.tuple #[.int .i64 2, .bool true]) ∧ w' = W) := Lib.hid (fun W => roperands_any 2 W)
        rcases ha : (pa l k == (i : Int)) with _ | _
        · rcases hb' : (pb l k == (i : Int)) with _ | _
          · have HN := Lib.hid (HST.out (by rw [ho1, ho2, ha, hb']; rfl))
            clear HHT HLS hone hnd1 hnd2 nd hpar
            go_wp2_with (go_at_call 40; with_reducible refine (HOP.out _).mono ?_; rintro e w4 ⟨rfl, hw⟩; subst hw)
            go_roundw
            case rel => exact ⟨trivial, k + 1, by go_num, by omega, by omega, HN⟩
            case measure => simp only [intOf]; omega
          · have hE := HLS.out (HHT.out (by rw [ho1, ho2, ha, hb']; rfl))
            rw [ho1, ha, if_neg (by decide), if_neg (by simp)] at hE
            have HE := Lib.hid hE
            have HV := Lib.hid (HLV.out k wr s hik hkl HM0 hq hs)
            clear HST HHT HLS hone hnd1 hnd2 nd hpar hE
            go_wp2_with (first
              | (go_at_call 40; with_reducible refine (HOP.out _).mono ?_; rintro e w4 ⟨rfl, hw⟩; subst hw)
              | (go_at_call 72; with_reducible refine HV.out.mono ?_; rintro e w5 ⟨rfl, q5, m5⟩))
            go_ret
            rw [HE.out]
            exact ⟨rfl, q5, m5⟩
        · have hb' : (pb l k == (i : Int)) = false := by
            rcases q : (pb l k == (i : Int)) with _ | _
            · rfl
            · exact absurd ⟨by rw [ho1, ha]; rfl, by rw [ho2, q]; rfl⟩ (hone (.inl (by rw [ho1, ha]; rfl)))
          have hE := HLS.out (HHT.out (by rw [ho1, ho2, ha]; rfl))
          rw [if_neg (by decide), if_pos ⟨rfl, by rw [ho1, ha]; rfl⟩] at hE
          obtain ⟨x1, x2⟩ := hnd2 (.inl c1)
          obtain ⟨j, hj⟩ : ∃ j : Nat, pb l k = (j : Int) := ⟨(pb l k).toNat, by omega⟩
          rw [hj, Int.toNat_natCast] at hE x2
          rw [hj] at d4 hb'
          have HN := Lib.hid (HEN.out j wr s (by omega) HM0 hq hs)
          have HLS2 := HLE.out j s (by omega) hs
          generalize hS2 : (enR l (j + 1) j s).2 = S2 at *
          rcases hfl : (enR l (j + 1) j s).1 with _ | _
          · rw [hfl, if_neg (by decide)] at hE
            rw [hfl] at HN
            have HE := Lib.hid hE
            clear HST HHT HLS hone hnd1 hnd2 nd hpar hE hS2 hfl
            go_wp2_with (first
              | (go_at_call 40; with_reducible refine (HOP.out _).mono ?_; rintro e w4 ⟨rfl, hw⟩; subst hw)
              | (go_at_call 71; with_reducible refine HN.out.mono ?_; rintro e w5 ⟨rfl, q5, m5⟩))
            go_ret
            rw [HE.out]
            exact ⟨rfl, q5, m5⟩
          · rw [hfl, if_pos rfl] at hE
            rw [hfl] at HN
            have HE := Lib.hid hE
            clear HST HHT HLS hone hnd1 hnd2 nd hpar hE hS2 hfl
            go_wp2_with (first
              | (go_at_call 40; with_reducible refine (HOP.out _).mono ?_; rintro e w4 ⟨rfl, hw⟩; subst hw)
              | (go_at_call 71; with_reducible refine HN.out.mono ?_; rintro e w5 ⟨rfl, q5, m5⟩; have HV := Lib.hid (HLV.out k w5 S2 hik hkl m5 q5 HLS2))
              | (go_at_call 72; with_reducible refine HV.out.mono ?_; rintro e w6 ⟨rfl, q6, m6⟩; have HM6 := Lib.hid (m5.out.trans m6.out)))
            go_ret
            rw [HE.out]
            exact ⟨rfl, q6, HM6⟩
      · rw [c1] at d0 ho1 ho2 HLS
        have HOP : Hid (∀ W : World, Calls Tryz.prog 40 #[.int .i64 3] W fun e w' => e = .returned (.tuple #[.int .i64 2, .bool true]) ∧ w' = W) := Lib.hid (fun W => roperands_any 3 W)
        rcases ha : (pa l k == (i : Int)) with _ | _
        · rcases hb' : (pb l k == (i : Int)) with _ | _
          · have HN := Lib.hid (HST.out (by rw [ho1, ho2, ha, hb']; rfl))
            clear HHT HLS hone hnd1 hnd2 nd hpar
            go_wp2_with (go_at_call 40; with_reducible refine (HOP.out _).mono ?_; rintro e w4 ⟨rfl, hw⟩; subst hw)
            go_roundw
            case rel => exact ⟨trivial, k + 1, by go_num, by omega, by omega, HN⟩
            case measure => simp only [intOf]; omega
          · have hE := HLS.out (HHT.out (by rw [ho1, ho2, ha, hb']; rfl))
            rw [ho1, ha, if_neg (by decide), if_neg (by simp)] at hE
            have HE := Lib.hid hE
            have HV := Lib.hid (HLV.out k wr s hik hkl HM0 hq hs)
            clear HST HHT HLS hone hnd1 hnd2 nd hpar hE
            go_wp2_with (first
              | (go_at_call 40; with_reducible refine (HOP.out _).mono ?_; rintro e w4 ⟨rfl, hw⟩; subst hw)
              | (go_at_call 72; with_reducible refine HV.out.mono ?_; rintro e w5 ⟨rfl, q5, m5⟩))
            go_ret
            rw [HE.out]
            exact ⟨rfl, q5, m5⟩
        · have hb' : (pb l k == (i : Int)) = false := by
            rcases q : (pb l k == (i : Int)) with _ | _
            · rfl
            · exact absurd ⟨by rw [ho1, ha]; rfl, by rw [ho2, q]; rfl⟩ (hone (.inl (by rw [ho1, ha]; rfl)))
          have hE := HLS.out (HHT.out (by rw [ho1, ho2, ha]; rfl))
          rw [if_neg (by decide), if_neg (by simp)] at hE
          have HE := Lib.hid hE
          have HV := Lib.hid (HLV.out k wr s hik hkl HM0 hq hs)
          clear HST HHT HLS hone hnd1 hnd2 nd hpar hE
          go_wp2_with (first
            | (go_at_call 40; with_reducible refine (HOP.out _).mono ?_; rintro e w4 ⟨rfl, hw⟩; subst hw)
            | (go_at_call 72; with_reducible refine HV.out.mono ?_; rintro e w5 ⟨rfl, q5, m5⟩))
          go_ret
          rw [HE.out]
          exact ⟨rfl, q5, m5⟩
      · rw [c1] at d0 ho1 ho2 HLS
        have HOP : Hid (∀ W : World, Calls Tryz.prog 40 #[.int .i64 4] W fun e w' => e = .returned (.tuple #[.int .i64 1, .bool true]) ∧ w' = W) := Lib.hid (fun W => roperands_any 4 W)
        rcases ha : (pa l k == (i : Int)) with _ | _
        · have HN := Lib.hid (HST.out (by rw [ho1, ho2, ha]; rfl))
          clear HHT HLS hone hnd1 hnd2 nd hpar
          go_wp2_with (go_at_call 40; with_reducible refine (HOP.out _).mono ?_; rintro e w4 ⟨rfl, hw⟩; subst hw)
          go_roundw
          case rel => exact ⟨trivial, k + 1, by go_num, by omega, by omega, HN⟩
          case measure => simp only [intOf]; omega
        · have hE := HLS.out (HHT.out (by rw [ho1, ho2, ha]; rfl))
          rw [if_pos rfl] at hE
          have HE := Lib.hid hE
          have HN := Lib.hid (HEN.out k wr s hkl HM0 hq hs)
          have HLS2 := HLE.out k s hkl hs
          generalize hS2 : (enR l (k + 1) k s).2 = S2 at *
          clear HST HHT HLS hone hnd1 hnd2 nd hpar hE hS2
          go_wp2_with (first
            | (go_at_call 40; with_reducible refine (HOP.out _).mono ?_; rintro e w4 ⟨rfl, hw⟩; subst hw)
            | (go_at_call 71; with_reducible refine HN.out.mono ?_; rintro e w5 ⟨rfl, q5, m5⟩; have e0 := (m5.out.cell hbW hbg _).trans d0; have HV := Lib.hid (HLV.out k w5 S2 hik hkl m5 q5 HLS2))
            | (go_at_call 72; with_reducible refine HV.out.mono ?_; rintro e w6 ⟨rfl, q6, m6⟩; have HM6 := Lib.hid (m5.out.trans m6.out)))
          go_ret
          rw [HE.out]
          exact ⟨rfl, q6, HM6⟩
    · obtain rfl : k = m := by omega
      have hp : parO l i = none := by rw [hpar.out, hl.out, Nat.sub_self]; rfl
      have HE := Lib.hid (lvN_none hi hp s)
      clear hp
      go_wp2
      go_ret
      rw [HE.out]
      exact ⟨rfl, hq, HM0⟩
theorem rleave_all (A : Option Addr) (m c : Nat) (l : List Pn) (B : Nat) (hl : Hid (l.length = m)) (h : okP l) : ∀ n i, l.length ≤ i + n → i < l.length → LvC A m c l B i
  | 0, i, h1, h2 => by omega
  | n + 1, i, h1, h2 => lv_step A m c l B hl h i h2 (fun k hk1 hk2 => rleave_all A m c l B hl h n k (by omega) hk2)

end Go.Proofs.YtfkljlncnfeklaaGreatDoor
