/-
  The reference's Check. (Seat of the great laws.) Out of FRCk.
-/
import Derived.Test.YtfkljlncnfeklaaGreatDoorXQaM
import Derived.Test.YtfkljlncnfeklaaGreatDoorXQhM
namespace Go.Proofs.YtfkljlncnfeklaaGreatDoor
open Go.RowKit Go.Shelf
set_option linter.unusedVariables false
set_option linter.unusedSimpArgs false
attribute [local go_sem ↓] Go.wp_at_zero Go.wp_at_succ

theorem usp_le (l : List Pn) (j n : Nat) : usP l j n ≤ 2 * n := by
  induction n with
  | zero => exact Nat.le_refl _
  | succ n ih =>
    rw [us_succ]
    split <;> split <;> omega
def ucP (l : List Pn) (k j : Nat) : Value := .int .i64 ((usP l j k : Nat) : Int)
structure RcP (w wr : World) (l : List Pn) (m k : Nat) : Prop where
  blk : Blk wr w.heap.size m (ucP l k)
  nod : ∀ i, i < k → okNP l i
  bel : Below w.heap.size w wr
theorem ucp_next {l : List Pn} {k a b j : Nat} (ha : 1 ≤ arP (pk l k) → pa l k = (a : Int)) (hb : arP (pk l k) = 2 → pb l k = (b : Int)) : usP l j (k + 1) = usP l j k + (if 1 ≤ arP (pk l k) ∧ j = a then 1 else 0) + (if arP (pk l k) = 2 ∧ j = b then 1 else 0) := by
  rw [us_succ]
  congr 1
  · congr 1
    by_cases h : 1 ≤ arP (pk l k)
    · by_cases q : j = a
      · rw [if_pos ⟨h, by rw [ha h, q]⟩, if_pos ⟨h, q⟩]
      · rw [if_neg (fun e => q (by have := e.2; rw [ha h] at this; omega)), if_neg (fun e => q e.2)]
    · rw [if_neg (fun e => h e.1), if_neg (fun e => h e.1)]
  · by_cases h : arP (pk l k) = 2
    · by_cases q : j = b
      · rw [if_pos ⟨h, by rw [hb h, q]⟩, if_pos ⟨h, q⟩]
      · rw [if_neg (fun e => q (by have := e.2; rw [hb h] at this; omega)), if_neg (fun e => q e.2)]
    · rw [if_neg (fun e => h e.1), if_neg (fun e => h e.1)]
theorem RcP.next {w wr w' : World} {l : List Pn} {m k a b : Nat} (h : RcP w wr l m k) (hp : vlB (pk l k) (plo l k) (phi l k) (pa l k) (pb l k) k = true) (ha : 1 ≤ arP (pk l k) → pa l k = (a : Int)) (hb : arP (pk l k) = 2 → pb l k = (b : Int))
    {F : Nat → Value} (hB : Blk w' w.heap.size m F) (hF : ∀ j, F j = .int .i64 ((usP l j k + (if 1 ≤ arP (pk l k) ∧ j = a then 1 else 0) + (if arP (pk l k) = 2 ∧ j = b then 1 else 0) : Nat) : Int)) (hw : Below w.heap.size w w') : RcP w w' l m (k + 1) := by
  refine ⟨hB.congr fun i _ => ?_, fun i hi => ?_, hw⟩
  · rw [hF]
    unfold ucP
    rw [ucp_next ha hb]
  · by_cases hik : i = k
    · subst hik
      exact vlB_iff.1 hp
    · exact h.nod i (by omega)
theorem blkI_made (w : World) (n : Nat) : Blk (w.alloc (.cells (madeCells #[Value.int .i64 0] n) 3)) w.heap.size n (fun _ => .int .i64 0) := by
  have e : madeCells #[Value.int .i64 0] n = (List.replicate n (Value.int .i64 0)).toArray := by
    apply Array.ext'
    rw [toList_madeCells_one]
  rw [e]
  have h := Blk.new (w := w) rfl (List.replicate n (Value.int .i64 0)) 3
  rw [List.length_replicate] at h
  exact h.congr fun i hi => by rw [List.getD_eq_getElem?_getD, List.getElem?_replicate, if_pos hi]; rfl
theorem okP_of {l : List Pn} (h1 : 1 ≤ l.length) (h2 : l.length ≤ 512) (hn : ∀ i, i < l.length → okNP l i) (hu : ∀ i, i < l.length - 1 → usP l i l.length = 1) : okP l := by
  refine ⟨⟨by rw [List.length_map]; exact h1, by rw [List.length_map]; exact h2, fun i hi => ?_, fun i hi => ?_⟩, fun i hi => (okNP_iff.1 (hn i hi)).2⟩
  · rw [List.length_map] at hi
    exact (okNP_iff.1 (hn i hi)).1
  · rw [List.length_map] at hi ⊢
    exact hu i hi
theorem usp_one {l : List Pn} (h : okP l) {i : Nat} (hi : i < l.length - 1) : usP l i l.length = 1 := by
  have := h.1.2.2.2 i (by rw [List.length_map]; exact hi)
  rwa [List.length_map] at this

set_option maxHeartbeats 8000000 in
set_option maxRecDepth 100000 in
theorem qpcheck_some (A : Option Addr) (m c : Nat) (l : List Pn) (w : World) (hl : Hid (l.length = m)) (h2 : m ≤ 512) (hr : Hid (Rp w w.heap.size A l)) :
    Calls Tryz.prog 13 #[.slice A m c] w fun e w' => e = .returned (.int .i64 (chP l)) ∧ Below w.heap.size w w' := by
  obtain ⟨i0, hi, hz0, hz1, hz2⟩ := info_parts infoIntQ
  have h4 : ¬ (512 : Int) < (m : Int) := by omega
  have R0 : Hid (RcP w (w.alloc (.cells (madeCells #[Value.int .i64 0] m) 3)) l m 0) := Lib.hid ⟨blkI_made w m, fun i hi => by omega, (Below.refl _ _).alloc (Nat.le_refl _) _⟩
  have HNO : Hid (¬ okP l → chP l = 40) := Lib.hid (chP_no (by rw [hl.out]; omega))
  go_enter Tryz.func13, Tryz.ntmps13
  go_wp2_with (first | (at_make; refine wpList_make_row _ rfl _ _ 51 rfl 3 i0 _ Tryz.underlying51 hi hz0 hz1 rfl _ _ m rfl rfl (by rw [hz2]; omega) (by omega) ?_))
  generalize w.alloc (.cells (madeCells #[Value.int .i64 0] m) 3) = w0 at *
  go_loopw [4] (fun i wr => ∃ k : Nat, k ≤ m ∧ i = .int .i64 (k : Int) ∧ Hid (RcP w wr l m k)) (fun i _ => m - (intOf i).toNat)
  case atStart => exact ⟨0, Nat.zero_le _, rfl, R0⟩
  case round =>
    obtain ⟨k, hk, rfl, hst⟩ := hrel
    clear R0
    by_cases hlt' : k < m
    · have hkl : k < l.length := by rw [hl.out]; exact hlt'
      have hbl := hst.out.bel.size
      have hrw := Lib.hid ((hr.out.below hst.out.bel).mono hbl)
      obtain ⟨b, o, e, hb, hc⟩ := (hr.out.below hst.out.bel) (by omega)
      subst e
      obtain ⟨d0, d1, d2, d3, d4⟩ := hc k hkl
      clear hc
      have i1 : (0 : Int) ≤ (k : Int) := by omega
      have i2 : (k : Int) < (m : Int) := by omega
      have HND := Lib.hid (rvalid_any (some ⟨b, o, none⟩) m c l k wr hl hrw hlt' (by omega))
      by_cases hp : vlB (pk l k) (plo l k) (phi l k) (pa l k) (pb l k) k = true
      rotate_left
      · have hp' : vlB (pk l k) (plo l k) (phi l k) (pa l k) (pb l k) k = false := by simpa using hp
        have hno := vl_no hkl hp'
        rw [hp'] at HND
        have HCH : Hid (chP l = 40) := Lib.hid (HNO.out hno)
        clear hno hp hp'
        go_wp2_with (first | (go_at_call 39; with_reducible refine HND.out.mono ?_; rintro e w2 ⟨rfl, b2⟩; have HB := ftr (Lib.hid hst.out.bel) b2 hst.out.bel.size; clear b2))
        go_ret
        rw [HCH.out]
        exact ⟨rfl, HB.out⟩
      obtain ⟨ho, ha, hb2⟩ := vl_op hp
      have h3a := arP_le (pk l k)
      have HP := Lib.hid hp
      rw [hp] at HND
      have HOP : Hid (∀ W : World, Calls Tryz.prog 40 #[.int .i64 (pk l k)] W fun e w' => e = .returned (.tuple #[.int .i64 ((arP (pk l k) : Nat) : Int), .bool true]) ∧ w' = W) := Lib.hid fun W => by
        have q := roperands_any (pk l k) W
        rw [roP_ar ho] at q
        exact q
      clear hp ho
      rcases (show arP (pk l k) = 0 ∨ arP (pk l k) = 1 ∨ arP (pk l k) = 2 by omega) with har | har | har
      · rw [har] at HOP
        have HR := Lib.hid har
        clear har h3a ha hb2
        go_upto_region 9 with (first | (go_at_call 39; with_reducible refine HND.out.mono ?_; rintro e w2 ⟨rfl, b2⟩; have XU := Lib.hid (hst.out.blk.below (by omega) b2); have HB := ftr (Lib.hid hst.out.bel) b2 hst.out.bel.size; clear d0 d1 d2 d3 d4; obtain ⟨d0, d1, d2, d3, d4⟩ := Rp.nat (hr.out.below HB.out) hkl; have hsz := HB.out.size; clear b2))
        go_wp2_with (first | (go_at_call 40; with_reducible refine (HOP.out _).mono ?_; rintro e w4 ⟨rfl, hw⟩; subst hw))
        go_roundw
        case rel => exact ⟨k + 1, by omega, by go_num, Lib.hid (hst.out.next (a := 0) (b := 0) HP.out (fun e => by rw [HR.out] at e; omega) (fun e => by rw [HR.out] at e; omega) XU.out (fun j => by rw [HR.out, if_neg (by omega), if_neg (by omega)]; rfl) HB.out)⟩
        case measure => simp [intOf]; omega
      · rw [har] at HOP
        have HR := Lib.hid har
        obtain ⟨a, hae⟩ : ∃ a : Nat, pa l k = (a : Int) := ⟨(pa l k).toNat, by have := ha (by omega); omega⟩
        have hak : a < k := by have := ha (by omega); omega
        have HA := Lib.hid hae
        clear har h3a ha hb2 hae
        have u1 := usp_le l a k
        have i3 : (0 : Int) ≤ (a : Int) := by omega
        have i4 : (a : Int) < (m : Int) := by omega
        go_upto_region 9 with (first | (go_at_call 39; with_reducible refine HND.out.mono ?_; rintro e w2 ⟨rfl, b2⟩; have XU := Lib.hid (hst.out.blk.below (by omega) b2); have HB := ftr (Lib.hid hst.out.bel) b2 hst.out.bel.size; clear d0 d1 d2 d3 d4; obtain ⟨d0, d1, d2, d3, d4⟩ := Rp.nat (hr.out.below HB.out) hkl; have hsz := HB.out.size; clear b2))
        rw [HA.out] at d3
        obtain ⟨z0, f0⟩ := XU.out a (by omega)
        unfold ucP at z0
        have XU1 := Lib.hid (XU.out.set (i := a) (by omega) (.int .i64 ((usP l a k : Int) + 1)))
        have HB1 : Hid (Below w.heap.size w (w2.setCell ⟨w.heap.size, a, none⟩ (.int .i64 ((usP l a k : Int) + 1)))) := Lib.hid (HB.out.setCell (Nat.le_refl _) _)
        have hne : ¬ w.heap.size = b := by omega
        have hne' : ¬ b = w.heap.size := by omega
        go_wp2_with (first | (go_at_call 40; with_reducible refine (HOP.out _).mono ?_; rintro e w4 ⟨rfl, hw⟩; subst hw))
        go_roundw
        case rel => exact ⟨k + 1, by omega, by go_num, Lib.hid (hst.out.next (a := a) (b := 0) HP.out (fun _ => HA.out) (fun e => by rw [HR.out] at e; omega) XU1.out (fun j => by
          rw [HR.out]
          by_cases e : j = a
          · subst e
            rw [fup_same, if_pos ⟨by omega, rfl⟩, if_neg (by omega)]; push_cast; rfl
          · rw [fup_ne _ _ e, if_neg (fun h => e h.2), if_neg (by omega)]; rfl) HB1.out)⟩
        case measure => simp [intOf]; omega
      · rw [har] at HOP
        have HR := Lib.hid har
        obtain ⟨a, hae⟩ : ∃ a : Nat, pa l k = (a : Int) := ⟨(pa l k).toNat, by have := ha (by omega); omega⟩
        have hak : a < k := by have := ha (by omega); omega
        have HA := Lib.hid hae
        obtain ⟨q, hqe⟩ : ∃ q : Nat, pb l k = (q : Int) := ⟨(pb l k).toNat, by have := hb2 har; omega⟩
        have hqk : q < k := by have := hb2 har; omega
        have HQ := Lib.hid hqe
        clear har h3a ha hb2 hae hqe
        have u1 := usp_le l a k
        have i3 : (0 : Int) ≤ (a : Int) := by omega
        have i4 : (a : Int) < (m : Int) := by omega
        have u2 := usp_le l q k
        have i5 : (0 : Int) ≤ (q : Int) := by omega
        have i6 : (q : Int) < (m : Int) := by omega
        go_upto_region 9 with (first | (go_at_call 39; with_reducible refine HND.out.mono ?_; rintro e w2 ⟨rfl, b2⟩; have XU := Lib.hid (hst.out.blk.below (by omega) b2); have HB := ftr (Lib.hid hst.out.bel) b2 hst.out.bel.size; clear d0 d1 d2 d3 d4; obtain ⟨d0, d1, d2, d3, d4⟩ := Rp.nat (hr.out.below HB.out) hkl; have hsz := HB.out.size; clear b2))
        rw [HA.out] at d3
        obtain ⟨z0, f0⟩ := XU.out a (by omega)
        unfold ucP at z0
        have XU1 := Lib.hid (XU.out.set (i := a) (by omega) (.int .i64 ((usP l a k : Int) + 1)))
        have HB1 : Hid (Below w.heap.size w (w2.setCell ⟨w.heap.size, a, none⟩ (.int .i64 ((usP l a k : Int) + 1)))) := Lib.hid (HB.out.setCell (Nat.le_refl _) _)
        rw [HQ.out] at d4
        obtain ⟨z1, f1⟩ := XU1.out q (by omega)
        obtain ⟨X, hX⟩ : ∃ X : Nat, fup (ucP l k) a (.int .i64 ((usP l a k : Int) + 1)) q = .int .i64 (X : Int) ∧ X = usP l q k + (if q = a then 1 else 0) := by
          by_cases e : q = a
          · subst e
            exact ⟨usP l q k + 1, by rw [fup_same]; push_cast; rfl, by rw [if_pos rfl]⟩
          · exact ⟨usP l q k, by rw [fup_ne _ _ e]; rfl, by rw [if_neg e]; rfl⟩
        rw [hX.1] at z1
        have HX := Lib.hid hX.2
        have hXl : X ≤ 2 * k + 1 := by have := hX.2; split at this <;> omega
        clear hX
        have XU2 := Lib.hid (XU1.out.set (i := q) (by omega) (.int .i64 ((X : Int) + 1)))
        have HB2 : Hid (Below w.heap.size w ((w2.setCell ⟨w.heap.size, a, none⟩ (.int .i64 ((usP l a k : Int) + 1))).setCell ⟨w.heap.size, q, none⟩ (.int .i64 ((X : Int) + 1)))) := Lib.hid (HB1.out.setCell (Nat.le_refl _) _)
        have hne : ¬ w.heap.size = b := by omega
        have hne' : ¬ b = w.heap.size := by omega
        go_wp2_with (first | (go_at_call 40; with_reducible refine (HOP.out _).mono ?_; rintro e w4 ⟨rfl, hw⟩; subst hw))
        go_roundw
        case rel => exact ⟨k + 1, by omega, by go_num, Lib.hid (hst.out.next (a := a) (b := q) HP.out (fun _ => HA.out) (fun _ => HQ.out) XU2.out (fun j => by
          rw [HR.out]
          simp only [show (1 : Nat) ≤ 2 from by decide, true_and]
          by_cases e : j = q
          · subst e
            rw [fup_same, HX.out]
            by_cases e2 : j = a
            · rw [if_pos e2, if_pos rfl]; push_cast; rfl
            · rw [if_neg e2, if_pos rfl]; push_cast; rfl
          · rw [fup_ne _ _ e]
            by_cases e2 : j = a
            · subst e2
              rw [fup_same, if_pos rfl, if_neg e]; push_cast; rfl
            · rw [fup_ne _ _ e2, if_neg e2, if_neg e]; rfl) HB2.out)⟩
        case measure => simp [intOf]; omega
    · obtain rfl : k = m := by omega
      go_wp2_with fail
      have HU := Lib.hid hst.out.blk
      have HB := Lib.hid hst.out.bel
      have HN := Lib.hid hst.out.nod
      clear hst
      go_loopw [7] (fun i wq => ∃ j : Nat, j ≤ k ∧ i = .int .i64 (j : Int) ∧ wq = wr ∧ Hid (∀ i, i < j → i < k - 1 → usP l i k = 1)) (fun i _ => k - (intOf i).toNat)
      case atStart => exact ⟨0, Nat.zero_le _, rfl, rfl, Lib.hid (fun i hi => by omega)⟩
      case round =>
        obtain ⟨j, hj, rfl, rfl, hok⟩ := hrel
        have i1 : (0 : Int) ≤ (j : Int) := by omega
        by_cases hl1 : j < k - 1
        · have i2 : (j : Int) < (k : Int) := by omega
          have i3 : (j : Int) < (k : Int) - 1 := by omega
          obtain ⟨z0, f0⟩ := HU.out j (by omega)
          unfold ucP at z0
          by_cases hu : usP l j k = 1
          · rw [hu] at z0
            have HU1 := Lib.hid hu
            clear hu
            go_wp2
            go_roundw
            case rel => exact ⟨j + 1, by omega, by go_num, by first | rfl | trivial, Lib.hid (fun i hi hi' => by
              by_cases e : i = j
              · subst e; exact HU1.out
              · exact hok.out i (by omega) hi')⟩
            case measure => simp [intOf]; omega
          · have hno : ¬ okP l := fun q => hu (by have := usp_one q (i := j) (by rw [hl.out]; exact hl1); rwa [hl.out] at this)
            have HCH : Hid (chP l = 40) := Lib.hid (HNO.out hno)
            have p1 : (((usP l j k : Nat) : Int) != 1) = true := bne_iff_ne.2 (by omega)
            clear hno hu
            go_wp2
            go_ret
            rw [HCH.out]
            exact ⟨rfl, HB.out⟩
        · have i3 : ¬ (j : Int) < (k : Int) - 1 := by omega
          by_cases hk0 : k = 0
          · have hno : ¬ okP l := fun q => by have := q.len; rw [hl.out] at this; omega
            have HCH : Hid (chP l = 40) := Lib.hid (HNO.out hno)
            have e0 : ((k : Int) == 0) = true := beq_iff_eq.2 (by omega)
            clear hno hk0
            go_wp2
            go_ret
            rw [HCH.out]
            exact ⟨rfl, HB.out⟩
          · have hyes : okP l := okP_of (by rw [hl.out]; omega) (by rw [hl.out]; exact h2) (by rw [hl.out]; exact HN.out) (by rw [hl.out]; exact fun i hi => hok.out i (by omega) hi)
            have HCH : Hid (chP l = 0) := Lib.hid (chP_ok hyes)
            have e0 : ((k : Int) == 0) = false := beq_eq_false_iff_ne.2 (by omega)
            clear hyes hk0
            go_wp2
            go_ret
            rw [HCH.out]
            exact ⟨rfl, HB.out⟩
theorem qpcheck_any (A : Option Addr) (m c : Nat) (l : List Pn) (w : World) (hl : Hid (l.length = m)) (hr : Hid (Rp w w.heap.size A l)) :
    Calls Tryz.prog 13 #[.slice A m c] w fun e w' => e = .returned (.int .i64 (chP l)) ∧ Below w.heap.size w w' := by
  by_cases h5 : 512 < m
  · rw [chP_big (by rw [hl.out]; exact h5)]
    have i5 : (512 : Int) < (m : Int) := by omega
    have hb := Below.refl w.heap.size w
    go_enter Tryz.func13, Tryz.ntmps13
    go_wp2
    go_ret
    exact ⟨rfl, hb⟩
  · exact qpcheck_some A m c l w hl (by omega) hr

end Go.Proofs.YtfkljlncnfeklaaGreatDoor
