/-
  Plain mathematics and contracts of package diagram, several texts in one: XOc, XOd, XOt, XOq, XOs, XOl.
-/
import Derived.Test.YtgjhicahopcfcaaGreatDoorPb
import Derived.Test.YtgjhicahopcfcaaGreatDoorPa
import Derived.Deep.RegionWith
import Derived.Deep.Cut
import Derived.Test.YtgjhicahopcfcaaGreatDoorPr
import Derived.Test.YtgjhicahopcfcaaGreatDoorPj

/-! The reference's parser by offsets: plain, digit, byteAt. (Seat of the great laws.) -/
namespace Go.Proofs.YtgjhicahopcfcaaGreatDoor
open Go.RowKit Go.Shelf
set_option linter.unusedVariables false
set_option linter.unusedSimpArgs false
attribute [local go_sem ↓] Go.wp_at_zero Go.wp_at_succ

def pL : List UInt8 := [40, 41, 42, 45, 91, 92, 93, 124]
def dL : List UInt8 := [48, 49, 50, 51, 52, 53, 54, 55, 56, 57, 97, 98, 99, 100, 101, 102]
theorem pL_no (b : Nat) (h : ∀ j, j < 8 → (pL.getD j 0).toNat ≠ b) : plainB b = (decide (33 ≤ b) && decide (b ≤ 126)) := by
  have h0 := h 0 (by decide)
  have h1 := h 1 (by decide)
  have h2 := h 2 (by decide)
  have h3 := h 3 (by decide)
  have h4 := h 4 (by decide)
  have h5 := h 5 (by decide)
  have h6 := h 6 (by decide)
  have h7 := h 7 (by decide)
  simp [pL] at h0 h1 h2 h3 h4 h5 h6 h7
  unfold plainB
  have e : (b == 40 || b == 41 || b == 42 || b == 45 || b == 91 || b == 92 || b == 93 || b == 124) = false := by
    simp; omega
  rw [e]
  simp
theorem pL_yes (j : Nat) (h : j < 8) : plainB (pL.getD j 0).toNat = false := by
  revert j
  decide
set_option maxRecDepth 100000 in
theorem oplain_any (b : Nat) (hb : b < 256) (w : World) : Calls Tryz.prog 91 #[.int .u8 (b : Int)] w fun e w' => e = .returned (.bool (plainB b)) ∧ w' = w := by
  go_enter Tryz.func91, Tryz.ntmps91
  go_wp2
  go_loopw [3] (fun v3 wr => wr = w ∧ ∃ i : Nat, v3 = .int .i64 (i : Int) ∧ i ≤ 8 ∧ ∀ j, j < i → (pL.getD j 0).toNat ≠ b) (fun v3 wr => 8 - (intOf v3).toNat)
  case atStart => exact ⟨rfl, 0, rfl, Nat.zero_le _, fun j hj => absurd hj (Nat.not_lt_zero _)⟩
  case round =>
    obtain ⟨rfl, i, rfl, hi, hno⟩ := hrel
    by_cases hlt : i < 8
    · have i1 : (i : Int) < 8 := by omega
      have i0 : (0 : Int) ≤ (i : Int) := by omega
      have hpf : i < (⟨#[40, 41, 42, 45, 91, 92, 93, 124]⟩ : ByteArray).size := hlt
      have hx : (⟨#[40, 41, 42, 45, 91, 92, 93, 124]⟩ : ByteArray)[i]'hpf = pL.getD i 0 := by
        rw [List.getD_eq_getElem?_getD, List.getElem?_eq_getElem (show i < pL.length from hlt)]
        rfl
      obtain ⟨c, hc⟩ : ∃ c, pL.getD i 0 = c := ⟨_, rfl⟩
      have hpy := pL_yes i hlt
      rw [hc] at hx hpy
      have HN := Lib.hid hno
      have HC := Lib.hid hc
      clear hno hc
      by_cases he : c.toNat = b
      · have e1 : ((b : Int) == (c.toNat : Int)) = true := by rw [he]; simp
        rw [he] at hpy
        have HPY := Lib.hid hpy
        clear he hpy
        go_wp2
        go_ret
        exact ⟨by rw [HPY.out]; rfl, rfl⟩
      · have e1 : ((b : Int) == (c.toNat : Int)) = false := by rw [beq_eq_false_iff_ne]; omega
        have HE := Lib.hid he
        clear hpy he
        go_wp2
        go_roundw
        · exact ⟨trivial, i + 1, by simp, by omega, fun j hj => by
            rcases Nat.lt_or_ge j i with q | q
            · exact HN.out j q
            · rw [show j = i by omega, HC.out]; exact HE.out⟩
        · simp only [intOf]; omega
    · obtain rfl : i = 8 := by omega
      have hp := pL_no b hno
      clear hno
      by_cases c1 : 33 ≤ b
      · by_cases c2 : b ≤ 126
        · have HPY := Lib.hid (show plainB b = true by rw [hp, decide_eq_true c1, decide_eq_true c2]; rfl)
          have i1 : (33 : Int) ≤ (b : Int) := by omega
          have i2 : (b : Int) ≤ 126 := by omega
          clear hp c1 c2
          go_wp2
          go_ret
          exact ⟨by rw [HPY.out]; rfl, rfl⟩
        · have HPY := Lib.hid (show plainB b = false by rw [hp, decide_eq_false c2, Bool.and_false])
          have i1 : (33 : Int) ≤ (b : Int) := by omega
          have i2 : ¬ (b : Int) ≤ 126 := by omega
          clear hp c1 c2
          go_wp2
          go_ret
          exact ⟨by rw [HPY.out]; rfl, rfl⟩
      · have HPY := Lib.hid (show plainB b = false by rw [hp, decide_eq_false c1, Bool.false_and])
        have i1 : ¬ (33 : Int) ≤ (b : Int) := by omega
        clear hp c1
        go_wp2
        go_ret
        exact ⟨by rw [HPY.out]; rfl, rfl⟩
/-- a digit's value, -1 where it is none -/
def dgI (b : Nat) : Int := match hexV (UInt8.ofNat b) with
  | some v => (v : Int)
  | none => -1
theorem dL_yes (i : Nat) (h : i < 16) : hexV (dL.getD i 0) = some i := by
  revert i
  decide
theorem dL_no (b : Nat) (hb : b < 256) (h : ∀ j, j < 16 → (dL.getD j 0).toNat ≠ b) : hexV (UInt8.ofNat b) = none := by
  have e : ∀ j, j < 16 → (dL.getD j 0).toNat = (if j < 10 then 48 + j else 87 + j) := by decide
  unfold hexV
  have hn : (UInt8.ofNat b).toNat = b := by rw [UInt8.toNat_ofNat']; omega
  rw [hn, if_neg (fun q => h (b - 48) (by omega) (by rw [e _ (by omega), if_pos (by omega)]; omega)), if_neg (fun q => h (b - 87) (by omega) (by rw [e _ (by omega), if_neg (by omega)]; omega))]
set_option maxRecDepth 100000 in
theorem odigit_any (b : Nat) (hb : b < 256) (w : World) : Calls Tryz.prog 130 #[.int .u8 (b : Int)] w fun e w' => e = .returned (.int .i64 (dgI b)) ∧ w' = w := by
  go_enter Tryz.func130, Tryz.ntmps130
  go_wp2
  go_loopw [3] (fun v3 wr => wr = w ∧ ∃ i : Nat, v3 = .int .i64 (i : Int) ∧ i ≤ 16 ∧ ∀ j, j < i → (dL.getD j 0).toNat ≠ b) (fun v3 wr => 16 - (intOf v3).toNat)
  case atStart => exact ⟨rfl, 0, rfl, Nat.zero_le _, fun j hj => absurd hj (Nat.not_lt_zero _)⟩
  case round =>
    obtain ⟨rfl, i, rfl, hi, hno⟩ := hrel
    by_cases hlt : i < 16
    · have i1 : (i : Int) < 16 := by omega
      have i0 : (0 : Int) ≤ (i : Int) := by omega
      have hpf : i < (⟨#[48, 49, 50, 51, 52, 53, 54, 55, 56, 57, 97, 98, 99, 100, 101, 102]⟩ : ByteArray).size := hlt
      have hx : (⟨#[48, 49, 50, 51, 52, 53, 54, 55, 56, 57, 97, 98, 99, 100, 101, 102]⟩ : ByteArray)[i]'hpf = dL.getD i 0 := by
        rw [List.getD_eq_getElem?_getD, List.getElem?_eq_getElem (show i < dL.length from hlt)]
        rfl
      have hdy := dL_yes i hlt
      obtain ⟨c, hc⟩ : ∃ c, dL.getD i 0 = c := ⟨_, rfl⟩
      rw [hc] at hx hdy
      have HN := Lib.hid hno
      have HC := Lib.hid hc
      clear hno hc
      by_cases he : c.toNat = b
      · have e1 : ((b : Int) == (c.toNat : Int)) = true := by rw [he]; simp
        have HPY := Lib.hid (show dgI b = (i : Int) by unfold dgI; rw [← he, UInt8.ofNat_toNat, hdy])
        clear he hdy
        go_wp2
        go_ret
        exact ⟨by rw [HPY.out]; rfl, rfl⟩
      · have e1 : ((b : Int) == (c.toNat : Int)) = false := by rw [beq_eq_false_iff_ne]; omega
        have HE := Lib.hid he
        clear hdy he
        go_wp2
        go_roundw
        · exact ⟨trivial, i + 1, by simp, by omega, fun j hj => by
            rcases Nat.lt_or_ge j i with q | q
            · exact HN.out j q
            · rw [show j = i by omega, HC.out]; exact HE.out⟩
        · simp only [intOf]; omega
    · obtain rfl : i = 16 := by omega
      have HPY := Lib.hid (show dgI b = -1 by unfold dgI; rw [dL_no b hb hno])
      clear hno
      go_wp2
      go_ret
      exact ⟨by rw [HPY.out]; rfl, rfl⟩
/-- the byte at an offset, 0 behind the end -/
def byA (S : List UInt8) (k : Nat) : UInt8 := S.getD k 0
theorem obyte_any (S : List UInt8) (k : Nat) (w : World) : Calls Tryz.prog 79 #[.string ⟨S.toArray⟩, .int .i64 (k : Int)] w fun e w' => e = .returned (.int .u8 (((byA S k).toNat : Nat) : Int)) ∧ w' = w := by
  by_cases h : k < S.length
  · have hpf : k < (⟨S.toArray⟩ : ByteArray).size := by show k < S.toArray.size; rw [List.size_toArray]; exact h
    have hx : (⟨S.toArray⟩ : ByteArray)[k]'hpf = byA S k := by
      unfold byA
      rw [List.getD_eq_getElem?_getD, List.getElem?_eq_getElem h]
      rfl
    have i1 : (k : Int) < (S.length : Int) := by omega
    have i0 : (0 : Int) ≤ (k : Int) := by omega
    go_enter Tryz.func79, Tryz.ntmps79
    go_wp2
    go_ret
    exact ⟨rfl, rfl⟩
  · have i1 : ¬ (k : Int) < (S.length : Int) := by omega
    have HB := Lib.hid (show byA S k = 0 by unfold byA; rw [List.getD_eq_getElem?_getD, List.getElem?_eq_none (by omega)]; rfl)
    clear h
    go_enter Tryz.func79, Tryz.ntmps79
    go_wp2
    go_ret
    exact ⟨by rw [HB.out]; rfl, rfl⟩

end Go.Proofs.YtgjhicahopcfcaaGreatDoor

/-! The reference's parser by offsets: character. (Seat of the great laws.) -/
namespace Go.Proofs.YtgjhicahopcfcaaGreatDoor
open Go.RowKit Go.Shelf
set_option linter.unusedVariables false
set_option linter.unusedSimpArgs false
attribute [local go_sem ↓] Go.wp_at_zero Go.wp_at_succ

/-- what character answers at offset k -/
def ChR (S : List UInt8) (k : Nat) (v z : Int) : Prop := (∃ u k' : Nat, chO (S.drop k) = some (u, S.drop k') ∧ u < 256 ∧ k < k' ∧ k' ≤ S.length ∧ v = (u : Int) ∧ z = (k' : Int)) ∨ (chO (S.drop k) = none ∧ v = 0 ∧ z = -1)
theorem dg_hex (b : UInt8) : dgI b.toNat = match hexV b with | some v => (v : Int) | none => -1 := by
  unfold dgI
  rw [UInt8.ofNat_toNat]
  all_goals (cases hexV b <;> rfl)
theorem hex_lt {b : UInt8} {v : Nat} (h : hexV b = some v) : v < 16 := by
  unfold hexV at h
  split at h
  · injection h; omega
  · split at h
    · injection h; omega
    · cases h
theorem drop_by {S : List UInt8} {k : Nat} (h : k < S.length) : S.drop k = byA S k :: S.drop (k + 1) := by
  unfold byA
  rw [List.drop_eq_getElem_cons h, List.getD_eq_getElem?_getD, List.getElem?_eq_getElem h]
  rfl
theorem ch_plain {S : List UInt8} {k : Nat} (h : k < S.length) (hp : plainB (byA S k).toNat = true) : chO (S.drop k) = some ((byA S k).toNat, S.drop (k + 1)) := by
  rw [drop_by h, chO_cons, if_neg (fun e => by rw [e] at hp; revert hp; decide), if_pos hp]
theorem ch_end {S : List UInt8} {k : Nat} (h : ¬ k < S.length) : chO (S.drop k) = none := by rw [List.drop_eq_nil_of_le (by omega)]; rfl
theorem ch_other {S : List UInt8} {k : Nat} (h : k < S.length) (hp : plainB (byA S k).toNat = false) (h92 : byA S k ≠ 92) : chO (S.drop k) = none := by
  rw [drop_by h, chO_cons, if_neg h92, if_neg (by rw [hp]; decide)]
theorem ch_short {S : List UInt8} {k : Nat} (h : k < S.length) (h3 : ¬ k + 3 < S.length) (hp : plainB (byA S k).toNat = false) : chO (S.drop k) = none := by
  by_cases h92 : byA S k = 92
  · rw [drop_by h, chO_cons, if_pos h92]
    have : escV (byA S k :: S.drop (k + 1)) = none := by
      unfold escV
      split
      · rename_i e
        injection e with _ e
        have := congrArg List.length e
        rw [List.length_drop] at this
        simp at this
        omega
      · rfl
    rw [this]; rfl
  · exact ch_other h hp h92
theorem ch_esc {S : List UInt8} {k : Nat} (h3 : k + 3 < S.length) (h92 : byA S k = 92) : chO (S.drop k) = (if byA S (k + 1) = 120 then (hexV (byA S (k + 2))).bind fun a => (hexV (byA S (k + 3))).map fun b => a * 16 + b else none).map fun v => (v, S.drop (k + 4)) := by
  have e1 := drop_by (S := S) (k := k) (by omega)
  have e2 := drop_by (S := S) (k := k + 1) (by omega)
  have e3 := drop_by (S := S) (k := k + 2) (by omega)
  have e4 := drop_by (S := S) (k := k + 3) (by omega)
  rw [e1, chO_cons, if_pos h92, List.drop_drop, e2, e3, e4]
  rfl
theorem ix_by {S : List UInt8} {k : Nat} (hpf : k < (⟨S.toArray⟩ : ByteArray).size) : (⟨S.toArray⟩ : ByteArray)[k]'hpf = byA S k := by
  have h : k < S.length := by have : k < S.toArray.size := hpf; rwa [List.size_toArray] at this
  unfold byA
  rw [List.getD_eq_getElem?_getD, List.getElem?_eq_getElem h]
  rfl
theorem sz_of {S : List UInt8} {k : Nat} (h : k < S.length) : k < (⟨S.toArray⟩ : ByteArray).size := by show k < S.toArray.size; rw [List.size_toArray]; exact h
set_option maxRecDepth 100000 in
set_option maxHeartbeats 4000000 in
theorem ochar_any (S : List UInt8) (k : Nat) (w : World) (hS : S.length ≤ 100000) (hk : k ≤ 100001) : Calls Tryz.prog 119 #[.string ⟨S.toArray⟩, .int .i64 (k : Int)] w fun e w' => (∃ v z : Int, e = .returned (.tuple #[.int .i64 v, .int .i64 z]) ∧ ChR S k v z) ∧ Below w.heap.size w w' := by
  have k0 : (0 : Int) ≤ (k : Int) := by omega
  have kb : (k : Int) ≤ 100001 := by omega
  have hb := Lib.hid (Below.refl w.heap.size w)
  by_cases h : k < S.length
  · have i1 : (k : Int) < (S.length : Int) := by omega
    have x0 := ix_by (sz_of h)
    have hp256 : (byA S k).toNat < 256 := UInt8.toNat_lt _
    have HP := Lib.hid (oplain_any (byA S k).toNat hp256 w)
    by_cases hp : plainB (byA S k).toNat = true
    · have HC := Lib.hid (ch_plain h hp)
      rw [hp] at HP
      have HH := Lib.hid h
      clear hp
      generalize byA S k = b0 at *
      go_enter Tryz.func119, Tryz.ntmps119
      go_wp2_with (go_at_call 91; with_reducible refine HP.out.mono ?_; rintro e w1 ⟨rfl, hw⟩; cases hw)
      go_ret2
      exact ⟨⟨_, _, rfl, .inl ⟨b0.toNat, k + 1, HC.out, hp256, by omega, by have := HH.out; omega, rfl, by simp⟩⟩, hb.out⟩
    · have hp0 : plainB (byA S k).toNat = false := Bool.eq_false_iff.2 hp
      rw [hp0] at HP
      clear hp
      by_cases h3 : k + 3 < S.length
      · have i3 : (k : Int) + 3 < (S.length : Int) := by omega
        by_cases h92 : byA S k = 92
        · have x1 := ix_by (sz_of (show k + 1 < S.length by omega))
          have x2 := ix_by (sz_of (show k + 2 < S.length by omega))
          have x3 := ix_by (sz_of h3)
          have n2 : ((k : Int) + 2).toNat = k + 2 := by omega
          have n3 : ((k : Int) + 3).toNat = k + 3 := by omega
          have x2' : (⟨S.toArray⟩ : ByteArray)[((k : Int) + 2).toNat]'(by rw [n2]; exact sz_of (by omega)) = byA S (k + 2) := by
            rw [ix_by, n2]
          have x3' : (⟨S.toArray⟩ : ByteArray)[((k : Int) + 3).toNat]'(by rw [n3]; exact sz_of h3) = byA S (k + 3) := by
            rw [ix_by, n3]
          have hE := ch_esc h3 h92
          rw [h92] at x0 HP
          replace HP : Hid (Calls Tryz.prog 91 #[.int .u8 92] w fun e w' => e = .returned (.bool false) ∧ w' = w) := HP
          have l2 : (byA S (k + 2)).toNat < 256 := UInt8.toNat_lt _
          have l3 : (byA S (k + 3)).toNat < 256 := UInt8.toNat_lt _
          have D2 := Lib.hid (fun W => odigit_any (byA S (k + 2)).toNat l2 W)
          have D3 := Lib.hid (fun W => odigit_any (byA S (k + 3)).toNat l3 W)
          rw [dg_hex] at D2 D3
          clear h92 hp0 hp256
          generalize byA S (k + 1) = b1 at *
          generalize byA S (k + 2) = b2 at *
          generalize byA S (k + 3) = b3 at *
          by_cases h120 : b1 = 120
          · subst h120
            rw [if_pos rfl] at hE
            rcases q2 : hexV b2 with _ | a2
            · rw [q2] at hE D2
              have HE := Lib.hid hE
              replace D2 : Hid (∀ W : World, Calls Tryz.prog 130 #[.int .u8 ((b2.toNat : Nat) : Int)] W fun e w' => e = .returned (.int .i64 (-1)) ∧ w' = W) := D2
              clear hE q2 D3
              go_enter Tryz.func119, Tryz.ntmps119
              go_wp2_with (first
                | (go_at_call 91; with_reducible refine HP.out.mono ?_; rintro e w1 ⟨rfl, hw⟩; cases hw)
                | (go_at_call 130; with_reducible refine (D2.out _).mono ?_; rintro e w1 ⟨rfl, hw⟩; cases hw))
              go_ret2
              exact ⟨⟨_, _, rfl, .inr ⟨HE.out, rfl, rfl⟩⟩, hb.out⟩
            · have a2l := hex_lt q2
              rw [q2] at hE D2
              replace D2 : Hid (∀ W : World, Calls Tryz.prog 130 #[.int .u8 ((b2.toNat : Nat) : Int)] W fun e w' => e = .returned (.int .i64 (a2 : Int)) ∧ w' = W) := D2
              rcases q3 : hexV b3 with _ | a3
              · rw [q3] at hE D3
                have HE := Lib.hid hE
                replace D3 : Hid (∀ W : World, Calls Tryz.prog 130 #[.int .u8 ((b3.toNat : Nat) : Int)] W fun e w' => e = .returned (.int .i64 (-1)) ∧ w' = W) := D3
                clear hE q2 q3
                go_enter Tryz.func119, Tryz.ntmps119
                go_wp2_with (first
                  | (go_at_call 91; with_reducible refine HP.out.mono ?_; rintro e w1 ⟨rfl, hw⟩; cases hw)
                  | (go_at_call 130; with_reducible refine (D2.out _).mono ?_; rintro e w1 ⟨rfl, hw⟩; cases hw)
                  | (go_at_call 130; with_reducible refine (D3.out _).mono ?_; rintro e w1 ⟨rfl, hw⟩; cases hw))
                go_ret2
                exact ⟨⟨_, _, rfl, .inr ⟨HE.out, rfl, rfl⟩⟩, hb.out⟩
              · have a3l := hex_lt q3
                rw [q3] at hE D3
                have HE := Lib.hid hE
                replace D3 : Hid (∀ W : World, Calls Tryz.prog 130 #[.int .u8 ((b3.toNat : Nat) : Int)] W fun e w' => e = .returned (.int .i64 (a3 : Int)) ∧ w' = W) := D3
                have HH := Lib.hid h3
                have p1 : IntKind.i64.wrap ((k : Int) + 2) = (k : Int) + 2 := by rw [IntKind.wrap_i64]; omega
                have p2 : IntKind.i64.wrap ((k : Int) + 3) = (k : Int) + 3 := by rw [IntKind.wrap_i64]; omega
                have p3 : IntKind.i64.wrap ((k : Int) + 4) = (k : Int) + 4 := by rw [IntKind.wrap_i64]; omega
                have p4 : IntKind.i64.wrap (16 * (a2 : Int)) = 16 * (a2 : Int) := by rw [IntKind.wrap_i64]; omega
                have p5 : IntKind.i64.wrap (16 * (a2 : Int) + (a3 : Int)) = 16 * (a2 : Int) + (a3 : Int) := by rw [IntKind.wrap_i64]; omega
                have hbd := Lib.hid (Below.refl w.heap.size w).drew
                clear hE q2 q3
                go_enter Tryz.func119, Tryz.ntmps119
                go_upto_region 4 with (first
                  | (go_at_call 91; with_reducible refine HP.out.mono ?_; rintro e w1 ⟨rfl, hw⟩; cases hw)
                  | (go_at_call 130; with_reducible refine (D2.out _).mono ?_; rintro e w1 ⟨rfl, hw⟩; cases hw)
                  | (go_at_call 130; with_reducible refine (D3.out _).mono ?_; rintro e w1 ⟨rfl, hw⟩; cases hw))
                go_region_with (first
                  | (go_at_call 130; with_reducible refine (D2.out _).mono ?_; rintro e w1 ⟨rfl, hw⟩; subst hw)
                  | (go_at_call 130; with_reducible refine (D3.out _).mono ?_; rintro e w1 ⟨rfl, hw⟩; subst hw))
                all_goals
                  go_wp2
                  go_ret2
                  exact ⟨⟨_, _, rfl, .inl ⟨a2 * 16 + a3, k + 4, HE.out, by omega, by omega, by have := HH.out; omega, by push_cast; omega, by push_cast; omega⟩⟩, hbd.out⟩
          · rw [if_neg h120] at hE
            have HE := Lib.hid hE
            have e1 : ((b1.toNat : Int) == 120) = false := by
              rw [beq_eq_false_iff_ne]
              exact fun q => h120 (UInt8.toNat_inj.1 (by show b1.toNat = 120; omega))
            clear hE h120 D2 D3
            go_enter Tryz.func119, Tryz.ntmps119
            go_wp2_with (go_at_call 91; with_reducible refine HP.out.mono ?_; rintro e w1 ⟨rfl, hw⟩; cases hw)
            go_ret2
            exact ⟨⟨_, _, rfl, .inr ⟨HE.out, rfl, rfl⟩⟩, hb.out⟩
        · have HE := Lib.hid (ch_other h hp0 h92)
          have e1 : (((byA S k).toNat : Int) == 92) = false := by
            rw [beq_eq_false_iff_ne]
            exact fun q => h92 (UInt8.toNat_inj.1 (by show (byA S k).toNat = 92; omega))
          clear h92 hp0
          generalize byA S k = b0 at *
          go_enter Tryz.func119, Tryz.ntmps119
          go_wp2_with (go_at_call 91; with_reducible refine HP.out.mono ?_; rintro e w1 ⟨rfl, hw⟩; cases hw)
          go_ret2
          exact ⟨⟨_, _, rfl, .inr ⟨HE.out, rfl, rfl⟩⟩, hb.out⟩
      · have HE := Lib.hid (ch_short h h3 hp0)
        have i3 : ¬ (k : Int) + 3 < (S.length : Int) := by omega
        clear h3 hp0
        generalize byA S k = b0 at *
        go_enter Tryz.func119, Tryz.ntmps119
        go_wp2_with (go_at_call 91; with_reducible refine HP.out.mono ?_; rintro e w1 ⟨rfl, hw⟩; cases hw)
        go_ret2
        exact ⟨⟨_, _, rfl, .inr ⟨HE.out, rfl, rfl⟩⟩, hb.out⟩
  · have HE := Lib.hid (ch_end h)
    have i1 : ¬ (k : Int) < (S.length : Int) := by omega
    have i3 : ¬ (k : Int) + 3 < (S.length : Int) := by omega
    clear h
    go_enter Tryz.func119, Tryz.ntmps119
    go_wp2
    go_ret2
    exact ⟨⟨_, _, rfl, .inr ⟨HE.out, rfl, rfl⟩⟩, hb.out⟩

end Go.Proofs.YtgjhicahopcfcaaGreatDoor

/-! The reference's parser by offsets: atom. (Seat of the great laws.) -/
namespace Go.Proofs.YtgjhicahopcfcaaGreatDoor
open Go.RowKit Go.Shelf
set_option linter.unusedVariables false
set_option linter.unusedSimpArgs false
attribute [local go_sem ↓] Go.wp_at_zero Go.wp_at_succ

/-- what stands beside the offset -1: some nodes, few, with small operands (the code still joins them) -/
def OpN (W W' : World) (S : List UInt8) (k : Nat) (v : Value) : Prop := ∃ l : List Pn, W'.ownsRow W.heap.size 45 5 v l.length (pnC l) ∧ l.length ≤ 2 * (S.length - k) ∧ ∀ x ∈ l, (0 ≤ x.2.2.2.1 ∧ x.2.2.2.1 ≤ (l.length : Int)) ∧ 0 ≤ x.2.2.2.2 ∧ x.2.2.2.2 ≤ (l.length : Int)
theorem opn_nil (W W' : World) (S : List UInt8) (k : Nat) : OpN W W' S k (.slice none 0 0) := ⟨[], World.ownsRow_nil _ _ _ _, Nat.zero_le _, fun x hx => by cases hx⟩
/-- what a function of the parser answers at offset k -/
def OpR (W W' : World) (S : List UInt8) (k : Nat) (x : Option (Rx × List UInt8)) (v : Value) (z : Int) : Prop := Below W.heap.size W W' ∧ ((∃ (r : Rx) (k' : Nat) (A : Option Addr) (c : Nat), x = some (r, S.drop k') ∧ k < k' ∧ k' ≤ S.length ∧ r.nn + 1 ≤ 2 * (k' - k) ∧ z = (k' : Int) ∧ v = .slice A (r.po []).length c ∧ W'.ownsRow W.heap.size 45 5 v (r.po []).length (pnC (r.po []))) ∨ (x = none ∧ z = -1 ∧ OpN W W' S k v))
def AltO (S : List UInt8) (N : Nat) (O : List UInt8 → Option (Rx × List UInt8)) : Prop := ∀ (W : World) (k : Nat), k ≤ S.length → S.length - k < N → Calls Tryz.prog 50 #[.string ⟨S.toArray⟩, .int .i64 (k : Int)] W fun e W' => ∃ v z, e = .returned (.tuple #[v, .int .i64 z]) ∧ OpR W W' S k (O (S.drop k)) v z
theorem hd_by {S : List UInt8} {k : Nat} {b : UInt8} (hb : b ≠ 0) : (S.drop k).head? = some b ↔ byA S k = b := by
  unfold byA
  rw [List.head?_drop, List.getD_eq_getElem?_getD]
  rcases S[k]? with _ | c
  · simp; exact fun e => hb e.symm
  · simp
theorem tl_drop (S : List UInt8) (k : Nat) : (S.drop k).tail = S.drop (k + 1) := by rw [List.tail_drop]
theorem by_lt {S : List UInt8} {k : Nat} (h : byA S k ≠ 0) : k < S.length := by
  rcases Nat.lt_or_ge k S.length with q | q
  · exact q
  · exact absurd (by unfold byA; rw [List.getD_eq_getElem?_getD, List.getElem?_eq_none q]; rfl) h
theorem u8_ne {b c : UInt8} (h : b ≠ c) : ((b.toNat : Int) == (c.toNat : Int)) = false := by
  rw [beq_eq_false_iff_ne]
  exact fun q => h (UInt8.toNat_inj.1 (by omega))
/-- the bracket's value as the code reads it -/
theorem oBr_at (S : List UInt8) (k : Nat) : oBr (S.drop k) = match chO (S.drop k) with
    | none => none
    | some (lo, t) => if t.head? = some 45 then (match chO t.tail with
      | none => none
      | some (hi, u) => if u.head? = some 93 ∧ lo ≤ hi then some (.rng lo hi, u.tail) else none) else none := by
  unfold oBr
  rcases chO (S.drop k) with _ | ⟨lo, t⟩
  · rfl
  · show (if t.head? = some 45 then (chO t.tail).bind _ else none) = (if t.head? = some 45 then _ else none)
    by_cases c : t.head? = some 45
    · rw [if_pos c, if_pos c]
      rcases chO t.tail with _ | ⟨hi, u⟩ <;> rfl
    · rw [if_neg c, if_neg c]

theorem kc (S : List UInt8) (k : Nat) (z : Int) (hz : z = (k : Int)) (hS : S.length ≤ 100000) (hk : k ≤ 100001) (w : World) : Calls Tryz.prog 119 #[.string ⟨S.toArray⟩, .int .i64 z] w fun e w' => (∃ v y : Int, e = .returned (.tuple #[.int .i64 v, .int .i64 y]) ∧ Hid (ChR S k v y)) ∧ Hid (Below w.heap.size w w') := by
  subst hz
  exact (ochar_any S k w hS hk).mono fun e w' h => by
    obtain ⟨⟨v, y, h1, h2⟩, h3⟩ := h
    exact ⟨⟨v, y, h1, lid' h2⟩, lid' h3⟩
theorem kby (S : List UInt8) (k : Nat) (z : Int) (hz : z = (k : Int)) (b : UInt8) (hb : byA S k = b) (w : World) : Calls Tryz.prog 79 #[.string ⟨S.toArray⟩, .int .i64 z] w fun e w' => e = .returned (.int .u8 ((b.toNat : Nat) : Int)) ∧ w' = w := by
  subst hz
  subst hb
  exact obyte_any S k w
theorem atm_91 {O : List UInt8 → Option (Rx × List UInt8)} {S : List UInt8} {k : Nat} (h : byA S k = 91) : oAtm O (S.drop k) = oBr (S.drop (k + 1)) := by
  unfold oAtm
  rw [if_pos ((hd_by (by decide)).2 h), tl_drop]
theorem atm_40 {O : List UInt8 → Option (Rx × List UInt8)} {S : List UInt8} {k : Nat} (h : byA S k = 40) : oAtm O (S.drop k) = oPar O (S.drop (k + 1)) := by
  unfold oAtm
  rw [if_neg (fun e => by rw [(hd_by (by decide)).1 e] at h; revert h; decide), if_pos ((hd_by (by decide)).2 h), tl_drop]
theorem atm_ch {O : List UInt8 → Option (Rx × List UInt8)} {S : List UInt8} {k : Nat} (h1 : byA S k ≠ 91) (h2 : byA S k ≠ 40) : oAtm O (S.drop k) = (chO (S.drop k)).map fun p => (.rng p.1 p.1, p.2) := by
  unfold oAtm
  rw [if_neg (fun e => h1 ((hd_by (by decide)).1 e)), if_neg (fun e => h2 ((hd_by (by decide)).1 e))]
set_option maxRecDepth 100000 in
set_option maxHeartbeats 8000000 in
theorem oatom_ch (S : List UInt8) (O : List UInt8 → Option (Rx × List UInt8)) (W : World) (k : Nat) (hS : S.length ≤ 100000) (hk : k ≤ S.length) (h1 : byA S k ≠ 91) (h2 : byA S k ≠ 40) :
    Calls Tryz.prog 111 #[.string ⟨S.toArray⟩, .int .i64 (k : Int)] W fun e W' => ∃ v z, e = .returned (.tuple #[v, .int .i64 z]) ∧ OpR W W' S k (oAtm O (S.drop k)) v z := by
  have HX := Lib.hid (atm_ch (O := O) h1 h2)
  have HB := Lib.hid (fun W => kby S k (k : Int) rfl _ rfl W)
  have HC := Lib.hid (fun W => kc S k (k : Int) rfl hS (by omega) W)
  have e1 : (((byA S k).toNat : Int) == 91) = false := u8_ne h1
  have e2 : (((byA S k).toNat : Int) == 40) = false := u8_ne h2
  have hb0 := Lib.hid (Below.refl W.heap.size W)
  clear h1 h2
  generalize byA S k = b0 at *
  go_enter Tryz.func111, Tryz.ntmps111
  go_wp2_with (go_at_call 79; with_reducible refine (HB.out _).mono ?_; rintro e w1 ⟨rfl, hw⟩; subst hw)
  with_reducible refine (HC.out _).mono ?_
  rintro e w1 ⟨⟨v, y, rfl, hc⟩, b1⟩
  rcases hc.out with ⟨u, k', g1, g2, g3, g4, rfl, rfl⟩ | ⟨g1, rfl, rfl⟩
  · have HG := lid' (show oAtm O (S.drop k) = some (.rng u u, S.drop k') by rw [HX.out, g1]; rfl)
    have HL := lid' (And.intro g3 g4)
    have y0 : ¬ (k' : Int) < 0 := by omega
    have HONE := lid' (k_one u u (u : Int) (u : Int) rfl rfl w1)
    clear hc g1 g2 g3 g4 HX HB HC
    go_wp2_with (go_at_call 29; with_reducible refine HONE.out.mono ?_; rintro e w2 ⟨A2, c2, rfl, hh⟩)
    go_ret2
    exact ⟨_, _, rfl, b1.out.trans (hh.out.2.mono b1.out.size), .inl ⟨.rng u u, k', A2, c2, HG.out, HL.out.1, HL.out.2, by have := HL.out.1; show 1 + 1 ≤ _; omega, rfl, rfl, own_mono hh.out.1 b1.out.size⟩⟩
  · have HG := lid' (show oAtm O (S.drop k) = none by rw [HX.out, g1]; rfl)
    clear hc g1 HX HB HC
    go_wp2
    go_ret2
    exact ⟨_, _, rfl, b1.out, .inr ⟨HG.out, rfl, opn_nil _ _ _ _⟩⟩
set_option maxRecDepth 100000 in
set_option maxHeartbeats 8000000 in
theorem oatom_par (S : List UInt8) (N : Nat) (O : List UInt8 → Option (Rx × List UInt8)) (hA : AltO S N O) (W : World) (k : Nat) (hS : S.length ≤ 100000) (hk : k ≤ S.length) (hN : S.length - k < N + 1) (h : byA S k = 40) :
    Calls Tryz.prog 111 #[.string ⟨S.toArray⟩, .int .i64 (k : Int)] W fun e W' => ∃ v z, e = .returned (.tuple #[v, .int .i64 z]) ∧ OpR W W' S k (oAtm O (S.drop k)) v z := by
  have HX := Lib.hid (atm_40 (O := O) h)
  have hkl : k < S.length := by_lt (by rw [h]; decide)
  have HB : Hid (∀ W : World, Calls Tryz.prog 79 #[.string ⟨S.toArray⟩, .int .i64 (k : Int)] W fun e w' => e = .returned (.int .u8 40) ∧ w' = W) := Lib.hid (fun W => kby S k (k : Int) rfl 40 h W)
  have HB1 := Lib.hid (fun W => kby S (k + 1) ((k : Int) + 1) (by omega) _ rfl W)
  have kb : (k : Int) ≤ 100000 := by omega
  have k0 : (0 : Int) ≤ (k : Int) := by omega
  have hb0 := Lib.hid (Below.refl W.heap.size W)
  have HA : Hid (∀ W : World, Calls Tryz.prog 50 #[.string ⟨S.toArray⟩, .int .i64 ((k : Int) + 1)] W fun e W' => ∃ v z, e = .returned (.tuple #[v, .int .i64 z]) ∧ Hid (OpR W W' S (k + 1) (O (S.drop (k + 1))) v z)) := Lib.hid (fun W => (hA W (k + 1) hkl (by omega)).mono fun e w' h => by
    obtain ⟨v, z, h1, h2⟩ := h
    exact ⟨v, z, h1, lid' h2⟩)
  have HE := lid' (k_empty W)
  have HKL := lid' hkl
  by_cases h1 : byA S (k + 1) = 41
  · have HG := lid' (show oAtm O (S.drop k) = some (.emp, S.drop (k + 2)) by
      rw [HX.out]
      unfold oPar
      rw [if_pos ((hd_by (by decide)).2 h1), tl_drop])
    have hk2 := lid' (by_lt (S := S) (k := k + 1) (by rw [h1]; decide))
    replace HB1 : Hid (∀ W : World, Calls Tryz.prog 79 #[.string ⟨S.toArray⟩, .int .i64 ((k : Int) + 1)] W fun e w' => e = .returned (.int .u8 41) ∧ w' = W) := lid' (fun W => by have := HB1.out W; rw [h1] at this; exact this)
    clear h h1 hkl HX hA HA
    go_enter Tryz.func111, Tryz.ntmps111
    go_wp2_with (first
      | (go_at_call 79; with_reducible refine (HB.out _).mono ?_; rintro e w1 ⟨rfl, hw⟩; subst hw)
      | (go_at_call 79; with_reducible refine (HB1.out _).mono ?_; rintro e w1 ⟨rfl, hw⟩; subst hw)
      | (go_at_call 28; with_reducible refine HE.out.mono ?_; rintro e w2 ⟨A2, c2, rfl, hh⟩))
    go_ret2
    exact ⟨_, _, rfl, hh.out.2, .inl ⟨.emp, k + 2, A2, c2, HG.out, by omega, hk2.out, by show 1 + 1 ≤ _; omega, by push_cast; omega, rfl, hh.out.1⟩⟩
  · have e1 : (((byA S (k + 1)).toNat : Int) == 41) = false := u8_ne h1
    have HP : Hid (oAtm O (S.drop k) = (O (S.drop (k + 1))).bind fun p => if p.2.head? = some 41 then some (p.1, p.2.tail) else none) := lid' (by
      rw [HX.out]
      unfold oPar
      rw [if_neg (fun e => h1 ((hd_by (by decide)).1 e))])
    clear h h1 hkl HX hA HE
    generalize byA S (k + 1) = b1 at *
    go_enter Tryz.func111, Tryz.ntmps111
    go_wp2_with (first
      | (go_at_call 79; with_reducible refine (HB.out _).mono ?_; rintro e w1 ⟨rfl, hw⟩; subst hw)
      | (go_at_call 79; with_reducible refine (HB1.out _).mono ?_; rintro e w1 ⟨rfl, hw⟩; subst hw))
    with_reducible refine (HA.out _).mono ?_
    rintro e w1 ⟨v, z, rfl, hc⟩
    have hbl := lid' hc.out.1
    rcases hc.out.2 with ⟨r, k', A2, c2, g1, g2, g3, g4, rfl, rfl, g5⟩ | ⟨g1, rfl, hN0⟩
    · have z0 : ¬ (k' : Int) < 0 := by omega
      have zb : (k' : Int) ≤ 100000 := by omega
      have HBy := lid' (fun W => kby S k' (k' : Int) rfl _ rfl W)
      by_cases q41 : byA S k' = 41
      · have HG := lid' (show oAtm O (S.drop k) = some (r, S.drop (k' + 1)) by
          rw [HP.out, g1]
          show (if (S.drop k').head? = some 41 then some (r, (S.drop k').tail) else none) = _
          rw [if_pos ((hd_by (by decide)).2 q41), tl_drop])
        have hk2 := lid' (by_lt (S := S) (k := k') (by rw [q41]; decide))
        replace HBy : Hid (∀ W : World, Calls Tryz.prog 79 #[.string ⟨S.toArray⟩, .int .i64 (k' : Int)] W fun e w' => e = .returned (.int .u8 41) ∧ w' = W) := lid' (fun W => by have := HBy.out W; rw [q41] at this; exact this)
        have HL := lid' (And.intro g2 (And.intro g4 g5))
        clear hc g1 g2 g3 g4 g5 q41 HP HB HB1 HA
        go_wp2_with (go_at_call 79; with_reducible refine (HBy.out _).mono ?_; rintro e w2 ⟨rfl, hw⟩; subst hw)
        go_ret2
        exact ⟨_, _, rfl, hbl.out, .inl ⟨r, k' + 1, A2, c2, HG.out, by have := HL.out.1; omega, hk2.out, by have := HL.out.1; have := HL.out.2.1; omega, by push_cast; omega, rfl, HL.out.2.2⟩⟩
      · have HG := lid' (show oAtm O (S.drop k) = none by
          rw [HP.out, g1]
          show (if (S.drop k').head? = some 41 then some (r, (S.drop k').tail) else none) = _
          rw [if_neg (fun e => q41 ((hd_by (by decide)).1 e))])
        have e2 : (((byA S k').toNat : Int) != 41) = true := bne_iff_ne.2 (fun q => q41 (UInt8.toNat_inj.1 (by show (byA S k').toNat = 41; omega)))
        clear hc g1 g2 g3 g4 g5 q41 HP HB HB1 HA
        generalize byA S k' = b2 at *
        go_wp2_with (go_at_call 79; with_reducible refine (HBy.out _).mono ?_; rintro e w2 ⟨rfl, hw⟩; subst hw)
        go_ret2
        exact ⟨_, _, rfl, hbl.out, .inr ⟨HG.out, rfl, opn_nil _ _ _ _⟩⟩
    · have HG := lid' (show oAtm O (S.drop k) = none by rw [HP.out, g1]; rfl)
      clear hc g1 hN0 HP HB HB1 HA
      go_wp2
      go_ret2
      exact ⟨_, _, rfl, hbl.out, .inr ⟨HG.out, rfl, opn_nil _ _ _ _⟩⟩

theorem u8_nb {b c : UInt8} (h : b ≠ c) : ((b.toNat : Int) != (c.toNat : Int)) = true := bne_iff_ne.2 (fun q => h (UInt8.toNat_inj.1 (by omega)))
set_option maxRecDepth 100000 in
set_option maxHeartbeats 8000000 in
theorem oatom_br (S : List UInt8) (O : List UInt8 → Option (Rx × List UInt8)) (W : World) (k : Nat) (hS : S.length ≤ 100000) (hk : k ≤ S.length) (h : byA S k = 91) :
    Calls Tryz.prog 111 #[.string ⟨S.toArray⟩, .int .i64 (k : Int)] W fun e W' => ∃ v z, e = .returned (.tuple #[v, .int .i64 z]) ∧ OpR W W' S k (oAtm O (S.drop k)) v z := by
  have HX : Hid (oAtm O (S.drop k) = _) := Lib.hid ((atm_91 (O := O) h).trans (oBr_at S (k + 1)))
  have hkl : k < S.length := by_lt (by rw [h]; decide)
  have HB : Hid (∀ W : World, Calls Tryz.prog 79 #[.string ⟨S.toArray⟩, .int .i64 (k : Int)] W fun e w' => e = .returned (.int .u8 91) ∧ w' = W) := Lib.hid (fun W => kby S k (k : Int) rfl 91 h W)
  have kb : (k : Int) ≤ 100000 := by omega
  have k0 : (0 : Int) ≤ (k : Int) := by omega
  have HC := Lib.hid (fun W => kc S (k + 1) ((k : Int) + 1) (by omega) hS (by omega) W)
  have hb0 := Lib.hid (Below.refl W.heap.size W)
  have HKL := lid' hkl
  clear h hkl
  go_enter Tryz.func111, Tryz.ntmps111
  go_wp2_with (go_at_call 79; with_reducible refine (HB.out _).mono ?_; rintro e w1 ⟨rfl, hw⟩; subst hw)
  with_reducible refine (HC.out _).mono ?_
  rintro e w1 ⟨⟨v, y, rfl, hc⟩, b1⟩
  rcases hc.out with ⟨u, k1, g1, g2, g3, g4, rfl, rfl⟩ | ⟨g1, rfl, rfl⟩
  rotate_left
  · have HG := lid' (show oAtm O (S.drop k) = none by rw [HX.out, g1])
    clear hc g1 HX HB HC
    go_wp2
    go_ret2
    exact ⟨_, _, rfl, b1.out, .inr ⟨HG.out, rfl, opn_nil _ _ _ _⟩⟩
  · have HX2 : Hid (oAtm O (S.drop k) = if (S.drop k1).head? = some 45 then (match chO (S.drop k1).tail with
      | none => none
      | some (hi, t) => if t.head? = some 93 ∧ u ≤ hi then some (.rng u hi, t.tail) else none) else none) := lid' (by rw [HX.out, g1])
    have z0 : ¬ (k1 : Int) < 0 := by omega
    have zb : (k1 : Int) ≤ 100000 := by omega
    have z1 : (0 : Int) ≤ (k1 : Int) := by omega
    have HK1 := lid' (And.intro g3 g4)
    have HBy := lid' (fun W => kby S k1 (k1 : Int) rfl _ rfl W)
    have ub : (u : Int) < 256 := by omega
    by_cases q45 : byA S k1 = 45
    rotate_left
    · have HG := lid' (show oAtm O (S.drop k) = none by rw [HX2.out, if_neg (fun e => q45 ((hd_by (by decide)).1 e))])
      have e2 : (((byA S k1).toNat : Int) != 45) = true := u8_nb (c := 45) q45
      clear hc g1 g2 g3 g4 HX HX2 HB HC q45
      generalize byA S k1 = b2 at *
      go_wp2_with (go_at_call 79; with_reducible refine (HBy.out _).mono ?_; rintro e w2 ⟨rfl, hw⟩; subst hw)
      go_ret2
      exact ⟨_, _, rfl, b1.out, .inr ⟨HG.out, rfl, opn_nil _ _ _ _⟩⟩
    · replace HBy : Hid (∀ W : World, Calls Tryz.prog 79 #[.string ⟨S.toArray⟩, .int .i64 (k1 : Int)] W fun e w' => e = .returned (.int .u8 45) ∧ w' = W) := lid' (fun W => by have := HBy.out W; rw [q45] at this; exact this)
      have HX3 : Hid (oAtm O (S.drop k) = match chO (S.drop (k1 + 1)) with
        | none => none
        | some (hi, t) => if t.head? = some 93 ∧ u ≤ hi then some (.rng u hi, t.tail) else none) := lid' (by rw [HX2.out, if_pos ((hd_by (by decide)).2 q45), tl_drop])
      have hk1 := by_lt (S := S) (k := k1) (by rw [q45]; decide)
      have HC2 := Lib.hid (fun W => kc S (k1 + 1) ((k1 : Int) + 1) (by omega) hS (by omega) W)
      clear hc g1 g2 g3 g4 HX HX2 HB HC q45 hk1
      go_wp2_with (go_at_call 79; with_reducible refine (HBy.out _).mono ?_; rintro e w2 ⟨rfl, hw⟩; subst hw)
      with_reducible refine (HC2.out _).mono ?_
      rintro e w2 ⟨⟨v, y, rfl, hc⟩, b2⟩
      have B2 := lid' (b1.out.trans (b2.out.mono b1.out.size))
      rcases hc.out with ⟨u2, k2, g1, g2, g3, g4, rfl, rfl⟩ | ⟨g1, rfl, rfl⟩
      rotate_left
      · have HG := lid' (show oAtm O (S.drop k) = none by rw [HX3.out, g1])
        clear hc g1 HX3 HBy HC2
        go_wp2
        go_ret2
        exact ⟨_, _, rfl, B2.out, .inr ⟨HG.out, rfl, opn_nil _ _ _ _⟩⟩
      · have HX4 : Hid (oAtm O (S.drop k) = if (S.drop k2).head? = some 93 ∧ u ≤ u2 then some (.rng u u2, (S.drop k2).tail) else none) := lid' (by rw [HX3.out, g1])
        have y0 : ¬ (k2 : Int) < 0 := by omega
        have yb : (k2 : Int) ≤ 100000 := by omega
        have y1 : (0 : Int) ≤ (k2 : Int) := by omega
        have HBz := lid' (fun W => kby S k2 (k2 : Int) rfl _ rfl W)
        have HK2 := lid' g3
        by_cases q93 : byA S k2 = 93
        rotate_left
        · have HG := lid' (show oAtm O (S.drop k) = none by rw [HX4.out, if_neg (fun e => q93 ((hd_by (by decide)).1 e.1))])
          have e2 : (((byA S k2).toNat : Int) != 93) = true := u8_nb (c := 93) q93
          clear hc g1 g2 g3 g4 HX3 HX4 HBy HC2 q93
          generalize byA S k2 = b3 at *
          go_wp2_with (go_at_call 79; with_reducible refine (HBz.out _).mono ?_; rintro e w3 ⟨rfl, hw⟩; subst hw)
          go_ret2
          exact ⟨_, _, rfl, B2.out, .inr ⟨HG.out, rfl, opn_nil _ _ _ _⟩⟩
        · replace HBz : Hid (∀ W : World, Calls Tryz.prog 79 #[.string ⟨S.toArray⟩, .int .i64 (k2 : Int)] W fun e w' => e = .returned (.int .u8 93) ∧ w' = W) := lid' (fun W => by have := HBz.out W; rw [q93] at this; exact this)
          have hk2 := lid' (by_lt (S := S) (k := k2) (by rw [q93]; decide))
          by_cases hle : u ≤ u2
          · have HG := lid' (show oAtm O (S.drop k) = some (.rng u u2, S.drop (k2 + 1)) by rw [HX4.out, if_pos ⟨(hd_by (by decide)).2 q93, hle⟩, tl_drop])
            have l0 : ¬ (u2 : Int) < (u : Int) := by omega
            have HONE := lid' (k_one u u2 (u : Int) (u2 : Int) rfl rfl w2)
            clear hc g1 g2 g3 g4 HX3 HX4 HBy HC2 q93 hle
            go_wp2_with (first
              | (go_at_call 79; with_reducible refine (HBz.out _).mono ?_; rintro e w3 ⟨rfl, hw⟩; cases hw)
              | (go_at_call 29; with_reducible refine HONE.out.mono ?_; rintro e w4 ⟨A2, c2, rfl, hh⟩))
            go_ret2
            exact ⟨_, _, rfl, B2.out.trans (hh.out.2.mono B2.out.size), .inl ⟨.rng u u2, k2 + 1, A2, c2, HG.out, by have := HK1.out.1; have := HK2.out; omega, hk2.out, by have := HK1.out.1; have := HK2.out; show 1 + 1 ≤ _; omega, by push_cast; omega, rfl, own_mono hh.out.1 B2.out.size⟩⟩
          · have HG := lid' (show oAtm O (S.drop k) = none by rw [HX4.out, if_neg (fun e => hle e.2)])
            have l0 : (u2 : Int) < (u : Int) := by omega
            clear hc g1 g2 g3 g4 HX3 HX4 HBy HC2 q93 hle
            go_wp2_with (go_at_call 79; with_reducible refine (HBz.out _).mono ?_; rintro e w3 ⟨rfl, hw⟩; cases hw)
            go_ret2
            exact ⟨_, _, rfl, B2.out, .inr ⟨HG.out, rfl, opn_nil _ _ _ _⟩⟩
/-- atom -/
theorem oatom_any (S : List UInt8) (N : Nat) (O : List UInt8 → Option (Rx × List UInt8)) (hA : AltO S N O) (W : World) (k : Nat) (hS : S.length ≤ 100000) (hk : k ≤ S.length) (hN : S.length - k < N + 1) :
    Calls Tryz.prog 111 #[.string ⟨S.toArray⟩, .int .i64 (k : Int)] W fun e W' => ∃ v z, e = .returned (.tuple #[v, .int .i64 z]) ∧ OpR W W' S k (oAtm O (S.drop k)) v z := by
  by_cases h1 : byA S k = 91
  · exact oatom_br S O W k hS hk h1
  · by_cases h2 : byA S k = 40
    · exact oatom_par S N O hA W k hS hk hN h2
    · exact oatom_ch S O W k hS hk h1 h2

end Go.Proofs.YtgjhicahopcfcaaGreatDoor

/-! The reference's parser by offsets: repetition. (Seat of the great laws.) -/
namespace Go.Proofs.YtgjhicahopcfcaaGreatDoor
open Go.RowKit Go.Shelf
set_option linter.unusedVariables false
set_option linter.unusedSimpArgs false
attribute [local go_sem ↓] Go.wp_at_zero Go.wp_at_succ

theorem oStr_star {S : List UInt8} {k : Nat} (r : Rx) (h : byA S k = 42) : oStr r (S.drop k) = oStr (.rep r) (S.drop (k + 1)) := by
  rw [drop_by (by_lt (by rw [h]; decide)), h, oStr, if_pos rfl]
theorem oStr_end {S : List UInt8} {k : Nat} (r : Rx) (h : byA S k ≠ 42) : oStr r (S.drop k) = (r, S.drop k) := by
  by_cases hk : k < S.length
  · rw [drop_by hk, oStr, if_neg h]
  · rw [List.drop_eq_nil_of_le (by omega)]; rfl
/-- the pattern read so far and where it ends -/
structure OpS (W wr : World) (S : List UInt8) (k : Nat) (r : Rx) (k' : Nat) (v : Value) : Prop where
  b : Below W.heap.size W wr
  lt : k < k'
  le : k' ≤ S.length
  nn : r.nn + 1 ≤ 2 * (k' - k)
  ow : wr.ownsRow W.heap.size 45 5 v (r.po []).length (pnC (r.po []))
set_option maxRecDepth 100000 in
set_option maxHeartbeats 8000000 in
theorem orep_any (S : List UInt8) (N : Nat) (O : List UInt8 → Option (Rx × List UInt8)) (hA : AltO S N O) (W : World) (k : Nat) (hS : S.length ≤ 10000) (hk : k ≤ S.length) (hN : S.length - k < N + 1) :
    Calls Tryz.prog 97 #[.string ⟨S.toArray⟩, .int .i64 (k : Int)] W fun e W' => ∃ v z, e = .returned (.tuple #[v, .int .i64 z]) ∧ OpR W W' S k (oRep O (S.drop k)) v z := by
  have HAT := lid' (oatom_any S N O hA W k (by omega) hk hN)
  have HX : Hid (oRep O (S.drop k) = (oAtm O (S.drop k)).map fun p => oStr p.1 p.2) := lid' rfl
  clear hA hk hN
  go_enter Tryz.func97, Tryz.ntmps97
  go_wp2_with fail
  with_reducible refine HAT.out.mono ?_
  rintro e w1 ⟨v, z, rfl, hc⟩
  have B1 := lid' hc.1
  rcases hc.2 with ⟨r, k', A2, c2, g1, g2, g3, g4, rfl, rfl, g5⟩ | ⟨g1, rfl, hN0⟩
  · have HS := lid' (OpS.mk (S := S) (k := k) hc.1 g2 g3 g4 g5)
    have HG := lid' (show oRep O (S.drop k) = some (oStr r (S.drop k')) by rw [HX.out, g1]; rfl)
    clear hc g1 g2 g3 g4 g5 HX HAT B1
    go_wp2
    go_loopw [6, 7] (fun v6 v7 wr => ∃ (r : Rx) (k' c2 : Nat) (A2 : Option Addr), v6 = .slice A2 (r.po []).length c2 ∧ v7 = .int .i64 (k' : Int) ∧ Hid (OpS W wr S k r k' (.slice A2 (r.po []).length c2)) ∧ Hid (oRep O (S.drop k) = some (oStr r (S.drop k')))) (fun _ v7 _ => S.length + 1 - (intOf v7).toNat)
    case atStart => exact ⟨r, k', c2, A2, rfl, rfl, HS, HG⟩
    case round =>
      clear HS HG
      obtain ⟨r, k', c2, A2, rfl, rfl, HS, HG⟩ := hrel
      have hkS := HS.out.le
      have z0 : (0 : Int) ≤ (k' : Int) := by omega
      have zb : (k' : Int) ≤ 10000 := by omega
      have HB := lid' (fun W => kby S k' (k' : Int) rfl _ rfl W)
      by_cases q : byA S k' = 42
      · replace HB : Hid (∀ W : World, Calls Tryz.prog 79 #[.string ⟨S.toArray⟩, .int .i64 (k' : Int)] W fun e w' => e = .returned (.int .u8 42) ∧ w' = W) := lid' (fun W => by have := HB.out W; rw [q] at this; exact this)
        have hlt := by_lt (S := S) (k := k') (by rw [q]; decide)
        have HG2 := lid' (show oRep O (S.drop k) = some (oStr (.rep r) (S.drop (k' + 1))) by rw [HG.out, oStr_star r q])
        obtain ⟨A3, c3, e3, hr⟩ := rp_own HS.out.ow rfl
        injection e3 with e3 _ e4
        subst e3
        subst e4
        have HR := lid' (k_rep r A2 c2 wr (lid' hr) (by have := HS.out.nn; omega))
        clear q HG hr
        generalize hpl : (r.po []).length = pl at *
        go_wp2_with (first
          | (go_at_call 79; with_reducible refine (HB.out _).mono ?_; rintro e w2 ⟨rfl, hw⟩; cases hw)
          | (go_at_call 30; with_reducible refine HR.out.mono ?_; rintro e w3 ⟨A4, c4, rfl, hh⟩))
        have HO := HS.out
        have HS2 : Hid (OpS W w3 S k (.rep r) (k' + 1) (.slice A4 ((Rx.rep r).po []).length c4)) := lid' ⟨HO.b.trans (hh.out.2.mono HO.b.size), by have := HO.lt; omega, hlt, by have := HO.lt; have := HO.nn; show r.nn + 1 + 1 ≤ _; omega, own_mono hh.out.1 HO.b.size⟩
        go_roundw
        · exact ⟨.rep r, k' + 1, c4, A4, rfl, by simp, HS2, HG2⟩
        · simp only [intOf]; omega
      · have HE := lid' (show oRep O (S.drop k) = some (r, S.drop k') by rw [HG.out, oStr_end r q])
        have e2 : (((byA S k').toNat : Int) == 42) = false := u8_ne (c := 42) q
        clear q HG
        generalize byA S k' = b2 at *
        go_wp2_with (go_at_call 79; with_reducible refine (HB.out _).mono ?_; rintro e w2 ⟨rfl, hw⟩; cases hw)
        go_ret2
        exact ⟨_, _, rfl, HS.out.b, .inl ⟨r, k', A2, c2, HE.out, HS.out.lt, HS.out.le, HS.out.nn, rfl, rfl, HS.out.ow⟩⟩
  · have HG := lid' (show oRep O (S.drop k) = none by rw [HX.out, g1]; rfl)
    have HN0 := lid' hN0
    clear hc g1 HX HAT hN0
    go_wp2
    go_loopw [6, 7] (fun v6 v7 wr => v6 = v ∧ v7 = .int .i64 (-1) ∧ wr = w1) (fun _ _ _ => 0)
    case atStart => exact ⟨rfl, rfl, rfl⟩
    case round =>
      obtain ⟨rfl, rfl, rfl⟩ := hrel
      go_wp2
      go_ret2
      exact ⟨_, _, rfl, B1.out, .inr ⟨HG.out, rfl, HN0.out⟩⟩

end Go.Proofs.YtgjhicahopcfcaaGreatDoor

/-! The reference's parser by offsets: sequence. (Seat of the great laws.) -/
namespace Go.Proofs.YtgjhicahopcfcaaGreatDoor
open Go.RowKit Go.Shelf
set_option linter.unusedVariables false
set_option linter.unusedSimpArgs false
attribute [local go_sem ↓] Go.wp_at_zero Go.wp_at_succ

def FldS (l : List Pn) : Prop := ∀ x ∈ l, (0 ≤ x.2.2.2.1 ∧ x.2.2.2.1 ≤ (l.length : Int)) ∧ 0 ≤ x.2.2.2.2 ∧ x.2.2.2.2 ≤ (l.length : Int)
theorem jn_fld (k : Int) (r : Rx) (l : List Pn) (h : FldS l) : FldS (jnN k (r.po []) l) := by
  have hlen : (jnN k (r.po []) l).length = (r.po []).length + l.length + 1 := by unfold jnN; simp; omega
  have hp := po_len r []
  have hn := r.nn_pos
  rw [List.length_nil, Nat.zero_add] at hp
  have hpo := po_fld r [] (r.po []).length (fun x hx => by cases hx) (Nat.le_refl _)
  intro x hx
  rw [hlen]
  unfold jnN at hx
  rcases List.mem_append.1 hx with hx | hx
  · rcases List.mem_append.1 hx with hx | hx
    · have := hpo x hx
      push_cast
      omega
    · obtain ⟨y, hy, rfl⟩ := List.mem_map.1 hx
      have := h y hy
      unfold shN
      push_cast
      refine ⟨?_, ?_⟩
      · show 0 ≤ (if 1 ≤ arP y.1 then y.2.2.2.1 + ((r.po []).length : Int) else y.2.2.2.1) ∧ (if 1 ≤ arP y.1 then y.2.2.2.1 + ((r.po []).length : Int) else y.2.2.2.1) ≤ _
        split <;> omega
      · show 0 ≤ (if arP y.1 = 2 then y.2.2.2.2 + ((r.po []).length : Int) else y.2.2.2.2) ∧ (if arP y.1 = 2 then y.2.2.2.2 + ((r.po []).length : Int) else y.2.2.2.2) ≤ _
        split <;> omega
  · rw [List.mem_singleton.1 hx]
    push_cast
    refine ⟨?_, ?_⟩
    · show 0 ≤ ((r.po []).length : Int) - 1 ∧ ((r.po []).length : Int) - 1 ≤ _
      omega
    · show 0 ≤ ((r.po []).length : Int) + (l.length : Int) - 1 ∧ ((r.po []).length : Int) + (l.length : Int) - 1 ≤ _
      omega
theorem k_joinN (k : Int) (r : Rx) (l : List Pn) (A A' : Option Addr) (c c' : Nat) (w : World) (hr : Hid (Rp w w.heap.size A (r.po []))) (hr' : Hid (Rp w w.heap.size A' l)) (h1 : r.nn ≤ 40000) (h2 : l.length ≤ 40000) (hf : FldS l) :
    Calls Tryz.prog 31 #[.int .i64 k, .slice A (r.po []).length c, .slice A' l.length c'] w fun e w' => ∃ v, e = .returned v ∧ Hid (w'.ownsRow w.heap.size 45 5 v (jnN k (r.po []) l).length (pnC (jnN k (r.po []) l)) ∧ Below w.heap.size w w') := by
  have l1 := po_len r []
  have := r.nn_pos
  rw [List.length_nil, Nat.zero_add] at l1
  refine (rjoin_any k A A' _ c _ c' (r.po []) l w (lid' rfl) (lid' rfl) hr hr' (by omega) (by omega) (by omega) (fun j hj => ?_)).mono fun e w' h => by
    obtain ⟨v, h1, h3, h4⟩ := h
    exact ⟨v, h1, lid' ⟨h3, h4⟩⟩
  have := hf (l.getD j (0, 0, 0, 0, 0)) (by rw [List.getD_eq_getElem?_getD, List.getElem?_eq_getElem hj]; exact List.getElem_mem hj)
  unfold pa pb
  omega
/-- the failed join keeps what stands beside -1 -/
theorem OpN.join {W wr w2 : World} {S : List UInt8} {k k' : Nat} {r : Rx} {l : List Pn} {kk : Int} {v : Value} (hb : Below W.heap.size W wr) (hlt : k < k') (hle : k' ≤ S.length) (hnn : r.nn + 1 ≤ 2 * (k' - k)) (hl : l.length ≤ 2 * (S.length - k')) (hf : FldS l) (ho : w2.ownsRow wr.heap.size 45 5 v (jnN kk (r.po []) l).length (pnC (jnN kk (r.po []) l))) : OpN W w2 S k v := by
  refine ⟨jnN kk (r.po []) l, own_mono ho hb.size, ?_, jn_fld kk r l hf⟩
  have hlen : (jnN kk (r.po []) l).length = (r.po []).length + l.length + 1 := by unfold jnN; simp; omega
  have hp := po_len r []
  rw [List.length_nil, Nat.zero_add] at hp
  omega

/-- what is left of the string behind an offset, nothing behind -1 -/
def oMs (n : Nat) : Value → Nat
  | .int _ z => if z < 0 then 0 else n + 1 - z.toNat
  | _ => 0
theorem oMs_nat (n k : Nat) : oMs n (.int .i64 (k : Int)) = n + 1 - k := by
  show (if (k : Int) < 0 then 0 else n + 1 - ((k : Int)).toNat) = _
  rw [if_neg (by omega), Int.toNat_natCast]
theorem oMs_no (n : Nat) : oMs n (.int .i64 (-1)) = 0 := rfl
theorem oSeqL_stop {O : List UInt8 → Option (Rx × List UInt8)} {S : List UInt8} {m k : Nat} (r : Rx) (hm : (S.drop k).length < m) (h : ¬ k < S.length ∨ byA S k = 124 ∨ byA S k = 41) : oSeqL O m r (S.drop k) = some (r, S.drop k) := by
  obtain ⟨j, rfl⟩ : ∃ j, m = j + 1 := ⟨m - 1, by omega⟩
  rw [oSeqL_s, if_pos]
  rcases h with h | h | h
  · exact .inl (List.drop_eq_nil_of_le (by omega))
  · exact .inr (.inl ((hd_by (by decide)).2 h))
  · exact .inr (.inr ((hd_by (by decide)).2 h))
theorem oSeqL_go {O : List UInt8 → Option (Rx × List UInt8)} {S : List UInt8} {m k : Nat} (r : Rx) (hm : (S.drop k).length < m) (h0 : k < S.length) (h1 : byA S k ≠ 124) (h2 : byA S k ≠ 41) : ∃ j, m = j + 1 ∧ oSeqL O m r (S.drop k) = (oRep O (S.drop k)).bind fun p => oSeqL O j (.seq r p.1) p.2 := by
  obtain ⟨j, rfl⟩ : ∃ j, m = j + 1 := ⟨m - 1, by omega⟩
  refine ⟨j, rfl, ?_⟩
  rw [oSeqL_s, if_neg]
  rintro (h | h | h)
  · have := congrArg List.length h
    rw [List.length_drop] at this
    simp at this
    omega
  · exact h1 ((hd_by (by decide)).1 h)
  · exact h2 ((hd_by (by decide)).1 h)
set_option maxRecDepth 100000 in
set_option maxHeartbeats 8000000 in
theorem oseq_any (S : List UInt8) (N : Nat) (O : List UInt8 → Option (Rx × List UInt8)) (hA : AltO S N O) (W : World) (k : Nat) (hS : S.length ≤ 10000) (hk : k ≤ S.length) (hN : S.length - k < N + 1) :
    Calls Tryz.prog 78 #[.string ⟨S.toArray⟩, .int .i64 (k : Int)] W fun e W' => ∃ v z, e = .returned (.tuple #[v, .int .i64 z]) ∧ OpR W W' S k (oSeq O (S.drop k)) v z := by
  have HR := lid' (fun W k hk hN => orep_any S N O hA W k hS hk hN)
  have HR0 := lid' (HR.out W k hk hN)
  have HX : Hid (oSeq O (S.drop k) = (oRep O (S.drop k)).bind fun p => oSeqL O (p.2.length + 1) p.1 p.2) := lid' rfl
  have HN := lid' hN
  clear hA hk hN
  go_enter Tryz.func78, Tryz.ntmps78
  go_wp2_with fail
  with_reducible refine HR0.out.mono ?_
  rintro e w1 ⟨v, z, rfl, hc⟩
  clear HR0
  go_wp2
  go_loopw [6, 7] (fun v6 v7 wr => (∃ (r : Rx) (k' c2 m : Nat) (A2 : Option Addr), v6 = .slice A2 (r.po []).length c2 ∧ v7 = .int .i64 (k' : Int) ∧ Hid (OpS W wr S k r k' (.slice A2 (r.po []).length c2)) ∧ Hid ((S.drop k').length < m ∧ oSeq O (S.drop k) = oSeqL O m r (S.drop k'))) ∨ (v7 = .int .i64 (-1) ∧ Hid (Below W.heap.size W wr ∧ oSeq O (S.drop k) = none ∧ OpN W wr S k v6))) (fun _ v7 _ => oMs S.length v7)
  case atStart =>
    rcases hc.2 with ⟨r, k', A2, c2, g1, g2, g3, g4, rfl, rfl, g5⟩ | ⟨g1, rfl, hN0⟩
    · exact .inl ⟨r, k', c2, _, A2, rfl, rfl, lid' ⟨hc.1, g2, g3, g4, g5⟩, lid' ⟨Nat.lt_succ_self _, by rw [HX.out, g1]; rfl⟩⟩
    · exact .inr ⟨rfl, lid' ⟨hc.1, by rw [HX.out, g1]; rfl, hN0⟩⟩
  case round =>
    clear hc HX
    rcases hrel with ⟨r, k', c2, m, A2, rfl, rfl, HS, HG⟩ | ⟨rfl, HF⟩
    · have hkS := HS.out.le
      have z0 : (0 : Int) ≤ (k' : Int) := by omega
      have zb : (k' : Int) ≤ 10000 := by omega
      by_cases stop : ¬ k' < S.length ∨ byA S k' = 124 ∨ byA S k' = 41
      · have HE := lid' (show oSeq O (S.drop k) = some (r, S.drop k') by rw [HG.out.2, oSeqL_stop r HG.out.1 stop])
        rcases stop with q | q | q
        · have i1 : ¬ (k' : Int) < (S.length : Int) := by omega
          clear q HG HR
          go_wp2
          go_ret2
          exact ⟨_, _, rfl, HS.out.b, .inl ⟨r, k', A2, c2, HE.out, HS.out.lt, HS.out.le, HS.out.nn, rfl, rfl, HS.out.ow⟩⟩
        · have hlt := by_lt (S := S) (k := k') (by rw [q]; decide)
          have i1 : (k' : Int) < (S.length : Int) := by omega
          have x0 := ix_by (sz_of hlt)
          rw [q] at x0
          clear q HG HR
          go_wp2
          go_ret2
          exact ⟨_, _, rfl, HS.out.b, .inl ⟨r, k', A2, c2, HE.out, HS.out.lt, HS.out.le, HS.out.nn, rfl, rfl, HS.out.ow⟩⟩
        · have hlt := by_lt (S := S) (k := k') (by rw [q]; decide)
          have i1 : (k' : Int) < (S.length : Int) := by omega
          have x0 := ix_by (sz_of hlt)
          rw [q] at x0
          clear q HG HR
          go_wp2
          go_ret2
          exact ⟨_, _, rfl, HS.out.b, .inl ⟨r, k', A2, c2, HE.out, HS.out.lt, HS.out.le, HS.out.nn, rfl, rfl, HS.out.ow⟩⟩
      · have hlt : k' < S.length := Classical.byContradiction fun q => stop (.inl q)
        have q1 : byA S k' ≠ 124 := fun q => stop (.inr (.inl q))
        have q2 : byA S k' ≠ 41 := fun q => stop (.inr (.inr q))
        have i1 : (k' : Int) < (S.length : Int) := by omega
        have x0 := ix_by (sz_of hlt)
        have e1 : (((byA S k').toNat : Int) != 124) = true := u8_nb (c := 124) q1
        have e2 : (((byA S k').toNat : Int) != 41) = true := u8_nb (c := 41) q2
        obtain ⟨j, hj, hgo⟩ := oSeqL_go (O := O) r HG.out.1 hlt q1 q2
        have HGO := lid' (HG.out.2.trans hgo)
        have HJ := lid' hj
        have HM := lid' HG.out.1
        have HR1 := lid' (HR.out wr k' (by omega) (by have := HN.out; have := HS.out.lt; omega))
        clear stop q1 q2 hgo hj HG HR
        generalize byA S k' = b2 at *
        go_wp2_with fail
        with_reducible refine HR1.out.mono ?_
        rintro e w2 ⟨v, z, rfl, hc⟩
        have HB2 := lid' hc.1
        have HO2 := own_block (w := wr) (w' := w2) HS.out.ow (fun q hq => hc.1.block q (World.ownsRow.lt HS.out.ow q hq).2)
        obtain ⟨A3, c3, e3, hr⟩ := rp_own HO2 rfl
        injection e3 with e3 _ e4
        subst e3
        subst e4
        rcases hc.2 with ⟨r2, k2, A4, c4, g1, g2, g3, g4, rfl, rfl, g5⟩ | ⟨g1, rfl, l, n1, n2, n3⟩
        · obtain ⟨A5, c5, e5, hr2⟩ := rp_own g5 rfl
          injection e5 with e5 _ e6
          subst e5
          subst e6
          have HJN := lid' (k_join 2 r r2 (.seq r r2) (jnN_seq r r2) A2 A4 c2 c4 w2 (lid' hr) (lid' hr2) (by have := HS.out.nn; omega) (by omega))
          have HGN := lid' (show (S.drop k2).length < j ∧ oSeq O (S.drop k) = oSeqL O j (.seq r r2) (S.drop k2) from ⟨by have h1 := HM.out; have h2 := HJ.out; rw [List.length_drop] at h1 ⊢; omega, by rw [HGO.out, g1]; rfl⟩)
          have HL := lid' (And.intro g2 (And.intro g3 g4))
          clear hc g1 g2 g3 g4 g5 hr hr2 HO2 HR1 HGO HJ HM
          generalize hpa : (r.po []).length = la at *
          generalize hpb : (r2.po []).length = lb at *
          go_wp2_with (go_at_call 31; with_reducible refine HJN.out.mono ?_; rintro e w3 ⟨A6, c6, rfl, hh⟩)
          have HO := HS.out
          have HS3 : Hid (OpS W w3 S k (.seq r r2) k2 (.slice A6 ((Rx.seq r r2).po []).length c6)) := lid' ⟨HO.b.trans ((HB2.out.trans (hh.out.2.mono HB2.out.size)).mono HO.b.size), by have := HO.lt; have := HL.out.1; omega, HL.out.2.1, by have := HO.lt; have := HO.nn; have := HL.out.1; have := HL.out.2.2; show r.nn + r2.nn + 1 + 1 ≤ _; omega, own_mono hh.out.1 (Nat.le_trans HO.b.size HB2.out.size)⟩
          go_roundw
          · exact .inl ⟨.seq r r2, k2, c6, _, A6, rfl, rfl, HS3, HGN⟩
          · have := HL.out; rw [oMs_nat, oMs_nat]; omega
        · obtain ⟨A5, c5, e5, hr2⟩ := rp_own n1 rfl
          subst e5
          have hf : FldS l := n3
          have HJN := lid' (k_joinN 2 r l A2 A5 c2 c5 w2 (lid' hr) (lid' hr2) (by have := HS.out.nn; omega) (by omega) hf)
          have HGN := lid' (show oSeq O (S.drop k) = none by rw [HGO.out, g1]; rfl)
          have HL := lid' (And.intro n2 hf)
          clear hc g1 n1 n2 n3 hf hr hr2 HO2 HR1 HGO HJ HM
          generalize hpa : (r.po []).length = la at *
          generalize hpb : l.length = lb at *
          go_wp2_with (go_at_call 31; with_reducible refine HJN.out.mono ?_; rintro e w3 ⟨v6, rfl, hh⟩)
          have HO := HS.out
          have HFN : Hid (Below W.heap.size W w3 ∧ oSeq O (S.drop k) = none ∧ OpN W w3 S k v6) := lid' ⟨HO.b.trans ((HB2.out.trans (hh.out.2.mono HB2.out.size)).mono HO.b.size), HGN.out, OpN.join (wr := w2) (HO.b.trans (HB2.out.mono HO.b.size)) HO.lt HO.le HO.nn (by rw [hpb]; exact HL.out.1) HL.out.2 hh.out.1⟩
          go_roundw
          · exact .inr ⟨rfl, HFN⟩
          · rw [oMs_no, oMs_nat]; omega
    · go_wp2
      go_ret2
      exact ⟨_, _, rfl, HF.out.1, .inr ⟨HF.out.2.1, rfl, HF.out.2.2⟩⟩

end Go.Proofs.YtgjhicahopcfcaaGreatDoor

/-! The reference's parser by offsets: alternatives and Parse. (Seat of the great laws.) -/
namespace Go.Proofs.YtgjhicahopcfcaaGreatDoor
open Go.RowKit Go.Shelf
set_option linter.unusedVariables false
set_option linter.unusedSimpArgs false
attribute [local go_sem ↓] Go.wp_at_zero Go.wp_at_succ

theorem oAltL_stop {O : List UInt8 → Option (Rx × List UInt8)} {S : List UInt8} {m k : Nat} (r : Rx) (hm : (S.drop k).length < m) (h : byA S k ≠ 124) : oAltL O m r (S.drop k) = some (r, S.drop k) := by
  obtain ⟨j, rfl⟩ : ∃ j, m = j + 1 := ⟨m - 1, by omega⟩
  rw [oAltL_s, if_neg (fun e => h ((hd_by (by decide)).1 e))]
theorem oAltL_go {O : List UInt8 → Option (Rx × List UInt8)} {S : List UInt8} {m k : Nat} (r : Rx) (hm : (S.drop k).length < m) (h : byA S k = 124) : ∃ j, m = j + 1 ∧ oAltL O m r (S.drop k) = (oSeq O (S.drop (k + 1))).bind fun p => oAltL O j (.alt r p.1) p.2 := by
  obtain ⟨j, rfl⟩ : ∃ j, m = j + 1 := ⟨m - 1, by omega⟩
  exact ⟨j, rfl, by rw [oAltL_s, if_pos ((hd_by (by decide)).2 h), tl_drop]⟩
set_option maxRecDepth 100000 in
set_option maxHeartbeats 8000000 in
theorem oalt_any (S : List UInt8) (N : Nat) (O : List UInt8 → Option (Rx × List UInt8)) (hA : AltO S N O) (hS : S.length ≤ 10000) : AltO S (N + 1) (oAltG O) := by
  intro W k hk hN
  have HR := lid' (fun W k hk hN => oseq_any S N O hA W k hS hk hN)
  have HR0 := lid' (HR.out W k hk hN)
  have HX : Hid (oAltG O (S.drop k) = (oSeq O (S.drop k)).bind fun p => oAltL O (p.2.length + 1) p.1 p.2) := lid' rfl
  have HN := lid' hN
  clear hA hk hN
  go_enter Tryz.func50, Tryz.ntmps50
  go_wp2_with fail
  with_reducible refine HR0.out.mono ?_
  rintro e w1 ⟨v, z, rfl, hc⟩
  clear HR0
  go_wp2
  go_loopw [6, 7] (fun v6 v7 wr => (∃ (r : Rx) (k' c2 m : Nat) (A2 : Option Addr), v6 = .slice A2 (r.po []).length c2 ∧ v7 = .int .i64 (k' : Int) ∧ Hid (OpS W wr S k r k' (.slice A2 (r.po []).length c2)) ∧ Hid ((S.drop k').length < m ∧ oAltG O (S.drop k) = oAltL O m r (S.drop k'))) ∨ (v7 = .int .i64 (-1) ∧ Hid (Below W.heap.size W wr ∧ oAltG O (S.drop k) = none ∧ OpN W wr S k v6))) (fun _ v7 _ => oMs S.length v7)
  case atStart =>
    rcases hc.2 with ⟨r, k', A2, c2, g1, g2, g3, g4, rfl, rfl, g5⟩ | ⟨g1, rfl, hN0⟩
    · exact .inl ⟨r, k', c2, _, A2, rfl, rfl, lid' ⟨hc.1, g2, g3, g4, g5⟩, lid' ⟨Nat.lt_succ_self _, by rw [HX.out, g1]; rfl⟩⟩
    · exact .inr ⟨rfl, lid' ⟨hc.1, by rw [HX.out, g1]; rfl, hN0⟩⟩
  case round =>
    clear hc HX
    rcases hrel with ⟨r, k', c2, m, A2, rfl, rfl, HS, HG⟩ | ⟨rfl, HF⟩
    · have hkS := HS.out.le
      have z0 : (0 : Int) ≤ (k' : Int) := by omega
      have zb : (k' : Int) ≤ 10000 := by omega
      have HB := lid' (fun W => kby S k' (k' : Int) rfl _ rfl W)
      by_cases q : byA S k' = 124
      rotate_left
      · have HE := lid' (show oAltG O (S.drop k) = some (r, S.drop k') by rw [HG.out.2, oAltL_stop r HG.out.1 q])
        have e2 : (((byA S k').toNat : Int) == 124) = false := u8_ne (c := 124) q
        clear q HG HR
        generalize byA S k' = b2 at *
        go_wp2_with (go_at_call 79; with_reducible refine (HB.out _).mono ?_; rintro e w2 ⟨rfl, hw⟩; cases hw)
        go_ret2
        exact ⟨_, _, rfl, HS.out.b, .inl ⟨r, k', A2, c2, HE.out, HS.out.lt, HS.out.le, HS.out.nn, rfl, rfl, HS.out.ow⟩⟩
      · replace HB : Hid (∀ W : World, Calls Tryz.prog 79 #[.string ⟨S.toArray⟩, .int .i64 (k' : Int)] W fun e w' => e = .returned (.int .u8 124) ∧ w' = W) := lid' (fun W => by have := HB.out W; rw [q] at this; exact this)
        have hlt := by_lt (S := S) (k := k') (by rw [q]; decide)
        obtain ⟨j, hj, hgo⟩ := oAltL_go (O := O) r HG.out.1 q
        have HGO := lid' (HG.out.2.trans hgo)
        have HJ := lid' hj
        have HM := lid' HG.out.1
        have HR1 : Hid (Calls Tryz.prog 78 #[.string ⟨S.toArray⟩, .int .i64 ((k' : Int) + 1)] wr fun e W' => ∃ v z, e = .returned (.tuple #[v, .int .i64 z]) ∧ OpR wr W' S (k' + 1) (oSeq O (S.drop (k' + 1))) v z) := lid' (HR.out wr (k' + 1) (by omega) (by have := HN.out; have := HS.out.lt; omega))
        clear q hgo hj HG HR
        go_wp2_with (go_at_call 79; with_reducible refine (HB.out _).mono ?_; rintro e w2 ⟨rfl, hw⟩; cases hw)
        with_reducible refine HR1.out.mono ?_
        rintro e w2 ⟨v, z, rfl, hc⟩
        have HB2 := lid' hc.1
        have HO2 := own_block (w := wr) (w' := w2) HS.out.ow (fun q hq => hc.1.block q (World.ownsRow.lt HS.out.ow q hq).2)
        obtain ⟨A3, c3, e3, hr⟩ := rp_own HO2 rfl
        injection e3 with e3 _ e4
        subst e3
        subst e4
        rcases hc.2 with ⟨r2, k2, A4, c4, g1, g2, g3, g4, rfl, rfl, g5⟩ | ⟨g1, rfl, l, n1, n2, n3⟩
        · obtain ⟨A5, c5, e5, hr2⟩ := rp_own g5 rfl
          injection e5 with e5 _ e6
          subst e5
          subst e6
          have HJN := lid' (k_join 3 r r2 (.alt r r2) (jnN_alt r r2) A2 A4 c2 c4 w2 (lid' hr) (lid' hr2) (by have := HS.out.nn; omega) (by omega))
          have HGN := lid' (show (S.drop k2).length < j ∧ oAltG O (S.drop k) = oAltL O j (.alt r r2) (S.drop k2) from ⟨by have h1 := HM.out; have h2 := HJ.out; rw [List.length_drop] at h1 ⊢; omega, by rw [HGO.out, g1]; rfl⟩)
          have HL := lid' (And.intro g2 (And.intro g3 g4))
          clear hc g1 g2 g3 g4 g5 hr hr2 HO2 HR1 HGO HJ HM HB
          generalize hpa : (r.po []).length = la at *
          generalize hpb : (r2.po []).length = lb at *
          go_wp2_with (go_at_call 31; with_reducible refine HJN.out.mono ?_; rintro e w3 ⟨A6, c6, rfl, hh⟩)
          have HO := HS.out
          have HS3 : Hid (OpS W w3 S k (.alt r r2) k2 (.slice A6 ((Rx.alt r r2).po []).length c6)) := lid' ⟨HO.b.trans ((HB2.out.trans (hh.out.2.mono HB2.out.size)).mono HO.b.size), by have := HO.lt; have := HL.out.1; omega, HL.out.2.1, by have := HO.lt; have := HO.nn; have := HL.out.1; have := HL.out.2.2; show r.nn + r2.nn + 1 + 1 ≤ _; omega, own_mono hh.out.1 (Nat.le_trans HO.b.size HB2.out.size)⟩
          go_roundw
          · exact .inl ⟨.alt r r2, k2, c6, _, A6, rfl, rfl, HS3, HGN⟩
          · have := HL.out; rw [oMs_nat, oMs_nat]; omega
        · obtain ⟨A5, c5, e5, hr2⟩ := rp_own n1 rfl
          subst e5
          have hf : FldS l := n3
          have HJN := lid' (k_joinN 3 r l A2 A5 c2 c5 w2 (lid' hr) (lid' hr2) (by have := HS.out.nn; omega) (by omega) hf)
          have HGN := lid' (show oAltG O (S.drop k) = none by rw [HGO.out, g1]; rfl)
          have HL := lid' (And.intro n2 hf)
          clear hc g1 n1 n2 n3 hf hr hr2 HO2 HR1 HGO HJ HM HB
          generalize hpa : (r.po []).length = la at *
          generalize hpb : l.length = lb at *
          go_wp2_with (go_at_call 31; with_reducible refine HJN.out.mono ?_; rintro e w3 ⟨v6, rfl, hh⟩)
          have HO := HS.out
          have HFN : Hid (Below W.heap.size W w3 ∧ oAltG O (S.drop k) = none ∧ OpN W w3 S k v6) := lid' ⟨HO.b.trans ((HB2.out.trans (hh.out.2.mono HB2.out.size)).mono HO.b.size), HGN.out, OpN.join (wr := w2) (HO.b.trans (HB2.out.mono HO.b.size)) HO.lt HO.le HO.nn (by have := HL.out.1; rw [hpb]; omega) HL.out.2 hh.out.1⟩
          go_roundw
          · exact .inr ⟨rfl, HFN⟩
          · rw [oMs_no, oMs_nat]; omega
    · go_wp2
      go_ret2
      exact ⟨_, _, rfl, HF.out.1, .inr ⟨HF.out.2.1, rfl, HF.out.2.2⟩⟩
theorem oalt_all (S : List UInt8) (hS : S.length ≤ 10000) : ∀ n, AltO S n (oAlt n)
  | 0 => fun W k _ h => absurd h (Nat.not_lt_zero _)
  | n + 1 => oalt_any S n (oAlt n) (oalt_all S hS n) hS

set_option maxRecDepth 100000 in
set_option maxHeartbeats 8000000 in
/-- the reference's Parse answers as the package's -/
theorem rparse_any (S : List UInt8) (w : World) : Calls Tryz.prog 22 #[.string ⟨S.toArray⟩] w fun e w' => ParR w w' S e := by
  by_cases h : 8192 < S.length
  · have i1 : (8192 : Int) < (S.length : Int) := by omega
    have HE := lid' (prs_long S h)
    have hb := lid' (Below.refl w.heap.size w)
    clear h
    go_enter Tryz.func22, Tryz.ntmps22
    go_wp2
    go_ret2
    exact ParR.err HE.out hb.out
  · have i1 : ¬ (8192 : Int) < (S.length : Int) := by omega
    obtain ⟨N, hN, hP⟩ := prs_bytes S (by omega)
    have HA := lid' (oalt_all S (by omega) N w 0 (Nat.zero_le _) (by omega))
    rw [List.drop_zero] at HA
    have HP := lid' hP
    have hS : (S.length : Int) ≤ 8192 := by omega
    have HA' : Hid (Calls Tryz.prog 50 #[.string ⟨S.toArray⟩, .int .i64 0] w fun e W' => ∃ v z, e = .returned (.tuple #[v, .int .i64 z]) ∧ OpR w W' S 0 (oAlt N S) v z) := HA
    clear hP hN HA h
    go_enter Tryz.func22, Tryz.ntmps22
    go_wp2_with fail
    with_reducible refine HA'.out.mono ?_
    rintro e w1 ⟨v, z, rfl, hc⟩
    have HB := lid' hc.1
    rcases hc.2 with ⟨r, k', A2, c2, g1, g2, g3, g4, rfl, rfl, g5⟩ | ⟨g1, rfl, hN0⟩
    · by_cases hk : k' = S.length
      · subst hk
        have hp := po_len r []
        rw [List.length_nil, Nat.zero_add] at hp
        rw [List.drop_length] at g1
        by_cases h5 : 512 < r.nn
        · have HE := lid' (show prsP S = ([], 2) by rw [HP.out, g1]; show (if 512 < r.nn then (([] : List Pn), (2 : Int)) else (r.po [], 0)) = _; rw [if_pos h5])
          have j1 : (512 : Int) < ((r.po []).length : Int) := by omega
          clear hc g1 g4 g5 HP HA' hp h5
          go_wp2
          go_ret2
          exact ParR.err HE.out HB.out
        · have HE := lid' (show prsP S = (r.po [], 0) by rw [HP.out, g1]; show (if 512 < r.nn then (([] : List Pn), (2 : Int)) else (r.po [], 0)) = _; rw [if_neg h5])
          have j1 : ¬ (512 : Int) < ((r.po []).length : Int) := by omega
          have HO := lid' g5
          clear hc g1 g4 g5 HP HA' hp h5
          go_wp2
          go_ret2
          exact ⟨_, by rw [HE.out]; rfl, by rw [HE.out]; exact HO.out, HB.out⟩
      · have HE := lid' (show prsP S = ([], 40) by
          rw [HP.out, g1, drop_by (show k' < S.length by omega)]
          rfl)
        have j1 : ((k' : Int) != (S.length : Int)) = true := bne_iff_ne.2 (by omega)
        clear hc g1 g4 g5 HP HA' hk
        go_wp2
        go_ret2
        exact ParR.err HE.out HB.out
    · have HE := lid' (show prsP S = ([], 40) by rw [HP.out, g1]; rfl)
      have j1 : ((-1 : Int) != (S.length : Int)) = true := bne_iff_ne.2 (by omega)
      clear hc g1 hN0 HP HA'
      go_wp2
      go_ret2
      exact ParR.err HE.out HB.out

end Go.Proofs.YtgjhicahopcfcaaGreatDoor
