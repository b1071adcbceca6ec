/-
  The law PatternLongest returns true.
-/
import Derived.Test.YtgjhicahopcfcaaDoorPt
import Derived.Test.YtgjhicahopcfcaaDoorPu
namespace Go.Proofs.YtgjhicahopcfcaaDoor
open Go.RowKit Go.Shelf
set_option linter.unusedVariables false
set_option linter.unusedSimpArgs false
attribute [local go_sem ↓] Go.wp_at_zero Go.wp_at_succ

set_option maxHeartbeats 8000000 in
set_option maxRecDepth 100000 in
theorem lawL_walk (A0 : Option Addr) (m0 c0 : Nat) (l0 : List Nat) (A1 : Option Addr) (m1 c1 : Nat) (l1 : List Nat) (x : Nat) (w : World) (h0 : Hid (B8 w w.heap.size A0 m0 l0)) (hm0 : m0 ≤ 9223372036854775807) (h1 : Hid (B8 w w.heap.size A1 m1 l1)) (hm1 : m1 ≤ 9223372036854775807) (hx : x < 256) (hz : Hid (Tz w ∧ 3 < w.heap.size)) :
    Calls Tryd.prog 4 #[.slice A0 m0 c0, .slice A1 m1 c1, .int .u8 (x : Int)] w fun e w' => e = .returned (.bool true) ∧ Below w.heap.size w w' := by
  have k0 := Ky.first hz.out.1 hz.out.2
  obtain ⟨ha, hna⟩ := madeR_ok l0 (most := 30) (by decide)
  have HMA := lid' (fun W hk => kp_made w W hk A0 c0 m0 30 l0 h0 hm0 (by decide) (by decide) 30 rfl)
  have HWD := lid' (fun W hk => kp_word w W hk A1 c1 m1 16 l1 h1 hm1 (by decide) 16 rfl)
  have hS := wdN_len l1 16
  replace ha := ha.by8
  generalize madeR l0 30 = a at *
  generalize wdN l1 16 = S at *
  obtain ⟨k, hk⟩ : ∃ k, k = x % (S.length + 1) := ⟨_, rfl⟩
  have hkS : k ≤ S.length := by rw [hk]; exact Nat.lt_succ_iff.1 (Nat.mod_lt x (Nat.succ_pos S.length))
  have ex : (x : Int).tmod ((S.length : Int) + 1) = (k : Int) := by
    rw [Int.tmod_eq_emod_of_nonneg (by omega), hk]
    push_cast
    rfl
  obtain ⟨n, n', e1, hF, e2, hnn⟩ := lo_grow ha (by omega) (t := [97]) hkS
  have HF := lid' hF
  have HLo := lid' (fun W hk A c s at' hs => kp_longest w W hk a A c s at' hs)
  have HXa := lid' (fun W hk A c s hs => kp_match w W hk a A c s hs)
  have HSan := lid' (fun W hk => kp_san w W hk)
  have HY := lid' (fun s hs => (maP_iff (r := a) ha (by omega) s).2 hs)
  have HN := lid' (fun s hs => maP_not (r := a) ha (by omega) (s := s) hs)
  clear h0 h1 hz ha hna hm0 hm1 hk
  generalize a.po [] = p at *
  generalize p.length = pn at *
  have HL1 : Hid (∀ (W : World) (A : Option Addr) (c : Nat), Hid (Ky w W) → Hid (Rp W W.heap.size A p) → Calls Tryd.prog 16 #[.slice A pn c, .string ⟨S.toArray⟩, .int .i64 (k : Int)] W fun e w' => e = .returned (.tuple #[.int .i64 (n : Int), .bool (decide (0 < n))]) ∧ Hid (Below W.heap.size W w')) := lid' (fun W A c hk hr => by
    have := HLo.out W hk A c ⟨S.toArray⟩ (k : Int) (by show S.toArray.size ≤ _; rw [List.size_toArray]; omega) hr
    rw [show loP p (⟨S.toArray⟩ : ByteArray).data.toList (k : Int) = ((n : Int), decide (0 < n)) from e1] at this
    exact this)
  have HL2 : Hid (∀ (W : World) (A : Option Addr) (c : Nat), Hid (Ky w W) → Hid (Rp W W.heap.size A p) → Calls Tryd.prog 16 #[.slice A pn c, .string (⟨S.toArray⟩ ++ ⟨#[97]⟩), .int .i64 (k : Int)] W fun e w' => e = .returned (.tuple #[.int .i64 (n' : Int), .bool (decide (0 < n'))]) ∧ Hid (Below W.heap.size W w')) := lid' (fun W A c hk hr => by
    have e3 : ((⟨S.toArray⟩ : ByteArray) ++ ⟨#[97]⟩).data.toList = S ++ [97] := by rw [ByteArray.data_append]; simp
    have := HLo.out W hk A c (⟨S.toArray⟩ ++ ⟨#[97]⟩) (k : Int) (by show ((⟨S.toArray⟩ : ByteArray) ++ ⟨#[97]⟩).data.size ≤ _; rw [← Array.length_toList, e3, List.length_append, List.length_singleton]; omega) hr
    rw [e3, e2] at this
    exact this)
  have HM : Hid (∀ (m : Nat) (b : Bool), (b = true → a.mt ((S.drop k).take m)) → (b = false → ¬ a.mt ((S.drop k).take m)) → ∀ (W : World) (A : Option Addr) (c : Nat), Hid (Ky w W) → Hid (Rp W W.heap.size A p) → Calls Tryd.prog 15 #[.slice A pn c, .string ((⟨S.toArray⟩ : ByteArray).extract k (k + m))] W fun e w' => e = .returned (.bool b) ∧ Hid (Below W.heap.size W w')) := lid' (fun m b hb1 hb2 W A c hk hr => by
    have e3 := ext_take S k m
    have := HXa.out W hk A c ((⟨S.toArray⟩ : ByteArray).extract k (k + m)) (by show ((⟨S.toArray⟩ : ByteArray).extract k (k + m)).data.size ≤ _; rw [← Array.length_toList, e3, List.length_take, List.length_drop]; omega) hr
    rw [e3] at this
    cases b with
    | true => rw [HY.out _ (hb1 rfl)] at this; exact this
    | false => rw [HN.out _ (hb2 rfl)] at this; exact this)
  clear HLo HXa HY HN e1 e2 hF
  have s0 : ¬ ((S.length : Int) + 1 = 0) := by omega
  have s1 : (0 : Int) ≤ (k : Int) := by omega
  rcases Nat.eq_zero_or_pos n with rfl | hn0
  · replace HL1 : Hid (∀ (W : World) (A : Option Addr) (c : Nat), Hid (Ky w W) → Hid (Rp W W.heap.size A p) → Calls Tryd.prog 16 #[.slice A pn c, .string ⟨S.toArray⟩, .int .i64 (k : Int)] W fun e w' => e = .returned (.tuple #[.int .i64 0, .bool false]) ∧ Hid (Below W.heap.size W w')) := HL1
    have f2 : decide (S.length < k) = false := decide_eq_false (by omega)
    go_enter Tryd.func4, Tryd.ntmps4
    go_wp2_with fail
    with_reducible refine (HSan.out w k0).mono ?_
    rintro e w1 ⟨rfl, b1⟩
    have k1 := Ky.later k0 b1
    clear k0 b1 HSan
    go_wp2_with fail
    with_reducible refine (HMA.out w1 k1).mono ?_
    rintro e w2 ⟨A2, c2, rfl, r2, b2⟩
    have k2 := Ky.later k1 b2
    clear k1 b2 HMA
    go_wp2_with fail
    with_reducible refine (HWD.out w2 k2).mono ?_
    rintro e w3 ⟨rfl, b3⟩
    have k3 := Ky.later k2 b3
    have r3 := Rp.lat r2 b3
    clear k2 r2 b3 HWD
    go_wp2_with fail
    with_reducible refine (HL1.out w3 _ _ k3 r3).mono ?_
    rintro e w4 ⟨rfl, b4⟩
    have k4 := Ky.later k3 b4
    have r4 := Rp.lat r3 b4
    clear k3 r3 b4 HL1 ex
    have f1 := HF.out.le
    go_wp2_with fail
    have hU := lid' HF.out.up
    clear HF
    go_loopw [13] (fun v13 wr => ∃ m : Nat, v13 = .int .i64 (m : Int) ∧ 0 < m ∧ k + m ≤ S.length + 1 ∧ Hid (Ky w wr) ∧ Hid (Rp wr wr.heap.size A2 p)) (fun v13 wr => S.length + 1 - (intOf v13).toNat)
    case atStart => exact ⟨0 + 1, by simp, by omega, by omega, k4, r4⟩
    case round =>
      clear k4 r4
      obtain ⟨m, rfl, hm, hkm, kr, rr⟩ := hrel
      by_cases hlt : k + m ≤ S.length
      · have j1 : (k : Int) + (m : Int) ≤ (S.length : Int) := by omega
        have j0 : (0 : Int) ≤ (m : Int) := by omega
        have hnm := HM.out m false (fun h => by cases h) (fun _ => hU.out m hm hlt)
        go_wp2_with fail
        with_reducible refine (hnm wr _ _ kr rr).mono ?_
        rintro e w5 ⟨rfl, b5⟩
        have k5 := Ky.later kr b5
        have r5 := Rp.lat rr b5
        clear kr rr b5 hnm
        go_wp2_with fail
        go_roundw
        case rel => exact ⟨m + 1, by simp, by omega, by omega, k5, r5⟩
        case measure => simp only [intOf]; omega
      · have j1 : ¬ (k : Int) + (m : Int) ≤ (S.length : Int) := by omega
        have j2 : (0 : Int) ≤ (n' : Int) := by omega
        have j3 : (((S.length + 1 : Nat)) : Int) ≤ 9223372036854775807 := by omega
        go_wp2_with fail
        with_reducible refine (HL2.out wr _ _ kr rr).mono ?_
        rintro e w5 ⟨rfl, b5⟩
        have k5 := Ky.later kr b5
        clear kr rr b5 HL2
        go_wp2_with fail
        go_ret
        exact ⟨rfl, k5.out.b⟩
  · have hd : decide (0 < n) = true := decide_eq_true hn0
    rw [hd] at HL1
    have q0 : (0 : Int) < (n : Int) := by omega
    have q1 : ¬ (n : Int) < 0 := by omega
    clear hd
    go_enter Tryd.func4, Tryd.ntmps4
    go_wp2_with fail
    with_reducible refine (HSan.out w k0).mono ?_
    rintro e w1 ⟨rfl, b1⟩
    have k1 := Ky.later k0 b1
    clear k0 b1 HSan
    go_wp2_with fail
    with_reducible refine (HMA.out w1 k1).mono ?_
    rintro e w2 ⟨A2, c2, rfl, r2, b2⟩
    have k2 := Ky.later k1 b2
    clear k1 b2 HMA
    go_wp2_with fail
    with_reducible refine (HWD.out w2 k2).mono ?_
    rintro e w3 ⟨rfl, b3⟩
    have k3 := Ky.later k2 b3
    have r3 := Rp.lat r2 b3
    clear k2 r2 b3 HWD
    go_wp2_with fail
    with_reducible refine (HL1.out w3 _ _ k3 r3).mono ?_
    rintro e w4 ⟨rfl, b4⟩
    have k4 := Ky.later k3 b4
    have r4 := Rp.lat r3 b4
    clear k3 r3 b4 HL1 ex
    have f1 := HF.out.le
    have HM1 := lid' (HM.out n true (fun _ => HF.out.at' hn0) (fun h => by cases h))
    go_wp2_with fail
    with_reducible refine (HM1.out w4 _ _ k4 r4).mono ?_
    rintro e w6 ⟨rfl, b6⟩
    have k6 := Ky.later k4 b6
    have r6 := Rp.lat r4 b6
    clear k4 r4 b6 HM1
    go_wp2_with fail
    have hU := lid' HF.out.up
    clear HF
    go_loopw [13] (fun v13 wr => ∃ m : Nat, v13 = .int .i64 (m : Int) ∧ n < m ∧ k + m ≤ S.length + 1 ∧ Hid (Ky w wr) ∧ Hid (Rp wr wr.heap.size A2 p)) (fun v13 wr => S.length + 1 - (intOf v13).toNat)
    case atStart => exact ⟨n + 1, by simp, by omega, by omega, k6, r6⟩
    case round =>
      clear k6 r6
      obtain ⟨m, rfl, hm, hkm, kr, rr⟩ := hrel
      by_cases hlt : k + m ≤ S.length
      · have j1 : (k : Int) + (m : Int) ≤ (S.length : Int) := by omega
        have j0 : (0 : Int) ≤ (m : Int) := by omega
        have hnm := HM.out m false (fun h => by cases h) (fun _ => hU.out m hm hlt)
        go_wp2_with fail
        with_reducible refine (hnm wr _ _ kr rr).mono ?_
        rintro e w5 ⟨rfl, b5⟩
        have k5 := Ky.later kr b5
        have r5 := Rp.lat rr b5
        clear kr rr b5 hnm
        go_wp2_with fail
        go_roundw
        case rel => exact ⟨m + 1, by simp, by omega, by omega, k5, r5⟩
        case measure => simp only [intOf]; omega
      · have j1 : ¬ (k : Int) + (m : Int) ≤ (S.length : Int) := by omega
        have j2 : (n : Int) ≤ (n' : Int) := by omega
        have j3 : (((S.length + 1 : Nat)) : Int) ≤ 9223372036854775807 := by omega
        go_wp2_with fail
        with_reducible refine (HL2.out wr _ _ kr rr).mono ?_
        rintro e w5 ⟨rfl, b5⟩
        have k5 := Ky.later kr b5
        clear kr rr b5 HL2
        go_wp2_with fail
        go_ret
        exact ⟨rfl, k5.out.b⟩

end Go.Proofs.YtgjhicahopcfcaaDoor
