/-
  The law PatternLimits returns true. (Seat of the great laws.)
-/
import Derived.Test.YtgjhicahopcfcaaGreatDoorXLaYM
namespace Go.Proofs.YtgjhicahopcfcaaGreatDoor
open Go.RowKit Go.Shelf
set_option linter.unusedVariables false
set_option linter.unusedSimpArgs false
attribute [local go_sem ↓] Go.wp_at_zero Go.wp_at_succ

set_option maxRecDepth 100000 in
theorem rept_any (T : ByteArray) (n : Nat) (z : Int) (hz : z = (n : Int)) (w : World) (h1 : 1 ≤ T.size) (h2 : T.size ≤ 2) (hn : n ≤ 10000) : Calls Tryz.prog 23 #[.string T, .int .i64 z] w fun e w' => ∃ X : ByteArray, e = .returned (.string X) ∧ X.size ≤ 20000 ∧ w' = w := by
  subst hz
  obtain ⟨p, hp⟩ : ∃ p, p = n * T.size := ⟨_, rfl⟩
  have hp2 : p ≤ 20000 := by
    rw [hp]
    rcases (show T.size = 1 ∨ T.size = 2 by omega) with q | q <;> rw [q] <;> omega
  have e1 : (n : Int) * (T.size : Int) = (p : Int) := by rw [hp]; push_cast; rfl
  have pb : (p : Int) ≤ 20000 := by omega
  have p0 : (0 : Int) ≤ (p : Int) := by omega
  clear hp
  go_enter Tryz.func23, Tryz.ntmps23
  go_wp2
  go_loopw [5] (fun v5 wr => wr = w ∧ ∃ X : ByteArray, v5 = .string X ∧ X.size ≤ 50000) (fun v5 _ => match v5 with | .string X => p - X.size | _ => 0)
  case atStart => exact ⟨rfl, _, rfl, by decide⟩
  case round =>
    obtain ⟨rfl, X, rfl, hX⟩ := hrel
    by_cases hlt : X.size < p
    · have i1 : (X.size : Int) < (p : Int) := by omega
      have s1 : (X ++ X).size = X.size + X.size := ByteArray.size_append
      have s2 : (X ++ X ++ T).size = X.size + X.size + T.size := by rw [ByteArray.size_append, s1]
      have HS := Lib.hid s2
      clear s2
      go_wp2
      refine ⟨⟨trivial, X ++ X ++ T, rfl, by rw [HS.out]; omega⟩, ?_⟩
      show p - (X ++ X ++ T).size < p - X.size
      rw [HS.out]
      omega
    · have i1 : ¬ (X.size : Int) < (p : Int) := by omega
      have i2 : (p : Int) ≤ (X.size : Int) := by omega
      go_wp2
      go_ret
      exact ⟨_, rfl, by rw [ByteArray.size_extract]; omega, rfl⟩
theorem by_list (Y : ByteArray) : (⟨Y.data.toList.toArray⟩ : ByteArray) = Y := by cases Y; simp
set_option maxHeartbeats 8000000 in
set_option maxRecDepth 100000 in
theorem lawZ_walk (k : Int) (x : Nat) (w : World) (hk : -9223372036854775808 ≤ k ∧ k ≤ 9223372036854775807) (hx : x < 256) (hz : Hid (Tz w ∧ 2 < w.heap.size)) :
    Calls Tryz.prog 6 #[.int .i64 k, .int .u8 (x : Int)] w fun e w' => e = .returned (.bool true) ∧ Below w.heap.size w w' := by
  have HK := Ky.first hz.out.1 hz.out.2
  have HSan := lid' (fun W hk => kp_san w W hk)
  have HP : Hid (∀ (Y : ByteArray) (W : World), Calls Tryz.prog 21 #[.string Y] W fun e w' => ∃ A c, e = .returned (.tuple #[.slice A (prsP Y.data.toList).1.length c, .int .i64 (prsP Y.data.toList).2]) ∧ Hid (Rp w' w'.heap.size A (prsP Y.data.toList).1) ∧ Hid (Below W.heap.size W w')) := lid' (fun Y W => by
    have := k_par (parse_any ⟨Y.data.toList.toArray⟩ W) rfl rfl
    rw [by_list] at this
    exact this)
  have HQ : Hid (∀ (Y : ByteArray) (W : World), Calls Tryz.prog 22 #[.string Y] W fun e w' => ∃ A c, e = .returned (.tuple #[.slice A (prsP Y.data.toList).1.length c, .int .i64 (prsP Y.data.toList).2]) ∧ Hid (Rp w' w'.heap.size A (prsP Y.data.toList).1) ∧ Hid (Below W.heap.size W w')) := lid' (fun Y W => by
    have := k_par (rparse_any Y.data.toList W) rfl rfl
    rw [by_list] at this
    exact this)
  have HS : Hid (∀ (S : List UInt8) W A A' c c', Hid (Rp W W.heap.size A (prsP S).1) → Hid (Rp W W.heap.size A' (prsP S).1) → Calls Tryz.prog 20 #[.slice A (prsP S).1.length c, .slice A' (prsP S).1.length c'] W fun e w' => e = .returned (.bool true) ∧ Hid (Below W.heap.size W w')) := lid' (fun S W A A' c c' h1 h2 => by
    have := psame_any A A' _ c _ c' (prsP S).1 (prsP S).1 W (lid' rfl) (lid' rfl) (prs_small S) h1 h2
    rw [decide_eq_true rfl] at this
    exact this.mono fun e w' q => ⟨q.1, lid' q.2⟩)
  obtain ⟨t, ht⟩ : ∃ t, k.tmod 12 = t := ⟨_, rfl⟩
  have ht1 : -12 < t ∧ t < 12 := by
    rw [← ht]
    have h1 := Int.emod_nonneg k (show (12 : Int) ≠ 0 by decide)
    have h2 := Int.emod_lt_of_pos k (show (0 : Int) < 12 by decide)
    rw [Int.tmod_eq_emod]
    split <;> simp <;> omega
  obtain ⟨n, hn⟩ : ∃ n : Nat, (t + 12).tmod 12 = (n : Int) := ⟨((t + 12).tmod 12).toNat, by rw [Int.tmod_eq_emod_of_nonneg (by omega)]; omega⟩
  have hn12 : n < 12 := by
    rw [Int.tmod_eq_emod_of_nonneg (by omega)] at hn
    omega
  obtain ⟨m, hm⟩ : ∃ m : Nat, (x : Int).tmod 3 = (m : Int) := ⟨x % 3, by rw [Int.tmod_eq_emod_of_nonneg (by omega)]; omega⟩
  have hm3 : m < 3 := by
    rw [Int.tmod_eq_emod_of_nonneg (by omega)] at hm
    omega
  have t1 : -12 < t := ht1.1
  have t2 : t < 12 := ht1.2
  have e1 : (n : Int).tdiv 2 = ((n / 2 : Nat) : Int) := by rw [Int.tdiv_eq_ediv_of_nonneg (by omega)]; rfl
  have e2 : (n : Int).tmod 2 = ((n % 2 : Nat) : Int) := by rw [Int.tmod_eq_emod_of_nonneg (by omega)]; rfl
  have HR := lid' (fun T (j : Nat) z hz W h1 h2 hj => rept_any T j z hz W h1 h2 hj)
  have nb : (n : Int) ≤ 12 := by omega
  have n0 : (0 : Int) ≤ (n : Int) := by omega
  have TAIL : True := trivial
  clear hz ht1
  obtain ⟨d, hd⟩ : ∃ d, n / 2 = d := ⟨_, rfl⟩
  obtain ⟨f, hf⟩ : ∃ f, n % 2 = f := ⟨_, rfl⟩
  have db : (d : Int) ≤ 12 := by omega
  have d0 : (0 : Int) ≤ (d : Int) := by omega
  have fb : (f : Int) ≤ 12 := by omega
  have f0 : (0 : Int) ≤ (f : Int) := by omega
  rw [hd] at e1
  rw [hf] at e2
  clear hd hf
  have R1 := lid' (fun W => HR.out ⟨#[97]⟩ (250 + n) (250 + (n : Int)) (by omega) W (by decide) (by decide) (by omega))
  have R2 := lid' (fun W => HR.out ⟨#[40, 41]⟩ (250 + n) (250 + (n : Int)) (by omega) W (by decide) (by decide) (by omega))
  have R3 := lid' (fun W => HR.out ⟨#[40]⟩ (4090 + d) (4090 + (d : Int)) (by omega) W (by decide) (by decide) (by omega))
  have R4 := lid' (fun W => HR.out ⟨#[97]⟩ (1 + f) (1 + (f : Int)) (by omega) W (by decide) (by decide) (by omega))
  have R5 := lid' (fun W => HR.out ⟨#[41]⟩ (4090 + d) (4090 + (d : Int)) (by omega) W (by decide) (by decide) (by omega))
  clear HR TAIL
  go_enter Tryz.func6, Tryz.ntmps6
  go_wp2_with fail
  with_reducible refine (HSan.out w HK).mono ?_
  rintro e w1 ⟨rfl, b1⟩
  replace HK := Ky.later HK b1
  clear b1 HSan
  go_wp2_with fail
  with_reducible refine (R1.out w1).mono ?_
  rintro e w2 ⟨X, rfl, hX, hw⟩
  subst hw
  rcases (show m = 0 ∨ m = 1 ∨ m = 2 by omega) with rfl | rfl | rfl
  · go_wp2_with fail
    with_reducible refine (HP.out _ _).mono ?_
    rintro e w3 ⟨A3, c3, rfl, r3, b3⟩
    replace HK := Ky.later HK b3
    clear b3 HP
    go_wp2_with fail
    with_reducible refine (HQ.out _ _).mono ?_
    rintro e w4 ⟨A4, c4, rfl, r4, b4⟩
    replace HK := Ky.later HK b4
    replace r3 := Rp.lat r3 b4
    clear b4 HQ
    go_wp2_with fail
    with_reducible refine (HS.out _ _ _ _ _ _ r3 r4).mono ?_
    rintro e w5 ⟨rfl, b5⟩
    replace HK := Ky.later HK b5
    clear b5 HS
    go_wp2_with fail
    go_ret
    exact ⟨rfl, HK.out.b⟩
  · go_wp2_with fail
    with_reducible refine (R2.out _).mono ?_
    rintro e w2 ⟨X, rfl, hX, hw⟩
    subst hw
    go_wp2_with fail
    with_reducible refine (HP.out _ _).mono ?_
    rintro e w3 ⟨A3, c3, rfl, r3, b3⟩
    replace HK := Ky.later HK b3
    clear b3 HP
    go_wp2_with fail
    with_reducible refine (HQ.out _ _).mono ?_
    rintro e w4 ⟨A4, c4, rfl, r4, b4⟩
    replace HK := Ky.later HK b4
    replace r3 := Rp.lat r3 b4
    clear b4 HQ
    go_wp2_with fail
    with_reducible refine (HS.out _ _ _ _ _ _ r3 r4).mono ?_
    rintro e w5 ⟨rfl, b5⟩
    replace HK := Ky.later HK b5
    clear b5 HS
    go_wp2_with fail
    go_ret
    exact ⟨rfl, HK.out.b⟩
  · go_wp2_with fail
    with_reducible refine (R3.out _).mono ?_
    rintro e w2 ⟨X1, rfl, hX1, hw⟩
    subst hw
    go_wp2_with fail
    with_reducible refine (R4.out _).mono ?_
    rintro e w2 ⟨X2, rfl, hX2, hw⟩
    subst hw
    have s1 : (X1 ++ X2).size = X1.size + X2.size := ByteArray.size_append
    go_wp2_with fail
    with_reducible refine (R5.out _).mono ?_
    rintro e w2 ⟨X3, rfl, hX3, hw⟩
    subst hw
    go_wp2_with fail
    clear s1
    generalize X1 ++ X2 ++ X3 = Y at *
    with_reducible refine (HP.out _ _).mono ?_
    rintro e w3 ⟨A3, c3, rfl, r3, b3⟩
    replace HK := Ky.later HK b3
    clear b3 HP
    go_wp2_with fail
    with_reducible refine (HQ.out _ _).mono ?_
    rintro e w4 ⟨A4, c4, rfl, r4, b4⟩
    replace HK := Ky.later HK b4
    replace r3 := Rp.lat r3 b4
    clear b4 HQ
    go_wp2_with fail
    with_reducible refine (HS.out _ _ _ _ _ _ r3 r4).mono ?_
    rintro e w5 ⟨rfl, b5⟩
    replace HK := Ky.later HK b5
    clear b5 HS
    go_wp2_with fail
    go_ret
    exact ⟨rfl, HK.out.b⟩

end Go.Proofs.YtgjhicahopcfcaaGreatDoor
