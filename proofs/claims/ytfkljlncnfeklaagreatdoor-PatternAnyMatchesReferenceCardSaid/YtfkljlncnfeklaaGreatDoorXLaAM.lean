/-
  The law PatternAnyMatchesReference returns true. (Seat of the great laws.)
-/
import Derived.Test.YtfkljlncnfeklaaGreatDoorXRow3M
import Derived.Test.YtfkljlncnfeklaaGreatDoorPw
import Derived.Test.YtfkljlncnfeklaaGreatDoorPu
import Derived.Test.YtfkljlncnfeklaaGreatDoorXQmM
import Derived.Test.YtfkljlncnfeklaaGreatDoorXQuM
import Derived.Test.YtfkljlncnfeklaaGreatDoorXQlM
namespace Go.Proofs.YtfkljlncnfeklaaGreatDoor
open Go.RowKit Go.Shelf
set_option linter.unusedVariables false
set_option linter.unusedSimpArgs false
attribute [local go_sem ↓] Go.wp_at_zero Go.wp_at_succ

theorem litP_len (S : List UInt8) : (litP S).1.length ≤ 1000 := by
  unfold litP
  split
  · exact Nat.zero_le _
  · split
    · decide
    · have := litN_len S
      show (litN S).length ≤ _
      omega
set_option maxHeartbeats 8000000 in
set_option maxRecDepth 100000 in
theorem lawA_walk (A0 : Option Addr) (m0 c0 : Nat) (p : List Pn) (s : ByteArray) (k : Int) (w : World) (h0 : Hid (p.length = m0)) (hm0 : m0 ≤ 9223372036854775807) (hp0 : Hid (Rp w w.heap.size A0 p)) (hs : s.size ≤ 9223372036854775807) (hk : -9223372036854775808 ≤ k ∧ k ≤ 9223372036854775807) (hz : Hid (Tz w ∧ 2 < w.heap.size)) (hu : Hid (Tu w ∧ 0 < w.heap.size ∧ 1 < w.heap.size)) :
    Calls Tryz.prog 4 #[.slice A0 m0 c0, .string s, .int .i64 k] w fun e w' => e = .returned (.bool true) ∧ Below w.heap.size w w' := by
  obtain ⟨S, rfl⟩ : ∃ S : List UInt8, s = ⟨S.toArray⟩ := ⟨s.data.toList, by cases s; simp⟩
  replace hs : S.length ≤ 9223372036854775807 := by simpa [ByteArray.size] using hs
  have HK := Ky.first hz.out.1 hz.out.2
  have HSan := lid' (fun W hk => kp_san w W hk)
  have hmI : (0 : Int) ≤ (m0 : Int) := by omega
  by_cases hbig : 20 < m0 ∨ 300 < S.length
  · clear hz hu hk hp0
    by_cases q1 : 20 < m0
    · have i1 : decide ((20 : Int) < (m0 : Int)) = true := decide_eq_true (by omega)
      have i1' : (20 : Int) < (m0 : Int) := by omega
      clear hbig q1
      go_enter Tryz.func4, Tryz.ntmps4
      go_wp2_with fail
      with_reducible refine (HSan.out w HK).mono ?_
      rintro e w1 ⟨rfl, b1⟩
      replace HK := Ky.later HK b1
      clear b1 HSan
      go_wp2
      go_ret
      exact ⟨rfl, HK.out.b⟩
    · have i1 : decide ((20 : Int) < (m0 : Int)) = false := decide_eq_false (by omega)
      have i1' : ¬ (20 : Int) < (m0 : Int) := by omega
      have i2 : (300 : Int) < (S.length : Int) := by omega
      clear hbig q1
      go_enter Tryz.func4, Tryz.ntmps4
      go_wp2_with fail
      with_reducible refine (HSan.out w HK).mono ?_
      rintro e w1 ⟨rfl, b1⟩
      replace HK := Ky.later HK b1
      clear b1 HSan
      go_wp2
      go_ret
      exact ⟨rfl, HK.out.b⟩
  · have i1' : ¬ (20 : Int) < (m0 : Int) := by omega
    have i2' : ¬ (300 : Int) < (S.length : Int) := by omega
    have hS3 : S.length ≤ 300 := by omega
    have hLit : Hid (∀ W, Hid (Ky w W) → Calls Tryz.prog 16 #[.string ⟨S.toArray⟩] W fun e w' => ∃ A c, e = .returned (.tuple #[.slice A (litP S).1.length c, .int .i64 (litP S).2]) ∧ Hid (Rp w' w'.heap.size A (litP S).1) ∧ Hid (Below W.heap.size W w')) := lid' (fun W hk' => (literal_any ⟨S.toArray⟩ W (tu_below (lid' hu.out.1) hk'.out.b hu.out.2.1 hu.out.2.2) (Nat.lt_of_lt_of_le hu.out.2.1 hk'.out.b.size) (Nat.lt_of_lt_of_le hu.out.2.2 hk'.out.b.size)).mono fun e w' h => by
      obtain ⟨v, q1, q2, q3⟩ := h
      obtain ⟨A, c, rfl, hr⟩ := rp_own q2 rfl
      exact ⟨A, c, q1, lid' hr, lid' q3⟩)
    have HLi2 := lid' (fun W => rliteral_any S W)
    have hll := litP_len S
    have HSame : Hid (∀ W A A' c c', Hid (Rp W W.heap.size A (litP S).1) → Hid (Rp W W.heap.size A' (litP S).1) → Calls Tryz.prog 18 #[.slice A (litP S).1.length c, .slice A' (litP S).1.length c'] W fun e w' => e = .returned (.bool true) ∧ Hid (Below W.heap.size W w')) := lid' (fun W A A' c c' h1 h2 => by
      have := psame_any A A' _ c _ c' (litP S).1 (litP S).1 W (lid' rfl) (lid' rfl) (by omega) h1 h2
      rw [decide_eq_true rfl] at this
      exact this.mono fun e w' q => ⟨q.1, lid' q.2⟩)
    have HL1 := lid' (fun W (hk' : Hid (Ky w W)) A c (hr : Hid (Rp W W.heap.size A p)) => longestAt_any A m0 c p ⟨S.toArray⟩ k W h0 hr (lid' hk'.out.t) hk'.out.s (by rw [bs_size]; omega))
    have HM1 := lid' (fun W (hk' : Hid (Ky w W)) A c (hr : Hid (Rp W W.heap.size A p)) => matches_any A m0 c p ⟨S.toArray⟩ W h0 hr (lid' hk'.out.t) hk'.out.s (by rw [bs_size]; omega))
    have HL2 := lid' (fun W A c (hr : Hid (Rp W W.heap.size A p)) => rlongest_any A m0 c p S (by omega) k W h0 hr)
    have HM2 := lid' (fun W A c (hr : Hid (Rp W W.heap.size A p)) => rmatches_any A m0 c p S (by omega) W h0 hr)
    have HP1 := lid' (fun W A c (hr : Hid (Rp W W.heap.size A p)) => print_any A m0 c p W h0 hr)
    have HP2 := lid' (fun W A c (hr : Hid (Rp W W.heap.size A p)) => rprint_any A m0 c p W h0 hr)
    have HC1 := lid' (fun W A c (hr : Hid (Rp W W.heap.size A p)) => pcheck_any A m0 c p W h0 hr)
    have HC2 := lid' (fun W A c (hr : Hid (Rp W W.heap.size A p)) => qpcheck_any A m0 c p W h0 hr)
    have HP := hp0
    clear hz hu hk hs h0 hp0 hll hbig
    have hdl : (⟨S.toArray⟩ : ByteArray).data.toList = S := rfl
    rw [hdl] at HL1 HM1
    generalize (litP S).2 = zl at *
    generalize (litP S).1 = L at *
    generalize L.length = Ln at *
    generalize (loP p S k).1 = x1 at *
    generalize (loP p S k).2 = x2 at *
    generalize maP p S = mB at *
    generalize prS p = T at *
    generalize chP p = z at *
    by_cases h24 : S.length ≤ 24
    · have i3 : ¬ (24 : Int) < (S.length : Int) := by omega
      clear h24
      go_enter Tryz.func4, Tryz.ntmps4
      go_wp2_with fail
      with_reducible refine (HSan.out w HK).mono ?_
      rintro e w1 ⟨rfl, b1⟩
      replace HK := Ky.later HK b1
      replace HP := Rp.lat HP b1
      clear b1 HSan
      go_wp2_with fail
      with_reducible refine (hLit.out w1 HK).mono ?_
      rintro e w2 ⟨A2, c2, rfl, R2, b2⟩
      replace HK := Ky.later HK b2
      replace HP := Rp.lat HP b2
      clear b2 hLit
      go_wp2_with fail
      with_reducible refine (HLi2.out w2).mono ?_
      rintro e w3 ⟨A3, c3, rfl, R3, b3⟩
      replace HK := Ky.later HK b3
      replace HP := Rp.lat HP b3
      replace R2 := Rp.lat R2 b3
      clear b3 HLi2
      go_wp2_with fail
      with_reducible refine (HSame.out w3 _ _ _ _ R2 R3).mono ?_
      rintro e w4 ⟨rfl, b4⟩
      replace HK := Ky.later HK b4
      replace HP := Rp.lat HP b4
      clear b4 HSame R2 R3
      go_wp2_with fail
      with_reducible refine (HC1.out w4 _ _ HP).mono ?_
      rintro e w5 ⟨rfl, b5⟩
      replace HK := Ky.later HK (lid' b5)
      replace HP := Rp.lat HP (lid' b5)
      clear b5 HC1
      go_wp2_with fail
      with_reducible refine (HC2.out w5 _ _ HP).mono ?_
      rintro e w6 ⟨rfl, b6⟩
      replace HK := Ky.later HK (lid' b6)
      replace HP := Rp.lat HP (lid' b6)
      clear b6 HC2
      go_wp2_with fail
      with_reducible refine (HL1.out w6 HK _ _ HP).mono ?_
      rintro e w7 ⟨rfl, b7⟩
      replace HK := Ky.later HK (lid' b7)
      replace HP := Rp.lat HP (lid' b7)
      clear b7 HL1
      go_wp2_with fail
      with_reducible refine (HL2.out w7 _ _ HP).mono ?_
      rintro e w8 ⟨rfl, b8⟩
      replace HK := Ky.later HK b8
      replace HP := Rp.lat HP b8
      clear b8 HL2
      go_wp2_with fail
      with_reducible refine (HP1.out w8 _ _ HP).mono ?_
      rintro e w9 ⟨rfl, b9⟩
      replace HK := Ky.later HK (lid' b9)
      replace HP := Rp.lat HP (lid' b9)
      clear b9 HP1
      go_wp2_with fail
      with_reducible refine (HP2.out w9 _ _ HP).mono ?_
      rintro e wA ⟨rfl, bA⟩
      replace HK := Ky.later HK bA
      replace HP := Rp.lat HP bA
      clear bA HP2
      go_wp2_with fail
      with_reducible refine (HM1.out wA HK _ _ HP).mono ?_
      rintro e wB ⟨rfl, bB⟩
      replace HK := Ky.later HK (lid' bB)
      replace HP := Rp.lat HP (lid' bB)
      clear bB HM1
      go_wp2_with fail
      with_reducible refine (HM2.out wB _ _ HP).mono ?_
      rintro e wC ⟨rfl, bC⟩
      replace HK := Ky.later HK bC
      clear bC HM2
      go_wp2
      go_ret
      exact ⟨rfl, HK.out.b⟩
    · have i3 : (24 : Int) < (S.length : Int) := by omega
      clear h24 HL1 HL2 HM1 HM2 HP1 HP2
      go_enter Tryz.func4, Tryz.ntmps4
      go_wp2_with fail
      with_reducible refine (HSan.out w HK).mono ?_
      rintro e w1 ⟨rfl, b1⟩
      replace HK := Ky.later HK b1
      replace HP := Rp.lat HP b1
      clear b1 HSan
      go_wp2_with fail
      with_reducible refine (hLit.out w1 HK).mono ?_
      rintro e w2 ⟨A2, c2, rfl, R2, b2⟩
      replace HK := Ky.later HK b2
      replace HP := Rp.lat HP b2
      clear b2 hLit
      go_wp2_with fail
      with_reducible refine (HLi2.out w2).mono ?_
      rintro e w3 ⟨A3, c3, rfl, R3, b3⟩
      replace HK := Ky.later HK b3
      replace HP := Rp.lat HP b3
      replace R2 := Rp.lat R2 b3
      clear b3 HLi2
      go_wp2_with fail
      with_reducible refine (HSame.out w3 _ _ _ _ R2 R3).mono ?_
      rintro e w4 ⟨rfl, b4⟩
      replace HK := Ky.later HK b4
      replace HP := Rp.lat HP b4
      clear b4 HSame R2 R3
      go_wp2_with fail
      with_reducible refine (HC1.out w4 _ _ HP).mono ?_
      rintro e w5 ⟨rfl, b5⟩
      replace HK := Ky.later HK (lid' b5)
      replace HP := Rp.lat HP (lid' b5)
      clear b5 HC1
      go_wp2_with fail
      with_reducible refine (HC2.out w5 _ _ HP).mono ?_
      rintro e w6 ⟨rfl, b6⟩
      replace HK := Ky.later HK (lid' b6)
      replace HP := Rp.lat HP (lid' b6)
      clear b6 HC2
      go_wp2
      go_ret
      exact ⟨rfl, HK.out.b⟩

end Go.Proofs.YtfkljlncnfeklaaGreatDoor
