/-
  The law PatternMatchesReference returns true. (Seat of the great laws.)
-/
import Derived.Test.YtfkljlncnfeklaaGreatDoorPt
import Derived.Test.YtfkljlncnfeklaaGreatDoorPu
import Derived.Test.YtfkljlncnfeklaaGreatDoorXQmM
import Derived.Test.YtfkljlncnfeklaaGreatDoorXQuM
namespace Go.Proofs.YtfkljlncnfeklaaGreatDoor
open Go.RowKit Go.Shelf
set_option linter.unusedVariables false
set_option linter.unusedSimpArgs false
attribute [local go_sem ↓] Go.wp_at_zero Go.wp_at_succ

set_option maxHeartbeats 8000000 in
set_option maxRecDepth 100000 in
theorem lawQ_walk (A0 : Option Addr) (m0 c0 : Nat) (l0 : List Nat) (s : ByteArray) (k : Int) (w : World) (h0 : Hid (B8 w w.heap.size A0 m0 l0)) (hm0 : m0 ≤ 9223372036854775807) (hs : s.size ≤ 9223372036854775807) (hk : -9223372036854775808 ≤ k ∧ k ≤ 9223372036854775807) (hz : Hid (Tz w ∧ 2 < w.heap.size)) :
    Calls Tryz.prog 3 #[.slice A0 m0 c0, .string s, .int .i64 k] w fun e w' => e = .returned (.bool true) ∧ Below w.heap.size w w' := by
  obtain ⟨S, rfl⟩ : ∃ S : List UInt8, s = ⟨S.toArray⟩ := ⟨s.data.toList, by cases s; simp⟩
  replace hs : S.length ≤ 9223372036854775807 := by simpa [ByteArray.size] using hs
  have HK := Ky.first hz.out.1 hz.out.2
  have HSan := lid' (fun W hk => kp_san w W hk)
  have HMA := lid' (fun W hk => kp_made w W hk A0 c0 m0 40 l0 h0 hm0 (by decide) (by decide) 40 rfl)
  by_cases hn : S.length ≤ 24
  · have i1 : ¬ (24 : Int) < (S.length : Int) := by omega
    generalize madeR l0 40 = a at *
    generalize hp : a.po [] = p at *
    have HL1 := lid' (fun W (hk : Hid (Ky w W)) A c (hr : Hid (Rp W W.heap.size A p)) => longestAt_any A _ c p ⟨S.toArray⟩ k W (lid' rfl) hr (lid' hk.out.t) hk.out.s (by rw [bs_size]; omega))
    have HM1 := lid' (fun W (hk : Hid (Ky w W)) A c (hr : Hid (Rp W W.heap.size A p)) => matches_any A _ c p ⟨S.toArray⟩ W (lid' rfl) hr (lid' hk.out.t) hk.out.s (by rw [bs_size]; omega))
    have HL2 := lid' (fun W A c (hr : Hid (Rp W W.heap.size A p)) => rlongest_any A _ c p S (by omega) k W (lid' rfl) hr)
    have HM2 := lid' (fun W A c (hr : Hid (Rp W W.heap.size A p)) => rmatches_any A _ c p S (by omega) W (lid' rfl) hr)
    have HP1 := lid' (fun W A c (hr : Hid (Rp W W.heap.size A p)) => print_any A _ c p W (lid' rfl) hr)
    have HP2 := lid' (fun W A c (hr : Hid (Rp W W.heap.size A p)) => rprint_any A _ c p W (lid' rfl) hr)
    have HC1 := lid' (fun W A c (hr : Hid (Rp W W.heap.size A p)) => pcheck_any A _ c p W (lid' rfl) hr)
    have HC2 := lid' (fun W A c (hr : Hid (Rp W W.heap.size A p)) => qpcheck_any A _ c p W (lid' rfl) hr)
    clear hz h0 hm0 hk hs hp
    have hll : (⟨S.toArray⟩ : ByteArray).data.toList = S := rfl
    rw [hll] at HL1 HM1
    generalize (loP p S k).1 = x1 at *
    generalize (loP p S k).2 = x2 at *
    generalize maP p S = mB at *
    generalize prS p = T at *
    generalize chP p = z at *
    generalize p.length = pn at *
    go_enter Tryz.func3, Tryz.ntmps3
    go_wp2_with fail
    with_reducible refine (HSan.out w HK).mono ?_
    rintro e w1 ⟨rfl, b1⟩
    replace HK := Ky.later HK b1
    clear b1 HSan
    go_wp2_with fail
    with_reducible refine (HMA.out w1 HK).mono ?_
    rintro e w2 ⟨A2, c2, rfl, HP, b2⟩
    replace HK := Ky.later HK b2
    clear b2 HMA
    go_wp2_with fail
    with_reducible refine (HL1.out w2 HK _ _ HP).mono ?_
    rintro e w3 ⟨rfl, b3⟩
    replace HK := Ky.later HK (lid' b3)
    replace HP := Rp.lat HP (lid' b3)
    clear b3 HL1
    go_wp2_with fail
    with_reducible refine (HL2.out w3 _ _ HP).mono ?_
    rintro e w4 ⟨rfl, b4⟩
    replace HK := Ky.later HK b4
    replace HP := Rp.lat HP b4
    clear b4 HL2
    go_wp2_with fail
    with_reducible refine (HP1.out w4 _ _ HP).mono ?_
    rintro e w5 ⟨rfl, b5⟩
    replace HK := Ky.later HK (lid' b5)
    replace HP := Rp.lat HP (lid' b5)
    clear b5 HP1
    go_wp2_with fail
    with_reducible refine (HP2.out w5 _ _ HP).mono ?_
    rintro e w6 ⟨rfl, b6⟩
    replace HK := Ky.later HK b6
    replace HP := Rp.lat HP b6
    clear b6 HP2
    go_wp2_with fail
    with_reducible refine (HC1.out w6 _ _ HP).mono ?_
    rintro e w7 ⟨rfl, b7⟩
    replace HK := Ky.later HK (lid' b7)
    replace HP := Rp.lat HP (lid' b7)
    clear b7 HC1
    go_wp2_with fail
    with_reducible refine (HC2.out w7 _ _ HP).mono ?_
    rintro e w8 ⟨rfl, b8⟩
    replace HK := Ky.later HK (lid' b8)
    replace HP := Rp.lat HP (lid' b8)
    clear b8 HC2
    go_wp2_with fail
    with_reducible refine (HM1.out w8 HK _ _ HP).mono ?_
    rintro e w9 ⟨rfl, b9⟩
    replace HK := Ky.later HK (lid' b9)
    replace HP := Rp.lat HP (lid' b9)
    clear b9 HM1
    go_wp2_with fail
    with_reducible refine (HM2.out w9 _ _ HP).mono ?_
    rintro e wA ⟨rfl, bA⟩
    replace HK := Ky.later HK bA
    clear bA HM2
    go_wp2
    go_ret
    exact ⟨rfl, HK.out.b⟩
  · have i1 : (24 : Int) < (S.length : Int) := by omega
    clear hz hn hs hk
    go_enter Tryz.func3, Tryz.ntmps3
    go_wp2_with fail
    with_reducible refine (HSan.out w HK).mono ?_
    rintro e w1 ⟨rfl, b1⟩
    replace HK := Ky.later HK b1
    clear b1 HSan
    go_wp2_with fail
    with_reducible refine (HMA.out w1 HK).mono ?_
    rintro e w2 ⟨A2, c2, rfl, HP, b2⟩
    replace HK := Ky.later HK b2
    clear b2 HMA
    go_wp2
    go_ret
    exact ⟨rfl, HK.out.b⟩

end Go.Proofs.YtfkljlncnfeklaaGreatDoor
