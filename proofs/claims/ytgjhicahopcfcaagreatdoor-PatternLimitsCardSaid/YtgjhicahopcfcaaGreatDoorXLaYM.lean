/-
  The law PatternSyntaxMatchesReference returns true. (Seat of the great laws.)
-/
import Derived.Test.YtgjhicahopcfcaaGreatDoorPt
import Derived.Test.YtgjhicahopcfcaaGreatDoorPx
namespace Go.Proofs.YtgjhicahopcfcaaGreatDoor
open Go.RowKit Go.Shelf
set_option linter.unusedVariables false
set_option linter.unusedSimpArgs false
attribute [local go_sem ↓] Go.wp_at_zero Go.wp_at_succ

theorem prs_small (S : List UInt8) : (prsP S).1.length ≤ 1000000 := by
  unfold prsP
  split
  · exact Nat.zero_le _
  · split
    · exact Nat.zero_le _
    · split
      · split
        · exact Nat.zero_le _
        · rename_i r _ h
          have := po_len r []
          rw [List.length_nil] at this
          show (r.po []).length ≤ _
          omega
      · exact Nat.zero_le _
theorem k_par {f : Nat} {S : List UInt8} {w : World} (h : Calls Tryz.prog f #[.string ⟨S.toArray⟩] w fun e w' => ParR w w' S e) {pn : Nat} (hn : (prsP S).1.length = pn) {z : Int} (hz : (prsP S).2 = z) : Calls Tryz.prog f #[.string ⟨S.toArray⟩] w fun e w' => ∃ A c, e = .returned (.tuple #[.slice A pn c, .int .i64 z]) ∧ Hid (Rp w' w'.heap.size A (prsP S).1) ∧ Hid (Below w.heap.size w w') :=
  h.mono fun e w' q => by
    subst hn
    subst hz
    obtain ⟨v, h1, h2, h3⟩ := q
    obtain ⟨A, c, rfl, hr⟩ := rp_own h2 rfl
    exact ⟨A, c, h1, lid' hr, lid' h3⟩
set_option maxHeartbeats 8000000 in
set_option maxRecDepth 100000 in
theorem lawY_walk (s : ByteArray) (w : World) (hs : s.size ≤ 9223372036854775807) (hz : Hid (Tz w ∧ 2 < w.heap.size)) :
    Calls Tryz.prog 5 #[.string s] w fun e w' => e = .returned (.bool true) ∧ Below w.heap.size w w' := by
  obtain ⟨S, rfl⟩ : ∃ S : List UInt8, s = ⟨S.toArray⟩ := ⟨s.data.toList, by cases s; simp⟩
  replace hs : S.length ≤ 9223372036854775807 := by simpa [ByteArray.size] using hs
  have HK := Ky.first hz.out.1 hz.out.2
  have HSan := lid' (fun W hk => kp_san w W hk)
  have hsm := prs_small S
  obtain ⟨pn, hpn⟩ : ∃ n, (prsP S).1.length = n := ⟨_, rfl⟩
  obtain ⟨z, hzz⟩ : ∃ z, (prsP S).2 = z := ⟨_, rfl⟩
  have HP := lid' (fun W => k_par (parse_any ⟨S.toArray⟩ W) hpn hzz)
  have HQ := lid' (fun W => k_par (rparse_any S W) hpn hzz)
  have HS : Hid (∀ W A A' c c', Hid (Rp W W.heap.size A (prsP S).1) → Hid (Rp W W.heap.size A' (prsP S).1) → Calls Tryz.prog 20 #[.slice A pn c, .slice A' pn c'] W fun e w' => e = .returned (.bool true) ∧ Hid (Below W.heap.size W w')) := lid' (fun W A A' c c' h1 h2 => by
    have := psame_any A A' pn c pn c' (prsP S).1 (prsP S).1 W (lid' hpn) (lid' hpn) (by rw [← hpn]; exact hsm) h1 h2
    rw [decide_eq_true rfl] at this
    exact this.mono fun e w' q => ⟨q.1, lid' q.2⟩)
  clear hz hsm hpn hzz
  generalize (prsP S).1 = L at *
  by_cases h : S.length ≤ 200
  · have i1 : ¬ (200 : Int) < (S.length : Int) := by omega
    clear h hs
    go_enter Tryz.func5, Tryz.ntmps5
    go_wp2_with fail
    with_reducible refine (HSan.out w HK).mono ?_
    rintro e w1 ⟨rfl, b1⟩
    replace HK := Ky.later HK b1
    clear b1 HSan
    go_wp2_with fail
    with_reducible refine (HP.out w1).mono ?_
    rintro e w2 ⟨A2, c2, rfl, r2, b2⟩
    replace HK := Ky.later HK b2
    clear b2 HP
    go_wp2_with fail
    with_reducible refine (HQ.out w2).mono ?_
    rintro e w3 ⟨A3, c3, rfl, r3, b3⟩
    replace HK := Ky.later HK b3
    replace r2 := Rp.lat r2 b3
    clear b3 HQ
    go_wp2_with fail
    with_reducible refine (HS.out w3 _ _ _ _ r2 r3).mono ?_
    rintro e w4 ⟨rfl, b4⟩
    replace HK := Ky.later HK b4
    clear b4 HS
    go_wp2_with fail
    go_ret
    exact ⟨rfl, HK.out.b⟩
  · have i1 : (200 : Int) < (S.length : Int) := by omega
    clear h hs HP HQ HS
    go_enter Tryz.func5, Tryz.ntmps5
    go_wp2_with fail
    with_reducible refine (HSan.out w HK).mono ?_
    rintro e w1 ⟨rfl, b1⟩
    replace HK := Ky.later HK b1
    clear b1 HSan
    go_wp2_with fail
    go_ret
    exact ⟨rfl, HK.out.b⟩

end Go.Proofs.YtgjhicahopcfcaaGreatDoor
