/-
  The law FormulaAnyDiagram returns true.
-/
import Derived.Test.YtkconfadhcomnaaDoorFSanM
import Derived.Test.YtkconfadhcomnaaDoorFQOfM
namespace Go.Proofs.YtkconfadhcomnaaDoor
open Go.RowKit Dg St
set_option linter.unusedVariables false
set_option linter.unusedSimpArgs false
attribute [local go_sem ↓] Go.wp_at_zero Go.wp_at_succ

set_option maxHeartbeats 8000000 in
set_option maxRecDepth 100000 in
theorem lawAny_walk (A : Option Addr) (m c : Nat) (l : List Bi) (r : Int) (w : World) (h0 : Hid (m ≤ 40 → DOk w ⟨A, m, c, l, r⟩)) :
    Calls Tryd.prog 5 #[.agg #[.slice A m c, .int .i64 r]] w fun e w' => e = .returned (.bool true) ∧ Below w.heap.size w w' := by
  have X0 := nb2 w (.slice A m c) (.int .i64 r) 40
  have HB0 := Lib.hid (ab2 w (.cells #[.slice A m c, .int .i64 r] 40))
  have HSAN := Lib.hid (fsanity_ok (w.alloc (.cells #[.slice A m c, .int .i64 r] 40)))
  by_cases h12 : m ≤ 12
  rotate_left
  · have i1 : (12 : Int) < (m : Int) := by omega
    clear h0
    go_enter Tryd.func5, Tryd.ntmps5
    go_wp2_with fail
    generalize w.alloc (.cells #[.slice A m c, .int .i64 r] 40) = w1 at *
    with_reducible refine HSAN.out.mono ?_
    rintro e w2 ⟨rfl, b2⟩
    have X2 := rb2 X0 b2
    have HB2 := btr HB0 b2 HB0.out.size
    clear b2 X0 HB0 HSAN
    obtain ⟨x0, x1, xn⟩ := xb2 X2
    go_wp2
    go_ret
    exact ⟨rfl, HB2.out⟩
  have i1 : ¬ (12 : Int) < (m : Int) := by omega
  have hd : Hid (DOk w ⟨A, m, c, l, r⟩) := Lib.hid (h0.out (by omega))
  obtain ⟨⟨V1, V2⟩, hv5, hcs, hof⟩ := of_both m c A l r w hd (by omega)
  have HF : Hid (∀ W, Below w.heap.size w W → Calls Tryd.prog 19 #[.agg #[.slice A m c, .int .i64 r]] W fun e w' => PsR W w' (V1, V2) e) := Lib.hid (fun W hW => (hof W hW).1)
  have HQ : Hid (∀ W, Below w.heap.size w W → Calls Tryd.prog 20 #[.agg #[.slice A m c, .int .i64 r]] W fun e w' => PsR W w' (V1, V2) e) := Lib.hid (fun W hW => (hof W hW).2)
  have HCK : Hid (∀ W, Below w.heap.size w W → Calls Tryd.prog 21 #[.agg #[.slice A m c, .int .i64 r]] W fun e w' => e = .returned (.int .i64 (chk l r)) ∧ Below W.heap.size W w') := Lib.hid (fun W hW => by
    have d2 := hd.out.below hW
    exact check_any l r m c A W (Lib.hid d2.rd) (Lib.hid d2.wi) (Lib.hid d2.len) d2.lm d2.mc (Lib.hid d2.ri))
  have HSM : Hid (∀ (A1 A2 : Option Addr) (c1 c2 : Nat) (W : World), Rf W W.heap.size A1 V1 → Rf W W.heap.size A2 V1 → Calls Tryd.prog 18 #[.slice A1 V1.length c1, .slice A2 V1.length c2] W fun e w' => e = .returned (.bool true) ∧ Below W.heap.size W w') := Lib.hid (fun A1 A2 c1 c2 W h1 h2 => by
    have := qsame_any A1 A2 V1.length c1 V1.length c2 V1 V1 W (Lib.hid rfl) (Lib.hid rfl) (by have : V1.length ≤ 512 := hv5; omega) (Lib.hid h1) (Lib.hid h2)
    rw [decide_eq_true (rfl : V1 = V1)] at this
    exact this)
  obtain ⟨k, hk⟩ : ∃ k, chk l r = k := ⟨_, rfl⟩
  rw [hk] at HCK hcs
  clear hk h0 hd hof hv5
  obtain ⟨n, hn⟩ : ∃ n, V1.length = n := ⟨_, rfl⟩
  have HN := Lib.hid hn
  rw [hn] at HSM
  clear hn
  rcases hcs with ⟨rfl, rfl | rfl⟩ | ⟨rfl, rfl⟩
  all_goals
    go_enter Tryd.func5, Tryd.ntmps5
    go_wp2_with fail
    generalize w.alloc (.cells #[.slice A m c, .int .i64 r] 40) = w1 at *
    with_reducible refine HSAN.out.mono ?_
    rintro e w2 ⟨rfl, b2⟩
    have X2 := rb2 X0 b2
    have HB2 := btr HB0 b2 HB0.out.size
    clear b2 X0 HB0 HSAN
    obtain ⟨x0, x1, xn⟩ := xb2 X2
    go_wp2_with fail
    with_reducible refine (HF.out w2 HB2.out).mono ?_
    rintro e w3 ⟨A1, m1, c1, rfl, hl1, hc1, hr1, b3⟩
    obtain rfl : n = m1 := HN.out.symm.trans hl1
    have R1 := Lib.hid hr1
    have X3 := rb2 X2 b3
    have HB3 := btr HB2 b3 HB2.out.size
    clear b3 x0 x1 xn X2 HB2 hl1 hc1 hr1 HF
    obtain ⟨x0, x1, xn⟩ := xb2 X3
    go_wp2_with fail
    with_reducible refine (HQ.out w3 HB3.out).mono ?_
    rintro e w4 ⟨A2, m2, c2, rfl, hl2, hc2, hr2, b4⟩
    obtain rfl : n = m2 := HN.out.symm.trans hl2
    have R2 := Lib.hid hr2
    replace R1 := Lib.hid ((R1.out.below b4).mono b4.size)
    have X4 := rb2 X3 b4
    have HB4 := btr HB3 b4 HB3.out.size
    clear b4 x0 x1 xn X3 HB3 hl2 hc2 hr2 HQ
    obtain ⟨x0, x1, xn⟩ := xb2 X4
    go_wp2_with fail
    with_reducible refine (HSM.out A1 A2 c1 c2 w4 R1.out R2.out).mono ?_
    rintro e w5 ⟨rfl, b5⟩
    have X5 := rb2 X4 b5
    have HB5 := btr HB4 b5 HB4.out.size
    clear b5 x0 x1 xn X4 HB4 R1 R2 HSM
    obtain ⟨x0, x1, xn⟩ := xb2 X5
    go_wp2_with fail
    with_reducible refine (HCK.out w5 HB5.out).mono ?_
    rintro e w6 ⟨rfl, b6⟩
    have HB6 := btr HB5 b6 HB5.out.size
    clear b6 x0 x1 xn X5 HB5 HCK
    go_wp2
    go_ret
    exact ⟨rfl, HB6.out⟩

end Go.Proofs.YtkconfadhcomnaaDoor
