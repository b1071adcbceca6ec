/-
  The law FormulaMatchesReference returns true. (Written by fmat.py.)
-/
import Derived.Test.YtkconfadhcomnaaDoorFSanM
import Derived.Test.YtkconfadhcomnaaDoorFh
import Derived.Test.YtkconfadhcomnaaDoorFi
import Derived.Test.YtkconfadhcomnaaDoorFd
namespace Go.Proofs.YtkconfadhcomnaaDoor
open Go.RowKit Dg St
set_option linter.unusedVariables false
set_option linter.unusedSimpArgs false
attribute [local go_sem ↓] Go.wp_at_zero Go.wp_at_succ

set_option maxHeartbeats 8000000 in
set_option maxRecDepth 100000 in
theorem lawFMat_walk (A : Option Addr) (m c : Nat) (l : List Fi) (NA : Option Addr) (n nc : Nat) (L : List ByteArray) (x : Nat) (w : World) (hl : Hid (l.length = m)) (hmc : m ≤ c) (hc : c ≤ maxLen) (hr : Hid (Rf w w.heap.size A l))
    (hL : Hid (L.length = n)) (hn : n ≤ nc) (hnc : nc ≤ maxLen) (hrs : Hid (Rstr w w.heap.size NA L)) (hs : Hid (∀ j, (sg L j).size ≤ 1048576)) (hx : x < 18446744073709551616) :
    Calls Tryd.prog 3 #[.slice A m c, .slice NA n nc, .int .u64 (x : Int)] w fun e w' => e = .returned (.bool true) ∧ Below w.heap.size w w' := by
  have HSAN := Lib.hid (fsanity_ok w)
  have hmx : m ≤ 9223372036854775807 := by have : maxLen ≤ 9223372036854775807 := by decide
                                           omega
  have hnx : n ≤ 9223372036854775807 := by have : maxLen ≤ 9223372036854775807 := by decide
                                           omega
  have HMC := Lib.hid hmc
  have HNC := Lib.hid hn
  clear hmc hc hn hnc
  obtain ⟨H, hH⟩ : ∃ H, w.heap.size = H := ⟨_, rfl⟩
  have HH := Lib.hid hH
  have HB : Hid (Below H w w) := Lib.hid (Below.refl _ w)
  clear hH
  rcases (show (60 < m ∧ m ≤ 512) ∨ 600 < m ∨ (m ≤ 60 ∧ 70 < n) ∨ (512 < m ∧ m ≤ 600 ∧ 70 < n) ∨ (m ≤ 60 ∧ n ≤ 70) ∨ (512 < m ∧ m ≤ 600 ∧ n ≤ 70) by omega) with g | g | g | g | g | g
  · have c1 : (60 : Int) < (m : Int) := by omega
    have c2 : (m : Int) ≤ 512 := by omega
    clear hl hr hL hrs hs HMC HNC
    go_enter Tryd.func3, Tryd.ntmps3
    go_wp2_with fail
    with_reducible refine (HSAN.out).mono ?_
    rintro e w1 ⟨rfl, b9⟩
    replace HB : Hid (Below H w _) := Lib.hid (HB.out.trans (b9.mono (by have := HB.out.size; have := HH.out; omega)))
    clear b9 HSAN
    go_wp2
    go_ret
    have h9 := HB.out
    have e9 := HH.out
    subst e9
    exact ⟨rfl, h9⟩
  · have c1 : (60 : Int) < (m : Int) := by omega
    have c2 : ¬ (m : Int) ≤ 512 := by omega
    have c3 : (600 : Int) < (m : Int) := by omega
    clear hl hr hL hrs hs HMC HNC
    go_enter Tryd.func3, Tryd.ntmps3
    go_wp2_with fail
    with_reducible refine (HSAN.out).mono ?_
    rintro e w1 ⟨rfl, b9⟩
    replace HB : Hid (Below H w _) := Lib.hid (HB.out.trans (b9.mono (by have := HB.out.size; have := HH.out; omega)))
    clear b9 HSAN
    go_wp2
    go_ret
    have h9 := HB.out
    have e9 := HH.out
    subst e9
    exact ⟨rfl, h9⟩
  · have c1 : ¬ (60 : Int) < (m : Int) := by omega
    have c3 : ¬ (600 : Int) < (m : Int) := by omega
    have c4 : (70 : Int) < (n : Int) := by omega
    clear hl hr hL hrs hs HMC HNC
    go_enter Tryd.func3, Tryd.ntmps3
    go_wp2_with fail
    with_reducible refine (HSAN.out).mono ?_
    rintro e w1 ⟨rfl, b9⟩
    replace HB : Hid (Below H w _) := Lib.hid (HB.out.trans (b9.mono (by have := HB.out.size; have := HH.out; omega)))
    clear b9 HSAN
    go_wp2
    go_ret
    have h9 := HB.out
    have e9 := HH.out
    subst e9
    exact ⟨rfl, h9⟩
  · have c1 : (60 : Int) < (m : Int) := by omega
    have c2 : ¬ (m : Int) ≤ 512 := by omega
    have c3 : ¬ (600 : Int) < (m : Int) := by omega
    have c4 : (70 : Int) < (n : Int) := by omega
    clear hl hr hL hrs hs HMC HNC
    go_enter Tryd.func3, Tryd.ntmps3
    go_wp2_with fail
    with_reducible refine (HSAN.out).mono ?_
    rintro e w1 ⟨rfl, b9⟩
    replace HB : Hid (Below H w _) := Lib.hid (HB.out.trans (b9.mono (by have := HB.out.size; have := HH.out; omega)))
    clear b9 HSAN
    go_wp2
    go_ret
    have h9 := HB.out
    have e9 := HH.out
    subst e9
    exact ⟨rfl, h9⟩
  · have c1 : ¬ (60 : Int) < (m : Int) := by omega
    have c3 : ¬ (600 : Int) < (m : Int) := by omega
    have c4 : ¬ (70 : Int) < (n : Int) := by omega
    have HP1 : Hid (∀ W : World, Rf W W.heap.size A l → Rstr W W.heap.size NA L → Calls Tryd.prog 10 #[.slice NA n nc, .slice A m c] W fun e w' => e = .returned (.tuple #[.string (prtS L l), .int .i64 (prtE L l)]) ∧ Below W.heap.size W w') := Lib.hid (fun W h1 h2 => fprint_any NA n nc A m c l L W hl hL (by omega) (by omega) HNC.out HMC.out hs (Lib.hid h1) (Lib.hid h2))
    have HP2 : Hid (∀ W : World, Rf W W.heap.size A l → Rstr W W.heap.size NA L → Calls Tryd.prog 11 #[.slice NA n nc, .slice A m c] W fun e w' => e = .returned (.tuple #[.string (prtS L l), .int .i64 (prtE L l)]) ∧ Below W.heap.size W w') := Lib.hid (fun W h1 h2 => qprint_any NA n nc A m c l L W hl hL (by omega) (by omega) HNC.out hs (Lib.hid h1) (Lib.hid h2))
    have HC1 : Hid (∀ W : World, Rf W W.heap.size A l → Calls Tryd.prog 12 #[.slice A m c] W fun e w' => e = .returned (.int .i64 (chF l)) ∧ Below W.heap.size W w') := Lib.hid (fun W h1 => fcheck_any A m c l W hl (Lib.hid h1))
    have HC2 : Hid (∀ W : World, Rf W W.heap.size A l → Calls Tryd.prog 13 #[.slice A m c] W fun e w' => e = .returned (.int .i64 (chF l)) ∧ Below W.heap.size W w') := Lib.hid (fun W h1 => qcheck_any A m c l W hl (Lib.hid h1))
    have HO1 : Hid (∀ W : World, Rf W W.heap.size A l → Calls Tryd.prog 14 #[.slice A m c, .int .u64 (x : Int)] W fun e w' => e = .returned (.bool (decide (okF l) && val l (cfg x) (m - 1))) ∧ Below W.heap.size W w') := Lib.hid (fun W h1 => fholds_any A m c l x W hl (Lib.hid h1) hx)
    have HO2 : Hid (∀ W : World, Rf W W.heap.size A l → Calls Tryd.prog 15 #[.slice A m c, .int .u64 (x : Int)] W fun e w' => e = .returned (.bool (decide (okF l) && val l (cfg x) (m - 1))) ∧ Below W.heap.size W w') := Lib.hid (fun W h1 => qholds_any A m c l x W hl (Lib.hid h1) hx)
    generalize prtS L l = S at *
    generalize prtE L l = z at *
    generalize chF l = k at *
    generalize (decide (okF l) && val l (cfg x) (m - 1)) = bb at *
    clear hl hL hs HMC HNC
    go_enter Tryd.func3, Tryd.ntmps3
    go_wp2_with fail
    with_reducible refine (HSAN.out).mono ?_
    rintro e w1 ⟨rfl, b9⟩
    replace hr := Lib.hid ((hr.out.below b9).mono b9.size)
    replace hrs := Lib.hid ((hrs.out.below b9).mono b9.size)
    replace HB : Hid (Below H w _) := Lib.hid (HB.out.trans (b9.mono (by have := HB.out.size; have := HH.out; omega)))
    clear b9 HSAN
    go_wp2_with fail
    with_reducible refine (HP1.out _ hr.out hrs.out).mono ?_
    rintro e w2 ⟨rfl, b9⟩
    replace hr := Lib.hid ((hr.out.below b9).mono b9.size)
    replace hrs := Lib.hid ((hrs.out.below b9).mono b9.size)
    replace HB : Hid (Below H w _) := Lib.hid (HB.out.trans (b9.mono (by have := HB.out.size; have := HH.out; omega)))
    clear b9 HP1
    go_wp2_with fail
    with_reducible refine (HP2.out _ hr.out hrs.out).mono ?_
    rintro e w3 ⟨rfl, b9⟩
    replace hr := Lib.hid ((hr.out.below b9).mono b9.size)
    replace hrs := Lib.hid ((hrs.out.below b9).mono b9.size)
    replace HB : Hid (Below H w _) := Lib.hid (HB.out.trans (b9.mono (by have := HB.out.size; have := HH.out; omega)))
    clear b9 HP2
    go_wp2_with fail
    with_reducible refine (HC1.out _ hr.out).mono ?_
    rintro e w4 ⟨rfl, b9⟩
    replace hr := Lib.hid ((hr.out.below b9).mono b9.size)
    replace hrs := Lib.hid ((hrs.out.below b9).mono b9.size)
    replace HB : Hid (Below H w _) := Lib.hid (HB.out.trans (b9.mono (by have := HB.out.size; have := HH.out; omega)))
    clear b9 HC1
    go_wp2_with fail
    with_reducible refine (HC2.out _ hr.out).mono ?_
    rintro e w5 ⟨rfl, b9⟩
    replace hr := Lib.hid ((hr.out.below b9).mono b9.size)
    replace hrs := Lib.hid ((hrs.out.below b9).mono b9.size)
    replace HB : Hid (Below H w _) := Lib.hid (HB.out.trans (b9.mono (by have := HB.out.size; have := HH.out; omega)))
    clear b9 HC2
    go_wp2_with fail
    with_reducible refine (HO1.out _ hr.out).mono ?_
    rintro e w6 ⟨rfl, b9⟩
    replace hr := Lib.hid ((hr.out.below b9).mono b9.size)
    replace hrs := Lib.hid ((hrs.out.below b9).mono b9.size)
    replace HB : Hid (Below H w _) := Lib.hid (HB.out.trans (b9.mono (by have := HB.out.size; have := HH.out; omega)))
    clear b9 HO1
    go_wp2_with fail
    with_reducible refine (HO2.out _ hr.out).mono ?_
    rintro e w7 ⟨rfl, b9⟩
    replace hr := Lib.hid ((hr.out.below b9).mono b9.size)
    replace hrs := Lib.hid ((hrs.out.below b9).mono b9.size)
    replace HB : Hid (Below H w _) := Lib.hid (HB.out.trans (b9.mono (by have := HB.out.size; have := HH.out; omega)))
    clear b9 HO2
    cases bb
    all_goals go_wp2
    all_goals go_ret
    all_goals have h9 := HB.out
    all_goals have e9 := HH.out
    all_goals subst e9
    all_goals exact ⟨rfl, h9⟩
  · have c1 : (60 : Int) < (m : Int) := by omega
    have c2 : ¬ (m : Int) ≤ 512 := by omega
    have c3 : ¬ (600 : Int) < (m : Int) := by omega
    have c4 : ¬ (70 : Int) < (n : Int) := by omega
    have HP1 : Hid (∀ W : World, Rf W W.heap.size A l → Rstr W W.heap.size NA L → Calls Tryd.prog 10 #[.slice NA n nc, .slice A m c] W fun e w' => e = .returned (.tuple #[.string (prtS L l), .int .i64 (prtE L l)]) ∧ Below W.heap.size W w') := Lib.hid (fun W h1 h2 => fprint_any NA n nc A m c l L W hl hL (by omega) (by omega) HNC.out HMC.out hs (Lib.hid h1) (Lib.hid h2))
    have HP2 : Hid (∀ W : World, Rf W W.heap.size A l → Rstr W W.heap.size NA L → Calls Tryd.prog 11 #[.slice NA n nc, .slice A m c] W fun e w' => e = .returned (.tuple #[.string (prtS L l), .int .i64 (prtE L l)]) ∧ Below W.heap.size W w') := Lib.hid (fun W h1 h2 => qprint_any NA n nc A m c l L W hl hL (by omega) (by omega) HNC.out hs (Lib.hid h1) (Lib.hid h2))
    have HC1 : Hid (∀ W : World, Rf W W.heap.size A l → Calls Tryd.prog 12 #[.slice A m c] W fun e w' => e = .returned (.int .i64 (chF l)) ∧ Below W.heap.size W w') := Lib.hid (fun W h1 => fcheck_any A m c l W hl (Lib.hid h1))
    have HC2 : Hid (∀ W : World, Rf W W.heap.size A l → Calls Tryd.prog 13 #[.slice A m c] W fun e w' => e = .returned (.int .i64 (chF l)) ∧ Below W.heap.size W w') := Lib.hid (fun W h1 => qcheck_any A m c l W hl (Lib.hid h1))
    have HO1 : Hid (∀ W : World, Rf W W.heap.size A l → Calls Tryd.prog 14 #[.slice A m c, .int .u64 (x : Int)] W fun e w' => e = .returned (.bool (decide (okF l) && val l (cfg x) (m - 1))) ∧ Below W.heap.size W w') := Lib.hid (fun W h1 => fholds_any A m c l x W hl (Lib.hid h1) hx)
    have HO2 : Hid (∀ W : World, Rf W W.heap.size A l → Calls Tryd.prog 15 #[.slice A m c, .int .u64 (x : Int)] W fun e w' => e = .returned (.bool (decide (okF l) && val l (cfg x) (m - 1))) ∧ Below W.heap.size W w') := Lib.hid (fun W h1 => qholds_any A m c l x W hl (Lib.hid h1) hx)
    generalize prtS L l = S at *
    generalize prtE L l = z at *
    generalize chF l = k at *
    generalize (decide (okF l) && val l (cfg x) (m - 1)) = bb at *
    clear hl hL hs HMC HNC
    go_enter Tryd.func3, Tryd.ntmps3
    go_wp2_with fail
    with_reducible refine (HSAN.out).mono ?_
    rintro e w1 ⟨rfl, b9⟩
    replace hr := Lib.hid ((hr.out.below b9).mono b9.size)
    replace hrs := Lib.hid ((hrs.out.below b9).mono b9.size)
    replace HB : Hid (Below H w _) := Lib.hid (HB.out.trans (b9.mono (by have := HB.out.size; have := HH.out; omega)))
    clear b9 HSAN
    go_wp2_with fail
    with_reducible refine (HP1.out _ hr.out hrs.out).mono ?_
    rintro e w2 ⟨rfl, b9⟩
    replace hr := Lib.hid ((hr.out.below b9).mono b9.size)
    replace hrs := Lib.hid ((hrs.out.below b9).mono b9.size)
    replace HB : Hid (Below H w _) := Lib.hid (HB.out.trans (b9.mono (by have := HB.out.size; have := HH.out; omega)))
    clear b9 HP1
    go_wp2_with fail
    with_reducible refine (HP2.out _ hr.out hrs.out).mono ?_
    rintro e w3 ⟨rfl, b9⟩
    replace hr := Lib.hid ((hr.out.below b9).mono b9.size)
    replace hrs := Lib.hid ((hrs.out.below b9).mono b9.size)
    replace HB : Hid (Below H w _) := Lib.hid (HB.out.trans (b9.mono (by have := HB.out.size; have := HH.out; omega)))
    clear b9 HP2
    go_wp2_with fail
    with_reducible refine (HC1.out _ hr.out).mono ?_
    rintro e w4 ⟨rfl, b9⟩
    replace hr := Lib.hid ((hr.out.below b9).mono b9.size)
    replace hrs := Lib.hid ((hrs.out.below b9).mono b9.size)
    replace HB : Hid (Below H w _) := Lib.hid (HB.out.trans (b9.mono (by have := HB.out.size; have := HH.out; omega)))
    clear b9 HC1
    go_wp2_with fail
    with_reducible refine (HC2.out _ hr.out).mono ?_
    rintro e w5 ⟨rfl, b9⟩
    replace hr := Lib.hid ((hr.out.below b9).mono b9.size)
    replace hrs := Lib.hid ((hrs.out.below b9).mono b9.size)
    replace HB : Hid (Below H w _) := Lib.hid (HB.out.trans (b9.mono (by have := HB.out.size; have := HH.out; omega)))
    clear b9 HC2
    go_wp2_with fail
    with_reducible refine (HO1.out _ hr.out).mono ?_
    rintro e w6 ⟨rfl, b9⟩
    replace hr := Lib.hid ((hr.out.below b9).mono b9.size)
    replace hrs := Lib.hid ((hrs.out.below b9).mono b9.size)
    replace HB : Hid (Below H w _) := Lib.hid (HB.out.trans (b9.mono (by have := HB.out.size; have := HH.out; omega)))
    clear b9 HO1
    go_wp2_with fail
    with_reducible refine (HO2.out _ hr.out).mono ?_
    rintro e w7 ⟨rfl, b9⟩
    replace hr := Lib.hid ((hr.out.below b9).mono b9.size)
    replace hrs := Lib.hid ((hrs.out.below b9).mono b9.size)
    replace HB : Hid (Below H w _) := Lib.hid (HB.out.trans (b9.mono (by have := HB.out.size; have := HH.out; omega)))
    clear b9 HO2
    cases bb
    all_goals go_wp2
    all_goals go_ret
    all_goals have h9 := HB.out
    all_goals have e9 := HH.out
    all_goals subst e9
    all_goals exact ⟨rfl, h9⟩

end Go.Proofs.YtkconfadhcomnaaDoor
