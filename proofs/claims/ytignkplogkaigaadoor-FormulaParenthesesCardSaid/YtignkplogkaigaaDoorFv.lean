/-
  Plain mathematics and contracts of package diagram, several texts in one: FLawRt.
-/
import Derived.Test.YtignkplogkaigaaDoorFq
import Derived.Test.YtignkplogkaigaaDoorFt
import Derived.Test.YtignkplogkaigaaDoorFn

/-! The law FormulaRoundTrip returns true. -/
namespace Go.Proofs.YtignkplogkaigaaDoor
open Go.RowKit Dg St
set_option linter.unusedVariables false
set_option linter.unusedSimpArgs false
attribute [local go_sem ↓] Go.wp_at_zero Go.wp_at_succ

/-- what the calls of a law over a made formula answer: the names at block q -/
structure TxC (F : List Fi) (T : ByteArray) : Prop where
  print : ∀ (W : World) (q : Nat) (A : Option Addr) (c : Nat), F.length ≤ c → Rf W W.heap.size A F → Rstr W W.heap.size (some ⟨q, 0, none⟩) L12 →
    Calls Tryd.prog 10 #[.slice (some ⟨q, 0, none⟩) 12 12, .slice A F.length c] W fun e w' => e = .returned (.tuple #[.string T, .int .i64 0]) ∧ Below W.heap.size W w'
  parse : ∀ (W : World) (q : Nat), Rstr W W.heap.size (some ⟨q, 0, none⟩) L12 →
    Calls Tryd.prog 16 #[.slice (some ⟨q, 0, none⟩) 12 12, .string T] W fun e w' => PsR W w' (poF F, 0) e
  print2 : ∀ (W : World) (q : Nat) (A : Option Addr) (c : Nat), (poF F).length ≤ c → Rf W W.heap.size A (poF F) → Rstr W W.heap.size (some ⟨q, 0, none⟩) L12 →
    Calls Tryd.prog 10 #[.slice (some ⟨q, 0, none⟩) 12 12, .slice A (poF F).length c] W fun e w' => e = .returned (.tuple #[.string T, .int .i64 0]) ∧ Below W.heap.size W w'
  post : ∀ (W : World) (A : Option Addr) (c : Nat), Rf W W.heap.size A F →
    Calls Tryd.prog 24 #[.slice A F.length c] W fun e w' => ∃ A' c', e = .returned (.slice A' (poF F).length c') ∧ Rf w' w'.heap.size A' (poF F) ∧ Below W.heap.size W w'
  same : ∀ (W : World) (A1 A2 : Option Addr) (c1 c2 : Nat), Rf W W.heap.size A1 (poF F) → Rf W W.heap.size A2 (poF F) →
    Calls Tryd.prog 18 #[.slice A1 (poF F).length c1, .slice A2 (poF F).length c2] W fun e w' => e = .returned (.bool true) ∧ Below W.heap.size W w'
theorem txc {F : List Fi} {T : ByteArray} (h : okF F) (t : TxF F T) : TxC F T := by
  have h2 := h.2.1
  have h3 := poF_len h
  refine ⟨fun W q A c hc hr hs => ?_, fun W q hs => ?_, fun W q A c hc hr hs => ?_, fun W A c hr => ?_, fun W A1 A2 c1 c2 h1 h2 => ?_⟩
  · have := fprint_any (some ⟨q, 0, none⟩) 12 12 A F.length c F L12 W (Lib.hid rfl) (Lib.hid rfl) (by omega) (by omega) (Nat.le_refl _) hc (Lib.hid L12_size) (Lib.hid hr) (Lib.hid hs)
    rw [t.prt, t.err] at this
    exact this
  · have := fparse_any (some ⟨q, 0, none⟩) 12 12 L12 T W (Lib.hid rfl) (by omega) (Nat.le_refl _) (Lib.hid L12_size) (Lib.hid hs) (by have := t.siz; omega)
    rw [t.prs] at this
    exact this
  · have := fprint_any (some ⟨q, 0, none⟩) 12 12 A (poF F).length c (poF F) L12 W (Lib.hid rfl) (Lib.hid rfl) (by omega) (by omega) (Nat.le_refl _) hc (Lib.hid L12_size) (Lib.hid hr) (Lib.hid hs)
    rw [t.prt2, t.err2] at this
    exact this
  · refine (qpost A F.length c F W (Lib.hid rfl) (Lib.hid hr) h).mono ?_
    rintro e w' ⟨A', n, c', rfl, hn, _, hr', hb⟩
    subst hn
    exact ⟨A', c', rfl, hr', hb⟩
  · have := qsame_any A1 A2 (poF F).length c1 (poF F).length c2 (poF F) (poF F) W (Lib.hid rfl) (Lib.hid rfl) (by omega) (Lib.hid h1) (Lib.hid h2)
    rw [decide_eq_true (rfl : poF F = poF F)] at this
    exact this
theorem qlet12 (w : World) : Calls Tryd.prog 22 #[.int .i64 12] w fun e w' => ∃ q, e = .returned (.slice (some ⟨q, 0, none⟩) 12 12) ∧ Rstr w' w'.heap.size (some ⟨q, 0, none⟩) L12 ∧ Below w.heap.size w w' :=
  qletters 12 w (Nat.le_refl _)
/-- Made in the laws -/
theorem lmadeF (A : Option Addr) (c nn k : Nat) (l : List Nat) (w W : World) (h8 : Hid (B8 w w.heap.size A nn l)) (hnn : nn ≤ 9223372036854775807) (hk : k ≤ 63) (hW : Below w.heap.size w W) :
    Calls Tryd.prog 23 #[.slice A nn c, .int .i64 (1 + (k : Int))] W fun e w' => ∃ A' c', e = .returned (.slice A' (made l (1 + k)).length c') ∧ (made l (1 + k)).length ≤ c' ∧ Rf w' w'.heap.size A' (made l (1 + k)) ∧ Below W.heap.size W w' := by
  have := qmade A c nn (1 + k) l W (Lib.hid ((h8.out.below hW).mono hW.size)) hnn (by omega) (by omega)
  rw [show ((1 + k : Nat) : Int) = 1 + (k : Int) by omega] at this
  refine this.mono ?_
  rintro e w' ⟨A', m, c', rfl, hm, h1, h2, h3⟩
  subst hm
  exact ⟨A', c', rfl, h1, h2, h3⟩

set_option maxHeartbeats 8000000 in
set_option maxRecDepth 100000 in
theorem lawRt_walk (A : Option Addr) (nn c : Nat) (l : List Nat) (x : Nat) (w : World) (h8 : Hid (B8 w w.heap.size A nn l)) (hnn : nn ≤ 9223372036854775807) (hx : x < 256) :
    Calls Tryd.prog 6 #[.slice A nn c, .int .u8 (x : Int)] w fun e w' => e = .returned (.bool true) ∧ Below w.heap.size w w' := by
  obtain ⟨k, hk⟩ : ∃ k, k = x % 12 := ⟨_, rfl⟩
  have ex : (x : Int).tmod 12 = (k : Int) := by rw [Int.tmod_eq_emod_of_nonneg (by omega)]; omega
  have hk12 : k ≤ 11 := by omega
  have hok := made_ok l (1 + k) (by omega) (by omega)
  obtain ⟨T, ht⟩ := txf hok (fun i hi e => by have := made_vars l (n := 1 + k) (by omega) i hi e; omega)
  have HC := Lib.hid (txc hok ht)
  have HMD := Lib.hid (fun W (hW : Below w.heap.size w W) => lmadeF A c nn k l w W h8 hnn (by omega) hW)
  have HSAN := Lib.hid (fsanity_ok w)
  have HLT := Lib.hid (fun W => qlet12 W)
  clear hk hok ht h8 hnn
  generalize made l (1 + k) = F at *
  obtain ⟨m, hm⟩ : ∃ m, F.length = m := ⟨_, rfl⟩
  obtain ⟨p, hp⟩ : ∃ p, (poF F).length = p := ⟨_, rfl⟩
  have HC1 := Lib.hid HC.out.print
  have HC2 := Lib.hid HC.out.parse
  have HC3 := Lib.hid HC.out.print2
  have HC4 := Lib.hid HC.out.post
  have HC5 := Lib.hid HC.out.same
  rw [hm] at HC1 HC4 HMD
  rw [hp] at HC3 HC4 HC5
  have HP := Lib.hid hp
  clear HC hm hp
  go_enter Tryd.func6, Tryd.ntmps6
  go_wp2_with fail
  with_reducible refine HSAN.out.mono ?_
  rintro e w1 ⟨rfl, b1⟩
  have HB1 := Lib.hid b1
  clear b1 HSAN
  go_wp2_with fail
  with_reducible refine (HLT.out w1).mono ?_
  rintro e w2 ⟨q, rfl, hs2, b2⟩
  have HS2 : Hid (Rstr w2 w2.heap.size (some ⟨q, 0, none⟩) L12) := Lib.hid hs2
  have HB2 := btr HB1 b2 HB1.out.size
  clear hs2 b2 HB1 HLT
  go_wp2_with fail
  with_reducible refine (HMD.out w2 HB2.out).mono ?_
  rintro e w3 ⟨A3, c3, rfl, hc3, hr3, b3⟩
  have HR3 := Lib.hid hr3
  have HS3 := Lib.hid ((HS2.out.below b3).mono b3.size)
  have HB3 := btr HB2 b3 HB2.out.size
  clear hr3 b3 HB2 HS2 HMD
  go_wp2_with fail
  with_reducible refine (HC1.out w3 q A3 c3 hc3 HR3.out HS3.out).mono ?_
  rintro e w4 ⟨rfl, b4⟩
  have HR4 := Lib.hid ((HR3.out.below b4).mono b4.size)
  have HS4 := Lib.hid ((HS3.out.below b4).mono b4.size)
  have HB4 := btr HB3 b4 HB3.out.size
  clear b4 HB3 HS3 HR3 HC1
  go_wp2_with fail
  with_reducible refine (HC2.out w4 q HS4.out).mono ?_
  rintro e w5 ⟨A5, m5, c5, rfl, hl5, hc5, hr5, b5⟩
  obtain rfl : p = m5 := HP.out.symm.trans hl5
  have HP5 := Lib.hid hr5
  have HR5 := Lib.hid ((HR4.out.below b5).mono b5.size)
  have HS5 := Lib.hid ((HS4.out.below b5).mono b5.size)
  have HB5 := btr HB4 b5 HB4.out.size
  clear hl5 hr5 b5 HB4 HS4 HR4 HC2
  go_wp2_with fail
  with_reducible refine (HC3.out w5 q A5 c5 hc5 HP5.out HS5.out).mono ?_
  rintro e w6 ⟨rfl, b6⟩
  have HP6 := Lib.hid ((HP5.out.below b6).mono b6.size)
  have HR6 := Lib.hid ((HR5.out.below b6).mono b6.size)
  have HB6 := btr HB5 b6 HB5.out.size
  clear b6 HB5 HS5 HR5 HP5 HC3
  go_wp2_with fail
  with_reducible refine (HC4.out w6 A3 c3 HR6.out).mono ?_
  rintro e w7 ⟨A7, c7, rfl, hr7, b7⟩
  have HP7 := Lib.hid ((HP6.out.below b7).mono b7.size)
  have HQ7 := Lib.hid hr7
  have HB7 := btr HB6 b7 HB6.out.size
  clear hr7 b7 HB6 HR6 HP6 HC4
  go_wp2_with fail
  with_reducible refine (HC5.out w7 A5 A7 c5 c7 HP7.out HQ7.out).mono ?_
  rintro e w8 ⟨rfl, b8⟩
  have HB8 := btr HB7 b8 HB7.out.size
  clear b8 HB7 HP7 HQ7 HC5
  go_wp2
  go_ret
  exact ⟨rfl, HB8.out⟩

end Go.Proofs.YtignkplogkaigaaDoor
