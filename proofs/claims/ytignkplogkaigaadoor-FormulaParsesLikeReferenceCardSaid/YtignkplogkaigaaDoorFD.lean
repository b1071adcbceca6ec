/-
  Plain mathematics and contracts of package diagram, several texts in one: FRps, FLawPs.
-/
import Derived.Test.YtignkplogkaigaaDoorFC
import Derived.Test.YtignkplogkaigaaDoorFe
import Derived.Test.YtignkplogkaigaaDoorFo
import Derived.Test.YtignkplogkaigaaDoorFn

/-! The reference's Parse; the law FormulaParsesLikeReference returns true. -/
namespace Go.Proofs.YtignkplogkaigaaDoor
open Go.RowKit Dg St
set_option linter.unusedVariables false
set_option linter.unusedSimpArgs false
attribute [local go_sem ↓] Go.wp_at_zero Go.wp_at_succ

/-- the parsing methods with enough fuel -/
theorem rp_all (B g : Nat) (NA TA : Option Addr) (nn nc m mc : Nat) (L TL : List ByteArray) (w0 : World) (hk : Hid (RpK w0 B NA TA L TL)) (hm : Hid (TL.length = m)) (hm6 : m ≤ 10000) (hL : Hid (L.length = nn)) (hnn : nn ≤ 1000000) :
    ∀ n, RpC 95 (rqF (L8 L) n) n B g (.slice NA nn nc) (.slice TA m mc) TL w0 ∧ RpC 44 (rqE (L8 L) n) n B g (.slice NA nn nc) (.slice TA m mc) TL w0
  | 0 => ⟨fun _ _ _ _ _ _ _ _ _ h => by omega, fun _ _ _ _ _ _ _ _ _ h => by omega⟩
  | n + 1 => by
    obtain ⟨h1, h2⟩ := rp_all B g NA TA nn nc m mc L TL w0 hk hm hm6 hL hnn n
    have h3 := rfact n B g NA TA nn nc m mc L TL w0 hk hm hm6 hL hnn (Lib.hid h1) (Lib.hid h2)
    have h4 := rconj (rqF (L8 L) (n + 1)) (n + 1) B g NA TA nn nc m mc L TL w0 hk hm hm6 (Lib.hid h3)
    exact ⟨h3, rexpr (sqq 4 [38, 38] (rqF (L8 L) (n + 1))) (n + 1) B g NA TA nn nc m mc L TL w0 hk hm hm6 (Lib.hid h4)⟩
/-- the prsV of a text is what the reference answers -/
theorem prsV_tk {L : List ByteArray} {t : List UInt8} {ts : Tks} (h : nmsOK L) (hk : Tk ts t) : prsV L t = refT (L8 L) ts := by
  unfold prsV
  rw [if_neg (fun q => q h)]
  have := stV_tk (L8 L) hk
  unfold stV at this
  exact this
theorem prsV_none {L : List ByteArray} {t : List UInt8} (h : nmsOK L) (hk : ∀ ts, ¬ Tk ts t) : prsV L t = ([], 31) := by
  unfold prsV
  rw [if_neg (fun q => q h)]
  have := stV_none (L8 L) hk
  unfold stV at this
  exact this
theorem prsV_bad {L : List ByteArray} {t : List UInt8} (h : ¬ nmsOK L) : prsV L t = ([], 1) := if_pos h

set_option maxHeartbeats 8000000 in
set_option maxRecDepth 100000 in
theorem rparse (NA : Option Addr) (n nc : Nat) (L : List ByteArray) (t : ByteArray) (w : World) (hL : Hid (L.length = n)) (hn : n ≤ 1000000) (hnc : n ≤ nc) (hs : Hid (∀ j, (sg L j).size ≤ 9223372036854775807)) (hrs : Hid (Rstr w w.heap.size NA L)) (ht : t.size ≤ 3000) :
    Calls Tryd.prog 17 #[.slice NA n nc, .string t] w fun e w' => PsR w w' (prsV L t.data.toList) e := by
  have HV := Lib.hid (qnames_any NA n nc L w hL hn hnc (Lib.hid (fun j => by have := hs.out j; omega)) hrs)
  by_cases h1 : nmsOK L
  rotate_left
  · have HR : Hid (prsV L t.data.toList = ([], 1)) := Lib.hid (prsV_bad h1)
    rw [decide_eq_false h1] at HV
    clear h1 hrs hs
    go_enter Tryd.func17, Tryd.ntmps17
    go_wp2_with fail
    with_reducible refine HV.out.mono ?_
    rintro e w0 ⟨rfl, b0⟩
    go_wp2
    go_ret2
    exact PsR.nil HR.out b0
  rw [decide_eq_true h1] at HV
  have HTK := Lib.hid (fun W => rtokens t W (by omega))
  have HN1 := Lib.hid h1
  clear h1
  obtain ⟨V, hV⟩ : ∃ V, V = prsV L t.data.toList := ⟨_, rfl⟩
  rw [← hV]
  have HVV := Lib.hid hV
  clear hV
  go_enter Tryd.func17, Tryd.ntmps17
  go_wp2_with fail
  with_reducible refine HV.out.mono ?_
  rintro e w1 ⟨rfl, b1⟩
  have HB1 := Lib.hid b1
  clear b1 HV
  go_wp2_with fail
  with_reducible refine (HTK.out w1).mono ?_
  rintro e w2 ⟨b2, hA⟩
  have HB2 := btr HB1 b2 HB1.out.size
  clear b2 HTK
  rcases hA with ⟨TL, TA, mc, rfl, hk, hR, hl, hz⟩ | ⟨hno, rfl⟩
  rotate_left
  · have HR : Hid (V = ([], 31)) := Lib.hid (HVV.out.trans (prsV_none HN1.out hno))
    clear hno HVV HN1 hrs hs
    go_wp2
    go_ret2
    exact PsR.nil HR.out HB2.out
  have HVT : Hid (V = refT (L8 L) (tksAt TL 0)) := Lib.hid (HVV.out.trans (prsV_tk HN1.out hk))
  obtain ⟨m, hm⟩ : ∃ m, TL.length = m := ⟨_, rfl⟩
  rw [hm]
  have HM := Lib.hid hm
  have hm3 : m ≤ 3000 := by omega
  have HNS := Lib.hid ((hrs.out.below HB2.out).mono HB2.out.size)
  have HTS := Lib.hid hR
  have HZ : Hid (∀ j, (sg TL j).size ≤ 1000000) := Lib.hid (fun j => by
    by_cases q : j < TL.length
    · have := hz _ (List.getElem_mem q)
      unfold sg
      rw [List.getD_eq_getElem?_getD, List.getElem?_eq_getElem q, Option.getD_some]
      omega
    · unfold sg
      rw [List.getD_eq_getElem?_getD, List.getElem?_eq_none (by omega)]
      decide)
  clear hk hR hl hz hm HVV HN1 hrs hs
  go_upto_region 7 with fail
  obtain ⟨w3, hw3⟩ : ∃ w3, w2.alloc (.cells #[.slice NA n nc, .slice TA m mc, .int .i64 0, .slice none 0 0, .bool false, .bool false] 84) = w3 := ⟨_, rfl⟩
  have HB3 := Lib.hid (HB2.out.alloc HB2.out.size (.cells #[.slice NA n nc, .slice TA m mc, .int .i64 0, .slice none 0 0, .bool false, .bool false] 84))
  have b23 := (Below.refl w2.heap.size w2).alloc (Nat.le_refl _) (.cells #[.slice NA n nc, .slice TA m mc, .int .i64 0, .slice none 0 0, .bool false, .bool false] 84)
  have hbk := heap_alloc_new w2 (.cells #[.slice NA n nc, .slice TA m mc, .int .i64 0, .slice none 0 0, .bool false, .bool false] 84)
  rw [hw3] at HB3 b23 hbk ⊢
  clear hw3
  obtain ⟨B, hB⟩ : ∃ B, w2.heap.size = B := ⟨_, rfl⟩
  rw [hB] at b23 hbk HNS HTS ⊢
  have HBB : Hid (w.heap.size ≤ B) := Lib.hid (by rw [← hB]; exact HB2.out.size)
  have HRM : Hid (RpM w3 B B (.slice NA n nc) (.slice TA m mc) (.slice none 0 0) [] 0 false false) := Lib.hid (by
    have c := fun j => cell_of_row w3 B j _ _ _ hbk
    have f := fun j => frozen_of_row w3 B j _ _ hbk
    exact ⟨⟨(c 3).trans rfl, f 3, World.ownsRow_nil _ _ _ _, by simp [Value.ownBlock], Nat.le_refl _⟩, (c 0).trans rfl, (c 1).trans rfl, (c 2).trans rfl, (c 4).trans rfl, (c 5).trans rfl, f 2, f 4, f 5⟩)
  have HRK : Hid (RpK w3 B NA TA L TL) := Lib.hid ⟨HNS.out.below b23, HTS.out.below b23, HZ.out⟩
  have HC := Lib.hid ((rp_all B B NA TA n nc m mc L TL w3 HRK HM (by omega) hL hn (m + 1)).2 w3 0 [] false (.slice none 0 0) (Below.refl _ _) HRM.out (Nat.zero_le _) (Nat.le_refl _) (by rw [HM.out]; omega))
  have HFU : Hid ((tksAt TL 0).length + 1 = m + 1) := Lib.hid (by rw [tksAt_len, HM.out]; rfl)
  clear hbk b23 HNS HTS HZ hB HRM HRK HB2
  go_wp2_with fail
  with_reducible refine HC.out.mono ?_
  rintro e w4 ⟨b4, hA⟩
  have HB4 := Lib.hid (HB3.out.trans (b4.mono HBB.out))
  clear b4 HC HB3
  rcases hA with ⟨a2, vf2, N2, u2, e1, rfl, hM, hf, hp, hlt⟩ | ⟨r, a2, vf2, N2, u2, e1, rfl, hM, hf⟩
  rotate_left
  · -- the parser is bad
    have HR : Hid (V = ([], 31)) := Lib.hid (by rw [HVT.out]; unfold refT; rw [HFU.out, e1])
    have c4 := hM.c4
    have hg := hM.o.lt
    clear e1 hM hf HVT
    go_wp2
    go_quiet (fail)
    go_wp2
    go_ret2
    exact PsR.nil HR.out (below_drewN HB4.out _)
  have HRM := Lib.hid hM
  have c1 := hM.c1
  have c2 := hM.c2
  have c4 := hM.c4
  have c5 := hM.c5
  have hg := hM.o.lt
  have htop := hf.top
  rw [HM.out] at htop
  by_cases ha : a2 < m
  · have HR : Hid (V = ([], 31)) := Lib.hid (by
      rw [HVT.out]; unfold refT; rw [HFU.out, e1]
      dsimp only
      rw [if_pos (by intro q; have := congrArg List.length q; rw [tksAt_len, HM.out] at this; simp at this; omega)])
    have i1 : (a2 : Int) < (m : Int) := by omega
    clear e1 hM hf HVT
    go_wp2
    go_quiet (fail)
    go_wp2
    go_ret2
    exact PsR.nil HR.out (below_drewN HB4.out _)
  have i1 : decide ((a2 : Int) < (m : Int)) = false := decide_eq_false (by omega)
  have HVU : Hid (V = if u2 then ([], 3) else if 512 < N2.length then ([], 2) else (N2, 0)) := Lib.hid (by
    rw [HVT.out]; unfold refT; rw [HFU.out, e1]
    dsimp only
    rw [if_neg (by intro q; exact q (tksAt_nil (by rw [HM.out]; omega)))])
  obtain ⟨AF, cF, ef, hcF, hAF⟩ := own_form hM.o.rf
  obtain ⟨L9, hL9⟩ : ∃ L9, N2.length = L9 := ⟨_, rfl⟩
  rw [hL9] at ef hcF
  subst ef
  have hL95 : L9 ≤ 5000 := by have := hf.few; have := hf.top; rw [HM.out] at *; simp at *; omega
  have HL9 := Lib.hid hL9
  have HOW : Hid (∀ nq, (w4.drewN nq).ownsRow B 53 4 (.slice AF L9 cF) L9 (fiC N2)) := Lib.hid (fun nq => by have := (hM.keep (below_drewN (Below.refl _ _) nq)).o.rf; rw [hL9] at this; exact this)
  have c3 := hM.o.cf
  clear e1 hM hf HVT hL9 hAF htop
  rcases u2 with _ | _
  · by_cases h5 : 512 < L9
    · have HR : Hid (V = ([], 2)) := Lib.hid (by rw [HVU.out, if_neg (by decide), if_pos (by rw [HL9.out]; exact h5)])
      have i2 : (512 : Int) < (L9 : Int) := by omega
      clear HVU
      go_wp2
      go_quiet (fail)
      go_wp2
      go_ret2
      exact PsR.nil HR.out (below_drewN HB4.out _)
    · have HR : Hid (V = (N2, 0)) := Lib.hid (by rw [HVU.out, if_neg (by decide), if_neg (by rw [HL9.out]; exact h5)])
      have i2 : ¬ (512 : Int) < (L9 : Int) := by omega
      clear HVU
      go_wp2
      go_quiet (fail)
      go_wp2
      go_ret2
      obtain ⟨A', c', ev, hc', hrf, _⟩ := rf_own (HOW.out _) HL9.out
      injection ev with ev1 _ ev3
      subst ev1 ev3
      rw [HR.out]
      exact ⟨_, L9, _, rfl, HL9.out, hcF, hrf, below_drewN HB4.out _⟩
  · have HR : Hid (V = ([], 3)) := Lib.hid (by rw [HVU.out, if_pos rfl])
    clear HVU
    go_wp2
    go_quiet (fail)
    go_wp2
    go_ret2
    exact PsR.nil HR.out (below_drewN HB4.out _)

end Go.Proofs.YtignkplogkaigaaDoor

/-! The law FormulaParsesLikeReference returns true. -/
namespace Go.Proofs.YtignkplogkaigaaDoor
open Go.RowKit Dg St
set_option linter.unusedVariables false
set_option linter.unusedSimpArgs false
attribute [local go_sem ↓] Go.wp_at_zero Go.wp_at_succ

theorem prsV_le (L : List ByteArray) (t : List UInt8) : (prsV L t).1.length ≤ 512 := by
  unfold prsV
  split
  · exact Nat.zero_le _
  · split
    · split
      · exact Nat.zero_le _
      · split
        · exact Nat.zero_le _
        · dsimp only
          omega
    · exact Nat.zero_le _
set_option maxHeartbeats 8000000 in
set_option maxRecDepth 100000 in
theorem lawPs_walk (NA : Option Addr) (n nc : Nat) (L : List ByteArray) (s : ByteArray) (w : World) (hL : Hid (L.length = n)) (hnc : n ≤ nc) (hmax : nc ≤ maxLen) (hR : Hid (Rstr w w.heap.size NA L)) (hs : Hid (∀ j, (sg L j).size ≤ 9223372036854775807)) (hsz : s.size ≤ 9223372036854775807) :
    Calls Tryd.prog 4 #[.slice NA n nc, .string s] w fun e w' => e = .returned (.bool true) ∧ Below w.heap.size w w' := by
  have HSAN := Lib.hid (fsanity_ok w)
  unfold maxLen at hmax
  by_cases h1 : 3000 < s.size ∨ 70 < n
  · have hcs : ((3000 : Int) < (s.size : Int)) ∨ (¬ (3000 : Int) < (s.size : Int) ∧ (70 : Int) < (n : Int)) := by omega
    clear hR hs h1
    rcases hcs with g1 | ⟨g1, g2⟩
    all_goals
      go_enter Tryd.func4, Tryd.ntmps4
      go_wp2_with fail
      with_reducible refine HSAN.out.mono ?_
      rintro e w1 ⟨rfl, b1⟩
      go_wp2
      go_ret
      exact ⟨rfl, b1⟩
  have g1 : ¬ (3000 : Int) < (s.size : Int) := by omega
  have g2 : ¬ (70 : Int) < (n : Int) := by omega
  have HF : Hid (∀ W, Below w.heap.size w W → Calls Tryd.prog 16 #[.slice NA n nc, .string s] W fun e w' => PsR W w' (prsV L s.data.toList) e) := Lib.hid (fun W hW =>
    pparse_any NA n nc L s W hL (by omega) hnc hs (Lib.hid ((hR.out.below hW).mono hW.size)) (by omega) (Lib.hid (prs_good _ _)))
  have HQ : Hid (∀ W, Below w.heap.size w W → Calls Tryd.prog 17 #[.slice NA n nc, .string s] W fun e w' => PsR W w' (prsV L s.data.toList) e) := Lib.hid (fun W hW =>
    rparse NA n nc L s W hL (by omega) hnc hs (Lib.hid ((hR.out.below hW).mono hW.size)) (by omega))
  have hv5 := prsV_le L s.data.toList
  obtain ⟨⟨V1, V2⟩, hV⟩ : ∃ V, prsV L s.data.toList = V := ⟨_, rfl⟩
  rw [hV] at HF HQ hv5
  have HSM : Hid (∀ (A1 A2 : Option Addr) (c1 c2 : Nat) (W : World), Rf W W.heap.size A1 V1 → Rf W W.heap.size A2 V1 → Calls Tryd.prog 18 #[.slice A1 V1.length c1, .slice A2 V1.length c2] W fun e w' => e = .returned (.bool true) ∧ Below W.heap.size W w') := Lib.hid (fun A1 A2 c1 c2 W h1 h2 => by
    have := qsame_any A1 A2 V1.length c1 V1.length c2 V1 V1 W (Lib.hid rfl) (Lib.hid rfl) (by have : V1.length ≤ 512 := hv5; omega) (Lib.hid h1) (Lib.hid h2)
    rw [decide_eq_true (rfl : V1 = V1)] at this
    exact this)
  clear hV hv5 hR hs h1
  obtain ⟨p, hp⟩ : ∃ p, V1.length = p := ⟨_, rfl⟩
  have HN := Lib.hid hp
  rw [hp] at HSM
  clear hp
  go_enter Tryd.func4, Tryd.ntmps4
  go_wp2_with fail
  with_reducible refine HSAN.out.mono ?_
  rintro e w1 ⟨rfl, b1⟩
  have HB1 := Lib.hid b1
  clear b1 HSAN
  go_wp2_with fail
  with_reducible refine (HF.out w1 HB1.out).mono ?_
  rintro e w3 ⟨A1, m1, c1, rfl, hl1, hc1, hr1, b3⟩
  obtain rfl : p = m1 := HN.out.symm.trans hl1
  have R1 := Lib.hid hr1
  have HB3 := btr HB1 b3 HB1.out.size
  clear b3 HB1 hl1 hc1 hr1 HF
  go_wp2_with fail
  with_reducible refine (HQ.out w3 HB3.out).mono ?_
  rintro e w4 ⟨A2, m2, c2, rfl, hl2, hc2, hr2, b4⟩
  obtain rfl : p = m2 := HN.out.symm.trans hl2
  have R2 := Lib.hid hr2
  replace R1 := Lib.hid ((R1.out.below b4).mono b4.size)
  have HB4 := btr HB3 b4 HB3.out.size
  clear b4 HB3 hl2 hc2 hr2 HQ
  go_wp2_with fail
  with_reducible refine (HSM.out A1 A2 c1 c2 w4 R1.out R2.out).mono ?_
  rintro e w5 ⟨rfl, b5⟩
  have HB5 := btr HB4 b5 HB4.out.size
  clear b5 HB4 R1 R2 HSM
  go_wp2
  go_ret
  exact ⟨rfl, HB5.out⟩

end Go.Proofs.YtignkplogkaigaaDoor
