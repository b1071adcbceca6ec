/-
  Plain mathematics and contracts of package diagram, several texts in one: FSpc, FLawSp.
-/
import Derived.Test.YtignkplogkaigaaDoorFp
import Derived.Test.YtignkplogkaigaaDoorFt
import Derived.Test.YtignkplogkaigaaDoorFj
import Derived.Test.YtignkplogkaigaaDoorFv

/-! The law's spaced: a text with other blanks. -/
namespace Go.Proofs.YtignkplogkaigaaDoor
open Go.RowKit Dg St
set_option linter.unusedVariables false
set_option linter.unusedSimpArgs false
attribute [local go_sem ↓] Go.wp_at_zero Go.wp_at_succ

theorem by8_snoc {s : ByteArray} {k : Nat} (h : k < s.size) : ∃ B : UInt8, B.toNat = by8 s k ∧ s.data.toList.take (k + 1) = s.data.toList.take k ++ [B] ∧ (s.extract k (k + 1)).data.toList = [B] ∧ s.data.toList[k]? = some B := by
  have hl : k < s.data.toList.length := by rw [sz_tl]; exact h
  refine ⟨s.data.toList[k], ?_, ?_, ?_, List.getElem?_eq_getElem hl⟩
  · unfold by8
    rw [dif_pos h]
    rfl
  · exact (List.take_append_getElem hl).symm
  · rw [tl_ext, Nat.add_sub_cancel_left, List.drop_eq_getElem_cons hl]
    rfl
def tbS (r : Nat) : ByteArray := if r = 0 then ⟨#[]⟩ else if r = 1 then ⟨#[32]⟩ else if r = 2 then ⟨#[9]⟩ else ⟨#[32, 32, 9, 32]⟩
theorem tbS_eq (x : Nat) : (tbS (x % 4)).data.toList = blkT x ∧ (tbS (x % 4)).size ≤ 4 := by
  unfold tbS blkT
  split
  · exact ⟨rfl, by decide⟩
  · split
    · exact ⟨rfl, by decide⟩
    · split
      · exact ⟨rfl, by decide⟩
      · exact ⟨rfl, by decide⟩
abbrev bkB : Obj := .cells #[.string ⟨#[]⟩, .string ⟨#[32]⟩, .string ⟨#[9]⟩, .string ⟨#[32, 32, 9, 32]⟩] 9
theorem bk_cell (w : World) {r : Nat} (h : r < 4) : (w.alloc bkB).cell? ⟨w.heap.size, r, none⟩ = some (.string (tbS r)) := by
  rw [cell_of_row _ _ _ _ _ _ (heap_alloc_new w bkB)]
  rcases (show r = 0 ∨ r = 1 ∨ r = 2 ∨ r = 3 by omega) with e | e | e | e <;> subst e <;> rfl
/-- spaced is under way -/
structure SpI (w wr : World) (bl : List Nat) (s out : ByteArray) (n k : Nat) : Prop where
  b : Below w.heap.size w wr
  e : (s.data.toList.take n).foldl (spS bl) ([], 0) = (out.data.toList, k)
  kn : k ≤ n
  sz : out.size ≤ 9 * n
theorem ba_tl (a b : ByteArray) : (a ++ b).data.toList = a.data.toList ++ b.data.toList := by rw [ByteArray.data_append]; simp
theorem spF_succ {bl : List Nat} {s : ByteArray} {n k : Nat} {o : List UInt8} {B : UInt8} (h : (s.data.toList.take n).foldl (spS bl) ([], 0) = (o, k)) (ht : s.data.toList.take (n + 1) = s.data.toList.take n ++ [B]) : (s.data.toList.take (n + 1)).foldl (spS bl) ([], 0) = spS bl (o, k) B := by
  rw [ht, List.foldl_append, h]
  rfl

set_option maxHeartbeats 8000000 in
set_option maxRecDepth 100000 in
theorem lspaced (A : Option Addr) (c nn : Nat) (bl : List Nat) (s : ByteArray) (w : World) (h8 : Hid (B8 w w.heap.size A nn bl)) (hs : s.size ≤ 10000) (hnn : nn ≤ 9223372036854775807) :
    Calls Tryd.prog 26 #[.string s, .slice A nn c] w fun e w' => ∃ t : ByteArray, e = .returned (.string t) ∧ t.data.toList = 32 :: (spL bl 0 s.data.toList ++ [9]) ∧ t.size ≤ 100000 ∧ Below w.heap.size w w' := by
  have hget := get_by8 s
  have HS0 : Hid (SpI w w bl s ⟨#[]⟩ 0 0) := Lib.hid ⟨Below.refl _ _, rfl, Nat.le_refl _, Nat.zero_le _⟩
  have HBL : Hid (bl.length = nn) := Lib.hid h8.out.len
  go_enter Tryd.func26, Tryd.ntmps26
  go_wp2
  go_loopw [5, 6, 7] (fun o kk i wr => ∃ out k n, n ≤ s.size ∧ o = .string out ∧ kk = .int .i64 ((k : Nat) : Int) ∧ i = .int .i64 ((n : Nat) : Int) ∧ Hid (SpI w wr bl s out n k)) (fun _ _ i _ => s.size - (intOf i).toNat)
  case atStart => exact ⟨⟨#[]⟩, 0, 0, Nat.zero_le _, rfl, rfl, rfl, HS0⟩
  case round =>
    clear HS0
    obtain ⟨out, k, n, hn, rfl, rfl, rfl, HS⟩ := hrel
    by_cases hlt : n < s.size
    · rename ∀ (a : Act) (w : World), Code.wp _ _ _ a w → _ => hKc
      clear hKc
      obtain ⟨B, hB, ht, hx, _⟩ := by8_snoc hlt
      obtain ⟨c1, hc1⟩ : ∃ c1, s.extract n (n + 1) = c1 := ⟨_, rfl⟩
      rw [hc1] at hx
      have hc1s : c1.size = 1 := by rw [← sz_tl, hx]; rfl
      have HX := Lib.hid hx
      have HE := Lib.hid (spF_succ HS.out.e ht)
      have i1 : (n : Int) < (s.size : Int) := by omega
      have i2 : (0 : Int) ≤ (n : Int) := by omega
      have i3 : (n : Int) + 1 ≤ (s.size : Int) := by omega
      have i4 : (n : Int) ≤ (n : Int) + 1 := by omega
      have hkn := HS.out.kn
      have hosz := HS.out.sz
      obtain ⟨b, hb⟩ : ∃ b, by8 s n = b := ⟨_, rfl⟩
      have hb255 : b ≤ 255 := by rw [← hb]; exact by8_le s n
      rw [hb] at hB
      have hcs : (b = 32 ∨ b = 40 ∨ b = 41 ∨ b = 33) ∨ (b ≠ 32 ∧ b ≠ 40 ∧ b ≠ 41 ∧ b ≠ 33) := by omega
      have hBb : ∀ v : Nat, v < 256 → (B = UInt8.ofNat v ↔ b = v) := fun v hv => by
        rw [← hB]
        constructor
        · intro e; rw [e]; simp; omega
        · intro e; rw [← e]; simp
      have e32 : B = 32 ↔ b = 32 := hBb 32 (by omega)
      have e40 : B = 40 ↔ b = 40 := hBb 40 (by omega)
      have e41 : B = 41 ↔ b = 41 := hBb 41 (by omega)
      have e33 : B = 33 ↔ b = 33 := hBb 33 (by omega)
      clear hBb
      rcases hcs with hcs | ⟨n1, n2, n3, n4⟩
      rotate_left
      · have g1 : ((b : Int) == 32) = false := beq_eq_false_iff_ne.2 (by omega)
        have g2 : ((b : Int) == 40) = false := beq_eq_false_iff_ne.2 (by omega)
        have g3 : ((b : Int) == 41) = false := beq_eq_false_iff_ne.2 (by omega)
        have g4 : ((b : Int) == 33) = false := beq_eq_false_iff_ne.2 (by omega)
        have HQ : Hid (SpI w wr bl s (out ++ c1) (n + 1) k) := Lib.hid ⟨HS.out.b, by
          rw [HE.out, ba_tl, HX.out]
          unfold spS
          rw [if_neg (fun e => n1 (e32.1 e)), if_neg (by rintro (e | e | e); exact n2 (e40.1 e); exact n3 (e41.1 e); exact n4 (e33.1 e))], by omega, by rw [ByteArray.size_append]; omega⟩
        have z1 : ¬ 9223372036854775807 < out.size + c1.size := by omega
        clear HS HE HX hx hB ht e32 e40 e41 e33 n1 n2 n3 n4 hc1s
        go_wp2
        go_roundw
        case rel => exact ⟨_, k, n + 1, by omega, rfl, rfl, by go_num, HQ⟩
        case measure => simp [intOf]; omega
      · have H32 : Hid (∀ (W : World) (tb : ByteArray), Below w.heap.size w W → tb.data.toList = blkN bl k → tb.size ≤ 4 → b = 32 → SpI w W bl s (out ++ tb) (n + 1) (k + 1)) := Lib.hid (fun W tb hW h1 h2 h3 => ⟨hW, by
          rw [HE.out, ba_tl, h1]
          unfold spS
          rw [if_pos (e32.2 h3)], by omega, by rw [ByteArray.size_append]; omega⟩)
        have HPR : Hid (∀ (W : World) (tb : ByteArray), Below w.heap.size w W → tb.data.toList = blkN bl k → tb.size ≤ 4 → b ≠ 32 → SpI w W bl s (out ++ tb ++ c1 ++ tb) (n + 1) (k + 1)) := Lib.hid (fun W tb hW h1 h2 h3 => ⟨hW, by
          rw [HE.out, ba_tl, ba_tl, ba_tl, h1, HX.out]
          unfold spS
          rw [if_neg (fun e => h3 (e32.1 e)), if_pos (by rcases hcs with q | q | q | q; exact absurd q h3; exact .inl (e40.2 q); exact .inr (.inl (e41.2 q)); exact .inr (.inr (e33.2 q)))], by omega, by rw [ByteArray.size_append, ByteArray.size_append, ByteArray.size_append]; omega⟩)
        have HB0 := Lib.hid HS.out.b
        have ho9 : out.size ≤ 100000 := by omega
        have hx9 : b < 256 := by omega
        clear HS HE HX hx hB ht e32 e40 e41 e33 hosz
        by_cases hk : k < nn
        · obtain ⟨b8, o8, eA, hb8, hc8⟩ := (h8.out.below HB0.out).rd (by omega)
          subst eA
          have d0 := hc8 k hk
          have hxx := h8.out.byte k
          have hbk : blkN bl k = blkT (bl.getD k 0) := by unfold blkN; rw [if_pos (by rw [HBL.out]; exact hk)]
          obtain ⟨t1, t2⟩ := tbS_eq (bl.getD k 0)
          rw [← hbk] at t1
          obtain ⟨x, hxe⟩ : ∃ x, bl.getD k 0 = x := ⟨_, rfl⟩
          rw [hxe] at d0 hxx t1 t2
          obtain ⟨r, hr⟩ : ∃ r, r = x % 4 := ⟨_, rfl⟩
          rw [← hr] at t1 t2
          have er : (x : Int).tmod 4 = (r : Int) := by rw [Int.tmod_eq_emod_of_nonneg (by omega)]; omega
          have hr4 : r < 4 := by omega
          have j1 : (k : Int) < (nn : Int) := by omega
          have j2 : (0 : Int) ≤ (k : Int) := by omega
          have j3 : (r : Int) < 4 := by omega
          have j4 : (0 : Int) ≤ (r : Int) := by omega
          have hb8w : b8 < wr.heap.size := by have := HB0.out.size; omega
          have d9 := bk_cell wr hr4
          have HB1 := Lib.hid (HB0.out.alloc HB0.out.size bkB)
          obtain ⟨tb, htb⟩ : ∃ tb, tbS r = tb := ⟨_, rfl⟩
          rw [htb] at d9 t1 t2
          have HT1 := Lib.hid t1
          have z1 : ¬ 9223372036854775807 < out.size + tb.size := by omega
          have z2 : ¬ 9223372036854775807 < out.size + tb.size + c1.size := by omega
          have z3 : ¬ 9223372036854775807 < out.size + tb.size + c1.size + tb.size := by omega
          clear hc8 hbk hxe hr htb t1 HB0
          rcases hcs with q | q | q | q
          · subst q
            have HQ := Lib.hid (H32.out _ tb HB1.out HT1.out t2 rfl)
            clear H32 HPR HT1
            go_wp2
            go_roundw
            case rel => exact ⟨_, k + 1, n + 1, by omega, rfl, by go_num, by go_num, HQ⟩
            case measure => simp [intOf]; omega
          all_goals
            subst q
            have HQ := Lib.hid (HPR.out _ tb HB1.out HT1.out t2 (by omega))
            clear H32 HPR HT1
            go_wp2
            go_roundw
            case rel => exact ⟨_, k + 1, n + 1, by omega, rfl, by go_num, by go_num, HQ⟩
            case measure => simp [intOf]; omega
        · have j1 : ¬ (k : Int) < (nn : Int) := by omega
          have hbk : (⟨#[]⟩ : ByteArray).data.toList = blkN bl k := by unfold blkN; rw [if_neg (by rw [HBL.out]; exact hk)]
          have HT1 := Lib.hid hbk
          have z1 : ¬ 9223372036854775807 < out.size + 0 := by omega
          have z2 : ¬ 9223372036854775807 < out.size + c1.size := by omega
          clear hbk
          rcases hcs with q | q | q | q
          · subst q
            have HQ := Lib.hid (H32.out _ ⟨#[]⟩ HB0.out HT1.out (by decide) rfl)
            clear H32 HPR HT1
            go_wp2
            go_roundw
            case rel => exact ⟨_, k + 1, n + 1, by omega, rfl, by go_num, by go_num, HQ⟩
            case measure => simp [intOf]; omega
          all_goals
            subst q
            have HQ := Lib.hid (HPR.out _ ⟨#[]⟩ HB0.out HT1.out (by decide) (by omega))
            clear H32 HPR HT1
            go_wp2
            go_roundw
            case rel => exact ⟨_, k + 1, n + 1, by omega, rfl, by go_num, by go_num, HQ⟩
            case measure => simp [intOf]; omega
    · have i1 : ¬ (n : Int) < (s.size : Int) := by omega
      have hn' : n = s.size := by omega
      have HR : Hid ((⟨#[32]⟩ ++ out ++ ⟨#[9]⟩ : ByteArray).data.toList = 32 :: (spL bl 0 s.data.toList ++ [9])) := Lib.hid (by
        have e := HS.out.e
        rw [hn', ← sz_tl, List.take_length] at e
        have e2 := sp_fold bl s.data.toList [] 0
        rw [e, List.nil_append] at e2
        rw [ba_tl, ba_tl]
        show [32] ++ out.data.toList ++ [9] = _
        have e3 : out.data.toList = spL bl 0 s.data.toList := e2
        rw [e3]
        simp)
      have HZ : Hid ((⟨#[32]⟩ ++ out ++ ⟨#[9]⟩ : ByteArray).size ≤ 100000) := Lib.hid (by
        rw [ByteArray.size_append, ByteArray.size_append]
        have := HS.out.sz
        show 1 + _ + 1 ≤ _
        omega)
      have HB := Lib.hid HS.out.b
      have z1 : ¬ 9223372036854775807 < 1 + out.size := by have := HS.out.sz; omega
      have z2 : ¬ 9223372036854775807 < 1 + out.size + 1 := by have := HS.out.sz; omega
      clear HS hn'
      go_wp2
      go_ret
      exact ⟨_, rfl, HR.out, HZ.out, HB.out⟩

end Go.Proofs.YtignkplogkaigaaDoor

/-! The law FormulaSpaces returns true. -/
namespace Go.Proofs.YtignkplogkaigaaDoor
open Go.RowKit Dg St
set_option linter.unusedVariables false
set_option linter.unusedSimpArgs false
attribute [local go_sem ↓] Go.wp_at_zero Go.wp_at_succ

theorem prsV_sp {F : List Fi} {T t : ByteArray} {bl : List Nat} (h : okF F) (hv : ∀ i, i < F.length → fo F i = 2 → fv F i < ((12 : Nat) : Int)) (hT : TxF F T) (ht : t.data.toList = 32 :: (spL bl 0 T.data.toList ++ [9])) : prsV L12 t.data.toList = (poF F, 0) := by
  have HW : ∀ k, k < F.length → fo F k = 2 → NmW L12 (fv F k).toNat := fun k hk e => by
    have := (ok_node (h.2.2.1 k hk)).2.1
    have := hv k hk e
    exact L12_nm.2 _ (by show _ < 12; omega)
  have e := prs_sp h HW (L8 L12) bl
  rw [← hT.txt] at e
  rw [← hT.prs, ht]
  unfold prsV
  rw [e]
theorem lparseS {F : List Fi} {T : ByteArray} (h : okF F) (hv : ∀ i, i < F.length → fo F i = 2 → fv F i < ((12 : Nat) : Int)) (hT : TxF F T) (bl : List Nat) (W : World) (q : Nat) (t : ByteArray) (ht : t.data.toList = 32 :: (spL bl 0 T.data.toList ++ [9])) (hs : t.size ≤ 100000) (hr : Rstr W W.heap.size (some ⟨q, 0, none⟩) L12) :
    Calls Tryd.prog 16 #[.slice (some ⟨q, 0, none⟩) 12 12, .string t] W fun e w' => PsR W w' (poF F, 0) e := by
  have := fparse_any (some ⟨q, 0, none⟩) 12 12 L12 t W (Lib.hid rfl) (by omega) (Nat.le_refl _) (Lib.hid L12_size) (Lib.hid hr) (by omega)
  rw [prsV_sp h hv hT ht] at this
  exact this

set_option maxHeartbeats 8000000 in
set_option maxRecDepth 100000 in
theorem lawSp_walk (A : Option Addr) (nn c : Nat) (l : List Nat) (x : Nat) (A2 : Option Addr) (nn2 c2 : Nat) (bl : List Nat) (w : World) (h8 : Hid (B8 w w.heap.size A nn l)) (hnn : nn ≤ 9223372036854775807) (hx : x < 256) (h82 : Hid (B8 w w.heap.size A2 nn2 bl)) (hnn2 : nn2 ≤ 9223372036854775807) :
    Calls Tryd.prog 8 #[.slice A nn c, .int .u8 (x : Int), .slice A2 nn2 c2] w fun e w' => e = .returned (.bool true) ∧ Below w.heap.size w w' := by
  obtain ⟨k, hk⟩ : ∃ k, k = x % 12 := ⟨_, rfl⟩
  have ex : (x : Int).tmod 12 = (k : Int) := by rw [Int.tmod_eq_emod_of_nonneg (by omega)]; omega
  have hk12 : k ≤ 11 := by omega
  have hok := made_ok l (1 + k) (by omega) (by omega)
  have hvv : ∀ i, i < (made l (1 + k)).length → fo (made l (1 + k)) i = 2 → fv (made l (1 + k)) i < ((12 : Nat) : Int) := fun i hi e => by have := made_vars l (n := 1 + k) (by omega) i hi e; omega
  obtain ⟨T, ht⟩ := txf hok hvv
  have HPS := Lib.hid (lparseS hok hvv ht bl)
  have HSP : Hid (∀ W, Below w.heap.size w W → Calls Tryd.prog 26 #[.string T, .slice A2 nn2 c2] W fun e w' => ∃ t : ByteArray, e = .returned (.string t) ∧ t.data.toList = 32 :: (spL bl 0 T.data.toList ++ [9]) ∧ t.size ≤ 100000 ∧ Below W.heap.size W w') := Lib.hid (fun W hW => lspaced A2 c2 nn2 bl T W (Lib.hid ((h82.out.below hW).mono hW.size)) ht.siz hnn2)
  have HC := Lib.hid (txc hok ht)
  have HMD := Lib.hid (fun W (hW : Below w.heap.size w W) => lmadeF A c nn k l w W h8 hnn (by omega) hW)
  have HSAN := Lib.hid (fsanity_ok w)
  have HLT := Lib.hid (fun W => qlet12 W)
  clear hk hok ht h8 hnn hvv h82 hnn2
  generalize made l (1 + k) = F at *
  obtain ⟨m, hm⟩ : ∃ m, F.length = m := ⟨_, rfl⟩
  obtain ⟨p, hp⟩ : ∃ p, (poF F).length = p := ⟨_, rfl⟩
  have HC1 := Lib.hid HC.out.print
  have HC2 := Lib.hid HC.out.parse
  have HC5 := Lib.hid HC.out.same
  rw [hm] at HC1 HMD
  rw [hp] at HC5
  have HP := Lib.hid hp
  clear HC hm hp
  go_enter Tryd.func8, Tryd.ntmps8
  go_wp2_with fail
  with_reducible refine HSAN.out.mono ?_
  rintro e w1 ⟨rfl, b1⟩
  have HB1 := Lib.hid b1
  clear b1 HSAN
  go_wp2_with fail
  with_reducible refine (HLT.out w1).mono ?_
  rintro e w2 ⟨q, rfl, hs2, b2⟩
  have HS2 : Hid (Rstr w2 w2.heap.size (some ⟨q, 0, none⟩) L12) := Lib.hid hs2
  have HB2 := btr HB1 b2 HB1.out.size
  clear hs2 b2 HB1 HLT
  go_wp2_with fail
  with_reducible refine (HMD.out w2 HB2.out).mono ?_
  rintro e w3 ⟨A3, c3, rfl, hc3, hr3, b3⟩
  have HR3 := Lib.hid hr3
  have HS3 := Lib.hid ((HS2.out.below b3).mono b3.size)
  have HB3 := btr HB2 b3 HB2.out.size
  clear hr3 b3 HB2 HS2 HMD
  go_wp2_with fail
  with_reducible refine (HC1.out w3 q A3 c3 hc3 HR3.out HS3.out).mono ?_
  rintro e w4 ⟨rfl, b4⟩
  have HR4 := Lib.hid ((HR3.out.below b4).mono b4.size)
  have HS4 := Lib.hid ((HS3.out.below b4).mono b4.size)
  have HB4 := btr HB3 b4 HB3.out.size
  clear b4 HB3 HS3 HR3 HC1
  go_wp2_with fail
  with_reducible refine (HC2.out w4 q HS4.out).mono ?_
  rintro e w5 ⟨A5, m5, c5, rfl, hl5, hc5, hr5, b5⟩
  obtain rfl : p = m5 := HP.out.symm.trans hl5
  have HP5 := Lib.hid hr5
  have HR5 := Lib.hid ((HR4.out.below b5).mono b5.size)
  have HS5 := Lib.hid ((HS4.out.below b5).mono b5.size)
  have HB5 := btr HB4 b5 HB4.out.size
  clear hl5 hr5 b5 HB4 HS4 HR4 HC2
  go_wp2_with fail
  with_reducible refine (HSP.out w5 HB5.out).mono ?_
  rintro e w6 ⟨t, rfl, ht6, hz6, b6⟩
  have HT6 := Lib.hid ht6
  have HP6 := Lib.hid ((HP5.out.below b6).mono b6.size)
  have HS6 := Lib.hid ((HS5.out.below b6).mono b6.size)
  have HB6 := btr HB5 b6 HB5.out.size
  clear ht6 b6 HB5 HS5 HR5 HP5 HSP
  go_wp2_with fail
  with_reducible refine (HPS.out w6 q t HT6.out hz6 HS6.out).mono ?_
  rintro e w7 ⟨A7, m7, c7, rfl, hl7, hc7, hr7, b7⟩
  obtain rfl : p = m7 := HP.out.symm.trans hl7
  have HP7 := Lib.hid ((HP6.out.below b7).mono b7.size)
  have HQ7 := Lib.hid hr7
  have HB7 := btr HB6 b7 HB6.out.size
  clear hl7 hr7 b7 HB6 HP6 HPS HT6 hz6
  go_wp2_with fail
  with_reducible refine (HC5.out w7 A5 A7 c5 c7 HP7.out HQ7.out).mono ?_
  rintro e w8 ⟨rfl, b8⟩
  have HB8 := btr HB7 b8 HB7.out.size
  clear b8 HB7 HP7 HQ7 HC5
  go_wp2
  go_ret
  exact ⟨rfl, HB8.out⟩

end Go.Proofs.YtignkplogkaigaaDoor
