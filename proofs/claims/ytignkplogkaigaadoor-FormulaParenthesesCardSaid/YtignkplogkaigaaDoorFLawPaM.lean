/-
  The law FormulaParentheses returns true.
-/
import Derived.Test.YtignkplogkaigaaDoorFv
import Derived.Test.YtignkplogkaigaaDoorFy
import Derived.RegionTactic
namespace Go.Proofs.YtignkplogkaigaaDoor
open Go.RowKit Dg St
set_option linter.unusedVariables false
set_option linter.unusedSimpArgs false
attribute [local go_sem ↓] Go.wp_at_zero Go.wp_at_succ

/-- the parts of a text without a pair of parentheses -/
theorem rmv_tl (T : ByteArray) (i j : Nat) (h : i + 1 + j < T.size) : (T.extract 0 i ++ T.extract (i + 1) (i + 1 + j) ++ T.extract (i + 1 + j + 1) T.size).data.toList = rmv T.data.toList i j := by
  rw [ba_tl, ba_tl, tl_ext, tl_ext, tl_ext]
  unfold rmv
  rw [List.drop_zero, Nat.sub_zero, show i + 1 + j - (i + 1) = j by omega]
  congr 1
  exact List.take_of_length_le (by rw [List.length_drop, sz_tl]; exact Nat.le_refl _)
/-- what is needed at an opening parenthesis -/
theorem lpar {F : List Fi} {T : ByteArray} (h : okF F) (hv : ∀ i, i < F.length → fo F i = 2 → fv F i < ((12 : Nat) : Int)) (hT : TxF F T) {i : Nat} (hi : T.data.toList[i]? = some 40) :
    ∃ j, cl 1 (T.data.toList.drop (i + 1)) = some j ∧ i + 1 + j < T.size ∧ ∀ t : ByteArray, t.data.toList = rmv T.data.toList i j → (prsV L12 t.data.toList).2 = 0 → (prsV L12 t.data.toList).1 ≠ poF F := by
  have hs : T.data.toList.length = T.size := sz_tl T
  rw [hT.txt] at hi hs
  obtain ⟨j, c1, c2, c3⟩ := paren_no h L12_nm (fun k hk e => by have := hv k hk e; show _ < ((12 : Nat) : Int); exact this) hi
  rw [← hT.txt] at c1 c3
  refine ⟨j, c1, by omega, fun t ht h2 hn => ?_⟩
  unfold prsV at h2 hn
  rw [if_neg (fun q => q L12_ok), ht] at h2 hn
  rcases e : prs (L8 L12) (rmv T.data.toList i j) with st | _ | _
  · rw [e] at h2 hn
    dsimp only at h2 hn
    by_cases q : st.unk = true
    · rw [if_pos q] at h2; cases h2
    · rw [if_neg q] at h2 hn
      split at h2
      · cases h2
      · rename_i q2
        rw [if_neg q2] at hn
        exact c3 st e (by simpa using q) hn
  · rw [e] at h2; cases h2
  · rw [e] at h2; cases h2
theorem prsV_len (L : List ByteArray) (t : List UInt8) : (prsV L t).1.length ≤ 512 := by
  unfold prsV
  split
  · exact Nat.zero_le _
  · split
    · split
      · exact Nat.zero_le _
      · split
        · exact Nat.zero_le _
        · dsimp only
          omega
    · exact Nat.zero_le _
/-- the loop's state -/
structure LpI (w wr : World) (q : Nat) (A : Option Addr) (F : List Fi) : Prop where
  b : Below w.heap.size w wr
  n : Rstr wr wr.heap.size (some ⟨q, 0, none⟩) L12
  f : Rf wr wr.heap.size A F
theorem LpI.step {w wr w' : World} {q : Nat} {A : Option Addr} {F : List Fi} (h : LpI w wr q A F) (hb : Below wr.heap.size wr w') : LpI w w' q A F :=
  ⟨h.b.trans (hb.mono h.b.size), (h.n.below hb).mono hb.size, (h.f.below hb).mono hb.size⟩

set_option maxHeartbeats 8000000 in
set_option maxRecDepth 100000 in
theorem lawPa_walk (A : Option Addr) (nn c : Nat) (l : List Nat) (x : Nat) (w : World) (h8 : Hid (B8 w w.heap.size A nn l)) (hnn : nn ≤ 9223372036854775807) (hx : x < 256) :
    Calls Tryd.prog 7 #[.slice A nn c, .int .u8 (x : Int)] w fun e w' => e = .returned (.bool true) ∧ Below w.heap.size w w' := by
  obtain ⟨k, hk⟩ : ∃ k, k = x % 12 := ⟨_, rfl⟩
  have ex : (x : Int).tmod 12 = (k : Int) := by rw [Int.tmod_eq_emod_of_nonneg (by omega)]; omega
  have hk12 : k ≤ 11 := by omega
  have hok := made_ok l (1 + k) (by omega) (by omega)
  have hvv : ∀ i, i < (made l (1 + k)).length → fo (made l (1 + k)) i = 2 → fv (made l (1 + k)) i < ((12 : Nat) : Int) := fun i hi e => by have := made_vars l (n := 1 + k) (by omega) i hi e; omega
  obtain ⟨T, ht⟩ := txf hok hvv
  have HLP := Lib.hid (fun i => lpar (i := i) hok hvv ht)
  have HTS := Lib.hid ht.siz
  have HC := Lib.hid (txc hok ht)
  have HMD := Lib.hid (fun W (hW : Below w.heap.size w W) => lmadeF A c nn k l w W h8 hnn (by omega) hW)
  have HSAN := Lib.hid (fsanity_ok w)
  have HLT := Lib.hid (fun W => qlet12 W)
  clear hk hok ht h8 hnn hvv
  generalize made l (1 + k) = F at *
  obtain ⟨m, hm⟩ : ∃ m, F.length = m := ⟨_, rfl⟩
  obtain ⟨p, hp⟩ : ∃ p, (poF F).length = p := ⟨_, rfl⟩
  have HC1 := Lib.hid HC.out.print
  have HC4 := Lib.hid HC.out.post
  rw [hm] at HC1 HC4 HMD
  rw [hp] at HC4
  have HP := Lib.hid hp
  clear HC hm hp
  go_enter Tryd.func7, Tryd.ntmps7
  go_wp2_with fail
  with_reducible refine HSAN.out.mono ?_
  rintro e w1 ⟨rfl, b1⟩
  have HB1 := Lib.hid b1
  clear b1 HSAN
  go_wp2_with fail
  with_reducible refine (HLT.out w1).mono ?_
  rintro e w2 ⟨q, rfl, hs2, b2⟩
  have HS2 : Hid (Rstr w2 w2.heap.size (some ⟨q, 0, none⟩) L12) := Lib.hid hs2
  have HB2 := btr HB1 b2 HB1.out.size
  clear hs2 b2 HB1 HLT
  go_wp2_with fail
  with_reducible refine (HMD.out w2 HB2.out).mono ?_
  rintro e w3 ⟨A3, c3, rfl, hc3, hr3, b3⟩
  have HR3 := Lib.hid hr3
  have HS3 := Lib.hid ((HS2.out.below b3).mono b3.size)
  have HB3 := btr HB2 b3 HB2.out.size
  clear hr3 b3 HB2 HS2 HMD
  go_wp2_with fail
  with_reducible refine (HC1.out w3 q A3 c3 hc3 HR3.out HS3.out).mono ?_
  rintro e w4 ⟨rfl, b4⟩
  have HR4 := Lib.hid ((HR3.out.below b4).mono b4.size)
  have HS4 := Lib.hid ((HS3.out.below b4).mono b4.size)
  have HB4 := btr HB3 b4 HB3.out.size
  clear b4 HB3 HS3 HR3 HC1
  have HI0 : Hid (LpI w w4 q A3 F) := Lib.hid ⟨HB4.out, HS4.out, HR4.out⟩
  clear HB4 HS4 HR4
  have hget := get_by8 T
  go_wp2
  go_loopw [10] (fun i wr => ∃ n : Nat, n ≤ T.size ∧ i = .int .i64 (n : Int) ∧ Hid (LpI w wr q A3 F)) (fun i _ => T.size - (intOf i).toNat)
  case atStart => exact ⟨0, Nat.zero_le _, rfl, HI0⟩
  case round =>
    clear HI0
    obtain ⟨n, hn, rfl, HI⟩ := hrel
    by_cases hlt : n < T.size
    rotate_left
    · have i1 : ¬ (n : Int) < (T.size : Int) := by omega
      go_wp2
      go_ret
      exact ⟨rfl, HI.out.b⟩
    rename ∀ (a : Act) (w : World), Code.wp _ _ _ a w → _ => hKc
    clear hKc
    obtain ⟨B, hB, ht, hx, hx2⟩ := by8_snoc hlt
    have i1 : (n : Int) < (T.size : Int) := by omega
    have i2 : (0 : Int) ≤ (n : Int) := by omega
    have hT10 : T.size ≤ 10000 := HTS.out
    obtain ⟨b, hb⟩ : ∃ b, by8 T n = b := ⟨_, rfl⟩
    have hb255 : b ≤ 255 := by rw [← hb]; exact by8_le T n
    rw [hb] at hB
    have e40 : B = 40 ↔ b = 40 := by
      rw [← hB]
      constructor
      · intro e; rw [e]; rfl
      · intro e; rw [← UInt8.toNat_inj]; exact e
    by_cases h1 : b = 40
    rotate_left
    · have g1 : ((b : Int) == 40) = false := beq_eq_false_iff_ne.2 (by omega)
      have g2 : ((b : Int) != 40) = true := bne_iff_ne.2 (by omega)
      clear hx hx2 ht hB e40 h1
      go_wp2
      go_roundw
      case rel => exact ⟨n + 1, by omega, by go_num, HI⟩
      case measure => simp [intOf]; omega
    have g1 : ((b : Int) == 40) = true := beq_iff_eq.2 (by omega)
    have g2 : ((b : Int) != 40) = false := by rw [bne, g1]; rfl
    obtain ⟨j, c1, c2, c3⟩ := HLP.out n (by rw [hx2, e40.2 h1])
    have HCL := Lib.hid (fun W => lclosing T n j W (by have := HTS.out; omega) (by rw [hx2, e40.2 h1]) (Lib.hid c1))
    have hrm := rmv_tl T n j c2
    obtain ⟨K, hK⟩ : ∃ K, n + 1 + j = K := ⟨_, rfl⟩
    rw [hK] at HCL hrm c2
    obtain ⟨t0, ht0⟩ : ∃ t0, T.extract 0 n = t0 := ⟨_, rfl⟩
    obtain ⟨t1, ht1⟩ : ∃ t1, T.extract (n + 1) K = t1 := ⟨_, rfl⟩
    obtain ⟨t2, ht2⟩ : ∃ t2, T.extract (K + 1) T.size = t2 := ⟨_, rfl⟩
    have hz0 : t0.size ≤ 10000 := by rw [← ht0, ByteArray.size_extract]; have := HTS.out; omega
    have hz1 : t1.size ≤ 10000 := by rw [← ht1, ByteArray.size_extract]; have := HTS.out; omega
    have hz2 : t2.size ≤ 10000 := by rw [← ht2, ByteArray.size_extract]; have := HTS.out; omega
    rw [ht0, ht1, ht2] at hrm
    have HPA : Hid (∀ W, Rstr W W.heap.size (some ⟨q, 0, none⟩) L12 → Calls Tryd.prog 16 #[.slice (some ⟨q, 0, none⟩) 12 12, .string (t0 ++ t1 ++ t2)] W fun e w' => PsR W w' (prsV L12 (t0 ++ t1 ++ t2).data.toList) e) := Lib.hid (fun W hs =>
      fparse_any (some ⟨q, 0, none⟩) 12 12 L12 (t0 ++ t1 ++ t2) W (Lib.hid rfl) (by omega) (Nat.le_refl _) (Lib.hid L12_size) (Lib.hid hs) (by rw [ByteArray.size_append, ByteArray.size_append]; omega))
    have HNE := Lib.hid (c3 (t0 ++ t1 ++ t2) hrm)
    obtain ⟨⟨V1, V2⟩, hV⟩ : ∃ V, prsV L12 (t0 ++ t1 ++ t2).data.toList = V := ⟨_, rfl⟩
    have HVL := Lib.hid (prsV_len L12 (t0 ++ t1 ++ t2).data.toList)
    rw [hV] at HPA HNE HVL
    have i3 : (n : Int) + 1 ≤ (K : Int) := by omega
    have i4 : (K : Int) + 1 ≤ (T.size : Int) := by omega
    have i5 : (n : Int) ≤ (T.size : Int) := by omega
    have i6 : (K : Int) ≤ (T.size : Int) := by omega
    have i7 : (0 : Int) ≤ (n : Int) + 1 := by omega
    have i8 : (0 : Int) ≤ (K : Int) + 1 := by omega
    have w1 : IntKind.i64.wrap ((n : Int) + 1) = (n : Int) + 1 := by rw [IntKind.wrap_i64]; have := HTS.out; omega
    have w2 : IntKind.i64.wrap ((K : Int) + 1) = (K : Int) + 1 := by rw [IntKind.wrap_i64]; have := HTS.out; omega
    have n1 : ((n : Int) + 1).toNat = n + 1 := by omega
    have n2 : ((K : Int) + 1).toNat = K + 1 := by omega
    have z1 : ¬ 9223372036854775807 < t0.size + t1.size := by omega
    have z2 : ¬ 9223372036854775807 < t0.size + t1.size + t2.size := by omega
    clear hx hx2 ht hB e40 h1 c1 c3 hrm hV
    go_wp2_with fail
    with_reducible refine (HCL.out _).mono ?_
    rintro e w5 ⟨rfl, rfl⟩
    clear HCL
    go_upto_region 12 with fail
    go_region
    all_goals
      clear ht0 ht1 ht2 w1 w2 n1 n2 i3 i4 i6 i7 i8 z1 z2
      go_wp2_with fail
      have HI9 := Lib.hid (HI.out.step (Below.refl wr.heap.size wr).drew)
      with_reducible refine (HPA.out _ HI9.out.n).mono ?_
      rintro e w6 ⟨A6, m6, c6, rfl, hl6, hc6, hr6, b6⟩
      have HL6 := Lib.hid hl6
      have HR6 := Lib.hid hr6
      have HI6 := Lib.hid (HI9.out.step b6)
      clear hl6 hr6 b6 HPA HI HI9
      by_cases hv2 : V2 = 0
      · subst hv2
        have HSM : Hid (∀ (W : World) (A1 A2 : Option Addr) (d1 d2 : Nat), Rf W W.heap.size A1 V1 → Rf W W.heap.size A2 (poF F) → Calls Tryd.prog 18 #[.slice A1 m6 d1, .slice A2 p d2] W fun e w' => e = .returned (.bool false) ∧ Below W.heap.size W w') := Lib.hid (fun W A1 A2 d1 d2 q1 q2 => by
          have := qsame_any A1 A2 m6 d1 p d2 V1 (poF F) W HL6 HP (by rw [← HL6.out]; exact Nat.le_trans HVL.out (by omega)) (Lib.hid q1) (Lib.hid q2)
          rw [decide_eq_false (HNE.out rfl)] at this
          exact this)
        go_wp2_with fail
        with_reducible refine (HC4.out _ A3 c3 HI6.out.f).mono ?_
        rintro e w7 ⟨A7, c7, rfl, hr7, b7⟩
        have HQ7 := Lib.hid hr7
        have HR7 := Lib.hid ((HR6.out.below b7).mono b7.size)
        have HI7 := Lib.hid (HI6.out.step b7)
        clear hr7 b7 HI6 HR6
        go_wp2_with fail
        with_reducible refine (HSM.out w7 A6 A7 c6 c7 HR7.out HQ7.out).mono ?_
        rintro e w8 ⟨rfl, b8⟩
        have HI8 := Lib.hid (HI7.out.step b8)
        clear b8 HI7 HQ7 HR7 HSM
        go_wp2
        go_roundw
        case rel => exact ⟨n + 1, by omega, by go_num, HI8⟩
        case measure => simp [intOf]; omega
      · have g3 : (V2 == 0) = false := beq_eq_false_iff_ne.2 hv2
        go_wp2
        go_roundw
        case rel => exact ⟨n + 1, by omega, by go_num, HI6⟩
        case measure => simp [intOf]; omega

end Go.Proofs.YtignkplogkaigaaDoor
