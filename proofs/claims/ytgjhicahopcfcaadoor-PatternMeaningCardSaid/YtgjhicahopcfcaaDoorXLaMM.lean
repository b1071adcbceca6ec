/-
  The law PatternMeaning returns true. (Written by lamgen.py.)
-/
import Derived.Test.YtgjhicahopcfcaaDoorPt
import Derived.Test.YtgjhicahopcfcaaDoorPu
namespace Go.Proofs.YtgjhicahopcfcaaDoor
open Go.RowKit Go.Shelf
set_option linter.unusedVariables false
set_option linter.unusedSimpArgs false
attribute [local go_sem ↓] Go.wp_at_zero Go.wp_at_succ

/-- a sequence by its parts, the first k ways to part -/
def SpK (P Q : List UInt8 → Bool) (S : List UInt8) : Nat → Bool
  | 0 => false
  | k + 1 => SpK P Q S k || (P (S.take k) && Q (S.drop k))
def MoK (P R : List UInt8 → Bool) (S : List UInt8) : Nat → Bool
  | 0 => decide (S = [])
  | k + 1 => MoK P R S k || (decide (0 < k) && P (S.take k) && R (S.drop k))
theorem spK_iff (P Q : List UInt8 → Bool) (S : List UInt8) : ∀ k, SpK P Q S k = true ↔ ∃ j, j < k ∧ P (S.take j) = true ∧ Q (S.drop j) = true
  | 0 => ⟨fun h => (by cases h), fun ⟨j, h, _⟩ => (by omega)⟩
  | k + 1 => by
    rw [SpK, Bool.or_eq_true, spK_iff P Q S k, Bool.and_eq_true]
    constructor
    · rintro (⟨j, h1, h2⟩ | h)
      · exact ⟨j, by omega, h2⟩
      · exact ⟨k, by omega, h⟩
    · rintro ⟨j, h1, h2⟩
      by_cases c : j = k
      · subst c; exact .inr h2
      · exact .inl ⟨j, by omega, h2⟩
theorem moK_iff (P R : List UInt8 → Bool) (S : List UInt8) : ∀ k, MoK P R S k = true ↔ S = [] ∨ ∃ j, j < k ∧ 0 < j ∧ P (S.take j) = true ∧ R (S.drop j) = true
  | 0 => by
    rw [MoK, decide_eq_true_eq]
    constructor
    · exact fun h => .inl h
    · rintro (h | ⟨j, h, _⟩)
      · exact h
      · omega
  | k + 1 => by
    rw [MoK, Bool.or_eq_true, moK_iff P R S k, Bool.and_eq_true, Bool.and_eq_true, decide_eq_true_eq]
    constructor
    · rintro ((h | ⟨j, h1, h2⟩) | ⟨⟨h0, h1⟩, h2⟩)
      · exact .inl h
      · exact .inr ⟨j, by omega, h2⟩
      · exact .inr ⟨k, by omega, h0, h1, h2⟩
    · rintro (h | ⟨j, h1, h0, h2, h3⟩)
      · exact .inl (.inl h)
      · by_cases c : j = k
        · subst c; exact .inr ⟨⟨h0, h2⟩, h3⟩
        · exact .inl (.inr ⟨j, by omega, h0, h2, h3⟩)
theorem seq_cut {a b : Rx} {S : List UInt8} : (Rx.seq a b).mt S ↔ ∃ j, j < S.length + 1 ∧ a.mt (S.take j) ∧ b.mt (S.drop j) := by
  constructor
  · rintro ⟨u, v, rfl, h1, h2⟩
    exact ⟨u.length, by rw [List.length_append]; omega, by rwa [List.take_left'] <;> rfl, by rwa [List.drop_left'] <;> rfl⟩
  · rintro ⟨j, _, h1, h2⟩
    exact ⟨S.take j, S.drop j, (List.take_append_drop j S).symm, h1, h2⟩
theorem star_cut {P : List UInt8 → Prop} {S : List UInt8} (h : Star P S) : S = [] ∨ ∃ j, j < S.length + 1 ∧ 0 < j ∧ P (S.take j) ∧ Star P (S.drop j) := by
  induction h with
  | nil => exact .inl rfl
  | @app u v hu hv ih =>
    rcases Nat.eq_zero_or_pos u.length with h0 | h0
    · have : u = [] := List.eq_nil_of_length_eq_zero h0
      subst this
      exact ih
    · exact .inr ⟨u.length, by rw [List.length_append]; omega, h0, by rwa [List.take_left'] <;> rfl, by rwa [List.drop_left'] <;> rfl⟩
theorem rep_cut {a : Rx} {S : List UInt8} : (Rx.rep a).mt S ↔ S = [] ∨ ∃ j, j < S.length + 1 ∧ 0 < j ∧ a.mt (S.take j) ∧ (Rx.rep a).mt (S.drop j) := by
  constructor
  · exact fun h => star_cut h
  · rintro (rfl | ⟨j, _, _, h1, h2⟩)
    · exact Star.nil
    · have h : Star a.mt (S.take j ++ S.drop j) := Star.app h1 h2
      rw [List.take_append_drop] at h
      exact h
/-- Matches of the parts and of the whole -/
structure Mng (P Q R E A : List UInt8 → Bool) (S : List UInt8) : Prop where
  sq : E S = SpK P Q S (S.length + 1)
  al : A S = (P S || Q S)
  rp : R S = MoK P R S (S.length + 1)
theorem mng {a b : Rx} (ha : a.by8) (hb : b.by8) (hl : a.nn ≤ 20) (hm : b.nn ≤ 20) (S : List UInt8) : Mng (maP (a.po [])) (maP (b.po [])) (maP ((Rx.rep a).po [])) (maP ((Rx.seq a b).po [])) (maP ((Rx.alt a b).po [])) S := by
  have h1 := fun s => maP_iff (r := a) ha (by omega) s
  have h2 := fun s => maP_iff (r := b) hb (by omega) s
  have h3 := fun s => maP_iff (r := Rx.rep a) ha (by show a.nn + 1 ≤ 512; omega) s
  have h4 := fun s => maP_iff (r := Rx.seq a b) ⟨ha, hb⟩ (by show a.nn + b.nn + 1 ≤ 512; omega) s
  have h5 := fun s => maP_iff (r := Rx.alt a b) ⟨ha, hb⟩ (by show a.nn + b.nn + 1 ≤ 512; omega) s
  refine ⟨?_, ?_, ?_⟩
  · rw [Bool.eq_iff_iff, h4, spK_iff, seq_cut]
    simp only [h1, h2]
  · rw [Bool.eq_iff_iff, h5, Bool.or_eq_true, h1, h2]
    exact Iff.rfl
  · rw [Bool.eq_iff_iff, h3, moK_iff, rep_cut]
    simp only [h1, h3]
theorem cat_ls (a b : ByteArray) : (a ++ b).data.toList = a.data.toList ++ b.data.toList := by rw [ByteArray.data_append]; simp
theorem cat_sz (a b : ByteArray) : (a ++ b).size = a.size + b.size := ByteArray.size_append
theorem kp_parse (w W : World) (r : Rx) (s : ByteArray) (hp : prsP s.data.toList = (r.po [], 0)) : Calls Tryd.prog 14 #[.string s] W fun e w' => ∃ A c, e = .returned (.tuple #[.slice A (r.po []).length c, .int .i64 0]) ∧ Hid (Rp w' w'.heap.size A (r.po [])) ∧ Hid (Below W.heap.size W w') := k_parse s _ _ hp W

set_option maxHeartbeats 16000000 in
set_option maxRecDepth 100000 in
theorem lawM_walk (A0 : Option Addr) (m0 c0 : Nat) (l0 : List Nat) (A1 : Option Addr) (m1 c1 : Nat) (l1 : List Nat) (A2 : Option Addr) (m2 c2 : Nat) (l2 : List Nat) (w : World) (h0 : Hid (B8 w w.heap.size A0 m0 l0)) (hm0 : m0 ≤ 9223372036854775807) (h1 : Hid (B8 w w.heap.size A1 m1 l1)) (hm1 : m1 ≤ 9223372036854775807) (h2 : Hid (B8 w w.heap.size A2 m2 l2)) (hm2 : m2 ≤ 9223372036854775807) (hz : Hid (Tz w ∧ 3 < w.heap.size)) :
    Calls Tryd.prog 3 #[.slice A0 m0 c0, .slice A1 m1 c1, .slice A2 m2 c2] w fun e w' => e = .returned (.bool true) ∧ Below w.heap.size w w' := by
  have HK := Ky.first hz.out.1 hz.out.2
  obtain ⟨ha, hna⟩ := madeR_ok l0 (most := 20) (by decide)
  obtain ⟨hb, hnb⟩ := madeR_ok l1 (most := 20) (by decide)
  have HMA := lid' (fun W hk => kp_made w W hk A0 c0 m0 20 l0 h0 hm0 (by decide) (by decide) 20 rfl)
  have HMB := lid' (fun W hk => kp_made w W hk A1 c1 m1 20 l1 h1 hm1 (by decide) (by decide) 20 rfl)
  have HWD := lid' (fun W hk => kp_word w W hk A2 c2 m2 8 l2 h2 hm2 (by decide) 8 rfl)
  have hS := wdN_len l2 8
  replace ha := ha.by8
  replace hb := hb.by8
  generalize madeR l0 20 = a at *
  generalize madeR l1 20 = b at *
  generalize wdN l2 8 = S at *
  have HG := lid' (mng ha hb hna hnb S)
  have HSan := lid' (fun W hk => kp_san w W hk)
  have HPa := lid' (fun W A c hr => kp_print w W a ha (by omega) A c hr)
  have HPb := lid' (fun W A c hr => kp_print w W b hb (by omega) A c hr)
  have ta := txt_len a 1
  have tb := txt_len b 1
  obtain ⟨Ta, hTa⟩ : ∃ T : ByteArray, T = ⟨(a.txt 1).toArray⟩ := ⟨_, rfl⟩
  obtain ⟨Tb, hTb⟩ : ∃ T : ByteArray, T = ⟨(b.txt 1).toArray⟩ := ⟨_, rfl⟩
  have la : Ta.data.toList = a.txt 1 := by rw [hTa]
  have lb : Tb.data.toList = b.txt 1 := by rw [hTb]
  have za : Ta.size ≤ 300 := by show Ta.data.size ≤ _; rw [← Array.length_toList, la]; omega
  have zb : Tb.size ≤ 300 := by show Tb.data.size ≤ _; rw [← Array.length_toList, lb]; omega
  rw [← hTa] at HPa
  rw [← hTb] at HPb
  have HRs := lid' (fun W => kp_parse w W (.seq a b) ((⟨#[40]⟩ : ByteArray) ++ Ta ++ ⟨#[41, 40]⟩ ++ Tb ++ ⟨#[41]⟩) (by
    have := prs_seq ha hb (by omega)
    simp only [cat_ls, la, lb]
    exact this))
  have HRl := lid' (fun W => kp_parse w W (.alt a b) ((⟨#[40]⟩ : ByteArray) ++ Ta ++ ⟨#[41, 124, 40]⟩ ++ Tb ++ ⟨#[41]⟩) (by
    have := prs_alt ha hb (by omega)
    simp only [cat_ls, la, lb]
    exact this))
  have HRr := lid' (fun W => kp_parse w W (.rep a) ((⟨#[40]⟩ : ByteArray) ++ Ta ++ ⟨#[41, 42]⟩) (by
    have := prs_rep ha (by omega)
    simp only [cat_ls, la]
    exact this))
  have HX := lid' (fun W hk r A c s hs hr => kp_match w W hk r A c s hs hr)
  have HT := lid' (fun j => ext_take S 0 j)
  clear h0 h1 h2 hz ha hb hna hnb hm0 hm1 hm2 ta tb hTa hTb la lb
  have HXp : Hid (∀ W A c s, Hid (Ky w W) → s.size ≤ 9223372036854775806 → Hid (Rp W W.heap.size A (a.po [])) → Calls Tryd.prog 15 #[.slice A (a.po []).length c, .string s] W fun e w' => e = .returned (.bool (maP (a.po []) s.data.toList)) ∧ Hid (Below W.heap.size W w')) := lid' (fun W A c s hk hs hr => HX.out W hk a A c s hs hr)
  have HXq : Hid (∀ W A c s, Hid (Ky w W) → s.size ≤ 9223372036854775806 → Hid (Rp W W.heap.size A (b.po [])) → Calls Tryd.prog 15 #[.slice A (b.po []).length c, .string s] W fun e w' => e = .returned (.bool (maP (b.po []) s.data.toList)) ∧ Hid (Below W.heap.size W w')) := lid' (fun W A c s hk hs hr => HX.out W hk b A c s hs hr)
  have HXr : Hid (∀ W A c s, Hid (Ky w W) → s.size ≤ 9223372036854775806 → Hid (Rp W W.heap.size A ((Rx.rep a).po [])) → Calls Tryd.prog 15 #[.slice A ((Rx.rep a).po []).length c, .string s] W fun e w' => e = .returned (.bool (maP ((Rx.rep a).po []) s.data.toList)) ∧ Hid (Below W.heap.size W w')) := lid' (fun W A c s hk hs hr => HX.out W hk (.rep a) A c s hs hr)
  have HXs : Hid (∀ W A c s, Hid (Ky w W) → s.size ≤ 9223372036854775806 → Hid (Rp W W.heap.size A ((Rx.seq a b).po [])) → Calls Tryd.prog 15 #[.slice A ((Rx.seq a b).po []).length c, .string s] W fun e w' => e = .returned (.bool (maP ((Rx.seq a b).po []) s.data.toList)) ∧ Hid (Below W.heap.size W w')) := lid' (fun W A c s hk hs hr => HX.out W hk (.seq a b) A c s hs hr)
  have HXl : Hid (∀ W A c s, Hid (Ky w W) → s.size ≤ 9223372036854775806 → Hid (Rp W W.heap.size A ((Rx.alt a b).po [])) → Calls Tryd.prog 15 #[.slice A ((Rx.alt a b).po []).length c, .string s] W fun e w' => e = .returned (.bool (maP ((Rx.alt a b).po []) s.data.toList)) ∧ Hid (Below W.heap.size W w')) := lid' (fun W A c s hk hs hr => HX.out W hk (.alt a b) A c s hs hr)
  clear HX
  generalize (Rx.rep a).po [] = r at *
  generalize (Rx.seq a b).po [] = u at *
  generalize (Rx.alt a b).po [] = v at *
  generalize a.po [] = p at *
  generalize b.po [] = q at *
  generalize p.length = pn at *
  generalize q.length = qn at *
  generalize r.length = rn at *
  generalize u.length = un at *
  generalize v.length = vn at *
  generalize maP p = P at *
  generalize maP q = Q at *
  generalize maP r = R at *
  generalize maP u = E at *
  generalize maP v = L at *
  have sz2 := cat_sz ⟨#[40]⟩ Ta
  have sz3 := cat_sz (⟨#[40]⟩ ++ Ta) ⟨#[41, 40]⟩
  have sz4 := cat_sz (⟨#[40]⟩ ++ Ta ++ ⟨#[41, 40]⟩) Tb
  have sz5 := cat_sz (⟨#[40]⟩ ++ Ta) ⟨#[41, 124, 40]⟩
  have sz6 := cat_sz (⟨#[40]⟩ ++ Ta ++ ⟨#[41, 124, 40]⟩) Tb
  go_enter Tryd.func3, Tryd.ntmps3
  go_wp2_with fail
  with_reducible refine (HSan.out w HK).mono ?_
  rintro e w1 ⟨rfl, b1⟩
  replace HK := Ky.later HK b1
  clear b1 HSan
  go_wp2_with fail
  with_reducible refine (HMA.out w1 HK).mono ?_
  rintro e w2 ⟨A3, c3, rfl, HP, b2⟩
  replace HK := Ky.later HK b2
  clear b2 HMA
  go_wp2_with fail
  with_reducible refine (HMB.out w2 HK).mono ?_
  rintro e w3 ⟨A4, c4, rfl, HQ, b3⟩
  replace HK := Ky.later HK b3
  replace HP := Rp.lat HP b3
  clear b3 HMB
  go_wp2_with fail
  with_reducible refine (HWD.out w3 HK).mono ?_
  rintro e w4 ⟨rfl, b4⟩
  replace HK := Ky.later HK b4
  replace HP := Rp.lat HP b4
  replace HQ := Rp.lat HQ b4
  clear b4 HWD
  go_wp2_with fail
  with_reducible refine (HPa.out w4 _ _ HP).mono ?_
  rintro e w5 ⟨rfl, b5⟩
  replace HK := Ky.later HK b5
  replace HP := Rp.lat HP b5
  replace HQ := Rp.lat HQ b5
  clear b5 HPa
  go_wp2_with fail
  with_reducible refine (HPb.out w5 _ _ HQ).mono ?_
  rintro e w6 ⟨rfl, b6⟩
  replace HK := Ky.later HK b6
  replace HP := Rp.lat HP b6
  replace HQ := Rp.lat HQ b6
  clear b6 HPb
  go_wp2_with fail
  with_reducible refine (HRs.out w6).mono ?_
  rintro e w7 ⟨A5, c5, rfl, HU, b7⟩
  replace HK := Ky.later HK b7
  replace HP := Rp.lat HP b7
  replace HQ := Rp.lat HQ b7
  clear b7 HRs
  go_wp2_with fail
  with_reducible refine (HRl.out w7).mono ?_
  rintro e w8 ⟨A6, c6, rfl, HV, b8⟩
  replace HK := Ky.later HK b8
  replace HP := Rp.lat HP b8
  replace HQ := Rp.lat HQ b8
  replace HU := Rp.lat HU b8
  clear b8 HRl
  go_wp2_with fail
  with_reducible refine (HRr.out w8).mono ?_
  rintro e w9 ⟨A7, c7, rfl, HR, b9⟩
  replace HK := Ky.later HK b9
  replace HP := Rp.lat HP b9
  replace HQ := Rp.lat HQ b9
  replace HU := Rp.lat HU b9
  replace HV := Rp.lat HV b9
  clear b9 HRr sz2 sz3 sz4 sz5 sz6 za zb
  go_wp2_with fail
  go_loopw [21, 22, 23] (fun v21 v22 v23 wr => ∃ k : Nat, v23 = .int .i64 (k : Int) ∧ k ≤ S.length + 1 ∧ v21 = .bool (SpK P Q S k) ∧ v22 = .bool (MoK P R S k) ∧ Hid (Ky w wr) ∧ Hid (Rp wr wr.heap.size A3 p) ∧ Hid (Rp wr wr.heap.size A4 q) ∧ Hid (Rp wr wr.heap.size A5 u) ∧ Hid (Rp wr wr.heap.size A6 v) ∧ Hid (Rp wr wr.heap.size A7 r)) (fun v21 v22 v23 wr => S.length + 1 - (intOf v23).toNat)
  case atStart => exact ⟨0, rfl, by omega, rfl, by cases S <;> rfl, HK, HP, HQ, HU, HV, HR⟩
  case round =>
    clear HK HP HQ HU HV HR
    obtain ⟨k, rfl, hk, rfl, rfl, HK, HP, HQ, HU, HV, HR⟩ := hrel
    by_cases hlt : k ≤ S.length
    · have HS1 := lid' (show SpK P Q S (k + 1) = (SpK P Q S k || (P (S.take k) && Q (S.drop k))) from rfl)
      have HS2 := lid' (show MoK P R S (k + 1) = (MoK P R S k || (decide (0 < k) && P (S.take k) && R (S.drop k))) from rfl)
      have t1 : ((⟨S.toArray⟩ : ByteArray).extract 0 k).data.toList = S.take k := by have := ext_take S 0 k; rw [Nat.zero_add] at this; exact this
      have t2 : ((⟨S.toArray⟩ : ByteArray).extract k S.length).data.toList = S.drop k := by have := ext_take S k (S.length - k); rw [Nat.add_sub_cancel' hlt] at this; rw [this]; exact List.take_of_length_le (by rw [List.length_drop]; omega)
      have z1 : ((⟨S.toArray⟩ : ByteArray).extract 0 k).size ≤ 9223372036854775806 := by show ((⟨S.toArray⟩ : ByteArray).extract 0 k).data.size ≤ _; rw [← Array.length_toList, t1, List.length_take]; omega
      have z2 : ((⟨S.toArray⟩ : ByteArray).extract k S.length).size ≤ 9223372036854775806 := by show ((⟨S.toArray⟩ : ByteArray).extract k S.length).data.size ≤ _; rw [← Array.length_toList, t2, List.length_drop]; omega
      have HA := lid' (fun W hk hr => HXp.out W A3 c3 _ hk z1 hr)
      have HB := lid' (fun W hk hr => HXq.out W A4 c4 _ hk z2 hr)
      have HC := lid' (fun W hk hr => HXr.out W A7 c7 _ hk z2 hr)
      rw [t1] at HA
      rw [t2] at HB HC
      clear t1 t2 z1 z2
      have hkI : (k : Int) ≤ (S.length : Int) := by omega
      generalize SpK P Q S k = sp at *
      generalize MoK P R S k = mo at *
      have HP0 : Hid (k = 0 → P [] = P (S.take k)) := lid' (fun h => by rw [h]; rfl)
      generalize P (S.take k) = p0 at *
      generalize Q (S.drop k) = q0 at *
      generalize R (S.drop k) = r0 at *
      clear hk
      rcases Nat.eq_zero_or_pos k with rfl | hk0
      · have HA := lid' (fun W hk hr => HXp.out W A3 c3 ByteArray.empty hk (by decide) hr)
        rw [show P ByteArray.empty.data.toList = p0 from HP0.out rfl] at HA
        cases sp <;> cases mo <;> cases p0 <;> cases q0
        all_goals go_wp2_with (first
          | (go_at_call 15; with_reducible refine (HA.out _ HK HP).mono ?_; rintro e w10 ⟨rfl, b10⟩; replace HK := Ky.later HK b10; replace HP := Rp.lat HP b10; replace HQ := Rp.lat HQ b10; replace HU := Rp.lat HU b10; replace HV := Rp.lat HV b10; replace HR := Rp.lat HR b10; clear b10)
          | (go_at_call 15; with_reducible refine (HB.out _ HK HQ).mono ?_; rintro e w10 ⟨rfl, b10⟩; replace HK := Ky.later HK b10; replace HP := Rp.lat HP b10; replace HQ := Rp.lat HQ b10; replace HU := Rp.lat HU b10; replace HV := Rp.lat HV b10; replace HR := Rp.lat HR b10; clear b10))
        all_goals
          go_roundw
          · exact ⟨0 + 1, by simp, by omega, by rw [HS1.out]; rfl, by rw [HS2.out]; rfl, HK, HP, HQ, HU, HV, HR⟩
          · simp only [intOf]; omega
      · have hk1 : (0 : Int) < (k : Int) := by omega
        cases sp <;> cases mo <;> cases p0 <;> cases q0 <;> cases r0
        all_goals go_wp2_with (first
          | (go_at_call 15; with_reducible refine (HA.out _ HK HP).mono ?_; rintro e w10 ⟨rfl, b10⟩; replace HK := Ky.later HK b10; replace HP := Rp.lat HP b10; replace HQ := Rp.lat HQ b10; replace HU := Rp.lat HU b10; replace HV := Rp.lat HV b10; replace HR := Rp.lat HR b10; clear b10)
          | (go_at_call 15; with_reducible refine (HB.out _ HK HQ).mono ?_; rintro e w10 ⟨rfl, b10⟩; replace HK := Ky.later HK b10; replace HP := Rp.lat HP b10; replace HQ := Rp.lat HQ b10; replace HU := Rp.lat HU b10; replace HV := Rp.lat HV b10; replace HR := Rp.lat HR b10; clear b10)
          | (go_at_call 15; with_reducible refine (HC.out _ HK HR).mono ?_; rintro e w10 ⟨rfl, b10⟩; replace HK := Ky.later HK b10; replace HP := Rp.lat HP b10; replace HQ := Rp.lat HQ b10; replace HU := Rp.lat HU b10; replace HV := Rp.lat HV b10; replace HR := Rp.lat HR b10; clear b10))
        all_goals
          go_roundw
          · exact ⟨k + 1, by simp, by omega, by rw [HS1.out]; rfl, by rw [HS2.out, decide_eq_true hk0]; rfl, HK, HP, HQ, HU, HV, HR⟩
          · simp only [intOf]; omega
    · obtain rfl : k = S.length + 1 := by omega
      have hkI : ¬ ((S.length : Int) + 1 ≤ (S.length : Int)) := by omega
      have z0 : (⟨S.toArray⟩ : ByteArray).size ≤ 9223372036854775806 := by show S.toArray.size ≤ _; rw [List.size_toArray]; omega
      have HA := lid' (fun W hk hr => HXp.out W A3 c3 ⟨S.toArray⟩ hk z0 hr)
      have HB := lid' (fun W hk hr => HXq.out W A4 c4 ⟨S.toArray⟩ hk z0 hr)
      have HC := lid' (fun W hk hr => HXs.out W A5 c5 ⟨S.toArray⟩ hk z0 hr)
      have HD := lid' (fun W hk hr => HXl.out W A6 c6 ⟨S.toArray⟩ hk z0 hr)
      have HE := lid' (fun W hk hr => HXr.out W A7 c7 ⟨S.toArray⟩ hk z0 hr)
      have g1 := HG.out.sq
      have g2 := HG.out.al
      have g3 := HG.out.rp
      rw [show (⟨S.toArray⟩ : ByteArray).data.toList = S from rfl] at HA HB HC HD HE
      rw [g1] at HC
      rw [g2] at HD
      rw [g3] at HE
      clear z0 hlt hk g1 g2 g3 HXp HXq HXr HXs HXl HG
      generalize SpK P Q S (S.length + 1) = sp at *
      generalize MoK P R S (S.length + 1) = mo at *
      generalize P S = p0 at *
      generalize Q S = q0 at *
      cases p0 <;> cases q0
      all_goals go_wp2_with (first
        | (go_at_call 15; with_reducible refine (HA.out _ HK HP).mono ?_; rintro e w10 ⟨rfl, b10⟩; replace HK := Ky.later HK b10; replace HP := Rp.lat HP b10; replace HQ := Rp.lat HQ b10; replace HU := Rp.lat HU b10; replace HV := Rp.lat HV b10; replace HR := Rp.lat HR b10; clear b10)
        | (go_at_call 15; with_reducible refine (HB.out _ HK HQ).mono ?_; rintro e w10 ⟨rfl, b10⟩; replace HK := Ky.later HK b10; replace HP := Rp.lat HP b10; replace HQ := Rp.lat HQ b10; replace HU := Rp.lat HU b10; replace HV := Rp.lat HV b10; replace HR := Rp.lat HR b10; clear b10)
        | (go_at_call 15; with_reducible refine (HC.out _ HK HU).mono ?_; rintro e w10 ⟨rfl, b10⟩; replace HK := Ky.later HK b10; replace HP := Rp.lat HP b10; replace HQ := Rp.lat HQ b10; replace HU := Rp.lat HU b10; replace HV := Rp.lat HV b10; replace HR := Rp.lat HR b10; clear b10)
        | (go_at_call 15; with_reducible refine (HD.out _ HK HV).mono ?_; rintro e w10 ⟨rfl, b10⟩; replace HK := Ky.later HK b10; replace HP := Rp.lat HP b10; replace HQ := Rp.lat HQ b10; replace HU := Rp.lat HU b10; replace HV := Rp.lat HV b10; replace HR := Rp.lat HR b10; clear b10)
        | (go_at_call 15; with_reducible refine (HE.out _ HK HR).mono ?_; rintro e w10 ⟨rfl, b10⟩; replace HK := Ky.later HK b10; replace HP := Rp.lat HP b10; replace HQ := Rp.lat HQ b10; replace HU := Rp.lat HU b10; replace HV := Rp.lat HV b10; replace HR := Rp.lat HR b10; clear b10))
      all_goals (go_ret; exact ⟨rfl, HK.out.b⟩)

end Go.Proofs.YtgjhicahopcfcaaDoor
