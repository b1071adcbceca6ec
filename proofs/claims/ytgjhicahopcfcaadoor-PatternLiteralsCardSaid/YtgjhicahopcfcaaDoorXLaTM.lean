/-
  The law PatternLiterals returns true.
-/
import Derived.Test.YtgjhicahopcfcaaDoorPt
import Derived.Test.YtgjhicahopcfcaaDoorPu
import Derived.Test.YtgjhicahopcfcaaDoorPk
namespace Go.Proofs.YtgjhicahopcfcaaDoor
open Go.RowKit Go.Shelf
set_option linter.unusedVariables false
set_option linter.unusedSimpArgs false
attribute [local go_sem ↓] Go.wp_at_zero Go.wp_at_succ

/-- the literal's expression -/
structure LitF (S : List UInt8) (r : Rx) : Prop where
  by8 : r.by8
  nn : r.nn ≤ 2 * S.length + 1
  mt : ∀ v, r.mt v ↔ v = S
theorem rng_one (b : UInt8) (v : List UInt8) : (Rx.rng b.toNat b.toNat).mt v ↔ v = [b] := by
  constructor
  · rintro ⟨c, rfl, h1, h2⟩
    rw [UInt8.toNat_inj.1 (show c.toNat = b.toNat by omega)]
  · rintro rfl
    exact ⟨b, rfl, Nat.le_refl _, Nat.le_refl _⟩
theorem litN_ex : ∀ t : List UInt8, t ≠ [] → ∃ r : Rx, litN t.reverse = r.po [] ∧ LitF t.reverse r
  | [], h => absurd rfl h
  | [b], _ => by
    have hb := b.toNat_lt
    refine ⟨.rng b.toNat b.toNat, ?_, ⟨Nat.le_refl _, by omega⟩, by show 1 ≤ _; simp, fun v => rng_one b v⟩
    rfl
  | b :: c :: t, _ => by
    obtain ⟨r, h1, h2⟩ := litN_ex (c :: t) (by simp)
    have hb := b.toNat_lt
    refine ⟨.seq r (.rng b.toNat b.toNat), ?_, ⟨h2.by8, Nat.le_refl _, by omega⟩, ?_, fun v => ?_⟩
    · rw [List.reverse_cons, litN_snoc, h1, jnP_po]
    · have := h2.nn
      show r.nn + 1 + 1 ≤ _
      rw [List.length_reverse] at this ⊢
      simp only [List.length_cons] at this ⊢
      omega
    · rw [List.reverse_cons]
      constructor
      · rintro ⟨u, x, rfl, hu, hx⟩
        rw [(h2.mt u).1 hu, (rng_one b x).1 hx]
      · intro h
        exact ⟨(c :: t).reverse, [b], h, (h2.mt _).2 rfl, (rng_one b _).2 rfl⟩
theorem litP_ex (S : List UInt8) (h : S.length ≤ 40) : ∃ r : Rx, litP S = (r.po [], 0) ∧ LitF S r := by
  unfold litP
  rw [if_neg (by omega)]
  by_cases h0 : S = []
  · rw [if_pos h0]
    subst h0
    exact ⟨.emp, rfl, ⟨trivial, by show 1 ≤ _; simp, fun v => Iff.rfl⟩⟩
  · rw [if_neg h0]
    obtain ⟨r, h1, h2⟩ := litN_ex S.reverse (by simpa using h0)
    rw [List.reverse_reverse] at h1 h2
    exact ⟨r, by rw [h1], h2⟩
theorem kp_lit (W : World) (S : List UInt8) (r : Rx) (hl : litP S = (r.po [], 0)) (ht : Hid (Tu W)) (h1 : 0 < W.heap.size) (h2 : 1 < W.heap.size) : Calls Tryd.prog 22 #[.string ⟨S.toArray⟩] W fun e w' => ∃ A c, e = .returned (.tuple #[.slice A (r.po []).length c, .int .i64 0]) ∧ Hid (Rp w' w'.heap.size A (r.po [])) ∧ Hid (Below W.heap.size W w') :=
  (literal_any ⟨S.toArray⟩ W ht h1 h2).mono fun e w' h => by
    obtain ⟨v, q1, q2, q3⟩ := h
    rw [show (⟨S.toArray⟩ : ByteArray).data.toList = S from rfl, hl] at q1 q2
    obtain ⟨A, c, rfl, hr⟩ := rp_own q2 rfl
    exact ⟨A, c, q1, lid' hr, lid' q3⟩
theorem kp_check (W : World) (r : Rx) (hr : r.by8) (hl : r.nn ≤ 512) (A : Option Addr) (c : Nat) (hm : Hid (Rp W W.heap.size A (r.po []))) : Calls Tryd.prog 23 #[.slice A (r.po []).length c] W fun e w' => e = .returned (.int .i64 0) ∧ Hid (Below W.heap.size W w') :=
  (pcheck_any A _ c (r.po []) W (lid' rfl) hm).mono fun e w' h => ⟨by rw [← sy_ok hr hl]; exact h.1, lid' h.2⟩
theorem kp_parse' (W : World) (r : Rx) (s : ByteArray) (hp : prsP s.data.toList = (r.po [], 0)) : Calls Tryd.prog 14 #[.string s] W fun e w' => ∃ A c, e = .returned (.tuple #[.slice A (r.po []).length c, .int .i64 0]) ∧ Hid (Rp w' w'.heap.size A (r.po [])) ∧ Hid (Below W.heap.size W w') := k_parse s _ _ hp W
theorem lit_long {S T : List UInt8} {r : Rx} (h : LitF S r) (hS : S.length ≤ 40) : loP (r.po []) (S ++ T) 0 = ((S.length : Int), decide (0 < S.length)) := by
  obtain ⟨n, e, hF, _, _⟩ := lo_at h.by8 (by have := h.nn; omega) (S := S ++ T) (k := 0) (Nat.zero_le _)
  have hn : n = S.length := by
    have hle := hF.le
    rw [List.length_append] at hle
    rcases Nat.eq_zero_or_pos n with h0 | h0
    · rcases Nat.eq_zero_or_pos S.length with q | q
      · omega
      · exfalso
        refine hF.up S.length (by omega) (by rw [List.length_append]; omega) ((h.mt _).2 ?_)
        rw [List.drop_zero]
        exact List.take_left' rfl
    · have := congrArg List.length ((h.mt _).1 (hF.at' h0))
      rw [List.drop_zero, List.length_take, List.length_append] at this
      omega
  subst hn
  exact e
theorem lit_ma {S : List UInt8} {r : Rx} (h : LitF S r) (hS : S.length ≤ 40) (v : List UInt8) : maP (r.po []) v = decide (v = S) := by
  rw [Bool.eq_iff_iff, maP_iff h.by8 (by have := h.nn; omega), h.mt, decide_eq_true_eq]
theorem lit_sh {S v : List UInt8} {r : Rx} {z : Int} (h : LitF S r) (k : CmR r r v z) : v = S ∧ z = (if S = [] then 3 else 0) := by
  rcases k with ⟨rfl, k, _⟩ | ⟨rfl, rfl, k⟩
  · have := (h.mt v).1 k.2.1
    subst this
    exact ⟨rfl, by rw [if_neg k.1]⟩
  · by_cases c : S = []
    · exact ⟨c.symm, by rw [if_pos c]⟩
    · exact absurd ⟨(h.mt S).2 rfl, (h.mt S).2 rfl⟩ (k S c)

set_option maxHeartbeats 8000000 in
set_option maxRecDepth 100000 in
theorem lawT_walk (s t : ByteArray) (w : World) (hs : s.size ≤ 9223372036854775807) (ht : t.size ≤ 9223372036854775807) (hz : Hid (Tz w ∧ 3 < w.heap.size)) (hu : Hid (Tu w ∧ 0 < w.heap.size ∧ 1 < w.heap.size)) :
    Calls Tryd.prog 9 #[.string s, .string t] w fun e w' => e = .returned (.bool true) ∧ Below w.heap.size w w' := by
  obtain ⟨S, rfl⟩ : ∃ S : List UInt8, s = ⟨S.toArray⟩ := ⟨s.data.toList, by cases s; simp⟩
  obtain ⟨T, rfl⟩ : ∃ T : List UInt8, t = ⟨T.toArray⟩ := ⟨t.data.toList, by cases t; simp⟩
  replace hs : S.length ≤ 9223372036854775807 := by simpa [ByteArray.size] using hs
  replace ht : T.length ≤ 9223372036854775807 := by simpa [ByteArray.size] using ht
  have HK := Ky.first hz.out.1 hz.out.2
  have HSan := lid' (fun W hk => kp_san w W hk)
  by_cases hn : S.length ≤ 40 ∧ T.length ≤ 40
  · obtain ⟨hS, hT⟩ := hn
    obtain ⟨r, hlit, hF⟩ := litP_ex S hS
    have hnn := hF.nn
    have HL := lid' (fun W => kp_lit W S r hlit)
    have HP := lid' (fun W A c hr => kp_print w W r hF.by8 (by omega) A c hr)
    have HR := lid' (fun W => kp_parse' W r ⟨(r.txt 1).toArray⟩ (prsP_txt hF.by8 (by omega)))
    have HC := lid' (fun W A c hr => kp_check W r hF.by8 (by omega) A c hr)
    have HE : Hid (∀ W A A' c c', Hid (Rp W W.heap.size A (r.po [])) → Hid (Rp W W.heap.size A' (r.po [])) → Calls Tryd.prog 21 #[.slice A (r.po []).length c, .slice A' (r.po []).length c'] W fun e w' => e = .returned (.bool true) ∧ Hid (Below W.heap.size W w')) := lid' (fun W A A' c c' h1 h2 => by
      have := kp_same w W r r (by omega) A A' c c' h1 h2
      rw [decide_eq_true rfl] at this
      exact this)
    have HLo : Hid (∀ W hk A c, Hid (Rp W W.heap.size A (r.po [])) → Calls Tryd.prog 16 #[.slice A (r.po []).length c, .string (⟨S.toArray⟩ ++ ⟨T.toArray⟩), .int .i64 0] W fun e w' => e = .returned (.tuple #[.int .i64 (S.length : Int), .bool (decide (0 < S.length))]) ∧ Hid (Below W.heap.size W w')) := lid' (fun W hk A c hr => by
      have e3 : ((⟨S.toArray⟩ : ByteArray) ++ ⟨T.toArray⟩).data.toList = S ++ T := by rw [ByteArray.data_append]; simp
      have := kp_longest w W hk r A c (⟨S.toArray⟩ ++ ⟨T.toArray⟩) 0 (by show ((⟨S.toArray⟩ : ByteArray) ++ ⟨T.toArray⟩).data.size ≤ _; rw [← Array.length_toList, e3, List.length_append]; omega) hr
      rw [e3, lit_long hF hS] at this
      exact this)
    have HSh : Hid (∀ W hk A c, Hid (Rp W W.heap.size A (r.po [])) → Calls Tryd.prog 17 #[.slice A (r.po []).length c] W fun e w' => e = .returned (.tuple #[.string ⟨S.toArray⟩, .int .i64 (if S = [] then 3 else 0)]) ∧ Hid (Below W.heap.size W w')) := lid' (fun W hk A c hr => (kp_short w W hk r hF.by8 (by omega) A c hr).mono fun e w' h => by
      obtain ⟨v, z, q1, q2, q3⟩ := h
      obtain ⟨rfl, rfl⟩ := lit_sh hF q2.out
      exact ⟨q1, q3⟩)
    have HM : Hid (∀ v : List UInt8, v.length ≤ 40 → ∀ W hk A c, Hid (Rp W W.heap.size A (r.po [])) → Calls Tryd.prog 15 #[.slice A (r.po []).length c, .string ⟨v.toArray⟩] W fun e w' => e = .returned (.bool (decide (v = S))) ∧ Hid (Below W.heap.size W w')) := lid' (fun v hv W hk A c hr => by
      have := kp_match w W hk r A c ⟨v.toArray⟩ (by show v.toArray.size ≤ _; rw [List.size_toArray]; omega) hr
      rw [show maP (r.po []) (⟨v.toArray⟩ : ByteArray).data.toList = decide (v = S) from lit_ma hF hS v] at this
      exact this)
    clear hlit hF hnn hz hs ht
    generalize r.txt 1 = X at *
    generalize r.po [] = p at *
    generalize p.length = pn at *
    have HM0 := lid' (HM.out [] (by decide))
    have HMS := lid' (HM.out S hS)
    have HMT := lid' (HM.out T hT)
    rw [decide_eq_true rfl] at HMS
    clear HM
    have i1 : (S.length : Int) ≤ 40 := by omega
    have i2 : (T.length : Int) ≤ 40 := by omega
    go_enter Tryd.func9, Tryd.ntmps9
    go_wp2_with fail
    with_reducible refine (HSan.out w HK).mono ?_
    rintro e w1 ⟨rfl, b1⟩
    replace HK := Ky.later HK b1
    have HU := lid' (And.intro (tu_below (lid' hu.out.1) b1.out hu.out.2.1 hu.out.2.2).out (And.intro (Nat.lt_of_lt_of_le hu.out.2.1 b1.out.size) (Nat.lt_of_lt_of_le hu.out.2.2 b1.out.size)))
    clear b1 HSan hu
    go_wp2_with fail
    with_reducible refine (HL.out w1 (lid' HU.out.1) HU.out.2.1 HU.out.2.2).mono ?_
    rintro e w2 ⟨A2, c2, rfl, r2, b2⟩
    replace HK := Ky.later HK b2
    clear b2 HL HU
    go_wp2_with fail
    with_reducible refine (HP.out w2 _ _ r2).mono ?_
    rintro e w3 ⟨rfl, b3⟩
    replace HK := Ky.later HK b3
    replace r2 := Rp.lat r2 b3
    clear b3 HP
    go_wp2_with fail
    with_reducible refine (HR.out w3).mono ?_
    rintro e w4 ⟨A4, c4, rfl, r4, b4⟩
    replace HK := Ky.later HK b4
    replace r2 := Rp.lat r2 b4
    clear b4 HR
    go_wp2_with fail
    with_reducible refine (HE.out w4 _ _ _ _ r4 r2).mono ?_
    rintro e w5 ⟨rfl, b5⟩
    replace HK := Ky.later HK b5
    replace r2 := Rp.lat r2 b5
    clear b5 HE r4
    go_wp2_with fail
    with_reducible refine (HC.out w5 _ _ r2).mono ?_
    rintro e w6 ⟨rfl, b6⟩
    replace HK := Ky.later HK b6
    replace r2 := Rp.lat r2 b6
    clear b6 HC
    go_wp2_with fail
    with_reducible refine (HLo.out w6 HK _ _ r2).mono ?_
    rintro e w7 ⟨rfl, b7⟩
    replace HK := Ky.later HK b7
    replace r2 := Rp.lat r2 b7
    clear b7 HLo
    go_wp2_with fail
    with_reducible refine (HSh.out w7 HK _ _ r2).mono ?_
    rintro e w8 ⟨rfl, b8⟩
    replace HK := Ky.later HK b8
    replace r2 := Rp.lat r2 b8
    clear b8 HSh
    by_cases h0 : S = []
    · subst h0
      rw [if_pos rfl]
      rw [decide_eq_true rfl] at HM0
      by_cases h1 : T = []
      · subst h1
        go_wp2_with fail
        with_reducible refine (HMS.out w8 HK _ _ r2).mono ?_
        rintro e w9 ⟨rfl, b9⟩
        replace HK := Ky.later HK b9
        replace r2 := Rp.lat r2 b9
        clear b9
        go_wp2_with fail
        with_reducible refine (HMS.out w9 HK _ _ r2).mono ?_
        rintro e w10 ⟨rfl, b10⟩
        replace HK := Ky.later HK b10
        clear b10 HMS HMT HM0
        go_wp2_with fail
        go_ret
        exact ⟨rfl, HK.out.b⟩
      · rw [decide_eq_false h1] at HMT
        obtain ⟨y1, t1, rfl⟩ : ∃ y1 t1, T = y1 :: t1 := by
          cases T with
          | nil => exact absurd rfl h1
          | cons y1 t1 => exact ⟨y1, t1, rfl⟩
        clear h1
        go_wp2_with fail
        with_reducible refine (HMS.out w8 HK _ _ r2).mono ?_
        rintro e w9 ⟨rfl, b9⟩
        replace HK := Ky.later HK b9
        replace r2 := Rp.lat r2 b9
        clear b9 HMS
        go_wp2_with fail
        with_reducible refine (HMT.out w9 HK _ _ r2).mono ?_
        rintro e w10 ⟨rfl, b10⟩
        replace HK := Ky.later HK b10
        clear b10 HMT HM0
        go_wp2_with fail
        go_ret
        exact ⟨rfl, HK.out.b⟩
    · rw [if_neg h0]
      have hb : decide (0 < S.length) = true := decide_eq_true (List.length_pos_iff.2 h0)
      have hc : ((S.length : Int) == (S.length : Int)) = true := by simp
      obtain ⟨y0, s1, rfl⟩ : ∃ y0 s1, S = y0 :: s1 := by
        cases S with
        | nil => exact absurd rfl h0
        | cons y0 s1 => exact ⟨y0, s1, rfl⟩
      clear h0 HM0
      by_cases h1 : T = y0 :: s1
      · subst h1
        go_wp2_with fail
        with_reducible refine (HMS.out w8 HK _ _ r2).mono ?_
        rintro e w9 ⟨rfl, b9⟩
        replace HK := Ky.later HK b9
        replace r2 := Rp.lat r2 b9
        clear b9
        go_wp2_with fail
        with_reducible refine (HMS.out w9 HK _ _ r2).mono ?_
        rintro e w10 ⟨rfl, b10⟩
        replace HK := Ky.later HK b10
        clear b10 HMS HMT
        go_wp2_with fail
        go_ret
        exact ⟨rfl, HK.out.b⟩
      · rw [decide_eq_false h1] at HMT
        have hne : ((y0 :: s1) == T) = false := by
          rw [beq_eq_false_iff_ne]
          exact fun e => h1 e.symm
        have hne2 : ¬ (y0 :: s1 = T) := fun e => h1 e.symm
        clear h1
        go_wp2_with fail
        with_reducible refine (HMS.out w8 HK _ _ r2).mono ?_
        rintro e w9 ⟨rfl, b9⟩
        replace HK := Ky.later HK b9
        replace r2 := Rp.lat r2 b9
        clear b9 HMS
        go_wp2_with fail
        with_reducible refine (HMT.out w9 HK _ _ r2).mono ?_
        rintro e w10 ⟨rfl, b10⟩
        replace HK := Ky.later HK b10
        clear b10 HMT
        go_wp2_with fail
        go_ret
        exact ⟨rfl, HK.out.b⟩
  · have hn' : (40 : Int) < (S.length : Int) ∨ (¬ (40 : Int) < (S.length : Int) ∧ (40 : Int) < (T.length : Int)) := by omega
    clear hn hz hu
    rcases hn' with i1 | ⟨i1, i2⟩
    all_goals
      go_enter Tryd.func9, Tryd.ntmps9
      go_wp2_with fail
      with_reducible refine (HSan.out w HK).mono ?_
      rintro e w1 ⟨rfl, b1⟩
      replace HK := Ky.later HK b1
      clear b1 HSan
      go_wp2_with fail
      go_ret
      exact ⟨rfl, HK.out.b⟩

end Go.Proofs.YtgjhicahopcfcaaDoor
