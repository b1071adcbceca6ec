/-
  The reference's Matches, Longest, Literal. (Seat of the great laws.)
-/
import Derived.Test.YtfkljlncnfeklaaGreatDoorXQbM
import Derived.Test.YtfkljlncnfeklaaGreatDoorXQcM
import Derived.Test.YtfkljlncnfeklaaGreatDoorPl
import Derived.Lib.MinMax
namespace Go.Proofs.YtfkljlncnfeklaaGreatDoor
open Go.RowKit Go.Shelf
set_option linter.unusedVariables false
set_option linter.unusedSimpArgs false
attribute [local go_sem ↓] Go.wp_at_zero Go.wp_at_succ

theorem one_start (w : World) (k : Nat) : ∀ W, w.alloc (.cells #[.int .i64 (k : Int)] 3) = W → Below w.heap.size w W ∧ Hid (Ri W W.heap.size (some ⟨w.heap.size, 0, none⟩) [k]) := by
  rintro W rfl
  refine ⟨(Below.refl _ _).alloc (Nat.le_refl _) _, Lib.hid ?_⟩
  have := Ri.one w k
  rw [World.size_alloc]
  exact this
theorem maP_ref {l : List Pn} (h : chP l = 0) (S : List UInt8) : maP l S = decide (S.length ∈ bh S (rxP l) [0]) := by
  unfold maP
  rw [if_pos h]
  by_cases q : (rxP l).mt S
  · rw [decide_eq_true ((mt_lng _ _).2 q), decide_eq_true ((bh_has S _).2 q)]
  · rw [decide_eq_false (fun e => q ((mt_lng _ _).1 e)), decide_eq_false (fun e => q ((bh_has S _).1 e))]
set_option maxHeartbeats 4000000 in
set_option maxRecDepth 100000 in
theorem rmatches_any (A : Option Addr) (m c : Nat) (l : List Pn) (S : List UInt8) (hS : S.length ≤ 1000) (w : World) (hl : Hid (l.length = m)) (hr : Hid (Rp w w.heap.size A l)) :
    Calls Tryz.prog 15 #[.slice A m c, .string ⟨S.toArray⟩] w fun e w' => e = .returned (.bool (maP l S)) ∧ Hid (Below w.heap.size w w') := by
  have HC := Lib.hid (qpcheck_any A m c l w hl hr)
  by_cases h : chP l = 0
  · have hok := chP_zero.1 h
    have hm1 := hok.len
    rw [h] at HC
    have HM := Lib.hid (maP_ref h S)
    have hT := rbehind_all A m c l S hS hl hok (l.length - 1) (by omega)
    obtain ⟨q, hq⟩ : ∃ q, l.length - 1 = q := ⟨_, rfl⟩
    have hbl : (bh S (rxP l) [0]).length ≤ 1001 := by have := (Ofs.bh S (rxP l) [0] (ofs_one (Nat.zero_le _))).len; omega
    have hrx : rxN l q = rxP l := by rw [← hq]; rfl
    rw [hq] at hT
    unfold QbC at hT
    rw [hrx] at hT
    have HRL : Hid (∀ W', Below w.heap.size w W' → Hid (Rp W' W'.heap.size A l)) := Lib.hid (fun W' hb' => Rp.later hr hb')
    have HT : Hid (∀ W, Below w.heap.size w W → Calls Tryz.prog 30 #[.slice A m c, .int .i64 (q : Int), .string ⟨S.toArray⟩, .slice (some ⟨W.heap.size, 0, none⟩) 1 1] (W.alloc (.cells #[.int .i64 0] 3)) fun e w' => ∃ A' c', e = .returned (.slice A' (bh S (rxP l) [0]).length c') ∧ Hid (Ri w' w'.heap.size A' (bh S (rxP l) [0])) ∧ Hid (Below w.heap.size w w')) := Lib.hid (fun W hb => by
      obtain ⟨b1, r1⟩ := one_start W 0 _ rfl
      have hb2 := hb.trans (b1.mono hb.size)
      refine (hT _ (some ⟨W.heap.size, 0, none⟩) 1 1 [0] (HRL.out _ hb2) (Lib.hid rfl) (Lib.hid (ofs_one (Nat.zero_le _))) r1).mono ?_
      rintro e w' ⟨A', c', e1, r2, b2⟩
      exact ⟨A', c', e1, r2, Lib.hid (hb2.trans (b2.out.mono hb2.size))⟩)
    have HH : Hid (∀ W A' c', Hid (Ri W W.heap.size A' (bh S (rxP l) [0])) → Calls Tryz.prog 41 #[.slice A' (bh S (rxP l) [0]).length c', .int .i64 (S.length : Int)] W fun e w' => e = .returned (.bool (maP l S)) ∧ w' = W) := Lib.hid (fun W A' c' r => by
      have := rhas_any A' _ c' (bh S (rxP l) [0]) S.length W (Lib.hid rfl) (by omega) r
      rw [← HM.out] at this
      exact this)
    have hm2 : (m : Int) - 1 = (q : Int) := by have := hl.out; omega
    have hqb : (q : Int) ≤ 512 := by have := hm1.2; omega
    have hq0 : (0 : Int) ≤ (q : Int) := by omega
    generalize bh S (rxP l) [0] = R at *
    clear hT hq hm1 hok h hrx HM
    go_enter Tryz.func15, Tryz.ntmps15
    go_wp2_with (first
      | (go_at_call 13; with_reducible refine HC.out.mono ?_; rintro e w1 ⟨rfl, b1⟩; have HX := Lib.hid (HT.out w1 b1); clear b1)
      | (go_at_call 30; with_reducible refine HX.out.mono ?_; rintro e w2 ⟨A2, c2, rfl, r2, b2⟩; have HY := Lib.hid (HH.out w2 A2 c2 r2))
      | (go_at_call 41; with_reducible refine HY.out.mono ?_; rintro e w3 ⟨rfl, hw⟩; subst hw))
    go_ret
    exact ⟨rfl, b2⟩
  · have hs : maP l S = false := by unfold maP; rw [if_neg h]
    rw [hs]
    have hz : (chP l == 0) = false := beq_eq_false_iff_ne.2 h
    clear hs
    go_enter Tryz.func15, Tryz.ntmps15
    go_wp2_with (go_at_call 13; with_reducible refine HC.out.mono ?_; rintro e w1 ⟨rfl, b1⟩; have HB := Lib.hid b1; clear b1)
    go_ret
    exact ⟨rfl, HB⟩
/-- the loop of Longest -/
theorem loP_ref {l : List Pn} (h : chP l = 0) {S : List UInt8} {k : Nat} (hk : k ≤ S.length) : loP l S (k : Int) = (bestN k (bh S (rxP l) [k]), decide (0 < bestN k (bh S (rxP l) [k]))) := by
  rw [bh_best hk]
  unfold loP
  rw [Int.toNat_natCast]
  by_cases c : 0 < lng (rxP l) (S.drop k)
  · rw [if_pos ⟨h, by omega, by omega, c⟩, if_pos c, decide_eq_true c]
  · rw [if_neg (fun e => c e.2.2.2), if_neg c]
    rfl
set_option maxHeartbeats 4000000 in
set_option maxRecDepth 100000 in
theorem rlongest_any (A : Option Addr) (m c : Nat) (l : List Pn) (S : List UInt8) (hS : S.length ≤ 1000) (a : Int) (w : World) (hl : Hid (l.length = m)) (hr : Hid (Rp w w.heap.size A l)) :
    Calls Tryz.prog 9 #[.slice A m c, .string ⟨S.toArray⟩, .int .i64 a] w fun e w' => e = .returned (.tuple #[.int .i64 (loP l S a).1, .bool (loP l S a).2]) ∧ Hid (Below w.heap.size w w') := by
  have HC := Lib.hid (qpcheck_any A m c l w hl hr)
  by_cases h : chP l = 0
  · rw [h] at HC
    by_cases ha : 0 ≤ a ∧ a ≤ (S.length : Int)
    · obtain ⟨k, rfl⟩ : ∃ k : Nat, a = (k : Int) := ⟨a.toNat, by omega⟩
      have hk : k ≤ S.length := by omega
      have hok := chP_zero.1 h
      have hm1 := hok.len
      have hM := loP_ref h hk
      have hT := rbehind_all A m c l S hS hl hok (l.length - 1) (by omega)
      obtain ⟨q, hq⟩ : ∃ q, l.length - 1 = q := ⟨_, rfl⟩
      have hof := Ofs.bh S (rxP l) [k] (ofs_one hk)
      have hbl : (bh S (rxP l) [k]).length ≤ 1001 := by have := hof.len; omega
      have hrx : rxN l q = rxP l := by rw [← hq]; rfl
      rw [hq] at hT
      unfold QbC at hT
      rw [hrx] at hT
      have HRL : Hid (∀ W', Below w.heap.size w W' → Hid (Rp W' W'.heap.size A l)) := Lib.hid (fun W' hb' => Rp.later hr hb')
      have HT : Hid (∀ W, Below w.heap.size w W → Calls Tryz.prog 30 #[.slice A m c, .int .i64 (q : Int), .string ⟨S.toArray⟩, .slice (some ⟨W.heap.size, 0, none⟩) 1 1] (W.alloc (.cells #[.int .i64 (k : Int)] 3)) fun e w' => ∃ A' c', e = .returned (.slice A' (bh S (rxP l) [k]).length c') ∧ Hid (Ri w' w'.heap.size A' (bh S (rxP l) [k])) ∧ Hid (Below w.heap.size w w')) := Lib.hid (fun W hb => by
        obtain ⟨b1, r1⟩ := one_start W k _ rfl
        have hb2 := hb.trans (b1.mono hb.size)
        refine (hT _ (some ⟨W.heap.size, 0, none⟩) 1 1 [k] (HRL.out _ hb2) (Lib.hid rfl) (Lib.hid (ofs_one hk)) r1).mono ?_
        rintro e w' ⟨A', c', e1, r2, b2⟩
        exact ⟨A', c', e1, r2, Lib.hid (hb2.trans (b2.out.mono hb2.size))⟩)
      have hm2 : (m : Int) - 1 = (q : Int) := by have := hl.out; omega
      have hqb : (q : Int) ≤ 512 := by have := hm1.2; omega
      have hq0 : (0 : Int) ≤ (q : Int) := by omega
      have k0 : ¬ (k : Int) < 0 := by omega
      have k1 : ¬ (S.length : Int) < (k : Int) := by omega
      have k2 : (k : Int) ≤ 1000 := by omega
      have k3 : (0 : Int) ≤ (k : Int) := by omega
      have HOF := Lib.hid hof.2
      rw [hM]
      generalize bh S (rxP l) [k] = R at *
      clear hT hq hm1 hok h hrx hof hM
      go_enter Tryz.func9, Tryz.ntmps9
      go_wp2_with (first
        | (go_at_call 13; with_reducible refine HC.out.mono ?_; rintro e w1 ⟨rfl, b1⟩; have HX := Lib.hid (HT.out w1 b1); clear b1)
        | (go_at_call 30; with_reducible refine HX.out.mono ?_; rintro e w2 ⟨A2, c2, rfl, r2, b2⟩))
      obtain ⟨b, o, rfl, hb, hc⟩ := r2.out
      have HD := Lib.hid hc
      clear hc r2
      go_loopw [9, 10] (fun v9 v10 wr => wr = w2 ∧ ∃ i : Nat, i ≤ R.length ∧ v10 = .int .i64 (i : Int) ∧ v9 = .int .i64 (bestN k (R.take i))) (fun v9 v10 wr => R.length - (intOf v10).toNat)
      case atStart => exact ⟨rfl, 0, Nat.zero_le _, rfl, rfl⟩
      case round =>
        obtain ⟨rfl, i, hi, rfl, rfl⟩ := hrel
        by_cases hlt : i < R.length
        · have i1 : (i : Int) < (R.length : Int) := by omega
          have i0 : (0 : Int) ≤ (i : Int) := by omega
          have d0 := HD.out i hlt
          obtain ⟨x, hx⟩ : ∃ x, R[i]'hlt = x := ⟨_, rfl⟩
          have hxS := HOF.out x (hx ▸ List.getElem_mem hlt)
          rw [hx] at d0
          have x0 : (0 : Int) ≤ (x : Int) := by omega
          have xb : (x : Int) ≤ 1000 := by omega
          have HN := Lib.hid (show bestN k (R.take (i + 1)) = max (bestN k (R.take i)) ((x : Int) - (k : Int)) by rw [List.take_succ_eq_append_getElem hlt, hx, bestN_snoc])
          generalize bestN k (R.take i) = M at *
          clear hx
          go_wp2
          go_roundw
          case rel => exact ⟨trivial, i + 1, by omega, by go_num, by rw [HN.out]⟩
          case measure => simp only [intOf]; omega
        · obtain rfl : i = R.length := by omega
          have HE := Lib.hid (show R.take R.length = R from List.take_of_length_le (Nat.le_refl _))
          rw [HE.out]
          generalize hMM : bestN k R = M at *
          have HMM := Lib.hid hMM
          clear hMM
          go_wp2
          go_ret2
          exact ⟨by rw [HMM.out]; rfl, b2⟩
    · have hs : loP l S a = (0, false) := by unfold loP; rw [if_neg (fun e => ha ⟨e.2.1, e.2.2.1⟩)]
      rw [hs]
      clear hs
      rcases (show a < 0 ∨ (0 ≤ a ∧ (S.length : Int) < a) by omega) with h1 | ⟨h0, h1⟩
      all_goals
        go_enter Tryz.func9, Tryz.ntmps9
        go_wp2_with (go_at_call 13; with_reducible refine HC.out.mono ?_; rintro e w1 ⟨rfl, b1⟩; have HB := Lib.hid b1; clear b1)
        go_ret2
        exact ⟨rfl, HB⟩
  · have hs : loP l S a = (0, false) := by unfold loP; rw [if_neg (fun e => h e.1)]
    rw [hs]
    have hz : (chP l != 0) = true := bne_iff_ne.2 h
    clear hs
    go_enter Tryz.func9, Tryz.ntmps9
    go_wp2_with (go_at_call 13; with_reducible refine HC.out.mono ?_; rintro e w1 ⟨rfl, b1⟩; have HB := Lib.hid b1; clear b1)
    go_ret2
    exact ⟨rfl, HB⟩

end Go.Proofs.YtfkljlncnfeklaaGreatDoor
