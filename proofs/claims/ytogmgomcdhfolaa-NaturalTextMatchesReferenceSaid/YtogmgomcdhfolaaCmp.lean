/-
  natural.Compare, natural.Sub: the order of numbers, and their difference.
-/
import Derived.Test.YtogmgomcdhfolaaSubFrom
import Derived.Test.YtogmgomcdhfolaaAdd
namespace Go.Proofs.Ytogmgomcdhfolaa
open Go.RowKit Nt

/-- -1, 0 or 1 -/
def cmpN (a b : Nat) : Int := if a < b then -1 else if b < a then 1 else 0
theorem cmpN_lt {a b : Nat} (h : a < b) : cmpN a b = -1 := if_pos h
theorem cmpN_gt {a b : Nat} (h : b < a) : cmpN a b = 1 := by unfold cmpN; rw [if_neg (by omega), if_pos h]
theorem cmpN_eq (a : Nat) : cmpN a a = 0 := by unfold cmpN; rw [if_neg (by omega), if_neg (by omega)]
theorem ret_i {a b : Int} (h : a = b) : Ending.returned (.int .i64 a) = .returned (.int .i64 b) := by rw [h]

set_option maxHeartbeats 400000 in
theorem cmpI (x y : Nat) (w : World) :
    Calls Try.prog 60 #[.int .i64 (x : Int), .int .i64 (y : Int)] w fun e w' => e = .returned (.int .i64 (cmpN x y)) ∧ w = w' := by
  rcases Nat.lt_trichotomy x y with h | h | h
  · go_enter Try.func60, Try.ntmps60
    go_wp2
    go_ret
    exact ⟨ret_i (cmpN_lt h).symm, rfl⟩
  · subst h
    go_enter Try.func60, Try.ntmps60
    go_wp2
    go_ret
    exact ⟨ret_i (cmpN_eq _).symm, rfl⟩
  · have h2 : ¬ x < y := by omega
    go_enter Try.func60, Try.ntmps60
    go_wp2
    go_ret
    exact ⟨ret_i (cmpN_gt h).symm, rfl⟩

set_option maxHeartbeats 400000 in
theorem cmpU (x y : Nat) (w : World) :
    Calls Try.prog 61 #[.int .u32 (x : Int), .int .u32 (y : Int)] w fun e w' => e = .returned (.int .i64 (cmpN x y)) ∧ w' = w := by
  rcases Nat.lt_trichotomy x y with h | h | h
  · go_enter Try.func61, Try.ntmps61
    go_wp2
    go_ret
    exact ⟨ret_i (cmpN_lt h).symm, rfl⟩
  · subst h
    go_enter Try.func61, Try.ntmps61
    go_wp2
    go_ret
    exact ⟨ret_i (cmpN_eq _).symm, rfl⟩
  · have h2 : ¬ x < y := by omega
    go_enter Try.func61, Try.ntmps61
    go_wp2
    go_ret
    exact ⟨ret_i (cmpN_gt h).symm, rfl⟩

theorem cmpU_quiet {x y : Nat} {w : World} {n m : Nat} :
    Calls Try.prog 61 #[.int .u32 (x : Int), .int .u32 (y : Int)] (w.drewN (n + m)) fun e w' => e = .returned (.int .i64 (cmpN x y)) ∧ ∃ k, w' = w.drewN (n + k) :=
  (cmpU x y _).mono fun _ _ h => ⟨h.1, m, h.2⟩

/-- only draws lie between two worlds -/
def Qt (w w' : World) : Prop := ∃ n, w' = w.drewN n
theorem Qt.refl (w : World) : Qt w w := ⟨0, rfl⟩
theorem Qt.more {w w' : World} (h : Qt w w') (n : Nat) : Qt w (w'.drewN n) := by
  obtain ⟨m, rfl⟩ := h
  exact ⟨m + n, by simp⟩
theorem Qt.cell {w w' : World} (h : Qt w w') (a : Addr) : w'.cell? a = w.cell? a := by
  obtain ⟨m, rfl⟩ := h; rfl
theorem Qt.below {w w' : World} (h : Qt w w') (B : Nat) : Below B w w' := by
  obtain ⟨m, rfl⟩ := h; exact ⟨rfl, rfl, rfl, Nat.le_refl _, fun _ _ => rfl⟩
theorem Qt.size {w w' : World} (h : Qt w w') : w'.heap.size = w.heap.size := by
  obtain ⟨m, rfl⟩ := h; rfl

/-- the limbs above k are equal -/
def Eqa (l m : List Nat) (k : Nat) : Prop := ∀ j, k ≤ j → j < l.length → nth l j = nth m j

theorem cmp_top {a b k : Nat} (hl : (dg a).length = (dg b).length) (hk : k < (dg a).length) (he : Eqa (dg a) (dg b) (k + 1)) (hne : nth (dg a) k ≠ nth (dg b) k) :
    cmpN (nth (dg a) k) (nth (dg b) k) = cmpN a b := by
  rcases Nat.lt_or_ge (nth (dg a) k) (nth (dg b) k) with h | h
  · have := val_lt_of_top (wf_dg a) hl hk h (fun j h1 h2 => he j h1 h2)
    rw [val_dg, val_dg] at this
    rw [cmpN_lt h, cmpN_lt this]
  · have h' : nth (dg b) k < nth (dg a) k := by omega
    have := val_lt_of_top (wf_dg b) hl.symm (by omega) h' (fun j h1 h2 => (he j h1 (by omega)).symm)
    rw [val_dg, val_dg] at this
    rw [cmpN_gt h', cmpN_gt this]
theorem cmp_all {a b : Nat} (hl : (dg a).length = (dg b).length) (he : Eqa (dg a) (dg b) 0) : a = b := by
  apply dg_inj
  apply List.ext_getElem hl
  intro i h1 h2
  have := he i (Nat.zero_le _) h1
  rwa [nth_getElem h1, nth_getElem h2] at this
theorem cmp_len {a b : Nat} (h : (dg a).length ≠ (dg b).length) : cmpN (dg a).length (dg b).length = cmpN a b := by
  rcases Nat.lt_or_ge (dg a).length (dg b).length with h1 | h1
  · have : a < b := by
      rcases Nat.lt_or_ge a b with h2 | h2
      · exact h2
      · have := dg_length_mono h2; omega
    rw [cmpN_lt h1, cmpN_lt this]
  · have h1' : (dg b).length < (dg a).length := by omega
    have : b < a := by
      rcases Nat.lt_or_ge b a with h2 | h2
      · exact h2
      · have := dg_length_mono h2; omega
    rw [cmpN_gt h1', cmpN_gt this]

set_option maxHeartbeats 1000000 in
theorem compareLimbs_len (a b c d : Nat) (A A' : Option Addr) (w : World) (_la : (dg a).length ≤ 1024) (_lb : (dg b).length ≤ 1024) (hne : ¬ (dg a).length = (dg b).length) :
    Calls Try.prog 44 #[.slice A (dg a).length c, .slice A' (dg b).length d] w fun e w' => e = .returned (.int .i64 (cmpN a b)) ∧ Qt w w' := by
  have hc := cmp_len hne
  have HC := Lib.hid hc
  clear hc
  have hb : (((dg a).length : Int) != ((dg b).length : Int)) = true := by simp; omega
  go_enter Try.func44, Try.ntmps44
  go_wp2_with (first | (go_at_call 60; ((with_reducible refine (cmpI _ _ _).mono ?_); rintro e w' ⟨rfl, rfl⟩)))
  go_ret
  exact ⟨ret_i HC.out, Qt.refl _⟩

set_option maxHeartbeats 2000000 in
theorem compareLimbs_some (a b c d n p q r s : Nat) (w : World) (ha : Hid ((dg a).length = n)) (hb : Hid ((dg b).length = n)) (hn : n ≤ 1024)
    (hca : Hid (∀ j, j < n → w.cell? ⟨p, q + j, none⟩ = some (.int .u32 ((nth (dg a) j : Nat) : Int)))) (hcb : Hid (∀ j, j < n → w.cell? ⟨r, s + j, none⟩ = some (.int .u32 ((nth (dg b) j : Nat) : Int)))) :
    Calls Try.prog 44 #[.slice (some ⟨p, q, none⟩) n c, .slice (some ⟨r, s, none⟩) n d] w fun e w' => e = .returned (.int .i64 (cmpN a b)) ∧ Qt w w' := by
  go_enter Try.func44, Try.ntmps44
  go_wp2
  go_loopw [19] (fun i wr => ∃ k : Nat, k ≤ n ∧ i = .int .i64 k ∧ Hid (Eqa (dg a) (dg b) (n - k)) ∧ Hid (Qt w wr)) (fun i _ => n - (intOf i).toNat)
  case atStart => exact ⟨0, Nat.zero_le _, rfl, fun j h1 h2 => absurd h2 (by rw [ha.out]; omega), Qt.refl _⟩
  case round =>
    obtain ⟨k, hk, rfl, heq, hqt⟩ := hrel
    by_cases hlt : k < n
    · obtain ⟨t, ht⟩ : ∃ t, t = n - 1 - k := ⟨_, rfl⟩
      have ht1 : t < n := by omega
      have ht2 : t + 1 = n - k := by omega
      have ht3 : (n : Int) - 1 - (k : Int) = (t : Int) := by omega
      have HT2 := Lib.hid ht2
      clear ht2 ht
      have c1 : wr.cell? ⟨p, q + t, none⟩ = some (.int .u32 ((nth (dg a) t : Nat) : Int)) := (hqt.out.cell _).trans (hca.out t ht1)
      have c2 : wr.cell? ⟨r, s + t, none⟩ = some (.int .u32 ((nth (dg b) t : Nat) : Int)) := (hqt.out.cell _).trans (hcb.out t ht1)
      have i1 : (0 : Int) ≤ (t : Int) := by omega
      have i2 : (t : Int) < (n : Int) := by omega
      by_cases hd : nth (dg a) t = nth (dg b) t
      · have HD := Lib.hid hd
        have hbq : ((nth (dg a) t : Int) != (nth (dg b) t : Int)) = false := by simp [hd]
        clear hd
        go_wp2
        go_quiet (fail)
        go_wp2
        go_roundw
        case rel => exact ⟨k + 1, by omega, by go_num, fun j h1 h2 => by
          rw [ha.out] at h2
          rcases Nat.lt_or_ge t j with h3 | h3
          · exact heq.out j (by have := HT2.out; omega) (by rw [ha.out]; exact h2)
          · have e : j = t := by have := HT2.out; omega
            rw [e]; exact HD.out, hqt.out.more _⟩
        case measure => simp [intOf]; omega
      · have HD := Lib.hid hd
        have hbq : ((nth (dg a) t : Int) != (nth (dg b) t : Int)) = true := by simp; omega
        clear hd
        go_wp2
        go_quiet (fail)
        go_wp2
        go_quiet ((go_at_call 61; exact cmpU_quiet))
        go_wp2
        go_ret
        have e := cmp_top (k := t) (by rw [ha.out, hb.out]) (by rw [ha.out]; exact ht1) (by rw [HT2.out]; exact heq.out) HD.out
        exact ⟨ret_i e, (hqt.out.more _).more _⟩
    · go_wp2
      go_ret
      obtain rfl : k = n := by omega
      have e := heq.out
      rw [Nat.sub_self] at e
      have := cmp_all (by rw [ha.out, hb.out]) e
      subst this
      exact ⟨ret_i (cmpN_eq _).symm, hqt.out⟩

theorem compareLimbs_none (A A' : Option Addr) (c d : Nat) (w : World) :
    Calls Try.prog 44 #[.slice A 0 c, .slice A' 0 d] w fun e w' => e = .returned (.int .i64 0) ∧ Qt w w' := by
  go_enter Try.func44, Try.ntmps44
  go_wp2
  go_rounds 1
  go_ret
  exact ⟨rfl, Qt.refl _⟩

theorem compareLimbs_any {B : Nat} {a b : Nat} {A A' : Option Addr} {w : World} (c d : Nat) (ha : Rd w B A (dg a)) (hb : Rd w B A' (dg b)) (la : (dg a).length ≤ 1024) (lb : (dg b).length ≤ 1024) :
    Calls Try.prog 44 #[.slice A (dg a).length c, .slice A' (dg b).length d] w fun e w' => e = .returned (.int .i64 (cmpN a b)) ∧ Qt w w' := by
  by_cases hne : (dg a).length = (dg b).length
  · rcases Nat.eq_zero_or_pos (dg a).length with pa | pa
    · have ea : a = 0 := dg_eq_nil.1 (List.eq_nil_of_length_eq_zero pa)
      have eb : b = 0 := dg_eq_nil.1 (List.eq_nil_of_length_eq_zero (by omega))
      subst ea
      subst eb
      rw [cmpN_eq, dg_zero]
      exact compareLimbs_none A A' c d w
    · obtain ⟨p, q, rfl, _, h2⟩ := ha pa
      obtain ⟨r, s, rfl, _, h4⟩ := hb (by omega)
      have := compareLimbs_some a b c d (dg a).length p q r s w rfl hne.symm la h2 (fun j hj => h4 j (by omega))
      rw [← hne]
      exact this
  · exact compareLimbs_len a b c d A A' w la lb hne

set_option maxHeartbeats 400000 in
theorem compare_ok {a b : Nat} {A A' : Option Addr} {w : World} (c d : Nat) (ha : Rd w w.heap.size A (dg a)) (hb : Rd w w.heap.size A' (dg b)) (la : (dg a).length ≤ 1024) (lb : (dg b).length ≤ 1024) :
    Calls Try.prog 28 #[.slice A (dg a).length c, .slice A' (dg b).length d] w fun e w' => e = .returned (.int .i64 (cmpN a b)) ∧ Qt w w' := by
  have HA := Lib.hid ha
  have HB := Lib.hid hb
  have VA := Lib.hid (vldB_dg la)
  have VB := Lib.hid (vldB_dg lb)
  clear ha hb
  go_enter Try.func28, Try.ntmps28
  go_wp2_with (first
    | (go_at_call 26; ((with_reducible refine (valid_yes c _ HA.out rfl (by omega) VA.out).mono ?_); rintro e w' ⟨rfl, rfl⟩))
    | (go_at_call 26; ((with_reducible refine (valid_yes d _ HB.out rfl (by omega) VB.out).mono ?_); rintro e w' ⟨rfl, rfl⟩))
    | (go_at_call 44; refine (compareLimbs_any c d HA.out HB.out la lb).mono ?_; rintro e w1 ⟨rfl, hq⟩))
  go_ret
  exact ⟨rfl, hq⟩

set_option maxHeartbeats 400000 in
theorem compare_bad {B : Nat} {A A' : Option Addr} {l m : List Nat} {w : World} (c d : Nat) (ha : Rd w B A l) (hb : Rd w B A' m) (hl : l.length ≤ 1000000) (hm : m.length ≤ 1000000) (hv : (vldB l && vldB m) = false) :
    Calls Try.prog 28 #[.slice A l.length c, .slice A' m.length d] w fun e w' => e = .returned (.int .i64 0) ∧ Qt w w' := by
  have HA := Lib.hid ha
  have HB := Lib.hid hb
  clear ha hb
  rcases hvl : vldB l with _ | _
  · have VA := Lib.hid hvl
    clear hvl hv
    go_enter Try.func28, Try.ntmps28
    go_wp2_with (first
      | (go_at_call 26; ((with_reducible refine (valid_no c _ HA.out rfl (by omega) VA.out).mono ?_); rintro e w' ⟨rfl, rfl⟩)))
    go_ret
    exact ⟨rfl, Qt.refl _⟩
  · have VA := Lib.hid hvl
    rw [hvl, Bool.true_and] at hv
    have VB := Lib.hid hv
    clear hvl hv
    go_enter Try.func28, Try.ntmps28
    go_wp2_with (first
      | (go_at_call 26; ((with_reducible refine (valid_yes c _ HA.out rfl (by omega) VA.out).mono ?_); rintro e w' ⟨rfl, rfl⟩))
      | (go_at_call 26; ((with_reducible refine (valid_no d _ HB.out rfl (by omega) VB.out).mono ?_); rintro e w' ⟨rfl, rfl⟩)))
    go_ret
    exact ⟨rfl, Qt.refl _⟩

/-- the error of a difference -/
def subE (a b : Nat) : Int := if a < b then 10 else 0
theorem subE_lt {a b : Nat} (h : a < b) : subE a b = 10 := if_pos h
theorem subE_ge {a b : Nat} (h : b ≤ a) : subE a b = 0 := if_neg (by omega)

theorem sub_val {a b n c : Nat} {X : List Nat} (hw : Wf X) (hx : X.length = n) (hab : b ≤ a) (h : val X + b = a + 4294967296 ^ n * c) : val X = a - b := by
  have hv := val_lt hw
  rw [hx] at hv
  generalize 4294967296 ^ n = P at h hv
  have : c = 0 := by
    rcases Nat.eq_zero_or_pos c with h0 | h0
    · exact h0
    · have : P * 1 ≤ P * c := Nat.mul_le_mul_left _ h0
      omega
  subst this
  rw [Nat.mul_zero] at h
  omega

theorem diff_of {w w' : World} {g a b : Nat} {e : Ending} (hab : b ≤ a) (h : Subbed w g 0 (dg a).length (dg a) (dg b) e w') :
    ∃ X, e = .returned (.tuple #[]) ∧ Wf X ∧ X.length = (dg a).length ∧ val X = a - b ∧ Bk w' g X ∧ Upd g w w' := by
  obtain ⟨X, c, he, hx, hw, _, hv, hb, hu⟩ := h
  rw [List.drop_zero, List.take_of_length_le (Nat.le_refl _), val_dg, val_dg] at hv
  rw [splice_full hx] at hb
  exact ⟨X, he, hw, hx, sub_val hw hx hab hv, hb, hu⟩

set_option maxHeartbeats 1000000 in
theorem sub_ok {a b : Nat} {A A' : Option Addr} {w : World} (c d : Nat) (ha : Rd w w.heap.size A (dg a)) (hb : Rd w w.heap.size A' (dg b)) (la : (dg a).length ≤ 1024) (lb : (dg b).length ≤ 1024) :
    Calls Try.prog 18 #[.slice A (dg a).length c, .slice A' (dg b).length d] w (Gives w (a - b) (subE a b)) := by
  have HA := Lib.hid ha
  have HB := Lib.hid hb
  have VA := Lib.hid (vldB_dg la)
  have VB := Lib.hid (vldB_dg lb)
  clear ha hb
  rcases Nat.lt_or_ge a b with hlt | hge
  · rw [subE_lt hlt, show a - b = 0 by omega]
    have hc := Lib.hid (cmpN_lt hlt)
    go_enter Try.func18, Try.ntmps18
    go_wp2_with (first
      | (go_at_call 26; ((with_reducible refine (valid_yes c _ HA.out rfl (by omega) VA.out).mono ?_); rintro e w' ⟨rfl, rfl⟩))
      | (go_at_call 26; ((with_reducible refine (valid_yes d _ HB.out rfl (by omega) VB.out).mono ?_); rintro e w' ⟨rfl, rfl⟩))
      | (go_at_call 44; refine (compareLimbs_any c d HA.out HB.out la lb).mono ?_; rintro e w1 ⟨rfl, hq⟩; rw [hc.out]))
    go_ret2
    exact ⟨_, rfl, Num.nil _, hq.below _⟩
  · rw [subE_ge hge]
    have hle := dg_length_mono hge
    obtain ⟨z, hz, hz0⟩ : ∃ z : Int, cmpN a b = z ∧ ¬ z < 0 := ⟨_, rfl, by unfold cmpN; rw [if_neg (by omega)]; split <;> omega⟩
    have HZ := Lib.hid hz
    clear hz
    go_enter Try.func18, Try.ntmps18
    go_wp2_with (first
      | (go_at_call 26; ((with_reducible refine (valid_yes c _ HA.out rfl (by omega) VA.out).mono ?_); rintro e w' ⟨rfl, rfl⟩))
      | (go_at_call 26; ((with_reducible refine (valid_yes d _ HB.out rfl (by omega) VB.out).mono ?_); rintro e w' ⟨rfl, rfl⟩))
      | (go_at_call 44; refine (compareLimbs_any c d HA.out HB.out la lb).mono ?_; rintro e w1 ⟨rfl, hq⟩; rw [HZ.out]; have hb1 := hq.below w.heap.size; have hs1 := hq.size; have HS1 := Lib.hid hs1; clear hs1)
      | (go_at_call 45; refine (duplicate_any c _ (HA.out.below hb1) (by rw [HS1.out]; exact Nat.le_refl _) rfl (by omega)).mono ?_; rintro e w2 ⟨rfl, h1, h2, h3⟩; have HK2 := Lib.hid h1; have hb2 := hb1.trans (h3.mono hb1.size); clear h1 h2)
      | (go_at_call 46; refine (subtractFrom_any w1.heap.size 0 (dg a).length (dg a).length (dg b).length d _ (dg a) (dg b) _ (wf_dg a) (wf_dg b) rfl hle (by omega) (by omega) HK2.out ((HB.out.below hb2).mono hb1.size)).mono ?_; intro e w3 had; obtain ⟨X, rfl, hwx, hlx, hvx, hbx, hux⟩ := diff_of hge had; have HX := Lib.hid hbx; have HLX := Lib.hid hlx; have HVX := Lib.hid hvx; clear had hbx hlx hvx)
      | (go_at_call 47; refine (canonical_gives _ _ (HX.out.rd HX.out.lt) (Nat.le_refl _) hwx HLX.out (by omega) (Nat.le_refl _)).mono ?_; rintro e w4 ⟨v, rfl, h1, h2⟩))
    go_ret2
    rw [← HVX.out]
    have hb3 := hb2.trans (hux.below (B := w.heap.size) hb1.size)
    exact ⟨v, rfl, h1, hb3.trans (h2.mono hb3.size)⟩

set_option maxHeartbeats 400000 in
theorem sub_bad {B : Nat} {A A' : Option Addr} {l m : List Nat} {w : World} (c d : Nat) (ha : Rd w B A l) (hb : Rd w B A' m) (hl : l.length ≤ 1000000) (hm : m.length ≤ 1000000) (hv : (vldB l && vldB m) = false) :
    Calls Try.prog 18 #[.slice A l.length c, .slice A' m.length d] w (Gives w 0 1) := by
  have HA := Lib.hid ha
  have HB := Lib.hid hb
  clear ha hb
  rcases hvl : vldB l with _ | _
  · have VA := Lib.hid hvl
    clear hvl hv
    go_enter Try.func18, Try.ntmps18
    go_wp2_with (first
      | (go_at_call 26; ((with_reducible refine (valid_no c _ HA.out rfl (by omega) VA.out).mono ?_); rintro e w' ⟨rfl, rfl⟩)))
    go_ret2
    exact ⟨_, rfl, Num.nil _, Below.refl _ _⟩
  · have VA := Lib.hid hvl
    rw [hvl, Bool.true_and] at hv
    have VB := Lib.hid hv
    clear hvl hv
    go_enter Try.func18, Try.ntmps18
    go_wp2_with (first
      | (go_at_call 26; ((with_reducible refine (valid_yes c _ HA.out rfl (by omega) VA.out).mono ?_); rintro e w' ⟨rfl, rfl⟩))
      | (go_at_call 26; ((with_reducible refine (valid_no d _ HB.out rfl (by omega) VB.out).mono ?_); rintro e w' ⟨rfl, rfl⟩)))
    go_ret2
    exact ⟨_, rfl, Num.nil _, Below.refl _ _⟩

end Go.Proofs.Ytogmgomcdhfolaa
