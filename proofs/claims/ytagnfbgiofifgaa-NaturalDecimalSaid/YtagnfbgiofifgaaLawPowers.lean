/-
  NaturalPowers: the texts of the powers of ten, and of the numbers before them.
-/
import Derived.Test.YtagnfbgiofifgaaLawStrings
namespace Go.Proofs.Ytagnfbgiofifgaa
open Go.RowKit Nt

theorem dgd_pow (n : Nat) : Nd.dg (10 ^ n) = List.replicate n 0 ++ [1] := by
  have hv : Nd.val (List.replicate n 0 ++ [1]) = 10 ^ n := by
    rw [Nd.val_append, Nd.val_replicate, List.length_replicate]; simp [Nd.val]
  rw [← hv]
  exact Nd.dg_val (Nd.wf_append.2 ⟨Nd.wf_replicate n, Nd.wf_cons.2 ⟨by omega, Nd.wf_nil⟩⟩) (.inr (by simp))
theorem val_nines (n : Nat) : Nd.val (List.replicate n 9) + 1 = 10 ^ n := by
  induction n with
  | zero => rfl
  | succ n ih => rw [List.replicate_succ, Nd.val_cons, Nat.pow_succ, ← ih]; omega
theorem dgd_nines {n : Nat} (h : 0 < n) : Nd.dg (10 ^ n - 1) = List.replicate n 9 := by
  have hv : Nd.val (List.replicate n 9) = 10 ^ n - 1 := by have := val_nines n; omega
  rw [← hv]
  refine Nd.dg_val (fun x hx => by have := List.eq_of_mem_replicate hx; omega) (.inr ?_)
  rw [List.getLast?_replicate, if_neg (by omega)]
  intro e
  injection e with e
  omega
theorem digs_pow (n : Nat) : digs (10 ^ n) = 1 :: List.replicate n 0 := by
  unfold digs
  rw [if_neg (Nat.pos_iff_ne_zero.1 (Nat.pow_pos (by omega))), dgd_pow]
  simp
theorem digs_nines {n : Nat} (h : 0 < n) : digs (10 ^ n - 1) = List.replicate n 9 := by
  have h1 : 10 ^ n - 1 ≠ 0 := by
    have : 10 ^ 1 ≤ 10 ^ n := Nat.pow_le_pow_right (by omega) h
    omega
  unfold digs
  rw [if_neg h1, dgd_nines h]
  simp
theorem nth_rep {n x j : Nat} (h : j < n) : nth (List.replicate n x) j = x := by
  rw [nth_getElem (by simpa using h)]; simp
theorem fit_pow (n : Nat) : Fit (n + 1) (10 ^ n) := by
  apply dg_length_le
  exact Nat.lt_of_le_of_lt (Nat.pow_le_pow_left (by omega) n) (Nat.pow_lt_pow_right (by omega) (Nat.lt_succ_self n))

structure PowS (n : Nat) (s : ByteArray) : Prop where
  size : s.size = n + 1
  one : byt s 0 = 49
  zeros : ∀ j, j < n → byt s (j + 1) = 48
theorem powS (n : Nat) : PowS n (txt (10 ^ n)) := by
  have hd := digs_pow n
  have hl : (digs (10 ^ n)).length = n + 1 := by rw [hd]; simp
  refine ⟨by rw [txt_size, hl], by rw [txt_byt (by omega), hd]; rfl, fun j hj => ?_⟩
  rw [txt_byt (by omega), hd]
  show nth (List.replicate n 0) j + 48 = 48
  rw [nth_rep hj]
structure NineS (n : Nat) (t : ByteArray) : Prop where
  zero : n = 0 → t.toList = [48]
  size : 0 < n → t.size = n
  nines : ∀ j, j < n → byt t j = 57
theorem nineS (n : Nat) : NineS n (txt (10 ^ n - 1)) := by
  refine ⟨fun h => by subst h; show (txt 0).toList = [48]; rw [txt_zero, ByteArray.toList_eq], fun h => by rw [txt_size, digs_nines h]; simp, fun j hj => ?_⟩
  have hd := digs_nines (n := n) (by omega)
  rw [txt_byt (by rw [hd]; simpa using hj), hd, nth_rep hj]

theorem of_10 (w : World) : Calls Try.prog 30 #[.int .u64 10] w (Back w 10) := (of_any 10 0 w (by rfl) (by omega)).mono fun _ _ h => h.back
theorem of_1 (w : World) : Calls Try.prog 30 #[.int .u64 1] w (Back w 1) := (of_any 1 0 w (by rfl) (by omega)).mono fun _ _ h => h.back

theorem k_mul_pow {i c d : Nat} {A A' : Option Addr} {w : World} (ha : Hid (Rd w w.heap.size A (dg (10 ^ i)))) (hb : Hid (Rd w w.heap.size A' (dg 10))) (hi : i ≤ 300) :
    Calls Try.prog 39 #[.slice A (dg (10 ^ i)).length c, .slice A' (dg 10).length d] w (Back w (10 ^ (i + 1))) := by
  have := k_mul (c := c) (d := d) (i + 1) 1 ha hb (fit_pow i) (show Fit 1 10 by unfold Fit; rw [dg_one (by omega) (by omega)]; exact Nat.le_refl _) (by omega)
  rwa [← Nat.pow_succ] at this

set_option maxHeartbeats 4000000 in
theorem powers_core (k n : Nat) (s t : ByteArray) (w : World) (hk : k ≤ 255) (hn : (k : Int) % 201 = (n : Int)) (hn2 : n ≤ 200) (hs : Hid (txt (10 ^ n) = s)) (ht : Hid (txt (10 ^ n - 1) = t)) :
    Calls Try.prog 12 #[.int .u8 (k : Int)] w (BackB w true) := by
  have hget := get_byt s
  have hget2 := get_byt t
  have PS : Hid (PowS n s) := by rw [← hs.out]; exact powS n
  have NS : Hid (NineS n t) := by rw [← ht.out]; exact nineS n
  have s1 : s.size ≤ n + 1 := by have := PS.out.size; omega
  have s2 : n + 1 ≤ s.size := by have := PS.out.size; omega
  have s3 : ((byt s 0 : Int) != 49) = false := by rw [PS.out.one]; rfl
  have key : (n ≤ 0 ∧ (t.toList == [48]) = true) ∨ (0 < n ∧ t.size ≤ n ∧ n ≤ t.size) := by
    rcases Nat.eq_zero_or_pos n with h | h
    · left; exact ⟨by omega, beq_iff_eq.2 (NS.out.zero h)⟩
    · right; have := NS.out.size h; omega
  have hle : Hid ((dg (10 ^ n)).length ≤ 1024) := (fit_pow n).out (by omega)
  have hle1 : Hid ((dg (10 ^ n - 1)).length ≤ 1024) := ((fit_pow n).sub 1).out (by omega)
  have hle2 : Hid ((dg 1).length ≤ 1024) := show (dg 1).length ≤ 1024 by rw [dg_one (by omega) (by omega)]; show 1 ≤ 1024; omega
  have hsub : Hid (subE (10 ^ n) 1 = 0) := subE_ge (Nat.pow_pos (by omega))
  rcases key with ⟨k1, k2⟩ | ⟨k1, k2, k3⟩
  all_goals
    go_enter Try.func12, Try.ntmps12
    go_wp2_with fail
    refine k_sanity.mono ?_
    rintro e w1 ⟨rfl, b1⟩
    go_wp2_with fail
    refine (of_1 _).mono ?_
    rintro e w2 ⟨A2, c2, rfl, _, R2, b2⟩
    have B2 : Hid (Below w.heap.size w w2) := b1.trans (b2.mono b1.size)
    clear b1 b2
    go_wp2_with fail
    go_loopw [5, 6] (fun v i wr => ∃ (j c : Nat) (A : Option Addr), j ≤ n ∧ i = .int .i64 j ∧ v = .slice A (dg (10 ^ j)).length c ∧ Hid (Rd wr wr.heap.size A (dg (10 ^ j))) ∧ Hid (Below w.heap.size w wr)) (fun _ i _ => n - (intOf i).toNat)
    case atStart => exact ⟨0, c2, A2, Nat.zero_le _, rfl, rfl, R2, B2⟩
    case round =>
      obtain ⟨j, c, A, hj, rfl, rfl, R, B⟩ := hrel
      by_cases hlt : j < n
      · go_wp2_with fail
        refine (of_10 _).mono ?_
        rintro e w3 ⟨A3, c3, rfl, _, R3, b3⟩
        have R13 := rdb R b3
        go_wp2_with fail
        refine (k_mul_pow R13 R3 (by omega)).mono ?_
        rintro e w4 ⟨A4, c4, rfl, _, R4, b4⟩
        have B4 : Hid (Below w.heap.size w w4) := (B.out.trans (b3.mono B.out.size)).trans (b4.mono (B.out.trans (b3.mono B.out.size)).size)
        clear b3 b4
        go_wp2_with fail
        go_roundw
        case rel => exact ⟨j + 1, c4, A4, by omega, by go_num, rfl, R4, B4⟩
        case measure => simp [intOf]; omega
      · obtain rfl : j = n := by omega
        clear hlt hj
        go_wp2_with fail
        refine (k_text R hle.out).mono ?_
        rintro e w3 ⟨rfl, b3⟩
        rw [hs.out]
        have R3 := rdb R b3
        go_wp2_with fail
        refine (of_1 _).mono ?_
        rintro e w4 ⟨A4, c4, rfl, _, R4, b4⟩
        have R34 := rdb R3 b4
        go_wp2_with fail
        refine (k_sub _ 0 R34 R4 hle.out hle2.out hsub.out rfl).mono ?_
        rintro e w5 ⟨A5, c5, rfl, _, R5, b5⟩
        go_wp2_with fail
        refine (k_text R5 hle1.out).mono ?_
        rintro e w6 ⟨rfl, b6⟩
        rw [ht.out]
        have B3 := B.out.trans (b3.mono B.out.size)
        have B4 := B3.trans (b4.mono B3.size)
        have B5 := B4.trans (b5.mono B4.size)
        have B6 : Hid (Below w.heap.size w w6) := B5.trans (b6.mono B5.size)
        clear b3 b4 b5 b6 B3 B4 B5 R R3 R4 R34 R5
        go_wp2_with fail
        go_loop [11] (fun i => ∃ q : Nat, q ≤ j ∧ i = .int .i64 q) (fun i => j - (intOf i).toNat)
        case atStart => exact ⟨0, Nat.zero_le _, rfl⟩
        case round =>
          obtain ⟨q, hq, rfl⟩ := hrel
          by_cases hlt : q < j
          · first
              | (exfalso; omega)
              | (have z1 : ((byt s (q + 1) : Int) != 48) = false := by rw [PS.out.zeros q hlt]; rfl
                 have z2 : ((byt t q : Int) != 57) = false := by rw [NS.out.nines q hlt]; rfl
                 go_wp2_with fail
                 go_round
                 case rel => exact ⟨q + 1, by omega, by go_num⟩
                 case measure => simp [intOf]; omega)
          · go_wp2_with fail
            go_ret
            exact ⟨rfl, B6.out⟩

theorem naturalPowers_walk (k : Nat) (w : World) (hk : k ≤ 255) : Calls Try.prog 12 #[.int .u8 (k : Int)] w (BackB w true) :=
  powers_core k (k % 201) _ _ w hk (by omega) (by omega) rfl rfl

end Go.Proofs.Ytagnfbgiofifgaa
