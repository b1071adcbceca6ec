/-
  The reference's Parse: the number of a decimal string.
-/
import Derived.Test.YtogmgomcdhfolaaRefText
namespace Go.Proofs.Ytogmgomcdhfolaa
open Go.RowKit Nt

theorem fit_dec {s : ByteArray} {k : Nat} (h : ∀ j, j < k → 48 ≤ byt s j ∧ byt s j ≤ 57) : Fit k (decU s k) :=
  dg_length_le (Nat.lt_of_lt_of_le (decU_lt fun j hj => (h j hj).2) (Nat.pow_le_pow_left (by omega) k))

theorem dg_ten : dg 10 = [10] := dg_one (by omega) (by omega)
theorem rmul_ten (V k c : Nat) (A : Option Addr) (w : World) (ha : Hid (Rd w w.heap.size A (dg V))) (fa : Fit k V) (hk : k ≤ 1000) :
    Calls Try.prog 21 #[.slice A (dg V).length c, .slice (some ⟨w.heap.size, 0, none⟩) 1 1] (w.alloc (.cells #[.int .u32 10] 41)) (Back2 w (V * 10) 0) := by
  have hb := (Below.refl w.heap.size w).alloc (Nat.le_refl _) (.cells #[.int .u32 10] 41)
  have r1 : Rd (w.alloc (.cells #[.int .u32 10] 41)) (w.alloc (.cells #[.int .u32 10] 41)).heap.size (some ⟨w.heap.size, 0, none⟩) (dg 10) := by
    rw [dg_ten]; exact (bk_one w (X := 10) (x := 10) rfl).rd (bk_one w (X := 10) (x := 10) rfl).lt
  have f10 : Fit 1 10 := by unfold Fit; rw [dg_ten]; exact Nat.le_refl _
  have h1 := rmul_ok c 1 (rdb ha hb).out r1 (fa.out (by omega)) (f10.out (by omega))
  rw [lim_of ((fa.mul f10).out (by omega)), limE_of ((fa.mul f10).out (by omega)), dg_ten] at h1
  exact h1.mono fun _ _ h => by
    obtain ⟨A, c, h1, h2, h3, h4⟩ := h.back
    exact ⟨A, c, h1, h2, h3, hb.trans (h4.mono hb.size)⟩
theorem radd_back (P x k c d : Nat) (A A' : Option Addr) (w : World) (ha : Hid (Rd w w.heap.size A (dg P))) (hb : Hid (Rd w w.heap.size A' (dg x))) (fa : Fit k P) (fx : Fit k x) (hk : k ≤ 1000) :
    Calls Try.prog 16 #[.slice A (dg P).length c, .slice A' (dg x).length d] w (Back2 w (P + x) 0) := by
  have h1 := radd_ok c d ha.out hb.out (fa.out (by omega)) (fx.out (by omega))
  rw [lim_of ((fa.add fx).out (by omega)), limE_of ((fa.add fx).out (by omega))] at h1
  exact h1.mono fun _ _ h => h.back

/-- the number while it grows -/
structure RpSt (w wr : World) (s : ByteArray) (k V : Nat) (A : Option Addr) : Prop where
  eq : V = decU s k
  rd : Rd wr wr.heap.size A (dg V)
  bel : Below w.heap.size w wr

set_option maxHeartbeats 4000000 in
set_option maxRecDepth 100000 in
theorem rparse_ok (s : ByteArray) (w : World) (hs : s.size ≤ 300) (hd : Hid (DecS s)) :
    Calls Try.prog 33 #[.string s] w (Gives w (decU s s.size) 0) := by
  have hget := get_byt s
  have hp := hd.out.pos
  have he : ¬ s.toList = [] := fun h => by have := (empty_iff s).1 h; omega
  have hei : s.toList.isEmpty = false := by
    rcases hc : s.toList.isEmpty with _ | _
    · rfl
    · exact absurd (List.isEmpty_iff.1 hc) he
  have hpre : (s.size = 1) ∨ (1 < s.size ∧ ((byt s 0 : Int) == 48) = false) := by
    rcases hd.out.lead with h | h
    · exact .inl h
    · rcases Nat.lt_or_ge 1 s.size with h1 | h1
      · exact .inr ⟨h1, beq_eq_false_iff_ne.2 (by omega)⟩
      · left; omega
  obtain ⟨n, hn⟩ : ∃ n, s.size = n := ⟨_, rfl⟩
  have P0 : Hid (RpSt w (w.alloc (.cells #[] 41)) s 0 0 (some ⟨w.heap.size, 0, none⟩)) := ⟨rfl, by rw [dg_zero]; exact Rd.nil, (Below.refl _ _).alloc (Nat.le_refl _) _⟩
  have h1or : (¬ 1 < n) ∨ (1 < n ∧ ((byt s 0 : Int) == 48) = false) := by
    rcases hpre with h | h
    · left; omega
    · right; exact ⟨by omega, h.2⟩
  have hnn : n ≤ 300 := by omega
  have hn0 : 0 < n := by omega
  have HNN := Lib.hid hn
  clear hpre he hp hs
  rcases h1or with h1 | ⟨h1, h48⟩
  all_goals
    go_enter Try.func33, Try.ntmps33
    go_wp2
    go_loop [4] (fun i => ∃ k : Nat, k ≤ n ∧ i = .int .i64 k) (fun i => n - (intOf i).toNat)
    case atStart => exact ⟨0, Nat.zero_le _, rfl⟩
    case round =>
      obtain ⟨k, hk, rfl⟩ := hrel
      by_cases hlt : k < n
      · obtain ⟨hd1, hd2⟩ := hd.out.all k (by rw [HNN.out]; exact hlt)
        go_wp2
        go_round
        case rel => exact ⟨k + 1, by omega, by go_num⟩
        case measure => simp [intOf]; omega
      · go_wp2_with fail
        go_loopw [5, 6] (fun v i wr => ∃ (k V c : Nat) (A : Option Addr), k ≤ n ∧ i = .int .i64 k ∧ v = .slice A (dg V).length c ∧ (dg V).length ≤ c ∧ Hid (RpSt w wr s k V A)) (fun _ i _ => n - (intOf i).toNat)
        case atStart => exact ⟨0, 0, 0, some ⟨w.heap.size, 0, none⟩, Nat.zero_le _, rfl, by rw [dg_zero]; rfl, by rw [dg_zero]; exact Nat.le_refl _, P0⟩
        case round =>
          obtain ⟨k, V, c, A, hk, rfl, rfl, hcv, hst⟩ := hrel
          by_cases hlt : k < n
          · have hall : Hid (∀ j, j < k + 1 → 48 ≤ byt s j ∧ byt s j ≤ 57) := fun j hj => hd.out.all j (by rw [HNN.out]; omega)
            obtain ⟨hd1, hd2⟩ := hall.out k (by omega)
            obtain ⟨x, hx⟩ : ∃ x, x = byt s k - 48 := ⟨_, rfl⟩
            have ex : (byt s k : Int) - 48 = (x : Int) := by omega
            have hx9 : x ≤ 9 := by omega
            have FV : Fit 300 V := by rw [hst.out.eq]; exact (fit_dec fun j hj => hall.out j (by omega)).mono (by omega)
            have Fx : Hid (Fit 1 x) := dg_length_le (show x < 4294967296 ^ 1 by omega)
            have HV : Hid (V * 10 + x = decU s (k + 1)) := show _ = decU s k * 10 + (byt s k - 48) by rw [← hst.out.eq, hx]
            have hbl := hst.out.bel
            have RV : Hid (Rd wr wr.heap.size A (dg V)) := hst.out.rd
            have hxm : Hid (x < 18446744073709551616) := show x < 18446744073709551616 by omega
            clear hx
            go_wp2_with (first
              | (go_at_call 21; refine (rmul_ten V 300 c A wr RV FV (by omega)).mono ?_; rintro e w2 ⟨A2, c2, rfl, hc2, hr2, hb2⟩)
              | (go_at_call 31; refine (kr_of hxm).mono ?_; rintro e w3 ⟨A3, c3, rfl, hc3, hr3, hb3⟩)
              | (go_at_call 16; refine (radd_back (V * 10) x 301 c2 c3 A2 A3 w3 (rdb hr2 hb3) hr3 (show Fit 301 (V * 10) from FV.mul (show Fit 1 10 by unfold Fit; rw [dg_ten]; exact Nat.le_refl _)) (Fx.out.mono (by omega)) (by omega)).mono ?_; rintro e w4 ⟨A4, c4, rfl, hc4, hr4, hb4⟩))
            have hb5 := (hbl.trans (hb2.mono hbl.size)).trans (hb3.mono (hbl.trans (hb2.mono hbl.size)).size)
            go_roundw
            case rel => exact ⟨k + 1, V * 10 + x, c4, A4, by omega, by go_num, rfl, hc4, ⟨HV.out, hr4.out, hb5.trans (hb4.mono hb5.size)⟩⟩
            case measure => simp [intOf]; omega
          · obtain rfl : k = n := by omega
            have RV : Hid (Rd wr wr.heap.size A (dg V)) := hst.out.rd
            have HV : Hid (V = decU s s.size) := show V = decU s s.size by rw [HNN.out]; exact hst.out.eq
            have hbl := hst.out.bel
            go_wp2_with fail
            go_ret2
            rw [← HV.out]
            exact ⟨_, rfl, ⟨A, c, rfl, hcv, RV.out⟩, hbl⟩

set_option maxHeartbeats 4000000 in
set_option maxRecDepth 100000 in
theorem rparse_bad (s : ByteArray) (w : World) (hs : s.size ≤ 300) (hd : Hid (¬ DecS s)) :
    Calls Try.prog 33 #[.string s] w (Gives w 0 12) := by
  have hget := get_byt s
  by_cases h0 : s.size = 0
  · have he : s.toList = [] := (empty_iff s).2 h0
    have hei : s.toList.isEmpty = true := by rw [he]; rfl
    clear h0 hs
    go_enter Try.func33, Try.ntmps33
    go_wp2
    go_ret2
    exact ⟨_, rfl, Num.nil _, Below.refl _ _⟩
  · have he : ¬ s.toList = [] := fun h => h0 ((empty_iff s).1 h)
    have hei : s.toList.isEmpty = false := by
      rcases hc : s.toList.isEmpty with _ | _
      · rfl
      · exact absurd (List.isEmpty_iff.1 hc) he
    obtain ⟨n, hn⟩ : ∃ n, s.size = n := ⟨_, rfl⟩
    have hn0 : 0 < n := by omega
    have hnn : n ≤ 300 := by omega
    by_cases hl : byt s 0 = 48 ∧ 1 < n
    · have h48 : ((byt s 0 : Int) == 48) = true := by rw [hl.1]; rfl
      have h1 : 1 < n := hl.2
      clear hl he h0 hs
      go_enter Try.func33, Try.ntmps33
      go_wp2
      go_ret2
      exact ⟨_, rfl, Num.nil _, Below.refl _ _⟩
    · have hpre : (¬ 1 < n) ∨ (1 < n ∧ ((byt s 0 : Int) == 48) = false) := by
        rcases Nat.lt_or_ge 1 n with h | h
        · exact .inr ⟨h, beq_eq_false_iff_ne.2 (fun e => hl ⟨by omega, h⟩)⟩
        · left; omega
      have hlead : Hid (s.size = 1 ∨ byt s 0 ≠ 48) := by
        show _ ∨ _
        by_cases h : byt s 0 = 48
        · left
          rcases Nat.lt_or_ge 1 n with hq | hq
          · exact absurd ⟨h, hq⟩ hl
          · omega
        · exact .inr h
      have HNN := Lib.hid hn
      clear hl he h0 hs
      rcases hpre with h1 | ⟨h1, h48⟩
      all_goals
        go_enter Try.func33, Try.ntmps33
        go_wp2
        go_loop [4] (fun i => ∃ k : Nat, k ≤ n ∧ i = .int .i64 k ∧ Hid (DigU s k)) (fun i => n - (intOf i).toNat)
        case atStart => exact ⟨0, Nat.zero_le _, rfl, fun j hj => absurd hj (by omega)⟩
        case round =>
          obtain ⟨k, hk, rfl, hdig⟩ := hrel
          by_cases hlt : k < n
          · by_cases hd1 : byt s k < 48
            · go_wp2
              go_ret2
              exact ⟨_, rfl, Num.nil _, Below.refl _ _⟩
            · by_cases hd2 : 57 < byt s k
              · go_wp2
                go_ret2
                exact ⟨_, rfl, Num.nil _, Below.refl _ _⟩
              · go_wp2
                go_round
                case rel => exact ⟨k + 1, by omega, by go_num, fun j hj => by
                  rcases Nat.lt_or_ge j k with h3 | h3
                  · exact hdig.out j h3
                  · have e : j = k := by omega
                    rw [e]; omega⟩
                case measure => simp [intOf]; omega
          · exact absurd ⟨by rw [HNN.out]; exact hn0, hlead.out, fun j hj => hdig.out j (by rw [HNN.out] at hj; omega)⟩ hd.out

/-- a string comes in, a number and an error come back -/
def KPar (f : Nat) (s : ByteArray) (v : Nat) (z : Int) : Prop := ∀ w : World, Calls Try.prog f #[.string s] w (Back2 w v z)
theorem par_both {s : ByteArray} (hs : s.size ≤ 300) : ∃ v z, (dg v).length ≤ 1024 ∧ KPar 32 s v z ∧ KPar 33 s v z := by
  by_cases hd : DecS s
  · have hf : Fit 300 (decU s s.size) := (fit_dec fun j hj => hd.all j hj).mono hs
    refine ⟨decU s s.size, 0, hf.out (by omega), fun w => ?_, fun w => (rparse_ok s w hs hd).mono fun _ _ h => h.back⟩
    have h1 := parse_ok s w (by omega) hd
    rw [lim_of (hf.out (by omega)), limE_of (hf.out (by omega))] at h1
    exact h1.mono fun _ _ h => h.back
  · exact ⟨0, 12, by rw [dg_zero]; simp, fun w => (parse_bad s w (by omega) hd).mono fun _ _ h => h.back, fun w => (rparse_bad s w hs hd).mono fun _ _ h => h.back⟩

end Go.Proofs.Ytogmgomcdhfolaa
