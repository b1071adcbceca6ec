/-
  natural.Uint64.
-/
import Derived.Test.YtogmgomcdhfolaaLawDivision
namespace Go.Proofs.Ytogmgomcdhfolaa
open Go.RowKit Nt

theorem dg_two {N : Nat} (h : (dg N).length = 2) : dg N = [N % 4294967296, N / 4294967296] ∧ N / 4294967296 < 4294967296 := by
  have h1 := lt_pow_dg N
  rw [h] at h1
  have h0 : N ≠ 0 := fun e => by rw [e, dg_zero] at h; simp at h
  have e := dg_pos h0
  rw [e, List.length_cons] at h
  have h2 : (dg (N / 4294967296)).length = 1 := by omega
  obtain ⟨a, b⟩ := one_of_len h2
  rw [e, dg_one a b]
  exact ⟨rfl, b⟩

theorem u64_0 (A : Option Addr) (c : Nat) (w : World) :
    Calls Try.prog 24 #[.slice A 0 c] w fun e w' => e = .returned (.tuple #[.int .u64 0, .bool true]) ∧ w = w' := by
  have R0 : Hid (Rd w w.heap.size A []) := Rd.nil
  go_enter Try.func24, Try.ntmps24
  go_wp2_with (first
    | (go_at_call 26; ((with_reducible refine (valid_yes (l := []) c 0 R0.out rfl (by omega) rfl).mono ?_); rintro e w' ⟨rfl, rfl⟩)))
  go_rounds 1
  go_ret2
  exact ⟨rfl, rfl⟩

set_option maxHeartbeats 1000000 in
theorem u64_1 (p q c N : Nat) (w : World) (hN : N < 4294967296) (hr : Hid (Rd w w.heap.size (some ⟨p, q, none⟩) (dg N))) (hl : Hid ((dg N).length = 1)) (hc : w.cell? ⟨p, q, none⟩ = some (.int .u32 (N : Int))) :
    Calls Try.prog 24 #[.slice (some ⟨p, q, none⟩) 1 c] w fun e w' => e = .returned (.tuple #[.int .u64 (N : Int), .bool true]) ∧ w = w' := by
  have V := Lib.hid (vldB_dg (N := N) (by rw [hl.out]; omega))
  have h0 : bits BinOp.or IntKind.u64 0 (N : Int) = (N : Int) := by
    have := u64_or_nat 0 N (by omega) (by omega)
    rw [Nat.zero_or] at this
    exact this
  go_enter Try.func24, Try.ntmps24
  go_wp2_with (first
    | (go_at_call 26; ((with_reducible refine (valid_yes c 1 hr.out hl.out (by omega) V.out).mono ?_); rintro e w' ⟨rfl, rfl⟩)))
  go_rounds 2
  go_ret2
  exact ⟨rfl, rfl⟩

set_option maxHeartbeats 1000000 in
theorem u64_2 (p q c N x y : Nat) (w : World) (hx : x < 4294967296) (hy : y < 4294967296) (hN : y * 4294967296 + x = N) (hr : Hid (Rd w w.heap.size (some ⟨p, q, none⟩) (dg N))) (hl : Hid ((dg N).length = 2)) (hc : w.cell? ⟨p, q, none⟩ = some (.int .u32 (x : Int))) (hd : w.cell? ⟨p, q + 1, none⟩ = some (.int .u32 (y : Int))) :
    Calls Try.prog 24 #[.slice (some ⟨p, q, none⟩) 2 c] w fun e w' => e = .returned (.tuple #[.int .u64 (N : Int), .bool true]) ∧ w = w' := by
  have V := Lib.hid (vldB_dg (N := N) (by rw [hl.out]; omega))
  have h0 : bits BinOp.or IntKind.u64 0 (x : Int) = (x : Int) := by
    have := u64_or_nat 0 x (by omega) (by omega)
    rw [Nat.zero_or] at this
    exact this
  have h1 : bits BinOp.or IntKind.u64 (x : Int) ((y : Int) * 4294967296) = (N : Int) := by
    have e : (y : Int) * 4294967296 = ((y * 4294967296 : Nat) : Int) := by omega
    rw [e, u64_or_nat x (y * 4294967296) (by omega) (by omega), Nat.or_comm, nat_join 32 _ _ (by omega) (by omega), hN]
  have hN2 : N < 18446744073709551616 := by omega
  clear hN
  go_enter Try.func24, Try.ntmps24
  go_wp2_with (first
    | (go_at_call 26; ((with_reducible refine (valid_yes c 2 hr.out hl.out (by omega) V.out).mono ?_); rintro e w' ⟨rfl, rfl⟩)))
  go_rounds 3
  go_ret2
  exact ⟨rfl, rfl⟩

theorem u64_big (N c n : Nat) (A : Option Addr) (w : World) (hr : Hid (Rd w w.heap.size A (dg N))) (hl : Hid ((dg N).length = n)) (hn : 2 < n) (hn2 : n ≤ 1024) :
    Calls Try.prog 24 #[.slice A n c] w fun e w' => e = .returned (.tuple #[.int .u64 0, .bool false]) ∧ w = w' := by
  have V := Lib.hid (vldB_dg (N := N) (by rw [hl.out]; exact hn2))
  go_enter Try.func24, Try.ntmps24
  go_wp2_with (first
    | (go_at_call 26; ((with_reducible refine (valid_yes c n hr.out hl.out (by omega) V.out).mono ?_); rintro e w' ⟨rfl, rfl⟩)))
  go_ret2
  exact ⟨rfl, rfl⟩

/-- a number of 64 bits and whether it is the whole -/
def BackU (w : World) (y : Nat) (t : Bool) (e : Ending) (w' : World) : Prop := e = .returned (.tuple #[.int .u64 (y : Int), .bool t]) ∧ Below w.heap.size w w'

theorem k_u64 {N c : Nat} {A : Option Addr} {w : World} (hr : Hid (Rd w w.heap.size A (dg N))) (hl : (dg N).length ≤ 2) :
    Calls Try.prog 24 #[.slice A (dg N).length c] w (BackU w N true) := by
  rcases Nat.eq_zero_or_pos (dg N).length with h | h
  · have e := dg_eq_nil.1 (List.eq_nil_of_length_eq_zero h)
    rw [h, e]
    exact (u64_0 A c w).mono fun _ _ ⟨h1, h2⟩ => ⟨h1, by subst h2; exact Below.refl _ _⟩
  · obtain ⟨p, q, rfl, _, hc⟩ := hr.out h
    rcases Nat.lt_or_ge (dg N).length 2 with h2 | h2
    · have h1 : (dg N).length = 1 := by omega
      have e := one_of_len h1
      have hc0 := hc 0 h
      rw [dg_one e.1 e.2] at hc0
      rw [h1]
      exact (u64_1 p q c N w e.2 hr h1 hc0).mono fun _ _ ⟨h1, h2⟩ => ⟨h1, by subst h2; exact Below.refl _ _⟩
    · have h1 : (dg N).length = 2 := by omega
      obtain ⟨e, ey⟩ := dg_two h1
      have hc0 := hc 0 (by omega)
      have hc1 := hc 1 (by omega)
      rw [e] at hc0 hc1
      rw [h1]
      exact (u64_2 p q c N (N % 4294967296) (N / 4294967296) w (by omega) ey (by omega) hr h1 hc0 hc1).mono fun _ _ ⟨h1, h2⟩ => ⟨h1, by subst h2; exact Below.refl _ _⟩
theorem k_u64_big {N c : Nat} {A : Option Addr} {w : World} (hr : Hid (Rd w w.heap.size A (dg N))) (hl : 2 < (dg N).length) (la : (dg N).length ≤ 1024) :
    Calls Try.prog 24 #[.slice A (dg N).length c] w (BackU w 0 false) :=
  (u64_big N c _ A w hr rfl hl la).mono fun _ _ ⟨h1, h2⟩ => ⟨h1, by subst h2; exact Below.refl _ _⟩
theorem k_of64 {m : Nat} {w : World} (hm : Hid (m < 18446744073709551616)) : Calls Try.prog 30 #[.int .u64 (m : Int)] w (Back w m) := (of_64 m w hm).mono fun _ _ h => h.back
theorem fit_64 {m : Nat} (h : m < 18446744073709551616) : Fit 2 m := dg_length_le (show m < 4294967296 ^ 2 from h)

section
variable {w : World} {A A' : Option Addr} {c d a b : Nat}
/-- the division of two numbers, by zero too -/
theorem k_divx (q r : Nat) (z : Int) (ha : Hid (Rd w w.heap.size A (dg a))) (hb : Hid (Rd w w.heap.size A' (dg b))) (la : (dg a).length ≤ 1024) (lb : (dg b).length ≤ 1024) (hc : (dg a).length ≤ c) (hq : a / b = q) (hr : (if b = 0 then 0 else a % b) = r) (hz : (if b = 0 then 11 else 0) = z) :
    Calls Try.prog 22 #[.slice A (dg a).length c, .slice A' (dg b).length d] w (Back3 w q r z) := by
  rcases Nat.eq_zero_or_pos b with h | h
  · subst h
    rw [if_pos rfl] at hr hz
    rw [Nat.div_zero] at hq
    subst hq; subst hr; subst hz
    exact k_div0 ha la rfl
  · rw [if_neg (by omega)] at hr hz
    subst hz
    exact k_div q r ha hb la lb hc h hq hr
end

end Go.Proofs.Ytogmgomcdhfolaa
