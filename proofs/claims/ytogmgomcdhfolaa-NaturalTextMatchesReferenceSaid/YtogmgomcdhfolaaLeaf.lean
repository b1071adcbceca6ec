/-
  What the functions of math/bits and the smallest functions of package natural answer.
-/
import Derived.Test.YtogmgomcdhfolaaMem
namespace Go.Proofs.Ytogmgomcdhfolaa
open Go.RowKit Nt

theorem ret_uu {a b c d : Int} (h1 : a = c) (h2 : b = d) : Ending.returned (.tuple #[.int .u32 a, .int .u32 b]) = .returned (.tuple #[.int .u32 c, .int .u32 d]) := by rw [h1, h2]

set_option maxHeartbeats 400000 in
theorem add32 (x y c : Nat) (w : World) (hx : x < 4294967296) (hy : y < 4294967296) (hc : c ≤ 1) :
    Calls Try.prog 59 #[.int .u32 (x : Int), .int .u32 (y : Int), .int .u32 (c : Int)] w fun e w' =>
      e = .returned (.tuple #[.int .u32 (((x + y + c) % 4294967296 : Nat) : Int), .int .u32 (((x + y + c) / 4294967296 : Nat) : Int)]) ∧ w = w' := by
  go_enter Try.func59, Try.ntmps59
  go_wp2
  go_ret2
  exact ⟨ret_uu (by omega) (by omega), rfl⟩

theorem sub_bits (x y d : Nat) (hx : x < 4294967296) (hy : y < 4294967296) (hd : d < 4294967296) :
    bits BinOp.or IntKind.u32 (bits BinOp.and IntKind.u32 (bits BinOp.xor IntKind.u32 IntKind.u32.max ↑x) ↑y)
      (bits BinOp.and IntKind.u32 (bits BinOp.xor IntKind.u32 IntKind.u32.max (bits BinOp.xor IntKind.u32 ↑x ↑y)) (d : Int)) =
    ((((4294967295 ^^^ x) &&& y) ||| ((4294967295 ^^^ (x ^^^ y)) &&& d) : Nat) : Int) := by
  have hm : IntKind.u32.max = ((4294967295 : Nat) : Int) := rfl
  have b1 : 4294967295 ^^^ x < 2 ^ 32 := Nat.xor_lt_two_pow (by omega) (by omega)
  have b2 : x ^^^ y < 2 ^ 32 := Nat.xor_lt_two_pow (by omega) (by omega)
  have b3 : 4294967295 ^^^ (x ^^^ y) < 2 ^ 32 := Nat.xor_lt_two_pow (by omega) b2
  have b4 : (4294967295 ^^^ x) &&& y < 2 ^ 32 := Nat.and_lt_two_pow _ (by omega)
  have b5 : (4294967295 ^^^ (x ^^^ y)) &&& d < 2 ^ 32 := Nat.and_lt_two_pow _ (by omega)
  rw [hm, u32_xor_nat _ _ (by omega) hx, u32_xor_nat _ _ hx hy, u32_xor_nat _ _ (by omega) (by omega), u32_and_nat _ _ (by omega) hy, u32_and_nat _ _ (by omega) hd, u32_or_nat _ _ (by omega) (by omega)]

/-- the digit and the borrow of a subtraction -/
def dif (x y c : Nat) : Nat := (x + 8589934592 - y - c) % 4294967296
def brw (x y c : Nat) : Nat := if x < y + c then 1 else 0
theorem dif_lt (x y c : Nat) : dif x y c < 4294967296 := by unfold dif; omega
theorem brw_le (x y c : Nat) : brw x y c ≤ 1 := by unfold brw; split <;> omega
theorem dif_brw {x y c : Nat} (hx : x < 4294967296) (hy : y < 4294967296) (hc : c ≤ 1) : dif x y c + y + c = x + 4294967296 * brw x y c := by
  unfold dif brw; split <;> omega

theorem sub_low {x y c : Nat} (hx : x < 4294967296) (hy : y < 4294967296) (hc : c ≤ 1) : (((x : Int) - ↑y) % 4294967296 - ↑c) % 4294967296 = (dif x y c : Int) := by unfold dif; omega
theorem sub_low' {x y c : Nat} (hx : x < 4294967296) (hy : y < 4294967296) (hc : c ≤ 1) : ((x : Int) - ↑y - ↑c) % 4294967296 = (dif x y c : Int) := by unfold dif; omega
theorem sub_high {x y c : Nat} (hx : x < 4294967296) (hy : y < 4294967296) (hc : c ≤ 1) :
    bits BinOp.or IntKind.u32 (bits BinOp.and IntKind.u32 (bits BinOp.xor IntKind.u32 IntKind.u32.max ↑x) ↑y)
      (bits BinOp.and IntKind.u32 (bits BinOp.xor IntKind.u32 IntKind.u32.max (bits BinOp.xor IntKind.u32 ↑x ↑y)) (((x : Int) - ↑y - ↑c) % 4294967296)) / 2147483648 = (brw x y c : Int) := by
  rw [sub_low' hx hy hc, sub_bits x y _ hx hy (dif_lt x y c)]
  have := borrow_eq hx hy (dif_lt x y c) hc (brw_le x y c) (dif_brw hx hy hc)
  omega

set_option maxHeartbeats 400000 in
theorem sub32 (x y c : Nat) (w : World) (hx : x < 4294967296) (hy : y < 4294967296) (hc : c ≤ 1) :
    Calls Try.prog 62 #[.int .u32 (x : Int), .int .u32 (y : Int), .int .u32 (c : Int)] w fun e w' =>
      e = .returned (.tuple #[.int .u32 ((dif x y c : Nat) : Int), .int .u32 ((brw x y c : Nat) : Int)]) ∧ w = w' := by
  have hs : IntKind.u32.signed = false := rfl
  go_enter Try.func62, Try.ntmps62
  go_wp2
  go_ret2
  exact ⟨ret_uu (sub_low hx hy hc) (sub_high hx hy hc), rfl⟩

theorem join_or {hi lo : Nat} (hh : hi < 4294967296) (hlo : lo < 4294967296) : bits BinOp.or IntKind.u64 ((hi : Int) * 4294967296) (lo : Int) = ((hi * 4294967296 + lo : Nat) : Int) := by
  have e : (hi : Int) * 4294967296 = ((hi * 4294967296 : Nat) : Int) := by omega
  rw [e, u64_or_nat _ _ (by omega) (by omega), nat_join 32 _ _ (by omega) (by omega)]

/-- the parts of a quotient by a limb -/
def quoL (hi lo y : Nat) : Nat := (hi * 4294967296 + lo) / y
def remL (hi lo y : Nat) : Nat := (hi * 4294967296 + lo) % y
theorem quoL_lt {hi lo y : Nat} (hlo : lo < 4294967296) (hh : hi < y) : quoL hi lo y < 4294967296 := by
  unfold quoL
  apply Nat.div_lt_of_lt_mul
  have : (hi + 1) * 4294967296 ≤ y * 4294967296 := Nat.mul_le_mul_right _ hh
  omega
theorem remL_lt {hi lo y : Nat} (hh : hi < y) : remL hi lo y < y := Nat.mod_lt _ (by omega)

set_option maxHeartbeats 400000 in
theorem div32 (hi lo y : Nat) (w : World) (hlo : lo < 4294967296) (hy : y < 4294967296) (hh : hi < y) :
    Calls Try.prog 63 #[.int .u32 (hi : Int), .int .u32 (lo : Int), .int .u32 (y : Int)] w fun e w' =>
      e = .returned (.tuple #[.int .u32 ((quoL hi lo y : Nat) : Int), .int .u32 ((remL hi lo y : Nat) : Int)]) ∧ ∃ n, w' = w.drewN n := by
  have hor := join_or (hi := hi) (lo := lo) (by omega) hlo
  have hq := quoL_lt hlo hh
  have hr := remL_lt (lo := lo) hh
  go_enter Try.func63, Try.ntmps63
  go_wp2
  have hqi : ((hi : Int) * 4294967296 + ↑lo) / ↑y = ((quoL hi lo y : Nat) : Int) := by unfold quoL; rw [Int.natCast_ediv]; rfl
  have hri : ((hi : Int) * 4294967296 + ↑lo) % ↑y = ((remL hi lo y : Nat) : Int) := by unfold remL; rw [Int.natCast_emod]; rfl
  have h0 : (0 : Int) < (y : Int) := by omega
  go_quiet (fail)
  go_wp2
  go_ret2
  exact ⟨ret_uu (by rfl) (by rfl), _, rfl⟩

/-- is a list of limbs valid -/
def vldB (l : List Nat) : Bool := decide (l.length ≤ 1024) && (l.length == 0 || nth l (l.length - 1) != 0)

theorem ret_bool {a b : Bool} (h : a = b) : Ending.returned (.bool a) = .returned (.bool b) := by rw [h]

set_option maxHeartbeats 400000 in
theorem valid_some (b o c n : Nat) (l : List Nat) (w : World) (hm : n ≤ 9223372036854775807) (hp : 0 < n)
    (h1 : w.cell? ⟨b, o + (n - 1), none⟩ = some (.int .u32 ((nth l (n - 1) : Nat) : Int))) :
    Calls Try.prog 26 #[.slice (some ⟨b, o, none⟩) n c] w fun e w' => e = .returned (.bool (decide (n ≤ 1024) && (nth l (n - 1) != 0))) ∧ w = w' := by
  have h0 : ((n : Int) == 0) = false := beq_eq_false_iff_ne.2 (by omega)
  by_cases hle : n ≤ 1024
  · go_enter Try.func26, Try.ntmps26
    go_wp2
    go_ret
    refine ⟨ret_bool ?_, rfl⟩
    rw [decide_eq_true hle, Bool.true_and, Bool.eq_iff_iff]
    simp only [bne_iff_ne, ne_eq]
    show ¬ (_ : Int) = 0 ↔ _
    omega
  · go_enter Try.func26, Try.ntmps26
    go_wp2
    go_ret
    exact ⟨ret_bool (by simp), rfl⟩

set_option maxHeartbeats 400000 in
theorem valid_none (A : Option Addr) (c : Nat) (w : World) :
    Calls Try.prog 26 #[.slice A 0 c] w fun e w' => e = .returned (.bool true) ∧ w = w' := by
  go_enter Try.func26, Try.ntmps26
  go_wp2
  go_ret
  exact ⟨rfl, rfl⟩

theorem valid_any {B : Nat} {A : Option Addr} {l : List Nat} {w : World} (c n : Nat) (hr : Rd w B A l) (hn : l.length = n) (hm : n ≤ 9223372036854775807) :
    Calls Try.prog 26 #[.slice A n c] w fun e w' => e = .returned (.bool (vldB l)) ∧ w = w' := by
  subst hn
  rcases Nat.eq_zero_or_pos l.length with h0 | h0
  · have e : vldB l = true := by unfold vldB; simp [h0]
    rw [h0, e]
    exact valid_none A c w
  · obtain ⟨b, o, rfl, _, hc⟩ := hr h0
    have e : vldB l = (decide (l.length ≤ 1024) && (nth l (l.length - 1) != 0)) := by
      unfold vldB
      have h1 : (l.length == 0) = false := beq_eq_false_iff_ne.2 (by omega)
      rw [h1, Bool.false_or]
    rw [e]
    exact valid_some b o c l.length l w hm h0 (hc _ (by omega))
theorem valid_yes {B : Nat} {A : Option Addr} {l : List Nat} {w : World} (c n : Nat) (hr : Rd w B A l) (hn : l.length = n) (hm : n ≤ 9223372036854775807) (hv : vldB l = true) :
    Calls Try.prog 26 #[.slice A n c] w fun e w' => e = .returned (.bool true) ∧ w = w' := by
  have := valid_any c n hr hn hm; rw [hv] at this; exact this
theorem valid_no {B : Nat} {A : Option Addr} {l : List Nat} {w : World} (c n : Nat) (hr : Rd w B A l) (hn : l.length = n) (hm : n ≤ 9223372036854775807) (hv : vldB l = false) :
    Calls Try.prog 26 #[.slice A n c] w fun e w' => e = .returned (.bool false) ∧ w = w' := by
  have := valid_any c n hr hn hm; rw [hv] at this; exact this

/-- where a list is cut: n limbs are left -/
structure Cut (l : List Nat) (n : Nat) : Prop where
  le : n ≤ l.length
  zero : ∀ i, n ≤ i → i < l.length → nth l i = 0
theorem Cut.all (l : List Nat) : Cut l l.length := ⟨Nat.le_refl _, fun i h1 h2 => by omega⟩
theorem Cut.step {l : List Nat} {n : Nat} (h : Cut l n) (hp : 0 < n) (hz : nth l (n - 1) = 0) : Cut l (n - 1) :=
  ⟨by have := h.le; omega, fun i h1 h2 => by
    rcases Nat.lt_or_ge i n with hi | hi
    · have e : i = n - 1 := by omega
      rw [e]; exact hz
    · exact h.zero i hi h2⟩
theorem Cut.dg {l : List Nat} {n : Nat} (h : Cut l n) (hw : Wf l) (hs : n = 0 ∨ nth l (n - 1) ≠ 0) : Nt.dg (val l) = l.take n := dg_cut hw h.le h.zero hs

theorem ret_slice {A : Option Addr} {n m c : Nat} (h : n = m) : Ending.returned (.slice A n c) = .returned (.slice A m c) := by rw [h]

set_option maxHeartbeats 400000 in
theorem trimmed_some (b o c n : Nat) (l : List Nat) (w : World) (hw : Hid (Wf l)) (hN : Hid (l.length = n)) (hm : n ≤ 9223372036854775807) (hnc : n ≤ c)
    (hc : Hid (∀ j, j < n → w.cell? ⟨b, o + j, none⟩ = some (.int .u32 ((nth l j : Nat) : Int)))) :
    Calls Try.prog 56 #[.slice (some ⟨b, o, none⟩) n c] w fun e w' => e = .returned (.slice (some ⟨b, o, none⟩) (dg (val l)).length c) ∧ w = w' := by
  go_enter Try.func56, Try.ntmps56
  go_wp2
  go_loop [3] (fun i => ∃ k : Nat, k ≤ n ∧ i = .int .i64 k ∧ Hid (Cut l k)) (fun i => (intOf i).toNat)
  case atStart => exact ⟨n, Nat.le_refl _, rfl, by have := Cut.all l; rw [hN.out] at this; exact this⟩
  case round =>
    obtain ⟨k, hk, rfl, hcut⟩ := hrel
    by_cases hp : 0 < k
    · have hcell := hc.out (k - 1) (by omega)
      by_cases hz : nth l (k - 1) = 0
      · have HZ : Hid (nth l (k - 1) = 0) := hz
        have hb : ((nth l (k - 1) : Int) == 0) = true := by simp [hz]
        clear hz
        go_wp2
        go_round
        case rel => exact ⟨k - 1, by omega, by go_num, hcut.out.step hp HZ.out⟩
        case measure => simp [intOf]; omega
      · have HZ : Hid (¬ nth l (k - 1) = 0) := hz
        have hb : ((nth l (k - 1) : Int) == 0) = false := beq_eq_false_iff_ne.2 (by omega)
        clear hz
        go_wp2
        go_ret
        have e := hcut.out.dg hw.out (.inr HZ.out)
        exact ⟨ret_slice (by rw [e, List.length_take, hN.out]; omega), rfl⟩
    · go_wp2
      go_ret
      have e := hcut.out.dg hw.out (.inl (by omega))
      exact ⟨ret_slice (by rw [e, List.length_take, hN.out]; omega), rfl⟩

set_option maxHeartbeats 400000 in
theorem trimmed_none (A : Option Addr) (c : Nat) (w : World) :
    Calls Try.prog 56 #[.slice A 0 c] w fun e w' => e = .returned (.slice A 0 c) ∧ w = w' := by
  go_enter Try.func56, Try.ntmps56
  go_wp2
  go_rounds 1
  go_ret
  exact ⟨rfl, rfl⟩

theorem trimmed_any {B : Nat} {A : Option Addr} {l : List Nat} {w : World} (c n : Nat) (hr : Rd w B A l) (hw : Wf l) (hn : l.length = n) (hm : n ≤ 9223372036854775807) (hnc : n ≤ c) :
    Calls Try.prog 56 #[.slice A n c] w fun e w' => e = .returned (.slice A (dg (val l)).length c) ∧ w = w' := by
  rcases Nat.eq_zero_or_pos l.length with h0 | h0
  · have e : l = [] := List.eq_nil_of_length_eq_zero h0
    subst e
    subst hn
    rw [val_nil, dg_zero]
    exact trimmed_none A c w
  · obtain ⟨b, o, rfl, _, hc⟩ := hr h0
    subst hn
    exact trimmed_some b o c l.length l w hw rfl hm hnc hc

/-- what is left behind a cut reads as the digits -/
theorem dg_val_take {l : List Nat} (hw : Wf l) : dg (val l) = l.take (dg (val l)).length := by
  have : ∃ n, n ≤ l.length ∧ dg (val l) = l.take n := by
    induction l with
    | nil => exact ⟨0, by simp, by rw [val_nil, dg_zero]; rfl⟩
    | cons x l ih =>
      obtain ⟨hx, hl⟩ := wf_cons.1 hw
      obtain ⟨n, hn, e⟩ := ih hl
      by_cases h0 : val (x :: l) = 0
      · exact ⟨0, by simp, by rw [h0, dg_zero]; rfl⟩
      · refine ⟨n + 1, by simp; omega, ?_⟩
        rw [dg_pos h0, List.take_succ_cons, ← e]
        have e1 : val (x :: l) % 4294967296 = x := by rw [val_cons]; omega
        have e2 : val (x :: l) / 4294967296 = val l := by rw [val_cons]; omega
        rw [e1, e2]
  obtain ⟨n, hn, e⟩ := this
  have hl : (dg (val l)).length = n := by rw [e, List.length_take]; omega
  rw [hl]; exact e
theorem Rd.dg {w : World} {B : Nat} {A : Option Addr} {l : List Nat} (h : Rd w B A l) (hw : Wf l) : Rd w B A (Nt.dg (val l)) := by
  rw [dg_val_take hw]; exact h.take _

set_option maxHeartbeats 400000 in
theorem duplicate_any {B : Nat} {A : Option Addr} {l : List Nat} {w : World} (c n : Nat) (hr : Rd w B A l) (hB : B ≤ w.heap.size) (hn : l.length = n) (hm : n ≤ 1000000) :
    Calls Try.prog 45 #[.slice A n c] w fun e w' => e = .returned (.slice (some ⟨w.heap.size, 0, none⟩) n n) ∧ Bk w' w.heap.size l ∧ w'.heap.size = w.heap.size + 1 ∧ Below w.heap.size w w' := by
  have HR := Lib.hid (hr.mono hB)
  have HN := Lib.hid hn
  clear hr hn
  go_enter Try.func45, Try.ntmps45
  go_wp2_with (first
    | (at_make; refine wpList_make_bk _ rfl _ _ 22 rfl Try.underlying22 _ _ _ _ n rfl rfl rfl rfl hm ?_; intro w1 hbk1 hs1 hb1; have HB1 := Lib.hid hbk1; have HS1 := Lib.hid hs1; clear hbk1 hs1)
    | (with_reducible refine wpList_copy_bk rfl _ _ 22 22 rfl Try.underlying22 w.heap.size n n (List.replicate n 0) l A n c w.heap.size w.heap.size w rfl rfl HB1.out (by simp) (HR.out.below hb1) HN.out (Nat.le_refl _) hb1 (Nat.le_refl _) ?_; intro w2 hbk2 hs2 hb2; have HB2 := Lib.hid hbk2; have HS2 := Lib.hid hs2; clear hbk2 hs2))
  go_ret
  have hbk := HB2.out
  rw [List.drop_eq_nil_of_le (by simp), List.append_nil] at hbk
  exact ⟨rfl, hbk, by rw [HS2.out, HS1.out], hb2⟩

end Go.Proofs.Ytogmgomcdhfolaa
