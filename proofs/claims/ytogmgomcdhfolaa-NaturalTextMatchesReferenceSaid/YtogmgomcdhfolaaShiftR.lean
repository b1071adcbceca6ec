/-
  natural.shiftedRight.
-/
import Derived.Test.YtogmgomcdhfolaaShift
namespace Go.Proofs.Ytogmgomcdhfolaa
open Go.RowKit Nt

theorem sr_digit {p p' x V : Nat} (hp : p * p' = 4294967296) (hx : x < 4294967296) :
    (x + 4294967296 * V) / p = ((V % 4294967296) * 4294967296 + x) / p % 4294967296 + 4294967296 * (V / p) := by
  have hp0 : 0 < p := by
    rcases Nat.eq_zero_or_pos p with h0 | h0
    · rw [h0] at hp; omega
    · exact h0
  have hr : V % p < p := Nat.mod_lt _ hp0
  have e1 : (x + 4294967296 * V) / p = (x + 4294967296 * (V % p)) / p + 4294967296 * (V / p) := by
    rw [← Nat.add_mul_div_left _ _ hp0]
    congr 1
    have q : 4294967296 * V = 4294967296 * (V % p) + p * (4294967296 * (V / p)) := by
      rw [Nat.mul_left_comm p, ← Nat.mul_add, Nat.mod_add_div]
    omega
  have e0 : V % 4294967296 % p = V % p := Nat.mod_mod_of_dvd V ⟨p', hp.symm⟩
  have e2 : ((V % 4294967296) * 4294967296 + x) / p = (x + 4294967296 * (V % p)) / p + 4294967296 * (V % 4294967296 / p) := by
    rw [← Nat.add_mul_div_left _ _ hp0]
    congr 1
    have q : 4294967296 * (V % 4294967296) = 4294967296 * (V % p) + p * (4294967296 * (V % 4294967296 / p)) := by
      rw [Nat.mul_left_comm p, ← Nat.mul_add, ← e0, Nat.mod_add_div]
    omega
  have e3 : (x + 4294967296 * (V % p)) / p < 4294967296 := by
    rw [Nat.div_lt_iff_lt_mul hp0]
    have : 4294967296 * (V % p + 1) ≤ 4294967296 * p := Nat.mul_le_mul_left _ hr
    omega
  rw [e1, e2, Nat.add_mul_mod_self_left, Nat.mod_eq_of_lt e3]

structure SrInv (l : List Nat) (p n k : Nat) (Q : List Nat) (y : Nat) : Prop where
  len : Q.length = k
  wf : Wf Q
  y1 : y = val (l.drop (n - k)) % 4294967296
  eq : val Q = val (l.drop (n - k)) / p
theorem SrInv.step {l : List Nat} {p p' n k : Nat} {Q : List Nat} {y : Nat} (h : SrInv l p n k Q y) (hp : p * p' = 4294967296) (hl : Wf l) (hn : l.length = n) (hk : k < n) :
    SrInv l p n (k + 1) ((y * 4294967296 + nth l (n - 1 - k)) / p % 4294967296 :: Q) (nth l (n - 1 - k)) := by
  have hx := nth_lt hl (n - 1 - k)
  have e : l.drop (n - (k + 1)) = nth l (n - 1 - k) :: l.drop (n - k) := by
    rw [show n - (k + 1) = n - 1 - k by omega, List.drop_eq_getElem_cons (by omega), nth_getElem (by omega), show n - 1 - k + 1 = n - k by omega]
  have q := h.eq
  have y1 := h.y1
  refine ⟨by simp [h.len], wf_cons.2 ⟨by omega, h.wf⟩, ?_, ?_⟩
  · rw [e, val]; omega
  · rw [e, val, val, sr_digit hp hx, ← y1, ← q]
theorem sr_y {l : List Nat} {p n k : Nat} {Q : List Nat} {y : Nat} (h : SrInv l p n k Q y) : y < 4294967296 := by
  have := h.y1; omega

def SrSt (w wr : World) (g n : Nat) (l : List Nat) (p k y : Nat) : Prop := ∃ Q, SrInv l p n k Q y ∧ Bk wr g (List.replicate (n - k) 0 ++ Q) ∧ Below g w wr
theorem SrSt.step {w wr : World} {g n p p' k y : Nat} {l : List Nat} (h : SrSt w wr g n l p k y) (hp : p * p' = 4294967296) (hl : Wf l) (hn : l.length = n) (hk : k < n) :
    SrSt w (wr.setCell ⟨g, n - 1 - k, none⟩ (.int .u32 (((y * 4294967296 + nth l (n - 1 - k)) / p % 4294967296 : Nat) : Int))) g n l p (k + 1) (nth l (n - 1 - k)) := by
  obtain ⟨Q, hi, hb, hbl⟩ := h
  refine ⟨_, hi.step hp hl hn hk, ?_, hbl.setCell (Nat.le_refl _) _⟩
  have := hb.set_ (n - 1 - k) ((y * 4294967296 + nth l (n - 1 - k)) / p % 4294967296)
  have e : (List.replicate (n - k) 0 ++ Q).set (n - 1 - k) ((y * 4294967296 + nth l (n - 1 - k)) / p % 4294967296) = List.replicate (n - (k + 1)) 0 ++ (y * 4294967296 + nth l (n - 1 - k)) / p % 4294967296 :: Q := by
    rw [show n - k = (n - (k + 1)) + 1 by omega, List.replicate_succ', List.append_assoc, List.set_append_right _ _ (by simp; omega), List.length_replicate, show n - 1 - k - (n - (k + 1)) = 0 by omega]
    rfl
  rw [e] at this
  exact this
theorem SrSt.done {w wr : World} {g n p y : Nat} {l : List Nat} (h : SrSt w wr g n l p n y) :
    ∃ X, X.length = n ∧ Wf X ∧ val X = val l / p ∧ Bk wr g X ∧ Below g w wr := by
  obtain ⟨Q, hi, hb, hbl⟩ := h
  rw [Nat.sub_self] at hb
  have q := hi.eq
  rw [Nat.sub_self, List.drop_zero] at q
  exact ⟨Q, hi.len, hi.wf, q, by simpa using hb, hbl⟩

set_option maxHeartbeats 1000000 in
theorem shr_some (b o n c s p p' : Nat) (l : List Nat) (w : World) (hpp : Hid (p * p' = 4294967296)) (hw : Hid (Wf l)) (hl : Hid (l.length = n)) (hn : n ≤ 2000) (hs : s ≤ 31) (hp : Hid (p = 2 ^ s)) (hc : Hid (b < w.heap.size ∧ ∀ j, j < n → w.cell? ⟨b, o + j, none⟩ = some (.int .u32 ((nth l j : Nat) : Int)))) :
    Calls Try.prog 67 #[.slice (some ⟨b, o, none⟩) n c, .int .i64 (s : Int)] w (fun e w' => e = .returned (.slice (some ⟨w.heap.size, 0, none⟩) n n) ∧ ∃ X, X.length = n ∧ Wf X ∧ val X = val l / p ∧ Bk w' w.heap.size X ∧ Below w.heap.size w w') := by
  have S0 : ∀ w1 : World, Bk w1 w.heap.size (List.replicate n 0) → Below w.heap.size w w1 → Hid (SrSt w w1 w.heap.size n l p 0 0) := fun w1 h1 h2 => ⟨[], ⟨rfl, wf_nil, by rw [Nat.sub_zero, ← hl.out, List.drop_length]; rfl, by rw [Nat.sub_zero, ← hl.out, List.drop_length]; simp [val]⟩, by simpa using h1, h2⟩
  have HS0 := Lib.hid S0
  clear S0
  go_enter Try.func67, Try.ntmps67
  go_wp2_with (first
    | (at_make; refine wpList_make_bk _ rfl _ _ 22 rfl Try.underlying22 _ _ _ _ n rfl rfl (by omega) (by omega) (by omega) ?_; intro w1 hbk1 hs1 hb1; have HP := HS0.out w1 hbk1 hb1; clear hbk1 hs1 hb1))
  go_loopw [6, 15] (fun y i wr => ∃ k z : Nat, k ≤ n ∧ i = .int .i64 k ∧ y = .int .u64 z ∧ z < 4294967296 ∧ Hid (SrSt w wr w.heap.size n l p k z)) (fun _ i _ => n - (intOf i).toNat)
  case atStart => exact ⟨0, 0, Nat.zero_le _, rfl, rfl, by omega, HP⟩
  case round =>
    obtain ⟨k, z, hk, rfl, rfl, hz, hst⟩ := hrel
    by_cases hlt : k < n
    · have hx : nth l (n - 1 - k) < 4294967296 := nth_lt hw.out _
      obtain ⟨a, ha⟩ : ∃ a, a = n - 1 - k := ⟨_, rfl⟩
      have HA := Lib.hid ha
      rw [← ha] at hx
      obtain ⟨Q, hi, hbk, hbl⟩ := hst.out
      have c1 : wr.cell? ⟨b, o + a, none⟩ = some (.int .u32 ((nth l a : Nat) : Int)) := (hbl.cell hc.out.1).trans (hc.out.2 a (by omega))
      have c2 : (wr.cell? ⟨w.heap.size, a, none⟩).isSome = true := by
        rw [hbk.cell (i := a) (by simp [hi.len]; omega)]; rfl
      obtain ⟨v3, hv3⟩ := Option.isSome_iff_exists.1 c2
      have f1 : wr.frozen? ⟨w.heap.size, a, none⟩ = false := hbk.frozen _
      clear c2 hi hbk hbl
      have hor := join_or (hi := z) (lo := nth l a) hz hx
      obtain ⟨t, ht⟩ : ∃ t, t = z * 4294967296 + nth l a := ⟨_, rfl⟩
      rw [← ht] at hor
      have htl : t < 18446744073709551616 := by omega
      have hand : bits BinOp.and IntKind.u64 (t : Int) 4294967295 = ((nth l a : Nat) : Int) := by
        rw [u64_and _ _ (by omega) (by omega) (by omega) (by omega), Int.toNat_natCast, show (4294967295 : Int).toNat = 2 ^ 32 - 1 from rfl, Nat.and_two_pow_sub_one_eq_mod]
        omega
      have hsh : (t : Int) / 2 ^ s = ((t / p : Nat) : Int) := by
        rw [hp.out]; simp
      obtain ⟨d, hd⟩ : ∃ d, d = t / p := ⟨_, rfl⟩
      rw [← hd] at hsh
      have i1 : (n : Int) - 1 - (k : Int) = (a : Int) := by omega
      have i2 : a < n := by omega
      have HD : Hid (d % 4294967296 = (z * 4294967296 + nth l a) / p % 4294967296) := by rw [hd, ht]; exact rfl
      clear hd ht ha
      go_wp2
      go_roundw
      case rel =>
        refine ⟨k + 1, nth l a, by omega, by go_num, rfl, hx, ?_⟩
        have := hst.out.step hpp.out hw.out hl.out hlt
        rw [← HA.out, ← HD.out] at this
        rw [show (d : Int) % 4294967296 = ((d % 4294967296 : Nat) : Int) by omega]
        exact this
      case measure => simp [intOf]; omega
    · obtain rfl : k = n := by omega
      clear hlt
      go_wp2
      go_ret
      exact ⟨rfl, hst.out.done⟩
end Go.Proofs.Ytogmgomcdhfolaa
