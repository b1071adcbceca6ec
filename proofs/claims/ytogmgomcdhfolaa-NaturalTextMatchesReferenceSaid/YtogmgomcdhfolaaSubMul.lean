/-
  natural.subtractMultiple: a multiple of the divisor is taken away from a part of a block.
-/
import Derived.Test.YtogmgomcdhfolaaDivBy
import Derived.Test.YtogmgomcdhfolaaKnuth
namespace Go.Proofs.Ytogmgomcdhfolaa
open Go.RowKit Nt

structure SmInv (S D : List Nat) (f k : Nat) (X : List Nat) (c b : Nat) : Prop where
  len : X.length = k
  wf : Wf X
  c1 : c ≤ 4294967295
  b1 : b ≤ 1
  eq : val X + f * val (D.take k) = val (S.take k) + 4294967296 ^ k * (b + c)
theorem SmInv.start (S D : List Nat) (f : Nat) : SmInv S D f 0 [] 0 0 := ⟨rfl, wf_nil, by omega, by omega, by simp [val]⟩
theorem sm_step {vx P a e s d f c b x b' t : Nat} (h : vx + f * e = a + P * (b + c)) (ht : t = d * f + c) (hx : x + t % 4294967296 + b = s + 4294967296 * b') :
    (vx + P * x) + f * (e + P * d) = (a + P * s) + P * 4294967296 * (b' + t / 4294967296) := by
  have e1 : x + d * f + (b + c) = s + 4294967296 * (b' + t / 4294967296) := by
    have := Nat.div_add_mod t 4294967296
    omega
  have e2 : P * x + P * (d * f) + P * (b + c) = P * s + P * 4294967296 * (b' + t / 4294967296) := by
    rw [Nat.mul_assoc, ← Nat.mul_add, ← Nat.mul_add, ← Nat.mul_add, e1]
  have e3 : f * (e + P * d) = f * e + P * (d * f) := by rw [Nat.mul_add, Nat.mul_left_comm, Nat.mul_comm f d]
  omega
theorem SmInv.step {S D : List Nat} {f k : Nat} {X : List Nat} {c b t : Nat} (h : SmInv S D f k X c b) (hS : Wf S) (hD : Wf D) (hf : f < 4294967296) (ht : t = nth D k * f + c) :
    SmInv S D f (k + 1) (X ++ [dif (nth S k) (t % 4294967296) b]) (t / 4294967296) (brw (nth S k) (t % 4294967296) b) := by
  have h1 := nth_lt hS k
  have h2 := nth_lt hD k
  have h3 := h.c1
  have h4 := mul_bound h2 hf
  refine ⟨by simp [h.len], wf_append.2 ⟨h.wf, wf_cons.2 ⟨dif_lt _ _ _, wf_nil⟩⟩, by omega, brw_le _ _ _, ?_⟩
  rw [val_snoc, h.len, take_step, take_step, Nat.pow_succ]
  exact sm_step h.eq ht (dif_brw h1 (by omega) h.b1)
theorem SmInv.last {S D : List Nat} {f n : Nat} {X : List Nat} {c b : Nat} (h : SmInv S D f n X c b) (hS : Wf S) (hD : D.length = n) (hSl : S.length = n + 1) :
    (X ++ [dif (nth S n) c b]).length = n + 1 ∧ Wf (X ++ [dif (nth S n) c b]) ∧ val (X ++ [dif (nth S n) c b]) + f * val D = val S + 4294967296 ^ (n + 1) * brw (nth S n) c b := by
  have h1 := nth_lt hS n
  have h3 := h.c1
  have q := h.eq
  rw [List.take_of_length_le (l := D) (by omega)] at q
  have hs : val S = val (S.take n) + 4294967296 ^ n * nth S n := by
    have := take_step S n
    rwa [List.take_of_length_le (by omega)] at this
  refine ⟨by simp [h.len], wf_append.2 ⟨h.wf, wf_cons.2 ⟨dif_lt _ _ _, wf_nil⟩⟩, ?_⟩
  rw [val_snoc, h.len, hs, Nat.pow_succ]
  have e := dif_brw h1 (show c < 4294967296 by omega) h.b1
  have e2 : 4294967296 ^ n * dif (nth S n) c b + 4294967296 ^ n * (b + c) = 4294967296 ^ n * nth S n + 4294967296 ^ n * 4294967296 * brw (nth S n) c b := by
    rw [Nat.mul_assoc, ← Nat.mul_add, ← Nat.mul_add]
    congr 1
    omega
  generalize 4294967296 ^ n * dif (nth S n) c b = u at e2
  generalize 4294967296 ^ n * (b + c) = v at e2 q
  generalize 4294967296 ^ n * nth S n = y at e2
  generalize 4294967296 ^ n * 4294967296 * brw (nth S n) c b = z at e2
  omega

/-- what subtractMultiple leaves -/
def Smd (w : World) (g o n : Nat) (L D : List Nat) (f : Nat) (e : Ending) (w' : World) : Prop :=
  ∃ (X : List Nat) (b : Nat), e = .returned (.bool ((b : Int) != 0)) ∧ X.length = n + 1 ∧ Wf X ∧ b ≤ 1 ∧ val X + f * val D = val ((L.drop o).take (n + 1)) + 4294967296 ^ (n + 1) * b ∧ Bk w' g (splice L o X) ∧ Upd g w w'
def SmSt (w wr : World) (g o n : Nat) (L D : List Nat) (f k c b : Nat) : Prop :=
  ∃ X, SmInv ((L.drop o).take (n + 1)) D f k X c b ∧ Bk wr g (splice L o X) ∧ Upd g w wr

section
variable {w wr : World} {g o n k c b f : Nat} {L D : List Nat}
theorem SmSt.start (h : Bk w g L) : SmSt w w g o n L D f 0 0 0 := ⟨[], SmInv.start _ _ _, by rw [splice_zero]; exact h, Upd.refl _ _⟩
theorem SmSt.cell (h : SmSt w wr g o n L D f k c b) (hon : o + (n + 1) ≤ L.length) (hk : k < n + 1) : wr.cell? ⟨g, o + k, none⟩ = some (.int .u32 ((nth L (o + k) : Nat) : Int)) := by
  obtain ⟨X, hi, hb, _⟩ := h
  have hl := hi.len
  rw [hb.cell (by rw [length_spl (by omega)]; omega), nth_spl (by omega) (by omega)]
theorem SmSt.frozen (h : SmSt w wr g o n L D f k c b) (i : Nat) : wr.frozen? ⟨g, i, none⟩ = false := by
  obtain ⟨X, _, hb, _⟩ := h
  exact hb.frozen i
theorem SmSt.far (h : SmSt w wr g o n L D f k c b) {a : Addr} (ha : a.block ≠ g) : wr.cell? a = w.cell? a := by
  obtain ⟨X, _, _, hu⟩ := h
  exact hu.cell ha
theorem SmSt.step (h : SmSt w wr g o n L D f k c b) (hL : Wf L) (hD : Wf D) (hf : f < 4294967296) (hon : o + (n + 1) ≤ L.length) (hk : k < n + 1) {t y : Nat} (ht : t = nth D k * f + c) (hy : y = t % 4294967296) :
    SmSt w (wr.setCell ⟨g, o + k, none⟩ (.int .u32 ((dif (nth L (o + k)) y b : Nat) : Int))) g o n L D f (k + 1) (t / 4294967296) (brw (nth L (o + k)) y b) := by
  obtain ⟨X, hi, hb, hu⟩ := h
  have hl := hi.len
  have hs := hi.step ((hL.drop o).take (n + 1)) hD hf ht
  rw [nth_sub hk, ← hy] at hs
  refine ⟨_, hs, ?_, hu.set_ _ _⟩
  have := hb.set_ (o + k) (dif (nth L (o + k)) y b)
  rw [← hl, spl_set _ (by omega), hl] at this
  exact this
theorem SmSt.done (h : SmSt w wr g o n L D f n c b) (hL : Wf L) (hon : o + (n + 1) ≤ L.length) (hD : D.length = n) :
    Smd w g o n L D f (.returned (.bool (((brw (nth L (o + n)) c b : Nat) : Int) != 0))) (wr.setCell ⟨g, o + n, none⟩ (.int .u32 ((dif (nth L (o + n)) c b : Nat) : Int))) := by
  obtain ⟨X, hi, hb, hu⟩ := h
  have hl := hi.len
  have hsl : ((L.drop o).take (n + 1)).length = n + 1 := by simp; omega
  obtain ⟨e1, e2, e3⟩ := hi.last ((hL.drop o).take (n + 1)) hD hsl
  rw [nth_sub (by omega)] at e1 e2 e3
  refine ⟨_, _, rfl, e1, e2, brw_le _ _ _, e3, ?_, hu.set_ _ _⟩
  have := hb.set_ (o + n) (dif (nth L (o + n)) c b)
  rw [← hl, spl_set _ (by omega), hl] at this
  exact this
end

set_option maxHeartbeats 2000000 in
set_option maxRecDepth 100000 in
theorem subMul_some (g o n N C bb p d f : Nat) (L D : List Nat) (w : World) (hN : N = n + 1) (hL : Hid (Wf L)) (hD : Hid (Wf D)) (hdl : Hid (D.length = n)) (hn : n ≤ 1000000) (hf : f < 4294967296)
    (hon : Hid (o + (n + 1) ≤ L.length)) (hbk : Hid (Bk w g L)) (hbg : Hid (bb ≠ g ∧ ∀ j, j < n → w.cell? ⟨bb, p + j, none⟩ = some (.int .u32 ((nth D j : Nat) : Int)))) :
    Calls Try.prog 72 #[.slice (some ⟨g, o, none⟩) N C, .slice (some ⟨bb, p, none⟩) n d, .int .u32 (f : Int)] w (Smd w g o n L D f) := by
  have hN1 : n < N := by omega
  have hN2 : N ≤ n + 1 := by omega
  clear hN
  go_enter Try.func72, Try.ntmps72
  go_wp2
  go_loopw [8, 9, 15] (fun c b i wr => ∃ k q r : Nat, k ≤ n ∧ i = .int .i64 k ∧ q ≤ 4294967295 ∧ c = .int .u64 q ∧ r ≤ 1 ∧ b = .int .u32 r ∧ Hid (SmSt w wr g o n L D f k q r)) (fun _ _ i _ => n - (intOf i).toNat)
  case atStart => exact ⟨0, 0, 0, Nat.zero_le _, rfl, by omega, rfl, by omega, rfl, SmSt.start hbk.out⟩
  case round =>
    obtain ⟨k, q, r, hk, rfl, hq, rfl, hr, rfl, hst⟩ := hrel
    by_cases hlt : k < n
    · have hx : nth L (o + k) < 4294967296 := nth_lt hL.out _
      have hy : nth D k < 4294967296 := nth_lt hD.out _
      obtain ⟨m, hm⟩ : ∃ m, nth D k * f = m := ⟨_, rfl⟩
      have hle : m ≤ 18446744065119617025 := by rw [← hm]; exact mul_bound hy hf
      have hme : (nth D k : Int) * (f : Int) = (m : Int) := by rw [← hm]; exact (Int.natCast_mul _ _).symm
      obtain ⟨t, ht⟩ : ∃ t, t = m + q := ⟨_, rfl⟩
      have hte : (m : Int) + (q : Int) = (t : Int) := by omega
      have htl : t ≤ 18446744069414584320 := by omega
      obtain ⟨y, hyy⟩ : ∃ y, y = t % 4294967296 := ⟨_, rfl⟩
      have hye : (t : Int) % 4294967296 = (y : Int) := by omega
      have hyl : y < 4294967296 := by omega
      have HT : Hid (t = nth D k * f + q) := show t = _ by rw [hm]; exact ht
      have HY := Lib.hid hyy
      clear hm ht hyy
      have c1 : wr.cell? ⟨g, o + k, none⟩ = some (.int .u32 ((nth L (o + k) : Nat) : Int)) := hst.out.cell hon.out (by omega)
      have c2 : wr.cell? ⟨bb, p + k, none⟩ = some (.int .u32 ((nth D k : Nat) : Int)) := by
        obtain ⟨hne, hc⟩ := hbg.out
        exact (hst.out.far hne).trans (hc k hlt)
      have f1 : wr.frozen? ⟨g, o + k, none⟩ = false := hst.out.frozen _
      go_wp2_with (go_at_call 62; refine (sub32 _ _ _ _ hx hyl hr).mono ?_; rintro e w' ⟨rfl, rfl⟩)
      clear c1 c2 f1
      go_roundw
      case rel => exact ⟨k + 1, t / 4294967296, brw (nth L (o + k)) y r, by omega, by go_num, by omega, by go_num, brw_le _ _ _, rfl, hst.out.step hL.out hD.out hf hon.out (by omega) HT.out HY.out⟩
      case measure => simp [intOf]; omega
    · obtain rfl : k = n := by omega
      have hx : nth L (o + k) < 4294967296 := nth_lt hL.out _
      have c1 : wr.cell? ⟨g, o + k, none⟩ = some (.int .u32 ((nth L (o + k) : Nat) : Int)) := hst.out.cell hon.out (by omega)
      have f1 : wr.frozen? ⟨g, o + k, none⟩ = false := hst.out.frozen _
      clear hlt
      go_wp2_with (go_at_call 62; refine (sub32 _ _ _ _ hx (by omega) hr).mono ?_; rintro e w' ⟨rfl, rfl⟩)
      go_ret
      exact hst.out.done hL.out hon.out hdl.out

end Go.Proofs.Ytogmgomcdhfolaa
