/-
  natural.quotientLimb: one limb of a quotient; the remainder is left in place.
-/
import Derived.Test.YtogmgomcdhfolaaEsti
import Derived.Test.YtogmgomcdhfolaaMul
namespace Go.Proofs.Ytogmgomcdhfolaa
open Go.RowKit Nt

theorem split3 {S : List Nat} {m : Nat} (hS : S.length = m + 3) : val S = val (S.take m) + 4294967296 ^ m * (nth S m + 4294967296 * (nth S (m + 1) + 4294967296 * nth S (m + 2))) := by
  have e0 : val S = val (S.take (m + 3)) := by rw [List.take_of_length_le (by omega)]
  rw [e0, take_step S (m + 2), take_step S (m + 1), take_step S m, show (4294967296 : Nat) ^ (m + 2) = 4294967296 ^ m * 4294967296 * 4294967296 by rw [Nat.pow_succ, Nat.pow_succ], show (4294967296 : Nat) ^ (m + 1) = 4294967296 ^ m * 4294967296 by rw [Nat.pow_succ]]
  generalize 4294967296 ^ m = P
  rw [Nat.mul_add, Nat.mul_add, Nat.mul_add, ← Nat.mul_assoc, ← Nat.mul_assoc, ← Nat.mul_assoc]
  omega
theorem split2 {S : List Nat} {m : Nat} (hS : S.length = m + 2) : val S = val (S.take m) + 4294967296 ^ m * (nth S m + 4294967296 * nth S (m + 1)) := by
  have e0 : val S = val (S.take (m + 2)) := by rw [List.take_of_length_le (by omega)]
  rw [e0, take_step S (m + 1), take_step S m, Nat.pow_succ]
  generalize 4294967296 ^ m = P
  rw [Nat.mul_add, ← Nat.mul_assoc]
  omega

theorem estP_mk {S v T V M a c q r top p2 high low : Nat} (hT : T = top * 4294967296 + p2) (hV : V = high * 4294967296 + low) (s1 : S = a + M * T) (b1 : a < M) (s2 : v = c + M * V) (b2 : c < M)
    (hq : v * q + r = S) (hr : r < v) (hM : 0 < M) : EstP S v q top p2 high low M := by
  refine ⟨?_, ?_, ?_, ?_, hM, ?_, ?_⟩
  · rw [← hT, Nat.add_mul, Nat.one_mul, Nat.mul_comm T]; omega
  · rw [← hT, Nat.mul_comm T]; omega
  · rw [← hV, Nat.mul_comm V]; omega
  · rw [← hV, Nat.add_mul, Nat.one_mul, Nat.mul_comm V]; omega
  · rw [Nat.mul_comm]; omega
  · rw [Nat.add_mul, Nat.one_mul, Nat.mul_comm]; omega
theorem est_of {S D : List Nat} {m : Nat} (hS : S.length = m + 3) (hD : D.length = m + 2) (wS : Wf S) (wD : Wf D) (hv : 0 < val D) :
    EstP (val S) (val D) (val S / val D) (nth S (m + 2) * 4294967296 + nth S (m + 1)) (nth S m) (nth D (m + 1)) (nth D m) (4294967296 ^ m) := by
  have b1 := val_lt (wS.take m)
  have b2 := val_lt (wD.take m)
  rw [List.length_take, Nat.min_eq_left (by omega)] at b1 b2
  exact estP_mk (by omega) (by omega) (split3 hS) b1 (split2 hD) b2 (Nat.div_add_mod (val S) (val D)) (Nat.mod_lt (val S) hv) (Nat.pow_pos (by omega))

theorem top_le {S D : List Nat} {m : Nat} (hS : S.length = m + 3) (hD : D.length = m + 2) (wD : Wf D) (hP : val S < val D * 4294967296) : nth S (m + 2) ≤ nth D (m + 1) := by
  have s1 := split3 hS
  have s2 := split2 hD
  have b2 := val_lt (wD.take m)
  rw [List.length_take, Nat.min_eq_left (by omega)] at b2
  have hd := nth_lt wD m
  rcases Nat.lt_or_ge (nth D (m + 1)) (nth S (m + 2)) with h | h
  · exfalso
    have h1 : 4294967296 ^ m * (nth D m + 4294967296 * nth D (m + 1) + 1) ≤ 4294967296 ^ m * (4294967296 * nth S (m + 2)) := Nat.mul_le_mul_left _ (by omega)
    rw [Nat.mul_add, Nat.mul_one] at h1
    have h2 : 4294967296 ^ m * (4294967296 * (nth S (m + 1) + 4294967296 * nth S (m + 2))) ≤ 4294967296 ^ m * (nth S m + 4294967296 * (nth S (m + 1) + 4294967296 * nth S (m + 2))) := Nat.mul_le_mul_left _ (by omega)
    have h3 : 4294967296 ^ m * (4294967296 * (4294967296 * nth S (m + 2))) ≤ 4294967296 ^ m * (4294967296 * (nth S (m + 1) + 4294967296 * nth S (m + 2))) := Nat.mul_le_mul_left _ (by omega)
    have h4 : 4294967296 ^ m * (4294967296 * (4294967296 * nth S (m + 2))) = 4294967296 ^ m * (4294967296 * nth S (m + 2)) * 4294967296 := by
      rw [Nat.mul_left_comm (4294967296 ^ m), Nat.mul_comm 4294967296]
    generalize 4294967296 ^ m * (nth D m + 4294967296 * nth D (m + 1)) = y at *
    generalize 4294967296 ^ m * (4294967296 * nth S (m + 2)) = z at *
    generalize 4294967296 ^ m * (4294967296 * (4294967296 * nth S (m + 2))) = u at *
    generalize 4294967296 ^ m * (4294967296 * (nth S (m + 1) + 4294967296 * nth S (m + 2))) = t at *
    omega
  · exact h

theorem splice_splice' {L X Y : List Nat} {o : Nat} (h : o + X.length ≤ L.length) (hl : Y.length = X.length) : splice (splice L o X) o Y = splice L o Y := by
  unfold splice
  have e1 : (L.take o ++ (X ++ L.drop (o + X.length))).take o = L.take o := by
    rw [List.take_append_of_le_length (by simp; omega), List.take_of_length_le (by rw [List.length_take]; exact Nat.min_le_left _ _)]
  have e2 : (L.take o ++ (X ++ L.drop (o + X.length))).drop (o + Y.length) = L.drop (o + Y.length) := by
    rw [← List.append_assoc, List.drop_append_of_le_length (by simp; omega), List.drop_eq_nil_of_le (by simp; omega), List.nil_append, hl]
  rw [e1, e2]
theorem splice_get {L X : List Nat} {o : Nat} (h : o + X.length ≤ L.length) : ((splice L o X).drop o).take X.length = X := by
  unfold splice
  rw [List.drop_append_of_le_length (by simp; omega), List.drop_eq_nil_of_le (by rw [List.length_take]; exact Nat.min_le_left _ _), List.nil_append, List.take_append_of_le_length (Nat.le_refl _), List.take_of_length_le (Nat.le_refl _)]

/-- the correction: what is added back -/
theorem back_exact {z P c x0 xn v r : Nat} (h1 : z + P * c = x0 + v) (h2 : x0 + P * xn + v = P * 4294967296 + r) (hz : z < P) (hr : r < P) : xn + c = 4294967296 ∧ z = r := by
  have e : z + P * (xn + c) = P * 4294967296 + r := by rw [Nat.mul_add]; omega
  have h3 : xn + c = 4294967296 := by
    rcases Nat.lt_trichotomy (xn + c) 4294967296 with h | h | h
    · have : P * (xn + c + 1) ≤ P * 4294967296 := Nat.mul_le_mul_left _ h
      rw [Nat.mul_add] at this
      omega
    · exact h
    · have : P * (4294967296 + 1) ≤ P * (xn + c) := Nat.mul_le_mul_left _ h
      rw [Nat.mul_add] at this
      omega
  rw [h3] at e
  exact ⟨h3, by omega⟩

theorem splice_take {L X : List Nat} {o k : Nat} (h : o + X.length ≤ L.length) (hk : k ≤ X.length) : ((splice L o X).drop o).take k = X.take k := by
  have := splice_get h
  rw [← this, List.take_take, Nat.min_eq_left hk, this]

/-- the limbs after the correction -/
theorem corrected {w2 w3 : World} {g o m b0 xn q l : Nat} {L D X Z : List Nat} {c : Nat} {r : Nat} (_hX : Wf X) (hXl : X.length = m + 3) (hxn : nth X (m + 2) = xn) (hD : Wf D) (hDl : D.length = m + 2) (_hl : l = q + 1) (_hb : b0 = 1)
    (hon : o + (m + 2 + 1) ≤ L.length) (hf : val X + val D = 4294967296 ^ (m + 2 + 1) + r) (hr : r < val D) (hZ : Wf Z) (hZl : Z.length = m + 2)
    (hv : val Z + 4294967296 ^ (m + 2) * c = val (((splice L o X).drop o).take (m + 2)) + val D) (hbk : Bk w3 g (splice (splice L o X) o Z)) (_hu : Upd g w2 w3) :
    xn + c = 4294967296 ∧ val Z = r ∧ w3.cell? ⟨g, o + (m + 2), none⟩ = some (.int .u32 (xn : Int)) ∧ w3.frozen? ⟨g, o + (m + 2), none⟩ = false ∧
    Bk (w3.setCell ⟨g, o + (m + 2), none⟩ (.int .u32 ((0 : Nat) : Int))) g (splice L o (Z ++ [0])) := by
  rw [splice_take (by omega) (by omega)] at hv
  have e := take_step X (m + 2)
  rw [List.take_of_length_le (by omega), hxn] at e
  rw [e, Nat.pow_succ] at hf
  have hz := val_lt hZ
  rw [hZl] at hz
  have hd := val_lt hD
  rw [hDl] at hd
  obtain ⟨h1, h2⟩ := back_exact hv hf hz (Nat.lt_trans hr hd)
  have l1 : (splice L o X).length = L.length := length_spl (by omega)
  refine ⟨h1, h2, ?_, hbk.frozen _, ?_⟩
  · rw [hbk.cell (by rw [length_spl (by omega)]; omega), nth_spl (by omega) (by omega), nth_spl_in (by omega) (by omega), hxn]
  · have := hbk.set_ (o + (m + 2)) 0
    rw [← hZl, spl_set _ (by omega), splice_splice' (by omega) (by simp; omega), hZl] at this
    exact this

/-- what quotientLimb leaves -/
def Quod (w : World) (g o n : Nat) (L D : List Nat) (e : Ending) (w' : World) : Prop :=
  ∃ Z : List Nat, e = .returned (.int .u32 ((val ((L.drop o).take (n + 1)) / val D : Nat) : Int)) ∧ Z.length = n + 1 ∧ Wf Z ∧ val Z = val ((L.drop o).take (n + 1)) % val D ∧ Bk w' g (splice L o Z) ∧ Upd g w w'

set_option maxHeartbeats 4000000 in
set_option maxRecDepth 100000 in
theorem quoLimb_some (g o m C bb p d : Nat) (L D : List Nat) (w : World) (hL : Hid (Wf L)) (hD : Hid (Wf D)) (hdl : Hid (D.length = m + 2)) (hm : m ≤ 2000)
    (hon : Hid (o + (m + 2 + 1) ≤ L.length)) (hbk : Hid (Bk w g L)) (hbg : Hid (bb ≠ g ∧ ∀ j, j < m + 2 → w.cell? ⟨bb, p + j, none⟩ = some (.int .u32 ((nth D j : Nat) : Int))))
    (hC : m + 2 + 1 ≤ C) (htop : 2147483648 ≤ nth D (m + 1)) (hP : Hid (val ((L.drop o).take (m + 2 + 1)) < val D * 4294967296)) :
    Calls Try.prog 66 #[.slice (some ⟨g, o, none⟩) (m + 2 + 1) C, .slice (some ⟨bb, p, none⟩) (m + 2) d] w (Quod w g o (m + 2) L D) := by
  have hSl : Hid (((L.drop o).take (m + 2 + 1)).length = m + 3) := show _ = _ by have := hon.out; simp; omega
  have wS : Hid (Wf ((L.drop o).take (m + 2 + 1))) := (hL.out.drop o).take _
  have hv : Hid (0 < val D) := by
    show 0 < _
    have s2 := split2 hdl.out
    have h1 : 4294967296 ^ m * 1 ≤ 4294967296 ^ m * (nth D m + 4294967296 * nth D (m + 1)) := Nat.mul_le_mul_left _ (by omega)
    have h2 : 0 < 4294967296 ^ m := Nat.pow_pos (by omega)
    omega
  obtain ⟨q, hq⟩ : ∃ q, q = val ((L.drop o).take (m + 2 + 1)) / val D := ⟨_, rfl⟩
  have HQ := Lib.hid hq
  have hqb : q < 4294967296 := by rw [hq, Nat.div_lt_iff_lt_mul hv.out, Nat.mul_comm]; exact hP.out
  have EP := Lib.hid (est_of hSl.out hdl.out wS.out hD.out hv.out)
  have hpn := Lib.hid (top_le hSl.out hdl.out hD.out hP.out)
  have cell : ∀ j, j < m + 2 + 1 → w.cell? ⟨g, o + j, none⟩ = some (.int .u32 ((nth ((L.drop o).take (m + 2 + 1)) j : Nat) : Int)) := fun j hj => by
    rw [nth_sub hj]; exact hbk.out.cell (by have := hon.out; omega)
  have CELL := Lib.hid cell
  clear cell hq
  go_enter Try.func66, Try.ntmps66
  go_wp2_with fail
  have c1 := CELL.out (m + 2) (by omega)
  have c2 := CELL.out (m + 1) (by omega)
  have c3 := CELL.out m (by omega)
  have c4 := hbg.out.2 (m + 1) (by omega)
  have c5 := hbg.out.2 m (by omega)
  refine (esti_some g o (m + 2) (m + 2 + 1) C bb p d _ _ _ _ _ q _ _ _ _ (by omega) (by omega) (by omega) c1 c2 c3 c4 c5 hpn.out (nth_lt wS.out _) (nth_lt wS.out _) (nth_lt hD.out _) (nth_lt hD.out _) htop hqb (by rw [HQ.out]; exact EP)).mono ?_
  clear c1 c2 c3 c4 c5
  rintro e w1 ⟨l, rfl, hl, hl1, hl2, hqt⟩
  have hbk1 : Hid (Bk w1 g L) := by obtain ⟨k, rfl⟩ := hqt; exact hbk.out.drewN k
  have hbg1 : Hid (bb ≠ g ∧ ∀ j, j < m + 2 → w1.cell? ⟨bb, p + j, none⟩ = some (.int .u32 ((nth D j : Nat) : Int))) := ⟨hbg.out.1, fun j hj => (hqt.cell _).trans (hbg.out.2 j hj)⟩
  go_wp2_with fail
  refine (subMul_some g o (m + 2) (m + 2 + 1) C bb p d l L D _ rfl hL hD hdl (by omega) (by omega) hon hbk1 hbg1).mono ?_
  rintro e w2 ⟨X, b, rfl, hXl, hX, hb, hv2, hbk2, hu2⟩
  have HV2 := Lib.hid hv2
  have HXL := Lib.hid hXl
  have HBK2 := Lib.hid hbk2
  have hQ1 : Hid (q * val D ≤ val ((L.drop o).take (m + 2 + 1))) := by
    show _ ≤ _
    rw [HQ.out]; exact Nat.div_mul_le_self _ _
  have hQ2 : Hid (val ((L.drop o).take (m + 2 + 1)) < (q + 1) * val D) := EP.out.q2 |> fun h => by rw [HQ.out]; exact h
  have hmod : Hid (val ((L.drop o).take (m + 2 + 1)) - q * val D = val ((L.drop o).take (m + 2 + 1)) % val D) := by
    show _ = _
    have := Nat.div_add_mod (val ((L.drop o).take (m + 2 + 1))) (val D)
    rw [← HQ.out, Nat.mul_comm] at this
    omega
  have hxW := val_lt hX
  rw [hXl] at hxW
  have hex := quo_exact hv2 hxW hb hQ1.out hQ2.out (Nat.le_of_lt (Nat.lt_of_lt_of_le (val_lt hD.out) (Nat.pow_le_pow_right (by omega) (by rw [hdl.out]; omega)))) hl1 hl2
  have HEX := Lib.hid hex
  have hb01 : b = 0 ∨ b = 1 := by omega
  clear hv2 hXl hbk2 hxW hex
  have hU2 : Hid (Upd g w w2) := by
    obtain ⟨k, rfl⟩ := hqt
    exact ⟨hu2.os, hu2.tape, hu2.output, hu2.size, hu2.block⟩
  rcases hb01 with h0 | h0
  · have hfin := HEX.out.1 h0
    have hb0 : ((b : Int) != 0) = false := by rw [h0]; rfl
    have HF := Lib.hid hfin
    clear hfin h0
    go_wp2_with fail
    go_ret
    exact ⟨X, ret_u (by rw [← HQ.out, HF.out.1]), HXL.out, hX, by rw [HF.out.2, hmod.out], HBK2.out, hU2.out⟩
  · have hfin := HEX.out.2 h0
    have hb0 : ((b : Int) != 0) = true := by rw [h0]; rfl
    have HF := Lib.hid hfin
    have hlq : l = q + 1 := hfin.1
    have HLQ := Lib.hid hlq
    have hl0 : 1 ≤ l := by omega
    clear hfin h0 hlq
    have hxl2 : (splice L o X).length = L.length := length_spl (by rw [HXL.out]; exact hon.out)
    have HXL2 := Lib.hid hxl2
    obtain ⟨xn, hxn⟩ : ∃ xn, nth X (m + 2) = xn := ⟨_, rfl⟩
    have HXN := Lib.hid hxn
    have hxnb : xn < 4294967296 := by rw [← hxn]; exact nth_lt hX _
    have c1 : w2.cell? ⟨g, o + (m + 2), none⟩ = some (.int .u32 (xn : Int)) := by
      rw [HBK2.out.cell (by rw [hxl2]; have := hon.out; omega), nth_spl_in (by rw [HXL.out]; exact hon.out) (by rw [HXL.out]; omega), hxn]
    have f1 : w2.frozen? ⟨g, o + (m + 2), none⟩ = false := HBK2.out.frozen _
    clear hxl2 hxn
    have i1 : (0 : Int) ≤ (m : Int) + 2 := by omega
    have i2 : (m : Int) + 2 < (m : Int) + 2 + 1 := by omega
    have i3 : ((m : Int) + 2).toNat = m + 2 := by omega
    go_wp2_with fail
    have i4 : (m : Int) + 2 ≤ (C : Int) := by omega
    have HR : Hid (val ((L.drop o).take (m + 2 + 1)) % val D < val D) := Nat.mod_lt _ hv.out
    have hwl := wf_splice o hL.out hX
    go_region_law ((go_simp; go_at_call 40; refine (addTo_some g o (m + 2) C bb p (m + 2) d (splice L o X) D _ hwl hD hdl (Nat.le_refl _) (by omega) (show o + (m + 2) ≤ (splice L o X).length by rw [HXL2.out]; have := hon.out; omega) HBK2.out.drew (fun _ => ⟨hbg.out.1, fun j hj => (hU2.out.cell hbg.out.1).trans (hbg.out.2 j hj)⟩)).mono ?_; intro e w3 had; obtain ⟨Z, cc, rfl, hzl, hz, hcc, hzv, hbk3, hu3⟩ := had; obtain ⟨k1, k2, k3, k4, k5⟩ := corrected hX HXL.out HXN.out hD.out hdl.out HLQ.out rfl hon.out (by rw [HF.out.2, hmod.out]) HR.out hz hzl hzv hbk3 hu3; have hw : IntKind.u32.wrap ((xn : Int) + (cc : Int)) = 0 := (by rw [IntKind.wrap_u32']; omega); have K2 := Lib.hid k2; have K5 := Lib.hid k5; have HZL := Lib.hid hzl; clear k1 k2 k5 hzl hzv hbk3))
    all_goals
      go_wp2_with fail
      go_ret
      exact ⟨Z ++ [0], ret_u (by rw [← HQ.out]; have := HLQ.out; omega), by rw [List.length_append, HZL.out]; rfl, wf_append.2 ⟨hz, wf_cons.2 ⟨by omega, wf_nil⟩⟩, by rw [val_snoc, Nat.mul_zero, Nat.add_zero]; exact K2.out, K5.out, hU2.out.trans (hu3.undrew.set_ _ _)⟩

end Go.Proofs.Ytogmgomcdhfolaa
