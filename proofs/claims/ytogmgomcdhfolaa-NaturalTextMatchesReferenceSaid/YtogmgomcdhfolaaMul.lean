/-
  natural.Mul: the product of two numbers.
-/
import Derived.Test.YtogmgomcdhfolaaMulTo
import Derived.Test.YtogmgomcdhfolaaAdd
namespace Go.Proofs.Ytogmgomcdhfolaa
open Go.RowKit Nt

theorem val_splice (L Y : List Nat) (o : Nat) (h : o + Y.length ≤ L.length) :
    val (splice L o Y) = val (L.take o) + 4294967296 ^ o * (val Y + 4294967296 ^ Y.length * val (L.drop (o + Y.length))) := by
  unfold splice
  rw [val_append, val_append, List.length_take, Nat.min_eq_left (by omega)]
theorem val_split (L : List Nat) (o n : Nat) (h : o + n ≤ L.length) :
    val L = val (L.take o) + 4294967296 ^ o * (val ((L.drop o).take n) + 4294967296 ^ n * val (L.drop (o + n))) := by
  conv => lhs; rw [← List.take_append_drop o L, ← List.take_append_drop n (L.drop o)]
  rw [val_append, val_append, List.length_take, List.length_take, List.length_drop, Nat.min_eq_left (by omega), Nat.min_eq_left (by omega), List.drop_drop]
theorem val_zeros {L : List Nat} {i : Nat} (h : ∀ j, i ≤ j → nth L j = 0) : val (L.drop i) = 0 := by
  have : L.drop i = List.replicate (L.length - i) 0 := by
    apply List.ext_getElem
    · simp
    · intro j h1 h2
      have := h (i + j) (by omega)
      rw [nth_getElem (by simp at h1; omega)] at this
      simpa using this
  rw [this, val_replicate]
theorem wf_splice {L Y : List Nat} (o : Nat) (hL : Wf L) (hY : Wf Y) : Wf (splice L o Y) := wf_append.2 ⟨hL.take o, wf_append.2 ⟨hY, hL.drop _⟩⟩

/-- a number's limbs up to k times b lie in the block; the rest of it is zero -/
structure ProdInv (a b k : Nat) (L : List Nat) : Prop where
  len : L.length = (dg a).length + (dg b).length
  wf : Wf L
  eq : val L = val ((dg a).take k) * b
  zero : ∀ j, k + (dg b).length ≤ j → nth L j = 0

theorem ProdInv.start (a b : Nat) : ProdInv a b 0 (List.replicate ((dg a).length + (dg b).length) 0) := by
  refine ⟨by simp, wf_replicate _, by rw [val_replicate]; simp [val], fun j _ => ?_⟩
  unfold nth
  rw [List.getD_eq_getElem?_getD, List.getElem?_replicate]
  split <;> rfl

theorem prod_eq (V P W Q R n b : Nat) : V + P * (W + n * b + Q * 0) = V + P * (W + R * 0) + P * n * b := by
  simp only [Nat.mul_zero, Nat.add_zero, Nat.mul_add, Nat.mul_assoc]
  omega
theorem ProdInv.step {a b k c : Nat} {L X : List Nat} (h : ProdInv a b k L) (hk : k < (dg a).length) (hX : Wf X) (hx : X.length = (dg b).length) (hc : c < 4294967296)
    (hv : val X + 4294967296 ^ (dg b).length * c = val ((L.drop k).take (dg b).length) + nth (dg a) k * val (dg b)) :
    ProdInv a b (k + 1) ((splice L k X).set (k + (dg b).length) c) := by
  have hl := h.len
  have hs : (splice L k X).set (k + (dg b).length) c = splice L k (X ++ [c]) := by rw [← hx, spl_set _ (by omega)]
  rw [hs]
  have hlx : (X ++ [c]).length = (dg b).length + 1 := by simp [hx]
  refine ⟨by rw [length_spl (by omega), hl], wf_splice k h.wf (wf_append.2 ⟨hX, wf_cons.2 ⟨hc, wf_nil⟩⟩), ?_, fun j hj => ?_⟩
  · rw [val_splice _ _ _ (by omega), hlx, val_zeros (fun j hj => h.zero j (by omega)), val_snoc, hx, hv, val_dg, take_step, Nat.add_mul, ← h.eq,
      val_split L k (dg b).length (by omega), val_zeros h.zero]
    exact prod_eq _ _ _ _ _ _ _
  · rw [nth_spl (by omega) (by omega)]
    exact h.zero j (by omega)

theorem ProdInv.done {a b : Nat} {L : List Nat} (h : ProdInv a b (dg a).length L) : val L = a * b := by
  rw [h.eq, List.take_of_length_le (Nat.le_refl _), val_dg]

theorem prod_large {a b : Nat} (ha : 0 < (dg a).length) (hb : 0 < (dg b).length) : (dg a).length + (dg b).length - 1 ≤ (dg (a * b)).length := by
  have na : a ≠ 0 := fun e => by rw [e, dg_zero] at ha; simp at ha
  have nb : b ≠ 0 := fun e => by rw [e, dg_zero] at hb; simp at hb
  have h1 := Nat.mul_le_mul (pow_le_of_dg na) (pow_le_of_dg nb)
  rw [← Nat.pow_add] at h1
  rcases Nat.lt_or_ge (dg (a * b)).length ((dg a).length + (dg b).length - 1) with hlt | hge
  · have h2 := lt_pow_dg (a * b)
    have h3 : 4294967296 ^ (dg (a * b)).length ≤ 4294967296 ^ ((dg a).length - 1 + ((dg b).length - 1)) := Nat.pow_le_pow_right (by omega) (by omega)
    exact absurd (Nat.lt_of_lt_of_le h2 (Nat.le_trans h3 h1)) (Nat.lt_irrefl _)
  · exact hge

/-- the loop's state -/
def ProdSt (w wr : World) (g a b k : Nat) : Prop := ∃ L, ProdInv a b k L ∧ Bk wr g L ∧ Below g w wr

section
variable {w wr : World} {g a b k : Nat}
theorem ProdSt.start {w w1 : World} (hb : Below g w w1) (h : Bk w1 g (List.replicate ((dg a).length + (dg b).length) 0)) : ProdSt w w1 g a b 0 := ⟨_, ProdInv.start a b, h, hb⟩
theorem ProdSt.step {L X : List Nat} {w1 w2 : World} {c : Nat} (hi : ProdInv a b k L) (hb : Below g w w1) (hk : k < (dg a).length) (hX : Wf X) (hx : X.length = (dg b).length) (hc : c < 4294967296)
    (hv : val X + 4294967296 ^ (dg b).length * c = val ((L.drop k).take (dg b).length) + nth (dg a) k * val (dg b)) (hbk : Bk w2 g (splice L k X)) (hu : Upd g w1 w2) (d : Nat) :
    ProdSt w ((w2.setCell ⟨g, k + (dg b).length, none⟩ (.int .u32 ((c : Nat) : Int))).drewN d) g a b (k + 1) :=
  ⟨_, hi.step hk hX hx hc hv, (hbk.set_ _ _).drewN d, hb.trans (((hu.set_ _ _).drewN d).below (Nat.le_refl _))⟩
end

set_option maxHeartbeats 1000000 in
set_option maxRecDepth 100000 in
theorem mul_core (a b c d ba oa bb ob : Nat) (w : World) (hca : Hid (ba < w.heap.size ∧ ∀ j, j < (dg a).length → w.cell? ⟨ba, oa + j, none⟩ = some (.int .u32 ((nth (dg a) j : Nat) : Int))))
    (hcb : Hid (bb < w.heap.size ∧ ∀ j, j < (dg b).length → w.cell? ⟨bb, ob + j, none⟩ = some (.int .u32 ((nth (dg b) j : Nat) : Int)))) (la : (dg a).length ≤ 1024) (lb : (dg b).length ≤ 1024)
    (pa : 0 < (dg a).length) (pb : 0 < (dg b).length) (hlim : (dg a).length + (dg b).length ≤ 1025) :
    Calls Try.prog 20 #[.slice (some ⟨ba, oa, none⟩) (dg a).length c, .slice (some ⟨bb, ob, none⟩) (dg b).length d] w (Gives w (lim (a * b)) (limE (a * b))) := by
  have VA := Lib.hid (vldB_dg la)
  have VB := Lib.hid (vldB_dg lb)
  have HA : Hid (Rd w w.heap.size (some ⟨ba, oa, none⟩) (dg a)) := fun _ => ⟨ba, oa, rfl, hca.out⟩
  have HB : Hid (Rd w w.heap.size (some ⟨bb, ob, none⟩) (dg b)) := fun _ => ⟨bb, ob, rfl, hcb.out⟩
  have ea : (((dg a).length : Int) == 0) = false := beq_eq_false_iff_ne.2 (by omega)
  have eb : (((dg b).length : Int) == 0) = false := beq_eq_false_iff_ne.2 (by omega)
  go_enter Try.func20, Try.ntmps20
  go_wp2_with (first
    | (go_at_call 26; ((with_reducible refine (valid_yes c _ HA.out rfl (by omega) VA.out).mono ?_); rintro e w' ⟨rfl, rfl⟩))
    | (go_at_call 26; ((with_reducible refine (valid_yes d _ HB.out rfl (by omega) VB.out).mono ?_); rintro e w' ⟨rfl, rfl⟩))
    | (at_make; refine wpList_make_bk _ rfl _ _ 22 rfl Try.underlying22 _ _ _ _ ((dg a).length + (dg b).length) rfl rfl (by omega) (by omega) (by omega) ?_; intro w1 hbk1 hs1 hb1; have HP := Lib.hid (ProdSt.start hb1 hbk1); clear hbk1 hs1 hb1))
  go_loopw [39] (fun i wr => ∃ k : Nat, k ≤ (dg a).length ∧ i = .int .i64 k ∧ Hid (ProdSt w wr w.heap.size a b k)) (fun i _ => (dg a).length - (intOf i).toNat)
  case atStart => exact ⟨0, Nat.zero_le _, rfl, HP⟩
  case round =>
    obtain ⟨k, hk, rfl, hst⟩ := hrel
    by_cases hlt : k < (dg a).length
    · obtain ⟨L, hi, hbk, hbw⟩ := hst.out
      have HI := Lib.hid hi
      have HBK := Lib.hid hbk
      have hll : L.length = (dg a).length + (dg b).length := hi.len
      have HLL := Lib.hid hll
      have c1 : wr.cell? ⟨ba, oa + k, none⟩ = some (.int .u32 ((nth (dg a) k : Nat) : Int)) := (hbw.cell hca.out.1).trans (hca.out.2 k hlt)
      have hx : nth (dg a) k < 4294967296 := nth_lt (wf_dg a) _
      clear hi hbk hll
      have i1 : (0 : Int) ≤ (k : Int) := by omega
      have i2 : (k : Int) < ((dg a).length : Int) := by omega
      go_wp2
      have e1 : IntKind.i64.wrap ((k : Int) + ((dg b).length : Int)) = (k : Int) + ((dg b).length : Int) := IntWalk.i64_in _ (by omega)
      have e2 : (0 : Int) ≤ (k : Int) + ((dg b).length : Int) := by omega
      have e3 : ((k : Int) + ((dg b).length : Int)).toNat = k + (dg b).length := by omega
      have e4 : (k : Int) + ((dg b).length : Int) ≤ ((dg a).length : Int) + ((dg b).length : Int) := by omega
      have e5 : ¬ (dg a).length + (dg b).length = k := by omega
      have e6 : (k : Int) + ((dg b).length : Int) < ((dg a).length : Int) + ((dg b).length : Int) := by omega
      go_region_law ((go_simp; go_at_call 48; refine (addMultiple_some _ _ _ _ bb ob d _ L (dg b) _ HI.out.wf (wf_dg b) rfl (by omega) hx (show k + (dg b).length ≤ L.length by rw [HLL.out]; omega) HBK.out.drew ⟨by have := hcb.out.1; omega, fun j hj => (hbw.drew.cell hcb.out.1).trans (hcb.out.2 j hj)⟩).mono ?_; rintro e w2 ⟨X, cr, rfl, hlx, hwx, hcx, hvx, hbx, hux⟩; have HLX := Lib.hid hlx; have HVX := Lib.hid hvx; have c3 := hbx.cell (i := k + (dg b).length) (by rw [length_spl (by rw [hlx, HLL.out]; omega), HLL.out]; omega); have f3 := hbx.frozen (k + (dg b).length); have HBX := Lib.hid hbx; clear hlx hvx hbx))
      all_goals
        clear c1 c3 f3
        go_wp2
        go_roundw
        case rel => exact ⟨k + 1, by omega, by go_num, ProdSt.step HI.out hbw hlt hwx HLX.out hcx HVX.out HBX.out hux.undrew 0⟩
        case measure => simp [intOf]; omega
    · obtain ⟨L, hi, hbk, hbw⟩ := hst.out
      obtain rfl : k = (dg a).length := by omega
      have hv := hi.done
      have hwf := hi.wf
      have hlen := hi.len
      have HV := Lib.hid hv
      have HBK := Lib.hid hbk
      have HLEN := Lib.hid hlen
      clear hi hbk hv hlen
      go_wp2_with (first
        | (go_at_call 41; refine (limited_any _ _ (HBK.out.rd HBK.out.lt) (Nat.le_refl _) hwf HLEN.out (by omega) (Nat.le_refl _)).mono ?_; rintro e w4 ⟨v, rfl, h1, h2⟩))
      go_ret2
      rw [← HV.out]
      exact ⟨v, rfl, h1, hbw.trans (h2.mono hbw.size)⟩

set_option maxHeartbeats 1000000 in
theorem mul_ok (a b c d : Nat) (A A' : Option Addr) (w : World) (ha : Rd w w.heap.size A (dg a)) (hb : Rd w w.heap.size A' (dg b)) (la : (dg a).length ≤ 1024) (lb : (dg b).length ≤ 1024) :
    Calls Try.prog 20 #[.slice A (dg a).length c, .slice A' (dg b).length d] w (Gives w (lim (a * b)) (limE (a * b))) := by
  have VA := Lib.hid (vldB_dg la)
  have VB := Lib.hid (vldB_dg lb)
  rcases Nat.eq_zero_or_pos (dg a).length with pa | pa
  · have e : a = 0 := dg_eq_nil.1 (List.eq_nil_of_length_eq_zero pa)
    subst e
    rw [Nat.zero_mul, lim_of (by rw [dg_zero]; simp), limE_of (by rw [dg_zero]; simp), dg_zero]
    rw [dg_zero] at ha
    have HA := Lib.hid ha
    have HB := Lib.hid hb
    have VA0 : Hid (vldB [] = true) := rfl
    clear ha hb pa VA la
    go_enter Try.func20, Try.ntmps20
    go_wp2_with (first
      | (go_at_call 26; ((with_reducible refine (valid_yes (l := []) c 0 HA.out rfl (by omega) VA0.out).mono ?_); rintro e w' ⟨rfl, rfl⟩))
      | (go_at_call 26; ((with_reducible refine (valid_yes d _ HB.out rfl (by omega) VB.out).mono ?_); rintro e w' ⟨rfl, rfl⟩)))
    go_ret2
    exact ⟨_, rfl, Num.nil _, Below.refl _ _⟩
  rcases Nat.eq_zero_or_pos (dg b).length with pb | pb
  · have e : b = 0 := dg_eq_nil.1 (List.eq_nil_of_length_eq_zero pb)
    subst e
    rw [Nat.mul_zero, lim_of (by rw [dg_zero]; simp), limE_of (by rw [dg_zero]; simp), dg_zero]
    rw [dg_zero] at hb
    have HA := Lib.hid ha
    have HB := Lib.hid hb
    have VB0 : Hid (vldB [] = true) := rfl
    have ea : (((dg a).length : Int) == 0) = false := beq_eq_false_iff_ne.2 (by omega)
    clear ha hb pb VB lb
    go_enter Try.func20, Try.ntmps20
    go_wp2_with (first
      | (go_at_call 26; ((with_reducible refine (valid_yes c _ HA.out rfl (by omega) VA.out).mono ?_); rintro e w' ⟨rfl, rfl⟩))
      | (go_at_call 26; ((with_reducible refine (valid_yes (l := []) d 0 HB.out rfl (by omega) VB0.out).mono ?_); rintro e w' ⟨rfl, rfl⟩)))
    go_ret2
    exact ⟨_, rfl, Num.nil _, Below.refl _ _⟩
  by_cases hlim : (dg a).length + (dg b).length ≤ 1025
  · obtain ⟨ba, oa, rfl, h1, h2⟩ := ha pa
    obtain ⟨bb, ob, rfl, h3, h4⟩ := hb pb
    exact mul_core a b c d ba oa bb ob w ⟨h1, h2⟩ ⟨h3, h4⟩ la lb pa pb hlim
  · have hp := prod_large pa pb
    have hn : ¬ (dg (a * b)).length ≤ 1024 := by omega
    rw [lim_not hn, limE_not hn]
    have HA := Lib.hid ha
    have HB := Lib.hid hb
    have ea : (((dg a).length : Int) == 0) = false := beq_eq_false_iff_ne.2 (by omega)
    have eb : (((dg b).length : Int) == 0) = false := beq_eq_false_iff_ne.2 (by omega)
    clear ha hb hp hn
    go_enter Try.func20, Try.ntmps20
    go_wp2_with (first
      | (go_at_call 26; ((with_reducible refine (valid_yes c _ HA.out rfl (by omega) VA.out).mono ?_); rintro e w' ⟨rfl, rfl⟩))
      | (go_at_call 26; ((with_reducible refine (valid_yes d _ HB.out rfl (by omega) VB.out).mono ?_); rintro e w' ⟨rfl, rfl⟩)))
    go_ret2
    exact ⟨_, rfl, Num.nil _, Below.refl _ _⟩

set_option maxHeartbeats 400000 in
theorem mul_bad {B : Nat} {A A' : Option Addr} {l m : List Nat} {w : World} (c d : Nat) (ha : Rd w B A l) (hb : Rd w B A' m) (hl : l.length ≤ 1000000) (hm : m.length ≤ 1000000) (hv : (vldB l && vldB m) = false) :
    Calls Try.prog 20 #[.slice A l.length c, .slice A' m.length d] w (Gives w 0 1) := by
  have HA := Lib.hid ha
  have HB := Lib.hid hb
  clear ha hb
  rcases hvl : vldB l with _ | _
  · have VA := Lib.hid hvl
    clear hvl hv
    go_enter Try.func20, Try.ntmps20
    go_wp2_with (first
      | (go_at_call 26; ((with_reducible refine (valid_no c _ HA.out rfl (by omega) VA.out).mono ?_); rintro e w' ⟨rfl, rfl⟩)))
    go_ret2
    exact ⟨_, rfl, Num.nil _, Below.refl _ _⟩
  · have VA := Lib.hid hvl
    rw [hvl, Bool.true_and] at hv
    have VB := Lib.hid hv
    clear hvl hv
    go_enter Try.func20, Try.ntmps20
    go_wp2_with (first
      | (go_at_call 26; ((with_reducible refine (valid_yes c _ HA.out rfl (by omega) VA.out).mono ?_); rintro e w' ⟨rfl, rfl⟩))
      | (go_at_call 26; ((with_reducible refine (valid_no d _ HB.out rfl (by omega) VB.out).mono ?_); rintro e w' ⟨rfl, rfl⟩)))
    go_ret2
    exact ⟨_, rfl, Num.nil _, Below.refl _ _⟩

end Go.Proofs.Ytogmgomcdhfolaa
