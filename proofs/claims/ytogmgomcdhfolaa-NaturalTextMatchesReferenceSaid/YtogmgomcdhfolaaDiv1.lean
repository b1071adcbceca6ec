/-
  natural.Div by one limb, and its easy answers.
-/
import Derived.Test.YtogmgomcdhfolaaSmall2
import Derived.Test.YtogmgomcdhfolaaDivBy
namespace Go.Proofs.Ytogmgomcdhfolaa
open Go.RowKit Nt

/-- what a division gives -/
def Gives3 (w : World) (q r : Nat) (err : Int) (e : Ending) (w' : World) : Prop := ∃ v u, e = .returned (.tuple #[v, u, .int .i64 err]) ∧ Num w' v q ∧ Num w' u r ∧ Below w.heap.size w w'

theorem div_vals {v q d r : Nat} (h : v = q * d + r) (hr : r < d) : q = v / d ∧ r = v % d := by
  subst h
  have hd : 0 < d := by omega
  constructor
  · rw [Nat.add_comm, Nat.add_mul_div_right _ _ hd, Nat.div_eq_of_lt hr, Nat.zero_add]
  · rw [Nat.add_comm, Nat.add_mul_mod_self_right, Nat.mod_eq_of_lt hr]

theorem dg_one {d : Nat} (h0 : 0 < d) (h : d < 4294967296) : dg d = [d] := by
  rw [dg_pos (by omega), Nat.mod_eq_of_lt h, Nat.div_eq_of_lt h, dg_zero]
theorem one_of_len {b : Nat} (h : (dg b).length = 1) : 0 < b ∧ b < 4294967296 := by
  have h1 := lt_pow_dg b
  rw [h] at h1
  refine ⟨Nat.pos_of_ne_zero (fun e => ?_), by simpa using h1⟩
  rw [e, dg_zero] at h; simp at h

theorem compareLimbs_any' {B : Nat} {a b n : Nat} {A A' : Option Addr} {w : World} (c d : Nat) (ha : Rd w B A (dg a)) (hb : Rd w B A' (dg b)) (la : (dg a).length ≤ 1024) (lb : (dg b).length = n) (hn : n ≤ 1024) :
    Calls Try.prog 44 #[.slice A (dg a).length c, .slice A' n d] w fun e w' => e = .returned (.int .i64 (cmpN a b)) ∧ Qt w w' := by
  subst lb
  exact compareLimbs_any c d ha hb la hn

set_option maxHeartbeats 1000000 in
theorem div_one (a b c d : Nat) (A A' : Option Addr) (w : World) (ha : Hid (Rd w w.heap.size A (dg a))) (hb : Hid (Rd w w.heap.size A' (dg b))) (la : (dg a).length ≤ 1024) (lb : (dg b).length = 1) (hab : b ≤ a) :
    Calls Try.prog 22 #[.slice A (dg a).length c, .slice A' 1 d] w (Gives3 w (a / b) (a % b) 0) := by
  have VA := Lib.hid (vldB_dg la)
  have VB := Lib.hid (vldB_dg (N := b) (by omega))
  have HB1 := Lib.hid lb
  obtain ⟨hb0, hb1⟩ := one_of_len lb
  have hdg := dg_one hb0 hb1
  obtain ⟨z, hz, hz0⟩ : ∃ z : Int, cmpN a b = z ∧ ¬ z < 0 := ⟨_, rfl, by unfold cmpN; rw [if_neg (by omega)]; split <;> omega⟩
  have HZ := Lib.hid hz
  obtain ⟨p, q, rfl, hp, hc⟩ := hb.out (by omega)
  have hcq := hc 0 (by omega)
  rw [hdg] at hcq
  have HCQ : Hid (w.cell? ⟨p, q, none⟩ = some (.int .u32 (b : Int))) := hcq
  have HP := Lib.hid hp
  clear hz lb hc hcq hdg hp
  go_enter Try.func22, Try.ntmps22
  go_wp2_with (first
    | (go_at_call 26; ((with_reducible refine (valid_yes c _ ha.out rfl (by omega) VA.out).mono ?_); rintro e w' ⟨rfl, rfl⟩))
    | (go_at_call 26; ((with_reducible refine (valid_yes d 1 hb.out HB1.out (by omega) VB.out).mono ?_); rintro e w' ⟨rfl, rfl⟩))
    | (go_at_call 44; refine (compareLimbs_any' c d ha.out hb.out la HB1.out (by omega)).mono ?_; rintro e w1 ⟨rfl, hq⟩; rw [HZ.out]; have hbl1 := hq.below w.heap.size; have hs1 := hq.size; have HS1 := Lib.hid hs1; clear hs1)
    | (go_at_call 45; refine (duplicate_any c _ (ha.out.below hbl1) (by rw [HS1.out]; exact Nat.le_refl _) rfl (by omega)).mono ?_; rintro e w2 ⟨rfl, h1, h2, h3⟩; have HK2 := Lib.hid h1; have hb2 := hbl1.trans (h3.mono hbl1.size); have hcell := (hb2.cell (p := ⟨p, q, none⟩) HP.out).trans HCQ.out; clear h1 h2)
    | (go_at_call 49; refine (divideBy_any w1.heap.size (dg a).length (dg a).length b (dg a) _ (wf_dg a) (Nat.le_refl _) (by omega) HK2.out hb0 hb1).mono ?_; rintro e w3 ⟨Q, r, rfl, hQl, hQ, hr, hv, hbk, hu⟩; have HV := Lib.hid hv; have HQL := Lib.hid hQl; rw [splice_full hQl] at hbk; have HBK := Lib.hid hbk; have hb3 := hb2.trans (hu.below (B := w.heap.size) hbl1.size); clear hv hQl hbk)
    | (go_at_call 47; refine (canonical_gives (l := Q) _ _ (HBK.out.rd HBK.out.lt) (Nat.le_refl _) hQ HQL.out (by omega) (Nat.le_refl _)).mono ?_; rintro e w4 ⟨v, rfl, h1, h2⟩; have H1 := Lib.hid h1; have hb4 := hb3.trans (h2.mono hb3.size); clear h1)
    | (go_at_call 30; refine (of_any r 0 _ (show r / 4294967296 = 0 by omega) (by omega)).mono ?_; rintro e w5 ⟨u, rfl, h3, h4⟩))
  go_ret3
  have h1 := HV.out
  rw [List.take_of_length_le (Nat.le_refl _), val_dg] at h1
  obtain ⟨e1, e2⟩ := div_vals h1 hr
  rw [← e1, ← e2]
  exact ⟨v, u, rfl, H1.out.below h4, h3, hb4.trans (h4.mono hb4.size)⟩

end Go.Proofs.Ytogmgomcdhfolaa
