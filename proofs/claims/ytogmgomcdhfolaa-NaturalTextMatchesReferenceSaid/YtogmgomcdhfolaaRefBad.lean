/-
  What the reference answers for lists that are no numbers; the contracts of both sides for any two lists.
-/
import Derived.Test.YtogmgomcdhfolaaRefMul
namespace Go.Proofs.Ytogmgomcdhfolaa
open Go.RowKit Nt

set_option maxHeartbeats 400000 in
theorem radd_bad {B : Nat} {A A' : Option Addr} {l m : List Nat} {w : World} (c d : Nat) (ha : Rd w B A l) (hb : Rd w B A' m) (hl : l.length ≤ 1000000) (hm : m.length ≤ 1000000) (hv : (vldB l && vldB m) = false) :
    Calls Try.prog 16 #[.slice A l.length c, .slice A' m.length d] w (Gives w 0 1) := by
  have HA := Lib.hid ha
  have HB := Lib.hid hb
  clear ha hb
  rcases hvl : vldB l with _ | _
  · have VA := Lib.hid hvl
    clear hvl hv
    go_enter Try.func16, Try.ntmps16
    go_wp2_with (first
      | (go_at_call 27; ((with_reducible refine (rvalid_no c _ HA.out rfl (by omega) VA.out).mono ?_); rintro e w' ⟨rfl, rfl⟩)))
    go_ret2
    exact ⟨_, rfl, Num.nil _, Below.refl _ _⟩
  · have VA := Lib.hid hvl
    rw [hvl, Bool.true_and] at hv
    have VB := Lib.hid hv
    clear hvl hv
    go_enter Try.func16, Try.ntmps16
    go_wp2_with (first
      | (go_at_call 27; ((with_reducible refine (rvalid_yes c _ HA.out rfl (by omega) VA.out).mono ?_); rintro e w' ⟨rfl, rfl⟩))
      | (go_at_call 27; ((with_reducible refine (rvalid_no d _ HB.out rfl (by omega) VB.out).mono ?_); rintro e w' ⟨rfl, rfl⟩)))
    go_ret2
    exact ⟨_, rfl, Num.nil _, Below.refl _ _⟩

set_option maxHeartbeats 400000 in
theorem rsub_bad {B : Nat} {A A' : Option Addr} {l m : List Nat} {w : World} (c d : Nat) (ha : Rd w B A l) (hb : Rd w B A' m) (hl : l.length ≤ 1000000) (hm : m.length ≤ 1000000) (hv : (vldB l && vldB m) = false) :
    Calls Try.prog 19 #[.slice A l.length c, .slice A' m.length d] w (Gives w 0 1) := by
  have HA := Lib.hid ha
  have HB := Lib.hid hb
  clear ha hb
  rcases hvl : vldB l with _ | _
  · have VA := Lib.hid hvl
    clear hvl hv
    go_enter Try.func19, Try.ntmps19
    go_wp2_with (first
      | (go_at_call 27; ((with_reducible refine (rvalid_no c _ HA.out rfl (by omega) VA.out).mono ?_); rintro e w' ⟨rfl, rfl⟩)))
    go_ret2
    exact ⟨_, rfl, Num.nil _, Below.refl _ _⟩
  · have VA := Lib.hid hvl
    rw [hvl, Bool.true_and] at hv
    have VB := Lib.hid hv
    clear hvl hv
    go_enter Try.func19, Try.ntmps19
    go_wp2_with (first
      | (go_at_call 27; ((with_reducible refine (rvalid_yes c _ HA.out rfl (by omega) VA.out).mono ?_); rintro e w' ⟨rfl, rfl⟩))
      | (go_at_call 27; ((with_reducible refine (rvalid_no d _ HB.out rfl (by omega) VB.out).mono ?_); rintro e w' ⟨rfl, rfl⟩)))
    go_ret2
    exact ⟨_, rfl, Num.nil _, Below.refl _ _⟩

set_option maxHeartbeats 400000 in
theorem rmul_bad {B : Nat} {A A' : Option Addr} {l m : List Nat} {w : World} (c d : Nat) (ha : Rd w B A l) (hb : Rd w B A' m) (hl : l.length ≤ 1000000) (hm : m.length ≤ 1000000) (hv : (vldB l && vldB m) = false) :
    Calls Try.prog 21 #[.slice A l.length c, .slice A' m.length d] w (Gives w 0 1) := by
  have HA := Lib.hid ha
  have HB := Lib.hid hb
  clear ha hb
  rcases hvl : vldB l with _ | _
  · have VA := Lib.hid hvl
    clear hvl hv
    go_enter Try.func21, Try.ntmps21
    go_wp2_with (first
      | (go_at_call 27; ((with_reducible refine (rvalid_no c _ HA.out rfl (by omega) VA.out).mono ?_); rintro e w' ⟨rfl, rfl⟩)))
    go_ret2
    exact ⟨_, rfl, Num.nil _, Below.refl _ _⟩
  · have VA := Lib.hid hvl
    rw [hvl, Bool.true_and] at hv
    have VB := Lib.hid hv
    clear hvl hv
    go_enter Try.func21, Try.ntmps21
    go_wp2_with (first
      | (go_at_call 27; ((with_reducible refine (rvalid_yes c _ HA.out rfl (by omega) VA.out).mono ?_); rintro e w' ⟨rfl, rfl⟩))
      | (go_at_call 27; ((with_reducible refine (rvalid_no d _ HB.out rfl (by omega) VB.out).mono ?_); rintro e w' ⟨rfl, rfl⟩)))
    go_ret2
    exact ⟨_, rfl, Num.nil _, Below.refl _ _⟩

set_option maxHeartbeats 400000 in
theorem rcompare_bad {B : Nat} {A A' : Option Addr} {l m : List Nat} {w : World} (c d : Nat) (ha : Rd w B A l) (hb : Rd w B A' m) (hl : l.length ≤ 1000000) (hm : m.length ≤ 1000000) (hv : (vldB l && vldB m) = false) :
    Calls Try.prog 29 #[.slice A l.length c, .slice A' m.length d] w (fun e w' => e = .returned (.int .i64 0) ∧ Qt w w') := by
  have HA := Lib.hid ha
  have HB := Lib.hid hb
  clear ha hb
  rcases hvl : vldB l with _ | _
  · have VA := Lib.hid hvl
    clear hvl hv
    go_enter Try.func29, Try.ntmps29
    go_wp2_with (first
      | (go_at_call 27; ((with_reducible refine (rvalid_no c _ HA.out rfl (by omega) VA.out).mono ?_); rintro e w' ⟨rfl, rfl⟩)))
    go_ret
    exact ⟨rfl, Qt.refl _⟩
  · have VA := Lib.hid hvl
    rw [hvl, Bool.true_and] at hv
    have VB := Lib.hid hv
    clear hvl hv
    go_enter Try.func29, Try.ntmps29
    go_wp2_with (first
      | (go_at_call 27; ((with_reducible refine (rvalid_yes c _ HA.out rfl (by omega) VA.out).mono ?_); rintro e w' ⟨rfl, rfl⟩))
      | (go_at_call 27; ((with_reducible refine (rvalid_no d _ HB.out rfl (by omega) VB.out).mono ?_); rintro e w' ⟨rfl, rfl⟩)))
    go_ret
    exact ⟨rfl, Qt.refl _⟩


/-- two lists come in, a number and an error come back -/
def KBin (f : Nat) (l m : List Nat) (v : Nat) (z : Int) : Prop :=
  ∀ (w : World) (A A' : Option Addr) (c d : Nat), Hid (Rd w w.heap.size A l) → Hid (Rd w w.heap.size A' m) → l.length ≤ c → m.length ≤ d → Calls Try.prog f #[.slice A l.length c, .slice A' m.length d] w (Back2 w v z)
/-- two lists come in, an int comes back -/
def KInt (f : Nat) (l m : List Nat) (z : Int) : Prop :=
  ∀ (w : World) (A A' : Option Addr) (c d : Nat), Hid (Rd w w.heap.size A l) → Hid (Rd w w.heap.size A' m) → Calls Try.prog f #[.slice A l.length c, .slice A' m.length d] w (BackI w z)
/-- a list comes in, true or false comes back -/
def KOne (f : Nat) (l : List Nat) (t : Bool) : Prop :=
  ∀ (w : World) (A : Option Addr) (c : Nat), Hid (Rd w w.heap.size A l) → Calls Try.prog f #[.slice A l.length c] w (BackB w t)

def both (l m : List Nat) : Bool := vldB l && vldB m
def addV (l m : List Nat) : Nat := if both l m then lim (val l + val m) else 0
def addZ (l m : List Nat) : Int := if both l m then limE (val l + val m) else 1
def subV (l m : List Nat) : Nat := if both l m then val l - val m else 0
def subZ (l m : List Nat) : Int := if both l m then subE (val l) (val m) else 1
def mulV (l m : List Nat) : Nat := if both l m then lim (val l * val m) else 0
def mulZ (l m : List Nat) : Int := if both l m then limE (val l * val m) else 1
def cmpZ (l m : List Nat) : Int := if both l m then cmpN (val l) (val m) else 0

theorem both_true {l m : List Nat} (hl : Wf l) (hm : Wf m) (h : both l m = true) :
    l = dg (val l) ∧ (dg (val l)).length ≤ 1024 ∧ m = dg (val m) ∧ (dg (val m)).length ≤ 1024 := by
  unfold both at h
  rw [Bool.and_eq_true] at h
  obtain ⟨a, b⟩ := (vldB_iff hl).1 h.1
  obtain ⟨c, d⟩ := (vldB_iff hm).1 h.2
  exact ⟨a, b, c, d⟩

theorem lim_len (N : Nat) : (dg (lim N)).length ≤ 1024 := by
  unfold lim
  split
  · assumption
  · rw [dg_zero]; simp
theorem addV_len (l m : List Nat) : (dg (addV l m)).length ≤ 1024 := by
  unfold addV
  split
  · exact lim_len _
  · rw [dg_zero]; simp
theorem mulV_len (l m : List Nat) : (dg (mulV l m)).length ≤ 1024 := by
  unfold mulV
  split
  · exact lim_len _
  · rw [dg_zero]; simp
theorem subV_len {l m : List Nat} (hl : Wf l) (hm : Wf m) : (dg (subV l m)).length ≤ 1024 := by
  unfold subV
  split
  · rename_i h
    obtain ⟨_, h2, _⟩ := both_true hl hm h
    exact Nat.le_trans (dg_length_mono (Nat.sub_le _ _)) h2
  · rw [dg_zero]; simp

section
variable {l m : List Nat} (hl : Wf l) (hm : Wf m) (ll : l.length ≤ 1000000) (lm : m.length ≤ 1000000)
include hl hm ll lm
theorem kn_add : KBin 15 l m (addV l m) (addZ l m) := by
  intro w A A' c d ha hb _ _
  rcases h : both l m with _ | _
  · have := (add_bad c d ha.out hb.out ll lm h).mono fun _ _ h => h.back
    simpa [addV, addZ, h] using this
  · obtain ⟨e1, h1, e2, h2⟩ := both_true hl hm h
    have ha' : Rd w w.heap.size A (dg (val l)) := by rw [← e1]; exact ha.out
    have hb' : Rd w w.heap.size A' (dg (val m)) := by rw [← e2]; exact hb.out
    have := add_ok (val l) (val m) c d A A' w ha' hb' h1 h2
    rw [← e1, ← e2] at this
    have := this.mono fun _ _ h => h.back
    simpa only [addV, addZ, h, if_true] using this
theorem kr_add : KBin 16 l m (addV l m) (addZ l m) := by
  intro w A A' c d ha hb _ _
  rcases h : both l m with _ | _
  · have := (radd_bad c d ha.out hb.out ll lm h).mono fun _ _ h => h.back
    simpa [addV, addZ, h] using this
  · obtain ⟨e1, h1, e2, h2⟩ := both_true hl hm h
    have ha' : Rd w w.heap.size A (dg (val l)) := by rw [← e1]; exact ha.out
    have hb' : Rd w w.heap.size A' (dg (val m)) := by rw [← e2]; exact hb.out
    have := radd_ok c d ha' hb' h1 h2
    rw [← e1, ← e2] at this
    have := this.mono fun _ _ h => h.back
    simpa only [addV, addZ, h, if_true] using this
theorem kn_sub : KBin 18 l m (subV l m) (subZ l m) := by
  intro w A A' c d ha hb _ _
  rcases h : both l m with _ | _
  · have := (sub_bad c d ha.out hb.out ll lm h).mono fun _ _ h => h.back
    simpa [subV, subZ, h] using this
  · obtain ⟨e1, h1, e2, h2⟩ := both_true hl hm h
    have ha' : Rd w w.heap.size A (dg (val l)) := by rw [← e1]; exact ha.out
    have hb' : Rd w w.heap.size A' (dg (val m)) := by rw [← e2]; exact hb.out
    have := sub_ok c d ha' hb' h1 h2
    rw [← e1, ← e2] at this
    have := this.mono fun _ _ h => h.back
    simpa only [subV, subZ, h, if_true] using this
theorem kr_sub : KBin 19 l m (subV l m) (subZ l m) := by
  intro w A A' c d ha hb _ _
  rcases h : both l m with _ | _
  · have := (rsub_bad c d ha.out hb.out ll lm h).mono fun _ _ h => h.back
    simpa [subV, subZ, h] using this
  · obtain ⟨e1, h1, e2, h2⟩ := both_true hl hm h
    have ha' : Rd w w.heap.size A (dg (val l)) := by rw [← e1]; exact ha.out
    have hb' : Rd w w.heap.size A' (dg (val m)) := by rw [← e2]; exact hb.out
    have := rsub_ok c d ha' hb' h1 h2
    rw [← e1, ← e2] at this
    have := this.mono fun _ _ h => h.back
    simpa only [subV, subZ, h, if_true] using this
theorem kn_mul : KBin 20 l m (mulV l m) (mulZ l m) := by
  intro w A A' c d ha hb _ _
  rcases h : both l m with _ | _
  · have := (mul_bad c d ha.out hb.out ll lm h).mono fun _ _ h => h.back
    simpa [mulV, mulZ, h] using this
  · obtain ⟨e1, h1, e2, h2⟩ := both_true hl hm h
    have ha' : Rd w w.heap.size A (dg (val l)) := by rw [← e1]; exact ha.out
    have hb' : Rd w w.heap.size A' (dg (val m)) := by rw [← e2]; exact hb.out
    have := mul_ok (val l) (val m) c d A A' w ha' hb' h1 h2
    rw [← e1, ← e2] at this
    have := this.mono fun _ _ h => h.back
    simpa only [mulV, mulZ, h, if_true] using this
theorem kr_mul : KBin 21 l m (mulV l m) (mulZ l m) := by
  intro w A A' c d ha hb _ _
  rcases h : both l m with _ | _
  · have := (rmul_bad c d ha.out hb.out ll lm h).mono fun _ _ h => h.back
    simpa [mulV, mulZ, h] using this
  · obtain ⟨e1, h1, e2, h2⟩ := both_true hl hm h
    have ha' : Rd w w.heap.size A (dg (val l)) := by rw [← e1]; exact ha.out
    have hb' : Rd w w.heap.size A' (dg (val m)) := by rw [← e2]; exact hb.out
    have := rmul_ok c d ha' hb' h1 h2
    rw [← e1, ← e2] at this
    have := this.mono fun _ _ h => h.back
    simpa only [mulV, mulZ, h, if_true] using this
theorem kn_cmp : KInt 28 l m (cmpZ l m) := by
  intro w A A' c d ha hb
  rcases h : both l m with _ | _
  · have e : cmpZ l m = 0 := by simp [cmpZ, h]
    rw [e]
    exact (compare_bad c d ha.out hb.out ll lm h).mono fun _ _ ⟨h1, h2⟩ => ⟨h1, h2.below _⟩
  · obtain ⟨e1, h1, e2, h2⟩ := both_true hl hm h
    have ha' : Rd w w.heap.size A (dg (val l)) := by rw [← e1]; exact ha.out
    have hb' : Rd w w.heap.size A' (dg (val m)) := by rw [← e2]; exact hb.out
    have := compare_ok c d ha' hb' h1 h2
    rw [← e1, ← e2] at this
    have e : cmpZ l m = cmpN (val l) (val m) := by simp only [cmpZ, h, if_true]
    rw [e]
    exact this.mono fun _ _ ⟨h1, h2⟩ => ⟨h1, h2.below _⟩
theorem kr_cmp : KInt 29 l m (cmpZ l m) := by
  intro w A A' c d ha hb
  rcases h : both l m with _ | _
  · have e : cmpZ l m = 0 := by simp [cmpZ, h]
    rw [e]
    exact (rcompare_bad c d ha.out hb.out ll lm h).mono fun _ _ ⟨h1, h2⟩ => ⟨h1, h2.below _⟩
  · obtain ⟨e1, h1, e2, h2⟩ := both_true hl hm h
    have ha' : Rd w w.heap.size A (dg (val l)) := by rw [← e1]; exact ha.out
    have hb' : Rd w w.heap.size A' (dg (val m)) := by rw [← e2]; exact hb.out
    have := rcompare_ok c d ha' hb' h1 h2
    rw [← e1, ← e2] at this
    have e : cmpZ l m = cmpN (val l) (val m) := by simp only [cmpZ, h, if_true]
    rw [e]
    exact this.mono fun _ _ ⟨h1, h2⟩ => ⟨h1, h2.below _⟩
end
theorem kn_valid {l : List Nat} (ll : l.length ≤ 1000000) : KOne 26 l (vldB l) := fun w A c ha =>
  (valid_any c _ ha.out rfl (by omega)).mono fun _ _ ⟨h1, h2⟩ => ⟨h1, by subst h2; exact Below.refl _ _⟩
theorem kr_valid {l : List Nat} (ll : l.length ≤ 1000000) : KOne 27 l (vldB l) := fun w A c ha =>
  (rvalid_any c _ ha.out rfl (by omega)).mono fun _ _ ⟨h1, h2⟩ => ⟨h1, by subst h2; exact Below.refl _ _⟩

end Go.Proofs.Ytogmgomcdhfolaa
