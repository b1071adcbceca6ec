/-
  The reference's Of and Uint64, Div by zero; what Div and Uint64 of both sides answer for lists that are no numbers; contracts for any two lists.
-/
import Derived.Test.YtogmgomcdhfolaaRefDiv
import Derived.Test.YtogmgomcdhfolaaU64
namespace Go.Proofs.Ytogmgomcdhfolaa
open Go.RowKit Nt

theorem rdiv_zero (a c d : Nat) (A A' : Option Addr) (w : World) (ha : Hid (Rd w w.heap.size A (dg a))) (la : (dg a).length ≤ 1024) :
    Calls Try.prog 23 #[.slice A (dg a).length c, .slice A' 0 d] w (Gives3 w 0 0 11) := by
  have VA := Lib.hid (vldB_dg la)
  have RB : Hid (Rd w w.heap.size A' []) := Rd.nil
  go_enter Try.func23, Try.ntmps23
  go_wp2_with (first
    | (go_at_call 27; ((with_reducible refine (rvalid_yes c _ ha.out rfl (by omega) VA.out).mono ?_); rintro e w' ⟨rfl, rfl⟩))
    | (go_at_call 27; ((with_reducible refine (rvalid_yes (l := []) d 0 RB.out rfl (by omega) rfl).mono ?_); rintro e w' ⟨rfl, rfl⟩)))
  go_ret3
  exact ⟨_, _, rfl, Num.nil _, Num.nil _, Below.refl _ _⟩

set_option maxHeartbeats 1000000 in
theorem rof_64 (m x y : Nat) (w : World) (hx : (m : Int) % 4294967296 = (x : Int)) (hy : (m : Int) / 4294967296 = (y : Int)) (hx1 : x < 4294967296) (hy1 : y < 4294967296) (hm : Hid (m = x + 4294967296 * y)) :
    Calls Try.prog 31 #[.int .u64 (m : Int)] w (Gives1 w m) := by
  have hv : Hid (val [x, y] = m) := show val [x, y] = m by rw [val_cons, val_cons, val_nil, hm.out]; omega
  have hw : Hid (Wf [x, y]) := wf_two hx1 hy1
  have hb := (Below.refl w.heap.size w).alloc (Nat.le_refl _) (.cells #[.int .u32 (x : Int), .int .u32 (y : Int)] 41)
  have HR : Hid (Rd (w.alloc (.cells #[.int .u32 (x : Int), .int .u32 (y : Int)] 41)) (w.heap.size + 1) (some ⟨w.heap.size, 0, none⟩) [x, y]) := (bk_two w rfl rfl).rd (Nat.lt_succ_self _)
  go_enter Try.func31, Try.ntmps31
  go_wp2_with (first
    | (go_at_call 53; refine (rtrim_any 2 2 HR.out hw.out rfl (by omega) (Nat.le_refl _)).mono ?_; rintro e w' ⟨rfl, rfl⟩))
  go_ret
  rw [hv.out]
  have h2 := congrArg List.length (dg_val_take hw.out)
  rw [List.length_take, hv.out] at h2
  have h3 := HR.out.dg hw.out
  rw [hv.out] at h3
  exact ⟨_, rfl, ⟨_, _, rfl, by simp at h2; omega, h3.mono (by simp)⟩, hb⟩
theorem kr_of {m : Nat} {w : World} (hm : Hid (m < 18446744073709551616)) : Calls Try.prog 31 #[.int .u64 (m : Int)] w (Back w m) :=
  (rof_64 m (m % 4294967296) (m / 4294967296) w (by omega) (by omega) (by omega) (by have := hm.out; omega) (show m = _ by omega)).mono fun _ _ h => h.back

theorem ru64_some (p q c n N x y : Nat) (w : World) (hn : n ≤ 2) (hx : x < 4294967296) (hy : y < 4294967296) (hN : Hid (y * 4294967296 + x = N)) (l : List Nat) (B : Nat) (hr : Hid (Rd w B (some ⟨p, q, none⟩) l)) (hw : Hid (Wf l)) (hv : Hid (vldB l = true)) (hl : Hid (l.length = n)) (hX : Hid (nth l 0 = x)) (hY : Hid (nth l 1 = y)) :
    Calls Try.prog 25 #[.slice (some ⟨p, q, none⟩) n c] w fun e w' => e = .returned (.tuple #[.int .u64 (N : Int), .bool true]) ∧ w = w' := by
  have e1 : (x : Int) + 4294967296 * (y : Int) = (N : Int) := by have := hN.out; omega
  have e2 : N < 18446744073709551616 := by have := hN.out; omega
  have L0 : Hid (Calls Try.prog 42 #[.slice (some ⟨p, q, none⟩) n c, .int .i64 0] w fun e w' => e = .returned (.int .u64 (x : Int)) ∧ w = w') := rlimb_any c n 0 x hr.out hw.out hl.out hX.out
  have L1 : Hid (Calls Try.prog 42 #[.slice (some ⟨p, q, none⟩) n c, .int .i64 1] w fun e w' => e = .returned (.int .u64 (y : Int)) ∧ w = w') := rlimb_any c n 1 y hr.out hw.out hl.out hY.out
  go_enter Try.func25, Try.ntmps25
  go_wp2_with (first
    | (go_at_call 27; ((with_reducible refine (rvalid_yes c n hr.out hl.out (by omega) hv.out).mono ?_); rintro e w' ⟨rfl, rfl⟩))
    | (go_at_call 42; ((with_reducible refine L0.out.mono ?_); rintro e w' ⟨rfl, rfl⟩))
    | (go_at_call 42; ((with_reducible refine L1.out.mono ?_); rintro e w' ⟨rfl, rfl⟩)))
  go_ret2
  exact ⟨rfl, rfl⟩

theorem ru64_none (A : Option Addr) (c : Nat) (w : World) :
    Calls Try.prog 25 #[.slice A 0 c] w fun e w' => e = .returned (.tuple #[.int .u64 0, .bool true]) ∧ w = w' := by
  have L0 : Hid (Calls Try.prog 42 #[.slice A 0 c, .int .i64 0] w fun e w' => e = .returned (.int .u64 0) ∧ w = w') := rlimb_out A c 0 0 w (Nat.le_refl _)
  have L1 : Hid (Calls Try.prog 42 #[.slice A 0 c, .int .i64 1] w fun e w' => e = .returned (.int .u64 0) ∧ w = w') := rlimb_out A c 0 1 w (by omega)
  go_enter Try.func25, Try.ntmps25
  go_wp2_with (first
    | (go_at_call 27; ((with_reducible refine (rvalid_none A c _).mono ?_); rintro e w' ⟨rfl, rfl⟩))
    | (go_at_call 42; ((with_reducible refine L0.out.mono ?_); rintro e w' ⟨rfl, rfl⟩))
    | (go_at_call 42; ((with_reducible refine L1.out.mono ?_); rintro e w' ⟨rfl, rfl⟩)))
  go_ret2
  exact ⟨rfl, rfl⟩
theorem ru64_big {l : List Nat} (c n : Nat) (A : Option Addr) (w : World) (B : Nat) (hr : Hid (Rd w B A l)) (hl : Hid (l.length = n)) (hv : Hid (vldB l = true)) (hn : 2 < n) (hn2 : n ≤ 1000000) :
    Calls Try.prog 25 #[.slice A n c] w fun e w' => e = .returned (.tuple #[.int .u64 0, .bool false]) ∧ w = w' := by
  go_enter Try.func25, Try.ntmps25
  go_wp2_with (first
    | (go_at_call 27; ((with_reducible refine (rvalid_yes c n hr.out hl.out (by omega) hv.out).mono ?_); rintro e w' ⟨rfl, rfl⟩)))
  go_ret2
  exact ⟨rfl, rfl⟩
theorem ru64_bad {l : List Nat} (c n : Nat) (A : Option Addr) (w : World) (B : Nat) (hr : Hid (Rd w B A l)) (hl : Hid (l.length = n)) (hv : Hid (vldB l = false)) (hn2 : n ≤ 1000000) :
    Calls Try.prog 25 #[.slice A n c] w fun e w' => e = .returned (.tuple #[.int .u64 0, .bool false]) ∧ w = w' := by
  go_enter Try.func25, Try.ntmps25
  go_wp2_with (first
    | (go_at_call 27; ((with_reducible refine (rvalid_no c n hr.out hl.out (by omega) hv.out).mono ?_); rintro e w' ⟨rfl, rfl⟩)))
  go_ret2
  exact ⟨rfl, rfl⟩
theorem nu64_bad {l : List Nat} (c n : Nat) (A : Option Addr) (w : World) (B : Nat) (hr : Hid (Rd w B A l)) (hl : Hid (l.length = n)) (hv : Hid (vldB l = false)) (hn2 : n ≤ 1000000) :
    Calls Try.prog 24 #[.slice A n c] w fun e w' => e = .returned (.tuple #[.int .u64 0, .bool false]) ∧ w = w' := by
  go_enter Try.func24, Try.ntmps24
  go_wp2_with (first
    | (go_at_call 26; ((with_reducible refine (valid_no c n hr.out hl.out (by omega) hv.out).mono ?_); rintro e w' ⟨rfl, rfl⟩)))
  go_ret2
  exact ⟨rfl, rfl⟩

/-- a list comes in, a number of 64 bits and whether it is the whole come back -/
def KU64 (f : Nat) (l : List Nat) (y : Nat) (t : Bool) : Prop :=
  ∀ (w : World) (A : Option Addr) (c : Nat), Hid (Rd w w.heap.size A l) → Calls Try.prog f #[.slice A l.length c] w (BackU w y t)
def u64T (l : List Nat) : Bool := vldB l && decide (l.length ≤ 2)
def u64V (l : List Nat) : Nat := if u64T l then val l else 0

theorem kn_u64 {l : List Nat} (hl : Wf l) (ll : l.length ≤ 1000000) : KU64 24 l (u64V l) (u64T l) := by
  intro w A c hr
  rcases hv : vldB l with _ | _
  · have e1 : u64T l = false := by simp [u64T, hv]
    have e2 : u64V l = 0 := by simp [u64V, e1]
    rw [e1, e2]
    exact (nu64_bad c _ A w _ hr rfl hv ll).mono fun _ _ ⟨h1, h2⟩ => ⟨h1, by subst h2; exact Below.refl _ _⟩
  · obtain ⟨e, h1⟩ := (vldB_iff hl).1 hv
    have hr' : Hid (Rd w w.heap.size A (dg (val l))) := show Rd w w.heap.size A (dg (val l)) by rw [← e]; exact hr.out
    by_cases h2 : l.length ≤ 2
    · have e1 : u64T l = true := by simp [u64T, hv, h2]
      have e2 : u64V l = val l := by simp [u64V, e1]
      have := k_u64 (c := c) hr' (by rw [← e]; exact h2)
      rw [← e] at this
      rw [e1, e2]
      exact this
    · have e1 : u64T l = false := by simp [u64T, h2]
      have e2 : u64V l = 0 := by simp [u64V, e1]
      have := k_u64_big (c := c) hr' (by rw [← e]; omega) h1
      rw [← e] at this
      rw [e1, e2]
      exact this
theorem kr_u64 {l : List Nat} (hl : Wf l) (ll : l.length ≤ 1000000) : KU64 25 l (u64V l) (u64T l) := by
  intro w A c hr
  rcases hv : vldB l with _ | _
  · have e1 : u64T l = false := by simp [u64T, hv]
    have e2 : u64V l = 0 := by simp [u64V, e1]
    rw [e1, e2]
    exact (ru64_bad c _ A w _ hr rfl hv ll).mono fun _ _ ⟨h1, h2⟩ => ⟨h1, by subst h2; exact Below.refl _ _⟩
  · by_cases h2 : l.length ≤ 2
    · have e1 : u64T l = true := by simp [u64T, hv, h2]
      have e2 : u64V l = val l := by simp [u64V, e1]
      rw [e1, e2]
      rcases Nat.eq_zero_or_pos l.length with h0 | h0
      · have e := List.eq_nil_of_length_eq_zero h0
        subst e
        exact (ru64_none A c w).mono fun _ _ ⟨h1, h2⟩ => ⟨h1, by subst h2; exact Below.refl _ _⟩
      · obtain ⟨p, q, rfl, _, _⟩ := hr.out h0
        have hval : nth l 1 * 4294967296 + nth l 0 = val l := by
          match l, h2, h0 with
          | [x], _, _ => simp [nth, val]
          | [x, y], _, _ => simp [nth, val]; omega
        exact (ru64_some p q c l.length (val l) (nth l 0) (nth l 1) w h2 (nth_lt hl _) (nth_lt hl _) hval l _ hr hl hv rfl rfl rfl).mono fun _ _ ⟨h1, h2⟩ => ⟨h1, by subst h2; exact Below.refl _ _⟩
    · have e1 : u64T l = false := by simp [u64T, h2]
      have e2 : u64V l = 0 := by simp [u64V, e1]
      rw [e1, e2]
      exact (ru64_big c _ A w _ hr rfl hv (by omega) ll).mono fun _ _ ⟨h1, h2⟩ => ⟨h1, by subst h2; exact Below.refl _ _⟩

set_option maxHeartbeats 400000 in
theorem div_bad {B : Nat} {A A' : Option Addr} {l m : List Nat} {w : World} (c d : Nat) (ha : Rd w B A l) (hb : Rd w B A' m) (hl : l.length ≤ 1000000) (hm : m.length ≤ 1000000) (hv : (vldB l && vldB m) = false) :
    Calls Try.prog 22 #[.slice A l.length c, .slice A' m.length d] w (Gives3 w 0 0 1) := by
  have HA := Lib.hid ha
  have HB := Lib.hid hb
  clear ha hb
  rcases hvl : vldB l with _ | _
  · have VA := Lib.hid hvl
    clear hvl hv
    go_enter Try.func22, Try.ntmps22
    go_wp2_with (first
      | (go_at_call 26; ((with_reducible refine (valid_no c _ HA.out rfl (by omega) VA.out).mono ?_); rintro e w' ⟨rfl, rfl⟩)))
    go_ret3
    exact ⟨_, _, rfl, Num.nil _, Num.nil _, Below.refl _ _⟩
  · have VA := Lib.hid hvl
    rw [hvl, Bool.true_and] at hv
    have VB := Lib.hid hv
    clear hvl hv
    go_enter Try.func22, Try.ntmps22
    go_wp2_with (first
      | (go_at_call 26; ((with_reducible refine (valid_yes c _ HA.out rfl (by omega) VA.out).mono ?_); rintro e w' ⟨rfl, rfl⟩))
      | (go_at_call 26; ((with_reducible refine (valid_no d _ HB.out rfl (by omega) VB.out).mono ?_); rintro e w' ⟨rfl, rfl⟩)))
    go_ret3
    exact ⟨_, _, rfl, Num.nil _, Num.nil _, Below.refl _ _⟩

set_option maxHeartbeats 400000 in
theorem rdiv_bad {B : Nat} {A A' : Option Addr} {l m : List Nat} {w : World} (c d : Nat) (ha : Rd w B A l) (hb : Rd w B A' m) (hl : l.length ≤ 1000000) (hm : m.length ≤ 1000000) (hv : (vldB l && vldB m) = false) :
    Calls Try.prog 23 #[.slice A l.length c, .slice A' m.length d] w (Gives3 w 0 0 1) := by
  have HA := Lib.hid ha
  have HB := Lib.hid hb
  clear ha hb
  rcases hvl : vldB l with _ | _
  · have VA := Lib.hid hvl
    clear hvl hv
    go_enter Try.func23, Try.ntmps23
    go_wp2_with (first
      | (go_at_call 27; ((with_reducible refine (rvalid_no c _ HA.out rfl (by omega) VA.out).mono ?_); rintro e w' ⟨rfl, rfl⟩)))
    go_ret3
    exact ⟨_, _, rfl, Num.nil _, Num.nil _, Below.refl _ _⟩
  · have VA := Lib.hid hvl
    rw [hvl, Bool.true_and] at hv
    have VB := Lib.hid hv
    clear hvl hv
    go_enter Try.func23, Try.ntmps23
    go_wp2_with (first
      | (go_at_call 27; ((with_reducible refine (rvalid_yes c _ HA.out rfl (by omega) VA.out).mono ?_); rintro e w' ⟨rfl, rfl⟩))
      | (go_at_call 27; ((with_reducible refine (rvalid_no d _ HB.out rfl (by omega) VB.out).mono ?_); rintro e w' ⟨rfl, rfl⟩)))
    go_ret3
    exact ⟨_, _, rfl, Num.nil _, Num.nil _, Below.refl _ _⟩
/-- two lists come in, two numbers and an error come back -/
def KDiv (f : Nat) (l m : List Nat) (q r : Nat) (z : Int) : Prop :=
  ∀ (w : World) (A A' : Option Addr) (c d : Nat), Hid (Rd w w.heap.size A l) → Hid (Rd w w.heap.size A' m) → l.length ≤ c → m.length ≤ d → Calls Try.prog f #[.slice A l.length c, .slice A' m.length d] w (Back3 w q r z)
def divQ (l m : List Nat) : Nat := if both l m then val l / val m else 0
def divR (l m : List Nat) : Nat := if both l m then (if val m = 0 then 0 else val l % val m) else 0
def divZ (l m : List Nat) : Int := if both l m then (if val m = 0 then 11 else 0) else 1
theorem divQ_len {l m : List Nat} (hl : Wf l) (hm : Wf m) : (dg (divQ l m)).length ≤ 1024 := by
  unfold divQ
  split
  · rename_i h
    obtain ⟨_, h2, _⟩ := both_true hl hm h
    exact Nat.le_trans (dg_length_mono (Nat.div_le_self _ _)) h2
  · rw [dg_zero]; simp
theorem divR_len {l m : List Nat} (hl : Wf l) (hm : Wf m) : (dg (divR l m)).length ≤ 1024 := by
  unfold divR
  split
  · rename_i h
    obtain ⟨_, h2, _⟩ := both_true hl hm h
    split
    · rw [dg_zero]; simp
    · exact Nat.le_trans (dg_length_mono (Nat.mod_le _ _)) h2
  · rw [dg_zero]; simp
theorem kn_div {l m : List Nat} (hl : Wf l) (hm : Wf m) (ll : l.length ≤ 1000000) (lm : m.length ≤ 1000000) : KDiv 22 l m (divQ l m) (divR l m) (divZ l m) := by
  intro w A A' c d ha hb hc _
  rcases h : both l m with _ | _
  · have e1 : divQ l m = 0 := by simp [divQ, h]
    have e2 : divR l m = 0 := by simp [divR, h]
    have e3 : divZ l m = 1 := by simp [divZ, h]
    rw [e1, e2, e3]
    exact (div_bad c d ha.out hb.out ll lm h).mono fun _ _ h => h.back
  · obtain ⟨e1, h1, e2, h2⟩ := both_true hl hm h
    have ha' : Rd w w.heap.size A (dg (val l)) := by rw [← e1]; exact ha.out
    have hb' : Rd w w.heap.size A' (dg (val m)) := by rw [← e2]; exact hb.out
    have := k_divx (c := c) (d := d) (divQ l m) (divR l m) (divZ l m) ha' hb' h1 h2 (by rw [← e1]; exact hc) (by simp only [divQ, h, if_true]) (by simp only [divR, h, if_true]) (by simp only [divZ, h, if_true])
    rw [← e1, ← e2] at this
    exact this
theorem kr_div {l m : List Nat} (hl : Wf l) (hm : Wf m) (ll : l.length ≤ 100) (lm : m.length ≤ 100) : KDiv 23 l m (divQ l m) (divR l m) (divZ l m) := by
  intro w A A' c d ha hb hc _
  rcases h : both l m with _ | _
  · have e1 : divQ l m = 0 := by simp [divQ, h]
    have e2 : divR l m = 0 := by simp [divR, h]
    have e3 : divZ l m = 1 := by simp [divZ, h]
    rw [e1, e2, e3]
    exact (rdiv_bad c d ha.out hb.out (by omega) (by omega) h).mono fun _ _ h => h.back
  · obtain ⟨e1, h1, e2, h2⟩ := both_true hl hm h
    have ha' : Rd w w.heap.size A (dg (val l)) := by rw [← e1]; exact ha.out
    have hb' : Rd w w.heap.size A' (dg (val m)) := by rw [← e2]; exact hb.out
    have q1 : divQ l m = val l / val m := by simp only [divQ, h, if_true]
    have q2 : divR l m = (if val m = 0 then 0 else val l % val m) := by simp only [divR, h, if_true]
    have q3 : divZ l m = (if val m = 0 then 11 else 0) := by simp only [divZ, h, if_true]
    rw [q1, q2, q3]
    rcases Nat.eq_zero_or_pos m.length with h0 | h0
    · have e := List.eq_nil_of_length_eq_zero h0
      subst e
      rw [if_pos val_nil, if_pos val_nil, val_nil, Nat.div_zero]
      have := (rdiv_zero (val l) c d A A' w ha' h1).mono fun _ _ h => h.back
      rw [← e1] at this
      exact this
    · have hv0 : val m ≠ 0 := fun e => by rw [e, dg_zero] at e2; rw [e2] at h0; simp at h0
      rw [if_neg hv0, if_neg hv0]
      exact (rdiv_some (val l) (val m) c d l.length m.length A A' w ha' hb' (show (dg (val l)).length = _ by rw [← e1]) (show (dg (val m)).length = _ by rw [← e2]) ll lm h0).mono fun _ _ h => h.back

end Go.Proofs.Ytogmgomcdhfolaa
