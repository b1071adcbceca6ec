/-
  natural.Of, the reference's Same, the laws' add and mul.
-/
import Derived.Test.YtogmgomcdhfolaaSmall
namespace Go.Proofs.Ytogmgomcdhfolaa
open Go.RowKit Nt

theorem bk_two (w : World) {X Y : Int} {x y : Nat} (hX : X = (x : Int)) (hY : Y = (y : Int)) : Bk (w.alloc (.cells #[.int .u32 X, .int .u32 Y] 41)) w.heap.size [x, y] := by
  subst hX
  subst hY
  unfold Bk
  rw [heap_alloc_new]
  rfl
theorem bk_one (w : World) {X : Int} {x : Nat} (hX : X = (x : Int)) : Bk (w.alloc (.cells #[.int .u32 X] 41)) w.heap.size [x] := by
  subst hX
  unfold Bk
  rw [heap_alloc_new]
  rfl

theorem wf_two {x y : Nat} (hx : x < 4294967296) (hy : y < 4294967296) : Wf [x, y] := wf_cons.2 ⟨hx, wf_cons.2 ⟨hy, wf_nil⟩⟩

set_option maxHeartbeats 400000 in
theorem of_any (n h : Nat) (w : World) (hh : Hid (n / 4294967296 = h)) (hl : h < 4294967296) :
    Calls Try.prog 30 #[.int .u64 (n : Int)] w (Gives1 w n) := by
  have e1 : (n : Int) / 4294967296 = (h : Int) := by have := hh.out; omega
  have hv : Hid (val [n % 4294967296, h] = n) := by
    show val _ = n
    rw [val_cons, val_cons, val_nil]; have := hh.out; omega
  have hw : Hid (Wf [n % 4294967296, h]) := wf_two (by omega) hl
  go_enter Try.func30, Try.ntmps30
  go_wp2_with (first
    | (go_at_call 47; refine (canonical_gives (l := [n % 4294967296, h]) 2 2 ((bk_two w (by omega) rfl).rd (bk_two w (x := n % 4294967296) (y := h) (by omega) rfl).lt) (Nat.le_refl _) hw.out rfl (by omega) (by omega)).mono ?_; rintro e w1 ⟨v, rfl, h1, h2⟩))
  go_ret
  rw [hv.out] at h1
  exact ⟨v, rfl, h1, ((Below.refl _ _).alloc (Nat.le_refl _) _).trans (h2.mono (by simp))⟩

theorem of_64 (n : Nat) (w : World) (hn : Hid (n < 18446744073709551616)) : Calls Try.prog 30 #[.int .u64 (n : Int)] w (Gives1 w n) :=
  of_any n _ w rfl (by have := hn.out; omega)

/-- the first k limbs are equal -/
def Eqb (l m : List Nat) (k : Nat) : Prop := ∀ j, j < k → nth l j = nth m j
theorem eqb_all {l m : List Nat} (hl : l.length = m.length) (h : Eqb l m l.length) : l = m := by
  apply List.ext_getElem hl
  intro i h1 h2
  have := h i h1
  rwa [nth_getElem h1, nth_getElem h2] at this

/-- are two lists the same -/
def sameB (l m : List Nat) : Bool := decide (l = m)
theorem sameB_dg (a b : Nat) : sameB (dg a) (dg b) = decide (a = b) := by
  unfold sameB
  by_cases h : a = b
  · subst h; simp
  · have : ¬ dg a = dg b := fun e => h (dg_inj e)
    simp [h, this]

set_option maxHeartbeats 1000000 in
theorem same_some (l m : List Nat) (c d n p q r s : Nat) (w : World) (hl : Hid (l.length = n)) (hm : Hid (m.length = n)) (hn : n ≤ 1000000)
    (hca : Hid (∀ j, j < n → w.cell? ⟨p, q + j, none⟩ = some (.int .u32 ((nth l j : Nat) : Int)))) (hcb : Hid (∀ j, j < n → w.cell? ⟨r, s + j, none⟩ = some (.int .u32 ((nth m j : Nat) : Int)))) :
    Calls Try.prog 17 #[.slice (some ⟨p, q, none⟩) n c, .slice (some ⟨r, s, none⟩) n d] w fun e w' => e = .returned (.bool (sameB l m)) ∧ Qt w w' := by
  go_enter Try.func17, Try.ntmps17
  go_wp2
  go_loopw [5] (fun i wr => ∃ k : Nat, k ≤ n ∧ i = .int .i64 k ∧ Hid (Eqb l m k) ∧ Hid (Qt w wr)) (fun i _ => n - (intOf i).toNat)
  case atStart => exact ⟨0, Nat.zero_le _, rfl, fun j h1 => absurd h1 (by omega), Qt.refl _⟩
  case round =>
    obtain ⟨k, hk, rfl, heq, hqt⟩ := hrel
    by_cases hlt : k < n
    · have c1 : wr.cell? ⟨p, q + k, none⟩ = some (.int .u32 ((nth l k : Nat) : Int)) := (hqt.out.cell _).trans (hca.out k hlt)
      have c2 : wr.cell? ⟨r, s + k, none⟩ = some (.int .u32 ((nth m k : Nat) : Int)) := (hqt.out.cell _).trans (hcb.out k hlt)
      have i1 : (0 : Int) ≤ (k : Int) := by omega
      have i2 : (k : Int) < (n : Int) := by omega
      by_cases hd : nth l k = nth m k
      · have HD := Lib.hid hd
        have hbq : ((nth l k : Int) != (nth m k : Int)) = false := by simp [hd]
        clear hd
        go_wp2
        go_quiet (fail)
        go_wp2
        go_roundw
        case rel => exact ⟨k + 1, by omega, by go_num, fun j h1 => by
          rcases Nat.lt_or_ge j k with h3 | h3
          · exact heq.out j h3
          · have e : j = k := by omega
            rw [e]; exact HD.out, hqt.out.more _⟩
        case measure => simp [intOf]; omega
      · have HD := Lib.hid hd
        have hbq : ((nth l k : Int) != (nth m k : Int)) = true := by simp; omega
        clear hd
        go_wp2
        go_quiet (fail)
        go_wp2
        go_ret
        have e : sameB l m = false := decide_eq_false (fun e => HD.out (by rw [e]))
        exact ⟨ret_bool e.symm, hqt.out.more _⟩
    · go_wp2
      go_ret
      obtain rfl : k = n := by omega
      have e : sameB l m = true := decide_eq_true (eqb_all (by rw [hl.out, hm.out]) (by rw [hl.out]; exact heq.out))
      exact ⟨ret_bool e.symm, hqt.out⟩

theorem same_none (A A' : Option Addr) (c d : Nat) (w : World) :
    Calls Try.prog 17 #[.slice A 0 c, .slice A' 0 d] w fun e w' => e = .returned (.bool true) ∧ Qt w w' := by
  go_enter Try.func17, Try.ntmps17
  go_wp2
  go_rounds 1
  go_ret
  exact ⟨rfl, Qt.refl _⟩

set_option maxHeartbeats 400000 in
theorem same_len (l m : List Nat) (c d n k : Nat) (A A' : Option Addr) (w : World) (hl : Hid (l.length = n)) (hm : Hid (m.length = k)) (hne : ¬ n = k) (_hn : n ≤ 1000000) (_hk : k ≤ 1000000) :
    Calls Try.prog 17 #[.slice A n c, .slice A' k d] w fun e w' => e = .returned (.bool (sameB l m)) ∧ Qt w w' := by
  have hb : ((n : Int) != (k : Int)) = true := by simp; omega
  have he : sameB l m = false := decide_eq_false (fun e => hne (by rw [← hl.out, ← hm.out, e]))
  rw [he]
  go_enter Try.func17, Try.ntmps17
  go_wp2
  go_ret
  exact ⟨rfl, Qt.refl _⟩

theorem same_any {B : Nat} {A A' : Option Addr} {w : World} {l m : List Nat} (c d n k : Nat) (ha : Rd w B A l) (hb : Rd w B A' m) (hl : l.length = n) (hm : m.length = k) (hn : n ≤ 1000000) (hk : k ≤ 1000000) :
    Calls Try.prog 17 #[.slice A n c, .slice A' k d] w fun e w' => e = .returned (.bool (sameB l m)) ∧ Qt w w' := by
  by_cases hne : n = k
  · subst hne
    rcases Nat.eq_zero_or_pos n with h0 | h0
    · subst h0
      have e1 : l = [] := List.eq_nil_of_length_eq_zero hl
      have e2 : m = [] := List.eq_nil_of_length_eq_zero hm
      subst e1
      subst e2
      exact same_none A A' c d w
    · obtain ⟨p, q, rfl, _, h2⟩ := ha (by omega)
      obtain ⟨r, s, rfl, _, h4⟩ := hb (by omega)
      exact same_some l m c d n p q r s w hl hm hn (fun j hj => h2 j (by omega)) (fun j hj => h4 j (by omega))
  · exact same_len l m c d n k A A' w hl hm hne hn hk

/-- two numbers are the same -/
theorem same_num {A A' : Option Addr} {w : World} {a b : Nat} (c d : Nat) (ha : Rd w w.heap.size A (dg a)) (hb : Rd w w.heap.size A' (dg b)) (la : (dg a).length ≤ 1024) (lb : (dg b).length ≤ 1024) :
    Calls Try.prog 17 #[.slice A (dg a).length c, .slice A' (dg b).length d] w fun e w' => e = .returned (.bool (decide (a = b))) ∧ Qt w w' := by
  rw [← sameB_dg]
  exact same_any c d _ _ ha hb rfl rfl (by omega) (by omega)

set_option maxHeartbeats 400000 in
theorem ladd_ok (a b c d : Nat) (A A' : Option Addr) (w : World) (ha : Hid (Rd w w.heap.size A (dg a))) (hb : Hid (Rd w w.heap.size A' (dg b))) (la : (dg a).length ≤ 1024) (lb : (dg b).length ≤ 1024) :
    Calls Try.prog 38 #[.slice A (dg a).length c, .slice A' (dg b).length d] w (Gives1 w (lim (a + b))) := by
  go_enter Try.func38, Try.ntmps38
  go_wp2_with (first
    | (go_at_call 15; refine (add_ok a b c d A A' _ ha.out hb.out la lb).mono ?_; rintro e w1 ⟨v, rfl, h1, h2⟩))
  go_ret
  exact ⟨v, rfl, h1, h2⟩

set_option maxHeartbeats 400000 in
theorem lmul_ok (a b c d : Nat) (A A' : Option Addr) (w : World) (ha : Hid (Rd w w.heap.size A (dg a))) (hb : Hid (Rd w w.heap.size A' (dg b))) (la : (dg a).length ≤ 1024) (lb : (dg b).length ≤ 1024) :
    Calls Try.prog 39 #[.slice A (dg a).length c, .slice A' (dg b).length d] w (Gives1 w (lim (a * b))) := by
  go_enter Try.func39, Try.ntmps39
  go_wp2_with (first
    | (go_at_call 20; refine (mul_ok a b c d A A' _ ha.out hb.out la lb).mono ?_; rintro e w1 ⟨v, rfl, h1, h2⟩))
  go_ret
  exact ⟨v, rfl, h1, h2⟩

end Go.Proofs.Ytogmgomcdhfolaa
