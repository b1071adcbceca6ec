/-
  The reference's Sub.
-/
import Derived.Test.YtogmgomcdhfolaaRefAdd
namespace Go.Proofs.Ytogmgomcdhfolaa
open Go.RowKit Nt

theorem ret_e {v : Value} {x y : Int} (h : x = y) : Ending.returned (.tuple #[v, .int .i64 x]) = .returned (.tuple #[v, .int .i64 y]) := by rw [h]
theorem rsub_val {v a b n cr : Nat} (q : v + b = a + 4294967296 ^ n * cr) (h1 : v < 4294967296 ^ n) (h : b ≤ a) : v = a - b := by
  rcases Nat.eq_zero_or_pos cr with h0 | h0
  · rw [h0, Nat.mul_zero, Nat.add_zero] at q
    omega
  · have h5 : 4294967296 ^ n * 1 ≤ 4294967296 ^ n * cr := Nat.mul_le_mul_left _ h0
    generalize 4294967296 ^ n * cr = u at q h5
    generalize 4294967296 ^ n = P at h1 h5
    omega

def RsSt (w wr : World) (g a b k cp cr : Nat) : Prop := ∃ X, SubInv (dg a) (dg b) k X cr ∧ Ow wr w.heap.size g k cp X ∧ Below w.heap.size w wr

set_option maxHeartbeats 4000000 in
theorem rsub_ge (a b c d n m : Nat) (A A' : Option Addr) (w : World) (ha : Hid (Rd w w.heap.size A (dg a))) (hb : Hid (Rd w w.heap.size A' (dg b))) (la : Hid ((dg a).length = n)) (lb : Hid ((dg b).length = m)) (hn : n ≤ 1024) (hm : m ≤ 1024) (hM : m ≤ n) (hab : b ≤ a) :
    Calls Try.prog 19 #[.slice A n c, .slice A' m d] w (Gives w (a - b) 0) := by
  have VA := Lib.hid (vldB_dg (N := a) (by rw [la.out]; exact hn))
  have VB := Lib.hid (vldB_dg (N := b) (by rw [lb.out]; exact hm))
  have WA : Hid (Wf (dg a)) := wf_dg a
  have WB : Hid (Wf (dg b)) := wf_dg b
  obtain ⟨zc, hzc, hzc0⟩ : ∃ zc : Int, cmpN a b = zc ∧ ¬ zc < 0 := ⟨_, rfl, by unfold cmpN; rw [if_neg (by omega)]; split <;> omega⟩
  have CMP : Hid (Calls Try.prog 29 #[.slice A n c, .slice A' m d] w (fun e w' => e = .returned (.int .i64 zc) ∧ Qt w w')) := by
    have := rcompare_ge a b c d n m A A' w ha hb la lb hn hm hM
    rwa [hzc] at this
  have HAB := Lib.hid hab
  have HBW : ∀ w' : World, Qt w w' → Hid (RsSt w (w'.alloc (.cells #[] 41)) w.heap.size a b 0 0 0) := fun w' hq => ⟨[], SubInv.start _ _, by have := own_empty w'; rw [hq.size] at this; exact this, (hq.below _).alloc (by rw [hq.size]; exact Nat.le_refl _) _⟩
  clear hab hzc
  go_enter Try.func19, Try.ntmps19
  go_wp2_with (first
    | (go_at_call 27; ((with_reducible refine (rvalid_yes c n ha.out la.out (by omega) VA.out).mono ?_); rintro e w' ⟨rfl, rfl⟩))
    | (go_at_call 27; ((with_reducible refine (rvalid_yes d m hb.out lb.out (by omega) VB.out).mono ?_); rintro e w' ⟨rfl, rfl⟩))
    | (go_at_call 29; refine CMP.out.mono ?_; rintro e w1 ⟨rfl, hq⟩; have HP := HBW w1 hq; have hsz := hq.size; clear hq))
  go_loopw [6, 7, 8] (fun v q i wr => ∃ (k g cp cr : Nat), k ≤ n ∧ cr ≤ 1 ∧ i = .int .i64 k ∧ q = .int .u64 cr ∧ v = .slice (some ⟨g, 0, none⟩) k cp ∧ Hid (RsSt w wr g a b k cp cr)) (fun _ _ i _ => n - (intOf i).toNat)
  case atStart => exact ⟨0, _, _, 0, by omega, by omega, rfl, rfl, rfl, HP⟩
  case round =>
    obtain ⟨k, g, cp, cr, hk, hcr, rfl, rfl, rfl, hst⟩ := hrel
    by_cases hlt : k < n
    · obtain ⟨X, hi, ho, hbl⟩ := hst.out
      have HI := Lib.hid hi
      have HO := Lib.hid ho
      clear hi ho
      obtain ⟨x, hx⟩ : ∃ x, nth (dg a) k = x := ⟨_, rfl⟩
      obtain ⟨y, hy⟩ : ∃ y, nth (dg b) k = y := ⟨_, rfl⟩
      have HX := Lib.hid hx
      have HY := Lib.hid hy
      have hx1 : x < 4294967296 := by rw [← hx]; exact nth_lt WA.out _
      have hy1 : y < 4294967296 := by rw [← hy]; exact nth_lt WB.out _
      have hdb := dif_brw hx1 hy1 hcr
      have hdl := dif_lt x y cr
      have hbl1 := brw_le x y cr
      have HS0 := HI.out.step WA.out WB.out
      rw [hx, hy] at HS0
      have HS : Hid (SubInv (dg a) (dg b) (k + 1) (X ++ [dif x y cr]) (brw x y cr)) := HS0
      clear HS0
      obtain ⟨z, hz⟩ : ∃ z, dif x y cr = z := ⟨_, rfl⟩
      obtain ⟨q2, hq2⟩ : ∃ q2, brw x y cr = q2 := ⟨_, rfl⟩
      rw [hz, hq2] at hdb HS
      rw [hz] at hdl
      rw [hq2] at hbl1
      obtain ⟨t, ht⟩ : ∃ t, t + y + cr = 4294967296 + x := ⟨4294967296 + x - y - cr, by omega⟩
      have te : 4294967296 + (x : Int) - (y : Int) - (cr : Int) = (t : Int) := by omega
      have tz : (t : Int) % 4294967296 = (z : Int) := by omega
      have tq : 1 - (t : Int) / 4294967296 = (q2 : Int) := by omega
      have hz1 : z < 4294967296 := hdl
      have htl : t ≤ 8589934591 := by omega
      have hq1 : q2 ≤ 1 := hbl1
      clear hx hy ht hz hq2 hdb hdl hbl1
      have RA : Hid (Rd wr w.heap.size A (dg a)) := ha.out.below hbl
      have RB : Hid (Rd wr w.heap.size A' (dg b)) := hb.out.below hbl
      have hb3 := hbl.alloc hbl.size (.cells #[.int .u32 (z : Int)] 41)
      go_wp2_with (first
        | (go_at_call 42; ((with_reducible refine (rlimb_any c n k x RA.out WA.out la.out HX.out).mono ?_); rintro e w' ⟨rfl, rfl⟩))
        | (go_at_call 42; ((with_reducible refine (rlimb_any d m k y RB.out WB.out lb.out HY.out).mono ?_); rintro e w' ⟨rfl, rfl⟩))
        | (at_builtin; refine wpList_append_rd _ rfl _ _ 23 23 rfl Try.underlying23 Try.underlying23 w.heap.size _ k X [z] rfl (HO.out.alloc _) _ _ 1 1 rfl (bk_rd_one wr) rfl (by omega) hb3.size ?_; intro v3 w3 hown3 hg3; have hg4 : (wr.alloc (.cells #[.int .u32 (z : Int)] 41)).grownBy w3 (some g) := hg3; clear hg3; have hb4 := hb3.grown hg4 hb3.size (fun q hq => by injection hq with hq; rw [← hq]; exact HO.out.base.1); obtain ⟨g3, c3, rfl, hown4⟩ := own_form hown3 (Nat.succ_pos _); have HO4 := Lib.hid hown4; clear hown3 hown4))
      go_roundw
      case rel => exact ⟨k + 1, g3, c3, q2, by omega, hq1, by go_num, rfl, rfl, ⟨_, HS.out, HO4.out, hb4⟩⟩
      case measure => simp [intOf]; omega
    · obtain rfl : k = n := by omega
      clear hlt
      obtain ⟨X, hi, ho, hbl⟩ := hst.out
      have hX : Hid (X.length = k) := hi.len
      have hW : Hid (Wf X) := hi.wf
      have hv : Hid (val X = a - b) := show val X = a - b by
        have q := hi.eq
        rw [List.take_of_length_le (by rw [lb.out]; omega), List.take_of_length_le (by rw [la.out]; exact Nat.le_refl _), val_dg, val_dg] at q
        have h1 := val_lt hi.wf
        rw [hi.len] at h1
        exact rsub_val q h1 HAB.out
      obtain ⟨A1, c1, he, hc1, hl1, hr1⟩ := own_rd ho
      have HR1 := Lib.hid hr1
      injection he with he1 he2 he3
      subst he1
      subst he3
      clear hr1 hl1 he2 hi ho
      have HBL := Lib.hid hbl
      go_wp2_with (first
        | (go_at_call 43; refine (rfit_any cp _ HR1.out hW.out hX.out (by omega) hc1).mono ?_; rintro e w4 ⟨v, rfl, h1, h2⟩; have H1 := Lib.hid h1; clear h1))
      go_ret2
      have h3 := H1.out
      rw [hv.out, lim_of (by rw [← la.out] at hn; exact Nat.le_trans (dg_length_mono (Nat.sub_le a b)) hn)] at h3
      exact ⟨v, ret_e (by rw [hv.out]; exact limE_of (by rw [← la.out] at hn; exact Nat.le_trans (dg_length_mono (Nat.sub_le a b)) hn)), h3, HBL.out.trans (h2.mono HBL.out.size)⟩


set_option maxHeartbeats 1000000 in
theorem rsub_neg (a b c d n m : Nat) (A A' : Option Addr) (w : World) (ha : Hid (Rd w w.heap.size A (dg a))) (hb : Hid (Rd w w.heap.size A' (dg b))) (la : Hid ((dg a).length = n)) (lb : Hid ((dg b).length = m)) (hn : n ≤ 1024) (hm : m ≤ 1024) (hab : a < b) :
    Calls Try.prog 19 #[.slice A n c, .slice A' m d] w (Gives w 0 10) := by
  have VA := Lib.hid (vldB_dg (N := a) (by rw [la.out]; exact hn))
  have VB := Lib.hid (vldB_dg (N := b) (by rw [lb.out]; exact hm))
  have CMP : Hid (Calls Try.prog 29 #[.slice A n c, .slice A' m d] w (fun e w' => e = .returned (.int .i64 (-1)) ∧ Qt w w')) := by
    have := rcompare_ok c d ha hb (by rw [la.out]; exact hn) (by rw [lb.out]; exact hm)
    rwa [cmpN_lt hab, la.out, lb.out] at this
  go_enter Try.func19, Try.ntmps19
  go_wp2_with (first
    | (go_at_call 27; ((with_reducible refine (rvalid_yes c n ha.out la.out (by omega) VA.out).mono ?_); rintro e w' ⟨rfl, rfl⟩))
    | (go_at_call 27; ((with_reducible refine (rvalid_yes d m hb.out lb.out (by omega) VB.out).mono ?_); rintro e w' ⟨rfl, rfl⟩))
    | (go_at_call 29; refine CMP.out.mono ?_; rintro e w1 ⟨rfl, hq⟩))
  go_ret2
  exact ⟨_, rfl, Num.nil _, hq.below _⟩

theorem rsub_ok {a b : Nat} {A A' : Option Addr} {w : World} (c d : Nat) (ha : Rd w w.heap.size A (dg a)) (hb : Rd w w.heap.size A' (dg b)) (la : (dg a).length ≤ 1024) (lb : (dg b).length ≤ 1024) :
    Calls Try.prog 19 #[.slice A (dg a).length c, .slice A' (dg b).length d] w (Gives w (a - b) (subE a b)) := by
  rcases Nat.lt_or_ge a b with h | h
  · rw [subE_lt h, Nat.sub_eq_zero_of_le (Nat.le_of_lt h)]
    exact rsub_neg a b c d _ _ A A' w ha hb rfl rfl la lb h
  · rw [subE_ge h]
    exact rsub_ge a b c d _ _ A A' w ha hb rfl rfl la lb (dg_length_mono h) h

end Go.Proofs.Ytogmgomcdhfolaa
