/-
  The reference's Add.
-/
import Derived.Test.YtogmgomcdhfolaaRefCmp
namespace Go.Proofs.Ytogmgomcdhfolaa
open Go.RowKit Nt

/-- the sum's row while it grows -/
def RaSt (w wr : World) (g a b k cp cr : Nat) : Prop := ∃ X, AddInv (dg a) (dg b) k X cr ∧ Ow wr w.heap.size g k cp X ∧ Below w.heap.size w wr
theorem radd_val {v a b M cr : Nat} (q : v + 4294967296 ^ (M + 1) * cr = a + b) (h1 : a < 4294967296 ^ M) (h2 : b < 4294967296 ^ M) : v = a + b := by
  rcases Nat.eq_zero_or_pos cr with h0 | h0
  · rw [h0, Nat.mul_zero, Nat.add_zero] at q
    exact q
  · have h5 : 4294967296 ^ M * 4294967296 * 1 ≤ 4294967296 ^ M * 4294967296 * cr := Nat.mul_le_mul_left _ h0
    rw [Nat.pow_succ] at q
    generalize 4294967296 ^ M * 4294967296 * cr = u at q h5
    generalize 4294967296 ^ M = P at h1 h2 h5
    omega

set_option maxHeartbeats 4000000 in
theorem radd_lt (a b c d n m : Nat) (A A' : Option Addr) (w : World) (ha : Hid (Rd w w.heap.size A (dg a))) (hb : Hid (Rd w w.heap.size A' (dg b))) (la : Hid ((dg a).length = n)) (lb : Hid ((dg b).length = m)) (hn : n ≤ 1024) (hm : m ≤ 1024) (hM : n < m) :
    Calls Try.prog 16 #[.slice A n c, .slice A' m d] w (Gives w (lim (a + b)) (limE (a + b))) := by
  have VA := Lib.hid (vldB_dg (N := a) (by rw [la.out]; exact hn))
  have VB := Lib.hid (vldB_dg (N := b) (by rw [lb.out]; exact hm))
  have WA : Hid (Wf (dg a)) := wf_dg a
  have WB : Hid (Wf (dg b)) := wf_dg b
  have HP : Hid (RaSt w (w.alloc (.cells #[] 41)) w.heap.size a b 0 0 0) := ⟨[], AddInv.start _ _, own_empty w, (Below.refl _ _).alloc (Nat.le_refl _) _⟩
  go_enter Try.func16, Try.ntmps16
  go_wp2_with (first
    | (go_at_call 27; ((with_reducible refine (rvalid_yes c n ha.out la.out (by omega) VA.out).mono ?_); rintro e w' ⟨rfl, rfl⟩))
    | (go_at_call 27; ((with_reducible refine (rvalid_yes d m hb.out lb.out (by omega) VB.out).mono ?_); rintro e w' ⟨rfl, rfl⟩)))
  go_loopw [6, 7, 8] (fun v q i wr => ∃ (k g cp cr : Nat), k ≤ m + 1 ∧ cr ≤ 1 ∧ i = .int .i64 k ∧ q = .int .u64 cr ∧ v = .slice (some ⟨g, 0, none⟩) k cp ∧ Hid (RaSt w wr g a b k cp cr)) (fun _ _ i _ => m + 1 - (intOf i).toNat)
  case atStart => exact ⟨0, _, _, 0, by omega, by omega, rfl, rfl, rfl, HP⟩
  case round =>
    obtain ⟨k, g, cp, cr, hk, hcr, rfl, rfl, rfl, hst⟩ := hrel
    by_cases hlt : k ≤ m
    · obtain ⟨X, hi, ho, hbl⟩ := hst.out
      have HI := Lib.hid hi
      have HO := Lib.hid ho
      clear hi ho
      obtain ⟨x, hx⟩ : ∃ x, nth (dg a) k = x := ⟨_, rfl⟩
      obtain ⟨y, hy⟩ : ∃ y, nth (dg b) k = y := ⟨_, rfl⟩
      have HX := Lib.hid hx
      have HY := Lib.hid hy
      have hx1 : x < 4294967296 := by rw [← hx]; exact nth_lt WA.out _
      have hy1 : y < 4294967296 := by rw [← hy]; exact nth_lt WB.out _
      obtain ⟨t, ht⟩ : ∃ t, t = x + y + cr := ⟨_, rfl⟩
      have te : (x : Int) + (y : Int) + (cr : Int) = (t : Int) := by omega
      obtain ⟨z, hz⟩ : ∃ z, z = t % 4294967296 := ⟨_, rfl⟩
      obtain ⟨q2, hq2⟩ : ∃ q2, q2 = t / 4294967296 := ⟨_, rfl⟩
      have tz : (t : Int) % 4294967296 = (z : Int) := by omega
      have tq : (t : Int) / 4294967296 = (q2 : Int) := by omega
      have hz1 : z < 4294967296 := by omega
      have htl : t ≤ 8589934591 := by omega
      have hq1 : q2 ≤ 1 := by omega
      have HS : Hid (AddInv (dg a) (dg b) (k + 1) (X ++ [z]) q2) := show AddInv _ _ _ _ _ by
        have := HI.out.step WA.out WB.out
        rw [hx, hy, ← ht, ← hz, ← hq2] at this
        exact this
      clear hx hy ht hz hq2
      have RA : Hid (Rd wr w.heap.size A (dg a)) := ha.out.below hbl
      have RB : Hid (Rd wr w.heap.size A' (dg b)) := hb.out.below hbl
      have hb3 := hbl.alloc hbl.size (.cells #[.int .u32 (z : Int)] 41)
      go_wp2_with (first
        | (go_at_call 42; ((with_reducible refine (rlimb_any c n k x RA.out WA.out la.out HX.out).mono ?_); rintro e w' ⟨rfl, rfl⟩))
        | (go_at_call 42; ((with_reducible refine (rlimb_any d m k y RB.out WB.out lb.out HY.out).mono ?_); rintro e w' ⟨rfl, rfl⟩))
        | (at_builtin; refine wpList_append_rd _ rfl _ _ 23 23 rfl Try.underlying23 Try.underlying23 w.heap.size _ k X [z] rfl (HO.out.alloc _) _ _ 1 1 rfl (bk_rd_one wr) rfl (by omega) hb3.size ?_; intro v3 w3 hown3 hg3; have hg4 : (wr.alloc (.cells #[.int .u32 (z : Int)] 41)).grownBy w3 (some g) := hg3; clear hg3; have hb4 := hb3.grown hg4 hb3.size (fun q hq => by injection hq with hq; rw [← hq]; exact HO.out.base.1); obtain ⟨g3, c3, rfl, hown4⟩ := own_form hown3 (Nat.succ_pos _); have HO4 := Lib.hid hown4; clear hown3 hown4))
      go_roundw
      case rel => exact ⟨k + 1, g3, c3, q2, by omega, hq1, by go_num, rfl, rfl, ⟨_, HS.out, HO4.out, hb4⟩⟩
      case measure => simp [intOf]; omega
    · obtain rfl : k = m + 1 := by omega
      clear hlt
      obtain ⟨X, hi, ho, hbl⟩ := hst.out
      have hX : Hid (X.length = m + 1) := hi.len
      have hW : Hid (Wf X) := hi.wf
      have hv : Hid (val X = a + b) := show val X = a + b by
        have q := hi.eq
        rw [List.take_of_length_le (by rw [la.out]; omega), List.take_of_length_le (by rw [lb.out]; omega), val_dg, val_dg] at q
        have h1 := lt_pow_dg a
        have h2 := lt_pow_dg b
        rw [la.out] at h1
        rw [lb.out] at h2
        exact radd_val q (Nat.lt_of_lt_of_le h1 (Nat.pow_le_pow_right (by omega) (by omega))) (Nat.lt_of_lt_of_le h2 (Nat.pow_le_pow_right (by omega) (by omega)))
      obtain ⟨A1, c1, he, hc1, hl1, hr1⟩ := own_rd ho
      have HR1 := Lib.hid hr1
      injection he with he1 he2 he3
      subst he1
      subst he3
      clear hr1 hl1 he2 hi ho
      have HBL := Lib.hid hbl
      go_wp2_with (first
        | (go_at_call 43; refine (rfit_any cp _ HR1.out hW.out hX.out (by omega) hc1).mono ?_; rintro e w4 ⟨v, rfl, h1, h2⟩; have H1 := Lib.hid h1; clear h1))
      go_ret2
      rw [← hv.out]
      exact ⟨v, rfl, H1.out, HBL.out.trans (h2.mono HBL.out.size)⟩

set_option maxHeartbeats 4000000 in
theorem radd_ge (a b c d n m : Nat) (A A' : Option Addr) (w : World) (ha : Hid (Rd w w.heap.size A (dg a))) (hb : Hid (Rd w w.heap.size A' (dg b))) (la : Hid ((dg a).length = n)) (lb : Hid ((dg b).length = m)) (hn : n ≤ 1024) (hm : m ≤ 1024) (hM : m ≤ n) :
    Calls Try.prog 16 #[.slice A n c, .slice A' m d] w (Gives w (lim (a + b)) (limE (a + b))) := by
  have VA := Lib.hid (vldB_dg (N := a) (by rw [la.out]; exact hn))
  have VB := Lib.hid (vldB_dg (N := b) (by rw [lb.out]; exact hm))
  have WA : Hid (Wf (dg a)) := wf_dg a
  have WB : Hid (Wf (dg b)) := wf_dg b
  have HP : Hid (RaSt w (w.alloc (.cells #[] 41)) w.heap.size a b 0 0 0) := ⟨[], AddInv.start _ _, own_empty w, (Below.refl _ _).alloc (Nat.le_refl _) _⟩
  go_enter Try.func16, Try.ntmps16
  go_wp2_with (first
    | (go_at_call 27; ((with_reducible refine (rvalid_yes c n ha.out la.out (by omega) VA.out).mono ?_); rintro e w' ⟨rfl, rfl⟩))
    | (go_at_call 27; ((with_reducible refine (rvalid_yes d m hb.out lb.out (by omega) VB.out).mono ?_); rintro e w' ⟨rfl, rfl⟩)))
  go_loopw [6, 7, 8] (fun v q i wr => ∃ (k g cp cr : Nat), k ≤ n + 1 ∧ cr ≤ 1 ∧ i = .int .i64 k ∧ q = .int .u64 cr ∧ v = .slice (some ⟨g, 0, none⟩) k cp ∧ Hid (RaSt w wr g a b k cp cr)) (fun _ _ i _ => n + 1 - (intOf i).toNat)
  case atStart => exact ⟨0, _, _, 0, by omega, by omega, rfl, rfl, rfl, HP⟩
  case round =>
    obtain ⟨k, g, cp, cr, hk, hcr, rfl, rfl, rfl, hst⟩ := hrel
    by_cases hlt : k ≤ n
    · obtain ⟨X, hi, ho, hbl⟩ := hst.out
      have HI := Lib.hid hi
      have HO := Lib.hid ho
      clear hi ho
      obtain ⟨x, hx⟩ : ∃ x, nth (dg a) k = x := ⟨_, rfl⟩
      obtain ⟨y, hy⟩ : ∃ y, nth (dg b) k = y := ⟨_, rfl⟩
      have HX := Lib.hid hx
      have HY := Lib.hid hy
      have hx1 : x < 4294967296 := by rw [← hx]; exact nth_lt WA.out _
      have hy1 : y < 4294967296 := by rw [← hy]; exact nth_lt WB.out _
      obtain ⟨t, ht⟩ : ∃ t, t = x + y + cr := ⟨_, rfl⟩
      have te : (x : Int) + (y : Int) + (cr : Int) = (t : Int) := by omega
      obtain ⟨z, hz⟩ : ∃ z, z = t % 4294967296 := ⟨_, rfl⟩
      obtain ⟨q2, hq2⟩ : ∃ q2, q2 = t / 4294967296 := ⟨_, rfl⟩
      have tz : (t : Int) % 4294967296 = (z : Int) := by omega
      have tq : (t : Int) / 4294967296 = (q2 : Int) := by omega
      have hz1 : z < 4294967296 := by omega
      have htl : t ≤ 8589934591 := by omega
      have hq1 : q2 ≤ 1 := by omega
      have HS : Hid (AddInv (dg a) (dg b) (k + 1) (X ++ [z]) q2) := show AddInv _ _ _ _ _ by
        have := HI.out.step WA.out WB.out
        rw [hx, hy, ← ht, ← hz, ← hq2] at this
        exact this
      clear hx hy ht hz hq2
      have RA : Hid (Rd wr w.heap.size A (dg a)) := ha.out.below hbl
      have RB : Hid (Rd wr w.heap.size A' (dg b)) := hb.out.below hbl
      have hb3 := hbl.alloc hbl.size (.cells #[.int .u32 (z : Int)] 41)
      go_wp2_with (first
        | (go_at_call 42; ((with_reducible refine (rlimb_any c n k x RA.out WA.out la.out HX.out).mono ?_); rintro e w' ⟨rfl, rfl⟩))
        | (go_at_call 42; ((with_reducible refine (rlimb_any d m k y RB.out WB.out lb.out HY.out).mono ?_); rintro e w' ⟨rfl, rfl⟩))
        | (at_builtin; refine wpList_append_rd _ rfl _ _ 23 23 rfl Try.underlying23 Try.underlying23 w.heap.size _ k X [z] rfl (HO.out.alloc _) _ _ 1 1 rfl (bk_rd_one wr) rfl (by omega) hb3.size ?_; intro v3 w3 hown3 hg3; have hg4 : (wr.alloc (.cells #[.int .u32 (z : Int)] 41)).grownBy w3 (some g) := hg3; clear hg3; have hb4 := hb3.grown hg4 hb3.size (fun q hq => by injection hq with hq; rw [← hq]; exact HO.out.base.1); obtain ⟨g3, c3, rfl, hown4⟩ := own_form hown3 (Nat.succ_pos _); have HO4 := Lib.hid hown4; clear hown3 hown4))
      go_roundw
      case rel => exact ⟨k + 1, g3, c3, q2, by omega, hq1, by go_num, rfl, rfl, ⟨_, HS.out, HO4.out, hb4⟩⟩
      case measure => simp [intOf]; omega
    · obtain rfl : k = n + 1 := by omega
      clear hlt
      obtain ⟨X, hi, ho, hbl⟩ := hst.out
      have hX : Hid (X.length = n + 1) := hi.len
      have hW : Hid (Wf X) := hi.wf
      have hv : Hid (val X = a + b) := show val X = a + b by
        have q := hi.eq
        rw [List.take_of_length_le (by rw [la.out]; omega), List.take_of_length_le (by rw [lb.out]; omega), val_dg, val_dg] at q
        have h1 := lt_pow_dg a
        have h2 := lt_pow_dg b
        rw [la.out] at h1
        rw [lb.out] at h2
        exact radd_val q (Nat.lt_of_lt_of_le h1 (Nat.pow_le_pow_right (by omega) (by omega))) (Nat.lt_of_lt_of_le h2 (Nat.pow_le_pow_right (by omega) (by omega)))
      obtain ⟨A1, c1, he, hc1, hl1, hr1⟩ := own_rd ho
      have HR1 := Lib.hid hr1
      injection he with he1 he2 he3
      subst he1
      subst he3
      clear hr1 hl1 he2 hi ho
      have HBL := Lib.hid hbl
      go_wp2_with (first
        | (go_at_call 43; refine (rfit_any cp _ HR1.out hW.out hX.out (by omega) hc1).mono ?_; rintro e w4 ⟨v, rfl, h1, h2⟩; have H1 := Lib.hid h1; clear h1))
      go_ret2
      rw [← hv.out]
      exact ⟨v, rfl, H1.out, HBL.out.trans (h2.mono HBL.out.size)⟩

theorem radd_ok {a b : Nat} {A A' : Option Addr} {w : World} (c d : Nat) (ha : Rd w w.heap.size A (dg a)) (hb : Rd w w.heap.size A' (dg b)) (la : (dg a).length ≤ 1024) (lb : (dg b).length ≤ 1024) :
    Calls Try.prog 16 #[.slice A (dg a).length c, .slice A' (dg b).length d] w (Gives w (lim (a + b)) (limE (a + b))) := by
  rcases Nat.lt_or_ge (dg a).length (dg b).length with h | h
  · exact radd_lt a b c d _ _ A A' w ha hb rfl rfl la lb h
  · exact radd_ge a b c d _ _ A A' w ha hb rfl rfl la lb h

end Go.Proofs.Ytogmgomcdhfolaa
