/-
  The reference's Mul.
-/
import Derived.Test.YtogmgomcdhfolaaRefSub
namespace Go.Proofs.Ytogmgomcdhfolaa
open Go.RowKit Nt

/-- the product's block inside a row: k limbs of a are done, and j limbs of b at limb k -/
def RmSt (w wr : World) (g a b k j cr : Nat) : Prop := ∃ L X, ProdInv a b k L ∧ MulInv ((L.drop k).take (dg b).length) (dg b) (nth (dg a) k) j X cr ∧ Bk wr g (splice L k X) ∧ Below g w wr

section
variable {w wr : World} {g a b k j cr : Nat}
theorem RmSt.start (h : ProdSt w wr g a b k) : RmSt w wr g a b k 0 0 := by
  obtain ⟨L, hi, hb, hl⟩ := h
  exact ⟨L, [], hi, MulInv.start _ _ _, by rw [splice_zero]; exact hb, hl⟩
/-- one step: the block's number z at k + j, the product's t -/
theorem RmSt.step (h : RmSt w wr g a b k j cr) (hk : k < (dg a).length) (hj : j < (dg b).length) :
    ∃ z : Nat, z < 4294967296 ∧ wr.cell? ⟨g, k + j, none⟩ = some (.int .u32 (z : Int)) ∧ wr.frozen? ⟨g, k + j, none⟩ = false ∧
      (∃ L, L.length = (dg a).length + (dg b).length ∧ Wf L ∧ Bk wr g L ∧ nth L (k + j) = z) ∧ cr ≤ 4294967295 ∧
      ∀ s : Nat, s = nth (dg a) k * nth (dg b) j + z + cr → RmSt w (wr.setCell ⟨g, k + j, none⟩ (.int .u32 ((s % 4294967296 : Nat) : Int))) g a b k (j + 1) (s / 4294967296) := by
  obtain ⟨L, X, hi, hm, hb, hl⟩ := h
  have hl1 := hi.len
  have hl2 := hm.len
  have hL := hi.wf
  have hw : Wf (splice L k X) := wf_splice k hL hm.wf
  have hlen : (splice L k X).length = (dg a).length + (dg b).length := by rw [length_spl (by omega), hl1]
  have en : nth (splice L k X) (k + j) = nth L (k + j) := nth_spl (by omega) (by omega)
  refine ⟨nth (splice L k X) (k + j), nth_lt hw _, hb.cell (by omega), hb.frozen _, ⟨_, hlen, hw, hb, rfl⟩, hm.c1, ?_⟩
  intro s hs
  have hst := hm.step ((hL.drop k).take _) (wf_dg b) (nth_lt (wf_dg a) k)
  rw [nth_sub hj, ← en, Nat.mul_comm (nth (dg b) j), ← hs] at hst
  refine ⟨L, _, hi, hst, ?_, hl.setCell (Nat.le_refl _) _⟩
  have := hb.set_ (k + j) (s % 4294967296)
  rw [← hl2, spl_set _ (by omega), hl2] at this
  exact this
theorem RmSt.done (h : RmSt w wr g a b k (dg b).length cr) (hk : k < (dg a).length) :
    cr ≤ 4294967295 ∧ (∃ u, wr.cell? ⟨g, k + (dg b).length, none⟩ = some u) ∧ wr.frozen? ⟨g, k + (dg b).length, none⟩ = false ∧
      ProdSt w (wr.setCell ⟨g, k + (dg b).length, none⟩ (.int .u32 ((cr : Nat) : Int))) g a b (k + 1) := by
  obtain ⟨L, X, hi, hm, hb, hl⟩ := h
  have hl1 := hi.len
  have hl2 := hm.len
  have hc := hm.c1
  have hlen : (splice L k X).length = (dg a).length + (dg b).length := by rw [length_spl (by omega), hl1]
  have hq := hm.eq
  have hn : ((L.drop k).take (dg b).length).length = (dg b).length := by simp; omega
  rw [List.take_of_length_le (l := (L.drop k).take (dg b).length) (by omega), List.take_of_length_le (l := dg b) (Nat.le_refl _)] at hq
  exact ⟨hc, ⟨_, hb.cell (by omega)⟩, hb.frozen _, _, hi.step hk hm.wf hl2 (by omega) hq, hb.set_ _ _, hl.setCell (Nat.le_refl _) _⟩
end

set_option maxHeartbeats 4000000 in
theorem rmul_core (a b c d n m : Nat) (A A' : Option Addr) (w : World) (ha : Hid (Rd w w.heap.size A (dg a))) (hb : Hid (Rd w w.heap.size A' (dg b))) (la : Hid ((dg a).length = n)) (lb : Hid ((dg b).length = m)) (hn : n ≤ 1024) (hm : m ≤ 1024) :
    Calls Try.prog 21 #[.slice A n c, .slice A' m d] w (Gives w (lim (a * b)) (limE (a * b))) := by
  have VA := Lib.hid (vldB_dg (N := a) (by rw [la.out]; exact hn))
  have VB := Lib.hid (vldB_dg (N := b) (by rw [lb.out]; exact hm))
  have WA : Hid (Wf (dg a)) := wf_dg a
  have WB : Hid (Wf (dg b)) := wf_dg b
  have HP0 : Hid (∀ w1, Bk w1 w.heap.size (List.replicate (n + m) 0) → Below w.heap.size w w1 → ProdSt w w1 w.heap.size a b 0) := by
    intro w1 h1 h2
    rw [← la.out, ← lb.out] at h1
    exact ProdSt.start h2 h1
  go_enter Try.func21, Try.ntmps21
  go_wp2_with (first
    | (go_at_call 27; ((with_reducible refine (rvalid_yes c n ha.out la.out (by omega) VA.out).mono ?_); rintro e w' ⟨rfl, rfl⟩))
    | (go_at_call 27; ((with_reducible refine (rvalid_yes d m hb.out lb.out (by omega) VB.out).mono ?_); rintro e w' ⟨rfl, rfl⟩))
    | (at_make; refine wpList_make_bk _ rfl _ _ 23 rfl Try.underlying23 _ _ _ _ (n + m) rfl rfl (by omega) (by omega) (by omega) ?_; intro w1 hbk1 hs1 hb1; have HP := Lib.hid (HP0.out w1 hbk1 hb1); clear hbk1 hs1 hb1))
  go_loopw [7] (fun i wr => ∃ k : Nat, k ≤ n ∧ i = .int .i64 k ∧ Hid (ProdSt w wr w.heap.size a b k)) (fun i _ => n - (intOf i).toNat)
  case atStart => exact ⟨0, by omega, rfl, HP⟩
  case round =>
    obtain ⟨k, hk, rfl, hst⟩ := hrel
    by_cases hlt : k < n
    · have HIN : Hid (RmSt w wr w.heap.size a b k 0 0) := RmSt.start hst.out
      have hka : k < (dg a).length := by rw [la.out]; exact hlt
      have HKA := Lib.hid hka
      obtain ⟨x, hx⟩ : ∃ x, nth (dg a) k = x := ⟨_, rfl⟩
      have HX := Lib.hid hx
      have hx1 : x < 4294967296 := by rw [← hx]; exact nth_lt WA.out _
      clear hx hka
      obtain ⟨wo, hwo⟩ : ∃ wo : World, wo = wr := ⟨_, rfl⟩
      subst hwo
      go_wp2_with fail
      go_loopw [8, 9] (fun q i wr => ∃ (j cr : Nat), j ≤ m ∧ cr ≤ 4294967295 ∧ i = .int .i64 j ∧ q = .int .u64 cr ∧ Hid (RmSt w wr w.heap.size a b k j cr)) (fun _ i _ => m - (intOf i).toNat)
      case atStart => exact ⟨0, 0, by omega, by omega, rfl, rfl, HIN⟩
      case round =>
        obtain ⟨j, cr, hj, hcr, rfl, rfl, hst⟩ := hrel
        by_cases hlt2 : j < m
        · obtain ⟨z, hz1, c1, f1, ⟨L, hll, hlw, hlb, hlz⟩, _, hstep⟩ := hst.out.step HKA.out (by rw [lb.out]; exact hlt2)
          obtain ⟨y, hy⟩ : ∃ y, nth (dg b) j = y := ⟨_, rfl⟩
          have HY := Lib.hid hy
          have hy1 : y < 4294967296 := by rw [← hy]; exact nth_lt WB.out _
          obtain ⟨t, ht⟩ : ∃ t, x * y = t := ⟨_, rfl⟩
          have hle : t ≤ 18446744065119617025 := by rw [← ht]; exact mul_bound hx1 hy1
          have hte : (x : Int) * (y : Int) = (t : Int) := by rw [← ht]; exact (Int.natCast_mul _ _).symm
          have HS := Lib.hid (hstep (t + z + cr) (by rw [HX.out, hy, ht]))
          obtain ⟨sz, hsz⟩ : ∃ sz, sz = (t + z + cr) % 4294967296 := ⟨_, rfl⟩
          obtain ⟨sq, hsq⟩ : ∃ sq, sq = (t + z + cr) / 4294967296 := ⟨_, rfl⟩
          rw [← hsz, ← hsq] at HS
          have ez : ((t : Int) + (z : Int) + (cr : Int)) % 4294967296 = (sz : Int) := by omega
          have eq : ((t : Int) + (z : Int) + (cr : Int)) / 4294967296 = (sq : Int) := by omega
          have hz3 : sz < 4294967296 := by omega
          have hq3 : sq ≤ 4294967295 := by omega
          have HLL : Hid (L.length = n + m) := show L.length = n + m by rw [hll, la.out, lb.out]
          have HLW := Lib.hid hlw
          have HLZ := Lib.hid hlz
          have HLB := Lib.hid hlb
          obtain ⟨_, _, _, _, _, hbl⟩ := hst.out
          have RA : Hid (Rd wr w.heap.size A (dg a)) := ha.out.below hbl
          have RB : Hid (Rd wr w.heap.size A' (dg b)) := hb.out.below hbl
          have RL : Hid (Rd wr wr.heap.size (some ⟨w.heap.size, 0, none⟩) L) := HLB.out.rd HLB.out.lt
          clear hy ht hsz hsq hll hlw hlz hlb hstep
          have i1 : (0 : Int) ≤ (k : Int) + (j : Int) := by omega
          have i2 : (k : Int) + (j : Int) < (n : Int) + (m : Int) := by omega
          have i3 : ((k : Int) + (j : Int)).toNat = k + j := by omega
          go_wp2_with (first
            | (go_at_call 42; ((with_reducible refine (rlimb_any c n k x RA.out WA.out la.out HX.out).mono ?_); rintro e w' ⟨rfl, rfl⟩))
            | (go_at_call 42; ((with_reducible refine (rlimb_any d m j y RB.out WB.out lb.out HY.out).mono ?_); rintro e w' ⟨rfl, rfl⟩))
            | (go_at_call 42; rw [show ((k : Int) + (j : Int)) = ((k + j : Nat) : Int) by omega]; (refine (rlimb_any (n + m) (n + m) (k + j) z RL.out HLW.out HLL.out HLZ.out).mono ?_); rintro e w' ⟨rfl, rfl⟩))
          go_roundw
          case rel => exact ⟨j + 1, sq, by omega, hq3, by go_num, by rw [eq], by first | exact HS.out | (rw [ez]; exact HS.out)⟩
          case measure => simp [intOf]; omega
        · obtain rfl : j = m := by omega
          clear hlt2
          obtain ⟨_, ⟨u, c1⟩, f1, hnx⟩ := (show RmSt w wr w.heap.size a b k (dg b).length cr by rw [lb.out]; exact hst.out).done HKA.out
          rw [lb.out] at c1 f1 hnx
          have HNX := Lib.hid hnx
          clear hnx
          have i1 : (0 : Int) ≤ (k : Int) + (j : Int) := by omega
          have i2 : (k : Int) + (j : Int) < (n : Int) + (j : Int) := by omega
          have i3 : ((k : Int) + (j : Int)).toNat = k + j := by omega
          go_wp2_with fail
          go_roundw
          case rel => exact ⟨k + 1, by omega, by go_num, HNX.out⟩
          case measure => simp [intOf]; omega
    · obtain rfl : k = n := by omega
      clear hlt
      obtain ⟨L, hi, hbk, hbw⟩ := hst.out
      have hv : Hid (val L = a * b) := show val L = a * b from ProdInv.done (by rw [la.out]; exact hi)
      have hwf := Lib.hid hi.wf
      have hlen : Hid (L.length = k + m) := show L.length = k + m by rw [hi.len, la.out, lb.out]
      have HBK := Lib.hid hbk
      clear hi hbk
      go_wp2_with (first
        | (go_at_call 43; refine (rfit_any _ _ (HBK.out.rd HBK.out.lt) hwf.out hlen.out (by omega) (Nat.le_refl _)).mono ?_; rintro e w4 ⟨v, rfl, h1, h2⟩; have H1 := Lib.hid h1; clear h1))
      go_ret2
      rw [← hv.out]
      exact ⟨v, rfl, H1.out, hbw.trans (h2.mono hbw.size)⟩

theorem rmul_ok {a b : Nat} {A A' : Option Addr} {w : World} (c d : Nat) (ha : Rd w w.heap.size A (dg a)) (hb : Rd w w.heap.size A' (dg b)) (la : (dg a).length ≤ 1024) (lb : (dg b).length ≤ 1024) :
    Calls Try.prog 21 #[.slice A (dg a).length c, .slice A' (dg b).length d] w (Gives w (lim (a * b)) (limE (a * b))) :=
  rmul_core a b c d _ _ A A' w ha hb rfl rfl la lb

end Go.Proofs.Ytogmgomcdhfolaa
