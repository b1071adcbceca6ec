/-
  The reference's binary: the number of a list of bits.
-/
import Derived.Test.YtogmgomcdhfolaaRefBits
namespace Go.Proofs.Ytogmgomcdhfolaa
open Go.RowKit Nt

theorem pow32 (j : Nat) : 2 ^ (32 * j) = 4294967296 ^ j := by
  rw [Nat.pow_mul]
/-- j limbs are done -/
structure BnInv (l : List Nat) (j : Nat) (X : List Nat) : Prop where
  len : X.length = j
  wf : Wf X
  eq : val X = Nb.bval (l.take (32 * j))
theorem BnInv.start (l : List Nat) : BnInv l 0 [] := ⟨rfl, wf_nil, by simp [val, Nb.bval]⟩
theorem BnInv.step {l X : List Nat} {j s top : Nat} (h : BnInv l j X) (hs : s = 32 * j) (hsl : s ≤ l.length) (ht : top = min l.length (s + 32)) (hw : Nb.Wb l) :
    BnInv l (j + 1) (X ++ [Nb.bval ((l.drop s).take (top - s))]) := by
  have hb := Nb.bval_lt ((hw.drop s).take (top - s))
  have hlen : ((l.drop s).take (top - s)).length ≤ 32 := by simp; omega
  have h2 : Nb.bval ((l.drop s).take (top - s)) < 4294967296 :=
    Nat.lt_of_lt_of_le hb (Nat.le_trans (Nat.pow_le_pow_right (by omega) hlen) (by omega))
  refine ⟨by simp [h.len], wf_append.2 ⟨h.wf, wf_cons.2 ⟨h2, wf_nil⟩⟩, ?_⟩
  have e : l.take (32 * (j + 1)) = l.take s ++ (l.drop s).take (top - s) := by
    have e1 : (l.drop s).take (top - s) = (l.drop s).take 32 := by
      rcases Nat.lt_or_ge l.length (s + 32) with hlt | hge
      · rw [List.take_of_length_le (by simp; omega), List.take_of_length_le (by simp; omega)]
      · rw [show top - s = 32 by omega]
    rw [e1, show 32 * (j + 1) = s + 32 by omega, List.take_add]
  rw [val_snoc, h.len, h.eq, e, Nb.bval_append, List.length_take, Nat.min_eq_left hsl, ← hs, hs, pow32]
theorem bn_digit {l : List Nat} {top t : Nat} (ht : t < l.length) (htop : t < top) :
    Nb.bval ((l.drop t).take (top - t)) = nth l t + 2 * Nb.bval ((l.drop (t + 1)).take (top - (t + 1))) := by
  rw [Nb.drop_cons ht, show top - t = (top - (t + 1)) + 1 by omega, List.take_succ_cons, Nb.bval_cons]; rfl
theorem bn_small {l : List Nat} {top s k : Nat} (hw : Nb.Wb l) (hk : s < k) (ht : top ≤ s + 32) : Nb.bval ((l.drop k).take (top - k)) < 2147483648 := by
  have hb := Nb.bval_lt ((hw.drop k).take (top - k))
  have hlen : ((l.drop k).take (top - k)).length ≤ 31 := by simp; omega
  exact Nat.lt_of_lt_of_le hb (Nat.le_trans (Nat.pow_le_pow_right (by omega) hlen) (by omega))

def BnSt (w wr : World) (g cp : Nat) (l : List Nat) (j : Nat) : Prop := ∃ X, BnInv l j X ∧ Ow wr w.heap.size g j cp X ∧ Below w.heap.size w wr

/-- the number of the bits from k to top -/
def Dig (l : List Nat) (top k y : Nat) : Prop := y = Nb.bval ((l.drop k).take (top - k))
set_option maxHeartbeats 4000000 in
theorem rbinary_some (l : List Nat) (c n b o : Nat) (w : World) (hr : Hid (b < w.heap.size ∧ ∀ j, j < n → w.cell? ⟨b, o + j, none⟩ = some (.int .i64 ((nth l j : Nat) : Int)))) (hw : Hid (Nb.Wb l)) (hl : Hid (l.length = n)) (hn : n ≤ 100000) :
    Calls Try.prog 52 #[.slice (some ⟨b, o, none⟩) n c] w (Gives1 w (Nb.bval l)) := by
  have HP : Hid (BnSt w (w.alloc (.cells #[] 41)) w.heap.size 0 l 0) := ⟨[], BnInv.start l, own_empty w, (Below.refl _ _).alloc (Nat.le_refl _) _⟩
  go_enter Try.func52, Try.ntmps52
  go_wp2_with fail
  go_loopw [3, 4] (fun v i wr => ∃ (j s g cp : Nat), Hid (s = 32 * j) ∧ s < n + 32 ∧ j ≤ s ∧ i = .int .i64 s ∧ v = .slice (some ⟨g, 0, none⟩) j cp ∧ Hid (BnSt w wr g cp l j)) (fun _ i _ => n + 32 - (intOf i).toNat)
  case atStart => exact ⟨0, 0, _, _, rfl, by omega, by omega, rfl, rfl, HP⟩
  case round =>
    obtain ⟨j, s, g, cp, hs, hs1, hjs, rfl, rfl, hst⟩ := hrel
    by_cases hlt : s < n
    · obtain ⟨wo, hwo⟩ : ∃ wo : World, wo = wr := ⟨_, rfl⟩
      subst hwo
      by_cases hmin : n ≤ s + 32
      · obtain ⟨top, htop⟩ : ∃ top, top = n := ⟨_, rfl⟩
        subst htop
        have htop32 : top ≤ s + 32 := hmin
        go_wp2_with fail
        go_loopw [5, 6] (fun x i wr => ∃ (k y : Nat) (z : Int), s ≤ k ∧ k ≤ top ∧ z = (k : Int) - 1 ∧ i = .int .i64 z ∧ x = .int .u32 y ∧ y < 4294967296 ∧ Hid (Dig l top k y) ∧ Hid (BnSt w wr g cp l j)) (fun _ i _ => (intOf i + 1).toNat)
        case atStart => exact ⟨top, 0, _, by omega, Nat.le_refl _, by omega, rfl, rfl, by omega, show _ = _ by rw [Nat.sub_self]; rfl, hst⟩
        case round =>
          obtain ⟨k, y, z, hk1, hk2, hz, rfl, rfl, hy, hdig, hst⟩ := hrel
          by_cases hlt2 : s < k
          · obtain ⟨t, ht⟩ : ∃ t, t = k - 1 := ⟨_, rfl⟩
            obtain rfl : z = (t : Int) := by omega
            obtain rfl : k = t + 1 := by omega
            obtain ⟨X, hi, ho, hbl⟩ := hst.out
            clear hi ho
            have c1 : wr.cell? ⟨b, o + t, none⟩ = some (.int .i64 ((nth l t : Nat) : Int)) := (hbl.cell hr.out.1).trans (hr.out.2 t (by omega))
            have hd1 : y < 2147483648 := by rw [show y = _ from hdig.out]; exact bn_small hw.out hlt2 htop32
            have hb1 : nth l t < 2 := hw.out.getD t
            have hdn : Hid (Dig l top t (nth l t + 2 * y)) := show _ = _ by rw [bn_digit (by rw [hl.out]; omega) (by omega), ← show y = _ from hdig.out]
            obtain ⟨u, hu⟩ : ∃ u, nth l t = u := ⟨_, rfl⟩
            rw [hu] at c1 hb1 hdn
            clear hu
            clear hz ht
            go_wp2_with fail
            go_roundw
            case rel => exact ⟨t, u + 2 * y, (t : Int) - 1, by omega, by omega, rfl, by go_num, by go_num, by omega, hdn, hst⟩
            case measure => simp [intOf] <;> omega
          · obtain rfl : k = s := by omega
            clear hlt2
            obtain ⟨X, hi, ho, hbl⟩ := hst.out
            have HI : Hid (BnInv l (j + 1) (X ++ [y])) := by
              have h1 := hi.step hs.out (by rw [hl.out]; omega) (show top = min l.length (k + 32) by rw [hl.out]; omega) hw.out
              rw [← show y = _ from hdig.out] at h1
              exact h1
            have HO := Lib.hid ho
            clear hi ho
            have hb3 := hbl.alloc hbl.size (.cells #[.int .u32 (y : Int)] 41)
            have hz2 : ¬ (k : Int) ≤ z := by omega
            have hz3 : z < (k : Int) := by omega
            clear hz
            go_wp2_with (first
              | (at_builtin; refine wpList_append_rd _ rfl _ _ 23 23 rfl Try.underlying23 Try.underlying23 w.heap.size _ j X [y] rfl (HO.out.alloc _) _ _ 1 1 rfl (bk_rd_one wr) rfl (by omega) hb3.size ?_; intro v3 w3 hown3 hg3; have hg4 : (wr.alloc (.cells #[.int .u32 (y : Int)] 41)).grownBy w3 (some g) := hg3; clear hg3; have hb4 := hb3.grown hg4 hb3.size (fun q hq => by injection hq with hq; rw [← hq]; exact HO.out.base.1); obtain ⟨g3, c3, rfl, hown4⟩ := own_form hown3 (Nat.succ_pos _); have HO4 := Lib.hid hown4; clear hown3 hown4))
            go_roundw
            case rel => exact ⟨j + 1, k + 32, g3, c3, show _ = _ by rw [show k = _ from hs.out, Nat.mul_add], by omega, by omega, by go_num, rfl, ⟨_, HI.out, HO4.out, hb4⟩⟩
            case measure => simp [intOf]; omega
      · obtain ⟨top, htop⟩ : ∃ top, top = s + 32 := ⟨_, rfl⟩
        have htop32 : top ≤ s + 32 := by omega
        have etop : (s : Int) + 32 = (top : Int) := by omega
        have hmin2 : ¬ (n : Int) ≤ (top : Int) := by omega
        have htn : top < n := by omega
        have HTOP := Lib.hid htop
        clear hmin htop
        go_wp2_with fail
        go_loopw [5, 6] (fun x i wr => ∃ (k y : Nat) (z : Int), s ≤ k ∧ k ≤ top ∧ z = (k : Int) - 1 ∧ i = .int .i64 z ∧ x = .int .u32 y ∧ y < 4294967296 ∧ Hid (Dig l top k y) ∧ Hid (BnSt w wr g cp l j)) (fun _ i _ => (intOf i + 1).toNat)
        case atStart => exact ⟨top, 0, _, by omega, Nat.le_refl _, by omega, rfl, rfl, by omega, show _ = _ by rw [Nat.sub_self]; rfl, hst⟩
        case round =>
          obtain ⟨k, y, z, hk1, hk2, hz, rfl, rfl, hy, hdig, hst⟩ := hrel
          by_cases hlt2 : s < k
          · obtain ⟨t, ht⟩ : ∃ t, t = k - 1 := ⟨_, rfl⟩
            obtain rfl : z = (t : Int) := by omega
            obtain rfl : k = t + 1 := by omega
            obtain ⟨X, hi, ho, hbl⟩ := hst.out
            clear hi ho
            have c1 : wr.cell? ⟨b, o + t, none⟩ = some (.int .i64 ((nth l t : Nat) : Int)) := (hbl.cell hr.out.1).trans (hr.out.2 t (by omega))
            have hd1 : y < 2147483648 := by rw [show y = _ from hdig.out]; exact bn_small hw.out hlt2 htop32
            have hb1 : nth l t < 2 := hw.out.getD t
            have hdn : Hid (Dig l top t (nth l t + 2 * y)) := show _ = _ by rw [bn_digit (by rw [hl.out]; omega) (by omega), ← show y = _ from hdig.out]
            obtain ⟨u, hu⟩ : ∃ u, nth l t = u := ⟨_, rfl⟩
            rw [hu] at c1 hb1 hdn
            clear hu
            clear hz ht
            go_wp2_with fail
            go_roundw
            case rel => exact ⟨t, u + 2 * y, (t : Int) - 1, by omega, by omega, rfl, by go_num, by go_num, by omega, hdn, hst⟩
            case measure => simp [intOf] <;> omega
          · obtain rfl : k = s := by omega
            clear hlt2
            obtain ⟨X, hi, ho, hbl⟩ := hst.out
            have HI : Hid (BnInv l (j + 1) (X ++ [y])) := by
              have h1 := hi.step hs.out (by rw [hl.out]; omega) (show top = min l.length (k + 32) by rw [hl.out]; have := HTOP.out; omega) hw.out
              rw [← show y = _ from hdig.out] at h1
              exact h1
            have HO := Lib.hid ho
            clear hi ho
            have hb3 := hbl.alloc hbl.size (.cells #[.int .u32 (y : Int)] 41)
            have hz2 : ¬ (k : Int) ≤ z := by omega
            have hz3 : z < (k : Int) := by omega
            clear hz
            go_wp2_with (first
              | (at_builtin; refine wpList_append_rd _ rfl _ _ 23 23 rfl Try.underlying23 Try.underlying23 w.heap.size _ j X [y] rfl (HO.out.alloc _) _ _ 1 1 rfl (bk_rd_one wr) rfl (by omega) hb3.size ?_; intro v3 w3 hown3 hg3; have hg4 : (wr.alloc (.cells #[.int .u32 (y : Int)] 41)).grownBy w3 (some g) := hg3; clear hg3; have hb4 := hb3.grown hg4 hb3.size (fun q hq => by injection hq with hq; rw [← hq]; exact HO.out.base.1); obtain ⟨g3, c3, rfl, hown4⟩ := own_form hown3 (Nat.succ_pos _); have HO4 := Lib.hid hown4; clear hown3 hown4))
            go_roundw
            case rel => exact ⟨j + 1, k + 32, g3, c3, show _ = _ by rw [show k = _ from hs.out, Nat.mul_add], by omega, by omega, by go_num, rfl, ⟨_, HI.out, HO4.out, hb4⟩⟩
            case measure => simp [intOf]; omega
    · obtain ⟨X, hi, ho, hbl⟩ := hst.out
      have hX : Hid (X.length = j) := hi.len
      have hW : Hid (Wf X) := hi.wf
      have hv : Hid (val X = Nb.bval l) := show val X = Nb.bval l by
        rw [hi.eq, List.take_of_length_le (by rw [hl.out, ← show s = _ from hs.out]; omega)]
      obtain ⟨A1, c1, he, hc1, hl1, hr1⟩ := own_rd ho
      have HR1 := Lib.hid hr1
      injection he with he1 he2 he3
      subst he1
      subst he3
      clear hr1 hl1 he2 hi ho
      have HBL := Lib.hid hbl
      go_wp2_with (first
        | (go_at_call 53; refine (rtrim_any cp j HR1.out hW.out hX.out (by omega) hc1).mono ?_; rintro e w' ⟨rfl, rfl⟩))
      go_ret
      rw [hv.out]
      refine ⟨_, rfl, ⟨_, _, rfl, ?_, ?_⟩, HBL.out⟩
      · have h2 := congrArg List.length (dg_val_take hW.out)
        rw [List.length_take, hv.out, hX.out] at h2; omega
      · have h3 := HR1.out.dg hW.out
        rw [hv.out] at h3
        exact h3

end Go.Proofs.Ytogmgomcdhfolaa
