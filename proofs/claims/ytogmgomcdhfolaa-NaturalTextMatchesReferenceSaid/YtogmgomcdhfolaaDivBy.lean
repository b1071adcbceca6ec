/-
  natural.divideBy: a number is divided by one limb, in place.
-/
import Derived.Test.YtogmgomcdhfolaaSubFrom
namespace Go.Proofs.Ytogmgomcdhfolaa
open Go.RowKit Nt

/-- the top i limbs are divided -/
structure DivInv (S : List Nat) (d i : Nat) (Q : List Nat) (r : Nat) : Prop where
  len : Q.length = i
  wf : Wf Q
  lt : r < d
  eq : val (S.drop (S.length - i)) = val Q * d + r
theorem DivInv.start (S : List Nat) {d : Nat} (hd : 0 < d) : DivInv S d 0 [] 0 := ⟨rfl, wf_nil, hd, by simp [val]⟩
theorem drop_nth {S : List Nat} {k : Nat} (h : k < S.length) : S.drop k = nth S k :: S.drop (k + 1) := by
  rw [List.drop_eq_getElem_cons h, nth_getElem h]
theorem DivInv.step {S : List Nat} {d i k : Nat} {Q : List Nat} {r : Nat} (h : DivInv S d i Q r) (hS : Wf S) (hk : k + 1 + i = S.length) :
    DivInv S d (i + 1) (quoL r (nth S k) d :: Q) (remL r (nth S k) d) := by
  have h1 := nth_lt hS k
  refine ⟨by simp [h.len], wf_cons.2 ⟨quoL_lt h1 h.lt, h.wf⟩, remL_lt h.lt, ?_⟩
  have e1 : S.length - (i + 1) = k := by omega
  have e2 : S.length - i = k + 1 := by omega
  have q := h.eq
  rw [e2] at q
  rw [e1, drop_nth (by omega), val_cons, val_cons]
  exact div_step q

/-- what divideBy leaves -/
def Dived (w : World) (g n : Nat) (L : List Nat) (d : Nat) (e : Ending) (w' : World) : Prop :=
  ∃ Q r, e = .returned (.int .u32 ((r : Nat) : Int)) ∧ Q.length = n ∧ Wf Q ∧ r < d ∧ val (L.take n) = val Q * d + r ∧ Bk w' g (splice L 0 Q) ∧ Upd g w w'
def DivSt (w wr : World) (g n : Nat) (L : List Nat) (d i r : Nat) : Prop :=
  ∃ Q, DivInv (L.take n) d i Q r ∧ Bk wr g (splice L (n - i) Q) ∧ Upd g w wr

section
variable {w wr : World} {g n i k r d : Nat} {L : List Nat}
theorem DivSt.start (h : Bk w g L) (hd : 0 < d) : DivSt w w g n L d 0 0 := ⟨[], DivInv.start _ hd, by rw [splice_zero]; exact h, Upd.refl _ _⟩
theorem DivSt.lt (h : DivSt w wr g n L d i r) : r < d := by
  obtain ⟨Q, hi, _⟩ := h; exact hi.lt
theorem DivSt.cell (h : DivSt w wr g n L d i r) (hn : n ≤ L.length) (hk : k + 1 + i = n) : wr.cell? ⟨g, k, none⟩ = some (.int .u32 ((nth L k : Nat) : Int)) := by
  obtain ⟨Q, hi, hb, _⟩ := h
  have hl := hi.len
  rw [hb.cell (by rw [length_spl (by omega)]; omega), nth_spl_before (by omega) (by omega)]
theorem DivSt.frozen (h : DivSt w wr g n L d i r) (j : Nat) : wr.frozen? ⟨g, j, none⟩ = false := by
  obtain ⟨Q, _, hb, _⟩ := h
  exact hb.frozen j
theorem spl_set_front {L Q : List Nat} {k : Nat} (x : Nat) (h : k + 1 + Q.length ≤ L.length) : (splice L (k + 1) Q).set k x = splice L k (x :: Q) := by
  unfold splice
  rw [List.set_append_left _ _ (by simp; omega), take_snoc (by omega), List.set_append_right _ _ (by simp; omega)]
  have e : k - (L.take k).length = 0 := by simp; omega
  rw [e]
  simp [Nat.add_assoc, Nat.add_comm 1]
theorem DivSt.step (h : DivSt w wr g n L d i r) (hL : Wf L) (hn : n ≤ L.length) (hk : k + 1 + i = n) (m : Nat) :
    DivSt w ((wr.setCell ⟨g, k, none⟩ (.int .u32 ((quoL r (nth L k) d : Nat) : Int))).drewN m) g n L d (i + 1) (remL r (nth L k) d) := by
  obtain ⟨Q, hi, hb, hu⟩ := h
  have hl := hi.len
  have hlt : (L.take n).length = n := by rw [List.length_take]; omega
  have hs := hi.step (k := k) (hL.take n) (by omega)
  rw [nth_take (by omega)] at hs
  refine ⟨_, hs, ?_, (hu.set_ _ _).drewN m⟩
  have := hb.set_ k (quoL r (nth L k) d)
  rw [show n - i = k + 1 by omega, spl_set_front _ (by omega)] at this
  rw [show n - (i + 1) = k by omega]
  exact this.drewN m
theorem DivSt.done (h : DivSt w wr g n L d n r) (hn : n ≤ L.length) : Dived w g n L d (.returned (.int .u32 ((r : Nat) : Int))) wr := by
  obtain ⟨Q, hi, hb, hu⟩ := h
  have hlt : (L.take n).length = n := by rw [List.length_take]; omega
  have q := hi.eq
  rw [hlt, Nat.sub_self, List.drop_zero] at q
  rw [Nat.sub_self] at hb
  exact ⟨Q, r, rfl, hi.len, hi.wf, hi.lt, q, hb, hu⟩
end

set_option maxHeartbeats 1000000 in
theorem divideBy_any (g n c d : Nat) (L : List Nat) (w : World) (hL : Hid (Wf L)) (hn : Hid (n ≤ L.length)) (hn2 : n ≤ 1000000) (hbk : Hid (Bk w g L)) (hd0 : 0 < d) (hd : d < 4294967296) :
    Calls Try.prog 49 #[.slice (some ⟨g, 0, none⟩) n c, .int .u32 (d : Int)] w (Dived w g n L d) := by
  go_enter Try.func49, Try.ntmps49
  go_wp2
  go_loopw [5, 10] (fun s i wr => ∃ k r : Nat, k ≤ n ∧ i = .int .i64 k ∧ r < d ∧ s = .int .u32 r ∧ Hid (DivSt w wr g n L d k r)) (fun _ i _ => n - (intOf i).toNat)
  case atStart => exact ⟨0, 0, Nat.zero_le _, rfl, hd0, rfl, DivSt.start hbk.out hd0⟩
  case round =>
    obtain ⟨k, r, hk, rfl, hr, rfl, hst⟩ := hrel
    by_cases hlt : k < n
    · obtain ⟨t, ht⟩ : ∃ t, t = n - 1 - k := ⟨_, rfl⟩
      have ht1 : t < n := by omega
      have ht2 : t + 1 + k = n := by omega
      have ht3 : (n : Int) - 1 - (k : Int) = (t : Int) := by omega
      have HT2 := Lib.hid ht2
      clear ht2 ht
      have hx : nth L t < 4294967296 := nth_lt hL.out _
      have c1 : wr.cell? ⟨g, t, none⟩ = some (.int .u32 ((nth L t : Nat) : Int)) := hst.out.cell hn.out HT2.out
      have f1 : wr.frozen? ⟨g, t, none⟩ = false := hst.out.frozen _
      have i1 : (0 : Int) ≤ (t : Int) := by omega
      have i2 : (t : Int) < (n : Int) := by omega
      go_wp2_with (go_at_call 63; refine (div32 _ _ _ _ hx hd hr).mono ?_; rintro e w' ⟨rfl, nq, rfl⟩)
      clear c1 f1
      go_roundw
      case rel => exact ⟨k + 1, remL r (nth L t) d, by omega, by go_num, remL_lt hr, rfl, hst.out.step hL.out hn.out HT2.out _⟩
      case measure => simp [intOf]; omega
    · go_wp2
      go_ret
      obtain rfl : k = n := by omega
      exact hst.out.done hn.out

end Go.Proofs.Ytogmgomcdhfolaa
