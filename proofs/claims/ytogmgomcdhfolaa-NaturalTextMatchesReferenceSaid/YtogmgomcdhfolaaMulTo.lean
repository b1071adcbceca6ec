/-
  natural.addMultiple: a multiple of a number is added to a part of a block.
-/
import Derived.Test.YtogmgomcdhfolaaSubFrom
namespace Go.Proofs.Ytogmgomcdhfolaa
open Go.RowKit Nt

/-- what addMultiple leaves -/
def Mulled (w : World) (g o n : Nat) (L M : List Nat) (f : Nat) (e : Ending) (w' : World) : Prop :=
  ∃ X c, e = .returned (.int .u32 ((c : Nat) : Int)) ∧ X.length = n ∧ Wf X ∧ c < 4294967296 ∧ val X + 4294967296 ^ n * c = val ((L.drop o).take n) + f * val M ∧ Bk w' g (splice L o X) ∧ Upd g w w'

def MulSt (w wr : World) (g o n : Nat) (L M : List Nat) (f k c : Nat) : Prop :=
  ∃ X, MulInv ((L.drop o).take n) M f k X c ∧ Bk wr g (splice L o X) ∧ Upd g w wr

section
variable {w wr : World} {g o n k q f : Nat} {L M : List Nat}
theorem MulSt.start (h : Bk w g L) : MulSt w w g o n L M f 0 0 := ⟨[], MulInv.start _ _ _, by rw [splice_zero]; exact h, Upd.refl _ _⟩
theorem MulSt.cell (h : MulSt w wr g o n L M f k q) (hon : o + n ≤ L.length) (hk : k < n) : wr.cell? ⟨g, o + k, none⟩ = some (.int .u32 ((nth L (o + k) : Nat) : Int)) := by
  obtain ⟨X, hi, hb, _⟩ := h
  have hl := hi.len
  rw [hb.cell (by rw [length_spl (by omega)]; omega), nth_spl (by omega) (by omega)]
theorem MulSt.frozen (h : MulSt w wr g o n L M f k q) (i : Nat) : wr.frozen? ⟨g, i, none⟩ = false := by
  obtain ⟨X, _, hb, _⟩ := h
  exact hb.frozen i
theorem MulSt.far (h : MulSt w wr g o n L M f k q) {a : Addr} (ha : a.block ≠ g) : wr.cell? a = w.cell? a := by
  obtain ⟨X, _, _, hu⟩ := h
  exact hu.cell ha
theorem MulSt.step (h : MulSt w wr g o n L M f k q) (hL : Wf L) (hM : Wf M) (hf : f < 4294967296) (hon : o + n ≤ L.length) (hk : k < n) (d : Nat) {p : Nat} (hp : nth M k * f = p) :
    MulSt w ((wr.setCell ⟨g, o + k, none⟩ (.int .u32 (((p : Int) + (nth L (o + k) : Int) + (q : Int)) % 4294967296))).drewN d) g o n L M f (k + 1) ((p + nth L (o + k) + q) / 4294967296) := by
  obtain ⟨X, hi, hb, hu⟩ := h
  have hl := hi.len
  have e : ((p : Int) + (nth L (o + k) : Int) + (q : Int)) % 4294967296 = (((p + nth L (o + k) + q) % 4294967296 : Nat) : Int) := by omega
  have hs := hi.step ((hL.drop o).take n) hM hf
  rw [nth_sub hk, hp] at hs
  refine ⟨_, hs, ?_, (hu.set_ _ _).drewN d⟩
  rw [e]
  have := hb.set_ (o + k) ((p + nth L (o + k) + q) % 4294967296)
  rw [← hl, spl_set _ (by omega), hl] at this
  exact this.drewN d
theorem MulSt.done (h : MulSt w wr g o n L M f n q) (hon : o + n ≤ L.length) (hm : M.length = n) :
    Mulled w g o n L M f (.returned (.int .u32 ((q : Nat) : Int))) wr := by
  obtain ⟨X, hi, hb, hu⟩ := h
  have q2 := hi.eq
  have hn : ((L.drop o).take n).length = n := by simp; omega
  rw [List.take_of_length_le (l := (L.drop o).take n) (by omega), List.take_of_length_le (l := M) (by omega)] at q2
  exact ⟨X, q, rfl, hi.len, hi.wf, by have := hi.c1; omega, q2, hb, hu⟩
end

set_option maxHeartbeats 2000000 in
set_option maxRecDepth 100000 in
theorem addMultiple_some (g o n c b p d f : Nat) (L M : List Nat) (w : World) (hL : Hid (Wf L)) (hM : Hid (Wf M)) (hml : Hid (M.length = n)) (hn : n ≤ 1000000) (hf : f < 4294967296)
    (hon : Hid (o + n ≤ L.length)) (hbk : Hid (Bk w g L)) (hbg : Hid (b ≠ g ∧ ∀ j, j < n → w.cell? ⟨b, p + j, none⟩ = some (.int .u32 ((nth M j : Nat) : Int)))) :
    Calls Try.prog 48 #[.slice (some ⟨g, o, none⟩) n c, .slice (some ⟨b, p, none⟩) n d, .int .u32 (f : Int)] w (Mulled w g o n L M f) := by
  go_enter Try.func48, Try.ntmps48
  go_wp2
  go_loopw [7, 12] (fun s i wr => ∃ k q : Nat, k ≤ n ∧ i = .int .i64 k ∧ q ≤ 4294967295 ∧ s = .int .u64 q ∧ Hid (MulSt w wr g o n L M f k q)) (fun _ i _ => n - (intOf i).toNat)
  case atStart => exact ⟨0, 0, Nat.zero_le _, rfl, by omega, rfl, MulSt.start hbk.out⟩
  case round =>
    obtain ⟨k, q, hk, rfl, hq, rfl, hst⟩ := hrel
    by_cases hlt : k < n
    · have hx : nth L (o + k) < 4294967296 := nth_lt hL.out _
      have hy : nth M k < 4294967296 := nth_lt hM.out _
      obtain ⟨t, ht⟩ : ∃ t, nth M k * f = t := ⟨_, rfl⟩
      have hle : t ≤ 18446744065119617025 := by rw [← ht]; exact mul_bound hy hf
      have hte : (nth M k : Int) * (f : Int) = (t : Int) := by rw [← ht]; exact (Int.natCast_mul _ _).symm
      have HT := Lib.hid ht
      clear ht
      have c1 : wr.cell? ⟨g, o + k, none⟩ = some (.int .u32 ((nth L (o + k) : Nat) : Int)) := hst.out.cell hon.out (by omega)
      have c2 : wr.cell? ⟨b, p + k, none⟩ = some (.int .u32 ((nth M k : Nat) : Int)) := by
        obtain ⟨hne, hc⟩ := hbg.out
        exact (hst.out.far hne).trans (hc k hlt)
      have f1 : wr.frozen? ⟨g, o + k, none⟩ = false := hst.out.frozen _
      have i1 : (0 : Int) ≤ (k : Int) := by omega
      have i2 : (k : Int) < (n : Int) := by omega
      go_wp2
      go_quiet (fail)
      go_wp2
      clear c1 c2 f1
      go_roundw
      case rel => exact ⟨k + 1, (t + nth L (o + k) + q) / 4294967296, by omega, by go_num, by omega, by go_num, hst.out.step hL.out hM.out hf hon.out (by omega) _ HT.out⟩
      case measure => simp [intOf]; omega
    · go_wp2
      go_ret
      obtain rfl : k = n := by omega
      exact hst.out.done hon.out hml.out

end Go.Proofs.Ytogmgomcdhfolaa
