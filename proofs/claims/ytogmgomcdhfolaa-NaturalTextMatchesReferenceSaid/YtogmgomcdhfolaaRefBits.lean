/-
  The reference's Bits and binary: a number's binary digits, and back.
-/
import Derived.Test.YtogmgomcdhfolaaIMem
import Derived.Test.YtogmgomcdhfolaaBits
namespace Go.Proofs.Ytogmgomcdhfolaa
open Go.RowKit Nt

/-- the row of bits while it grows: i limbs and k bits of the next one are done -/
def BiSt (w wr : World) (g cp : Nat) (l : List Nat) (i k : Nat) : Prop := II.Ow wr w.heap.size g (32 * i + k) cp (Nb.bits (l.take i) ++ Nb.lb (nth l i) k) ∧ Below w.heap.size w wr

def ShN (y x j : Nat) : Prop := y = x / 2 ^ j
theorem BiSt.next {w wr : World} {g cp i : Nat} {l : List Nat} (h : BiSt w wr g cp l i 32) (hi : i < l.length) : BiSt w wr g cp l (i + 1) 0 := by
  obtain ⟨h1, h2⟩ := h
  refine ⟨?_, h2⟩
  rw [take_snoc hi, Nb.bits_snoc]
  simpa [Nb.lb, Nat.mul_add, nth] using h1

set_option maxHeartbeats 2000000 in
theorem rbits_any (l : List Nat) (c n : Nat) (A : Option Addr) (w : World) (hr : Hid (Rd w w.heap.size A l)) (hw : Hid (Wf l)) (hl : Hid (l.length = n)) (hn : n ≤ 2000) :
    Calls Try.prog 51 #[.slice A n c] w (fun e w' => ∃ g cp, e = .returned (.slice (some ⟨g, 0, none⟩) (32 * n) cp) ∧ Hid (II.Ow w' w.heap.size g (32 * n) cp (Nb.bits l)) ∧ Below w.heap.size w w') := by
  have HP : Hid (BiSt w (w.alloc (.cells #[] 3)) w.heap.size 0 l 0 0) := ⟨II.own_empty w, (Below.refl _ _).alloc (Nat.le_refl _) _⟩
  go_enter Try.func51, Try.ntmps51
  go_wp2_with fail
  go_loopw [3, 4] (fun v i wr => ∃ (k g cp : Nat), k ≤ n ∧ i = .int .i64 k ∧ v = .slice (some ⟨g, 0, none⟩) (32 * k) cp ∧ Hid (BiSt w wr g cp l k 0)) (fun _ i _ => n - (intOf i).toNat)
  case atStart => exact ⟨0, _, _, by omega, rfl, rfl, HP⟩
  case round =>
    obtain ⟨k, g, cp, hk, rfl, rfl, hst⟩ := hrel
    by_cases hlt : k < n
    · obtain ⟨b, o, rfl, hbB, hcells⟩ := hr.out (by rw [hl.out]; omega)
      have c1 : wr.cell? ⟨b, o + k, none⟩ = some (.int .u32 ((nth l k : Nat) : Int)) := (hst.out.2.cell hbB).trans (hcells k (by rw [hl.out]; exact hlt))
      clear hcells
      have hx := nth_lt hw.out k
      obtain ⟨wo, hwo⟩ : ∃ wo : World, wo = wr := ⟨_, rfl⟩
      subst hwo
      go_wp2_with fail
      go_loopw [3, 5, 6] (fun v x i wr => ∃ (j y g cp : Nat), j ≤ 32 ∧ y < 4294967296 ∧ i = .int .i64 j ∧ x = .int .u32 y ∧ v = .slice (some ⟨g, 0, none⟩) (32 * k + j) cp ∧ Hid (BiSt w wr g cp l k j) ∧ Hid (ShN y (nth l k) j)) (fun _ _ i _ => 32 - (intOf i).toNat)
      case atStart => exact ⟨0, _, _, _, by omega, hx, rfl, rfl, rfl, hst, show _ = _ by rw [Nat.pow_zero, Nat.div_one]⟩
      case round =>
        obtain ⟨j, y, g, cp, hj, hy, rfl, rfl, rfl, hst, hyv⟩ := hrel
        by_cases hlt2 : j < 32
        · obtain ⟨z, hz⟩ : ∃ z, z = y % 2 := ⟨_, rfl⟩
          obtain ⟨y2, hy2⟩ : ∃ y2, y2 = y / 2 := ⟨_, rfl⟩
          have ez : (y : Int) % 2 = (z : Int) := by omega
          have ey : (y : Int) / 2 = (y2 : Int) := by omega
          have hz1 : z < 2 := by omega
          have hy3 : y2 < 4294967296 := by omega
          have HZ : Hid (z = nth l k / 2 ^ j % 2) := show z = _ by rw [hz, show y = _ from hyv.out]
          have HY : Hid (ShN y2 (nth l k) (j + 1)) := show y2 = _ by rw [hy2, show y = _ from hyv.out, Nat.pow_succ, Nat.div_div_eq_div_mul]
          clear hz hy2
          have HO := Lib.hid hst.out.1
          have hbl := hst.out.2
          have hb3 := hbl.alloc hbl.size (.cells #[.int .i64 (z : Int)] 3)
          go_wp2_with (first
            | (at_builtin; refine II.wpList_append_rd _ rfl _ _ 63 63 rfl Try.underlying63 Try.underlying63 w.heap.size _ (32 * k + j) _ [z] rfl (HO.out.alloc _) _ _ 1 1 rfl (II.bk_rd_one wr) rfl (by omega) hb3.size ?_; intro v3 w3 hown3 hg3; have hg4 : (wr.alloc (.cells #[.int .i64 (z : Int)] 3)).grownBy w3 (some g) := hg3; clear hg3; have hb4 := hb3.grown hg4 hb3.size (fun q hq => by injection hq with hq; rw [← hq]; exact HO.out.base.1); obtain ⟨g3, c3, rfl, hown4⟩ := II.own_form hown3 (Nat.succ_pos _); have HO4 := Lib.hid hown4; clear hown3 hown4))
          go_roundw
          case rel => exact ⟨j + 1, y2, g3, c3, by omega, hy3, by go_num, rfl, by rw [Nat.add_assoc], ⟨by have h := HO4.out; rw [HZ.out, List.append_assoc] at h; exact h, hb4⟩, HY⟩
          case measure => simp [intOf]; omega
        · obtain rfl : j = 32 := by omega
          clear hlt2
          have HNX : Hid (BiSt w wr g cp l (k + 1) 0) := hst.out.next (by rw [hl.out]; exact hlt)
          go_wp2_with fail
          go_roundw
          case rel => exact ⟨k + 1, g, cp, by omega, by go_num, by rw [Nat.mul_add], HNX⟩
          case measure => simp [intOf]; omega
    · obtain rfl : k = n := by omega
      clear hlt
      go_wp2_with fail
      go_ret
      refine ⟨g, cp, rfl, ?_, hst.out.2⟩
      have h := hst.out.1
      rw [List.take_of_length_le (by rw [hl.out]; exact Nat.le_refl _)] at h
      show II.Ow wr w.heap.size g (32 * k) cp (Nb.bits l)
      simpa [Nb.lb] using h

end Go.Proofs.Ytogmgomcdhfolaa
