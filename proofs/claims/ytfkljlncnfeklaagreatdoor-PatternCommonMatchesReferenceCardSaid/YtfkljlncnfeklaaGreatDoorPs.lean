/-
  Plain mathematics and contracts of package diagram, several texts in one: XKi.
-/
import Derived.Test.YtfkljlncnfeklaaGreatDoorPq
import Derived.Test.YtfkljlncnfeklaaGreatDoorPr
import Derived.Test.YtfkljlncnfeklaaGreatDoorPl

/-! The calls of the laws in one form: what stays (Ky), and each contract at patterns that are expressions in postorder. -/
namespace Go.Proofs.YtfkljlncnfeklaaGreatDoor
open Go.RowKit Go.Shelf
set_option linter.unusedVariables false
set_option linter.unusedSimpArgs false
attribute [local go_sem ↓] Go.wp_at_zero Go.wp_at_succ

/-- what a law's walk keeps -/
structure Ky (w W : World) : Prop where
  b : Below w.heap.size w W
  t : Tz W
  s : 2 < W.heap.size
theorem Ky.later {w W W' : World} (h : Hid (Ky w W)) (hb : Hid (Below W.heap.size W W')) : Hid (Ky w W') :=
  lid' ⟨h.out.b.trans (hb.out.mono h.out.b.size), (Tz.below (lid' h.out.t) hb.out h.out.s).out, Nat.lt_of_lt_of_le h.out.s hb.out.size⟩
theorem Ky.first {w : World} (ht : Tz w) (hs : 2 < w.heap.size) : Hid (Ky w w) := lid' ⟨Below.refl _ w, ht, hs⟩
theorem Rp.lat {w w' : World} {A : Option Addr} {l : List Pn} (hr : Hid (Rp w w.heap.size A l)) (hb : Hid (Below w.heap.size w w')) : Hid (Rp w' w'.heap.size A l) := Rp.later hr hb.out
theorem maP_iff {r : Rx} (h : r.by8) (hl : r.nn ≤ 512) (s : List UInt8) : maP (r.po []) s = true ↔ r.mt s := by
  unfold maP
  rw [if_pos (sy_ok h hl), rxPo]
  simp only [decide_eq_true_eq]
  exact mt_lng r s
theorem maP_not {r : Rx} (h : r.by8) (hl : r.nn ≤ 512) {s : List UInt8} (hn : ¬ r.mt s) : maP (r.po []) s = false := by
  rw [Bool.eq_false_iff]
  exact fun e => hn ((maP_iff h hl s).1 e)
theorem kp_san (w W : World) (hk : Hid (Ky w W)) : Calls Tryz.prog 6 #[] W fun e w' => e = .returned (.bool true) ∧ Hid (Below W.heap.size W w') :=
  (psanity_ok W (lid' hk.out.t) hk.out.s).mono fun e w' h => ⟨h.1, lid' h.2⟩
theorem kp_made (w W : World) (hk : Hid (Ky w W)) (A : Option Addr) (c nn most : Nat) (l : List Nat) (h8 : Hid (B8 w w.heap.size A nn l)) (hnn : nn ≤ 9223372036854775807) (hn1 : 1 ≤ most) (hn2 : most ≤ 64) (z : Int) (hz : z = (most : Int)) :
    Calls Tryz.prog 7 #[.slice A nn c, .int .i64 z] W fun e w' => ∃ A' c', e = .returned (.slice A' ((madeR l most).po []).length c') ∧ Hid (Rp w' w'.heap.size A' ((madeR l most).po [])) ∧ Hid (Below W.heap.size W w') :=
  by
  subst hz
  exact (rmade_any A c nn most l W (B8.later h8 hk.out.b) hnn hn1 hn2).mono fun e w' h => by
    obtain ⟨A', c', h1, h2⟩ := h
    obtain ⟨A2, c2, e2, hr⟩ := rp_own h2.out.1 rfl
    cases e2
    exact ⟨A', c', h1, lid' hr, lid' h2.out.2⟩
theorem kp_common (w W : World) (hk : Hid (Ky w W)) (a b : Rx) (ha : a.by8) (hb : b.by8) (hla : a.nn ≤ 512) (hlb : b.nn ≤ 512) (A A' : Option Addr) (c c' : Nat) (hr : Hid (Rp W W.heap.size A (a.po []))) (hr' : Hid (Rp W W.heap.size A' (b.po []))) :
    Calls Tryz.prog 21 #[.slice A (a.po []).length c, .slice A' (b.po []).length c'] W fun e w' => ∃ (s : List UInt8) (z : Int), e = .returned (.tuple #[.string ⟨s.toArray⟩, .int .i64 z]) ∧ Hid (CmR a b s z) ∧ Hid (Below W.heap.size W w') :=
  (common_any A A' _ c _ c' (a.po []) (b.po []) W (lid' rfl) (lid' rfl) hr hr' (lid' hk.out.t) hk.out.s).mono fun e w' h => by
    obtain ⟨s, z, h1, h2⟩ := h
    rcases h2.out.1 with ⟨q, _⟩ | ⟨_, q, _⟩ | ⟨_, _, q⟩
    · exact absurd (sy_ok ha hla) q
    · exact absurd (sy_ok hb hlb) q
    · rw [rxPo, rxPo] at q
      exact ⟨s, z, h1, lid' q, lid' h2.out.2⟩
theorem kp_short (w W : World) (hk : Hid (Ky w W)) (a : Rx) (ha : a.by8) (hla : a.nn ≤ 512) (A : Option Addr) (c : Nat) (hr : Hid (Rp W W.heap.size A (a.po []))) :
    Calls Tryz.prog 19 #[.slice A (a.po []).length c] W fun e w' => ∃ (s : List UInt8) (z : Int), e = .returned (.tuple #[.string ⟨s.toArray⟩, .int .i64 z]) ∧ Hid (CmR a a s z) ∧ Hid (Below W.heap.size W w') :=
  (shortest_any A _ c (a.po []) W (lid' rfl) hr (lid' hk.out.t) hk.out.s).mono fun e w' h => by
    obtain ⟨s, z, h1, h2⟩ := h
    refine ⟨s, z, h1, lid' ?_, lid' h2.out.2⟩
    rcases h2.out.1 with ⟨q, _⟩ | ⟨_, ⟨q0, q1, q2, q3, q4⟩ | ⟨q0, q1, q2⟩⟩
    · exact absurd (sy_ok ha hla) q
    · rw [rxPo] at q2 q3
      exact .inl ⟨q0, ⟨q1, q2, q2, fun v k1 k2 _ => q3 v k1 k2⟩, q4⟩
    · rw [rxPo] at q2
      exact .inr ⟨q0, q1, fun v k1 k2 => q2 v k1 k2.1⟩
theorem kp_match (w W : World) (hk : Hid (Ky w W)) (a : Rx) (A : Option Addr) (c : Nat) (s : ByteArray) (hs : s.size ≤ 9223372036854775806) (hr : Hid (Rp W W.heap.size A (a.po []))) :
    Calls Tryz.prog 14 #[.slice A (a.po []).length c, .string s] W fun e w' => e = .returned (.bool (maP (a.po []) s.data.toList)) ∧ Hid (Below W.heap.size W w') :=
  (matches_any A _ c (a.po []) s W (lid' rfl) hr (lid' hk.out.t) hk.out.s hs).mono fun e w' h => ⟨h.1, lid' h.2⟩
theorem kp_longest (w W : World) (hk : Hid (Ky w W)) (a : Rx) (A : Option Addr) (c : Nat) (s : ByteArray) (k : Int) (hs : s.size ≤ 9223372036854775806) (hr : Hid (Rp W W.heap.size A (a.po []))) :
    Calls Tryz.prog 8 #[.slice A (a.po []).length c, .string s, .int .i64 k] W fun e w' => e = .returned (.tuple #[.int .i64 (loP (a.po []) s.data.toList k).1, .bool (loP (a.po []) s.data.toList k).2]) ∧ Hid (Below W.heap.size W w') :=
  (longestAt_any A _ c (a.po []) s k W (lid' rfl) hr (lid' hk.out.t) hk.out.s hs).mono fun e w' h => ⟨h.1, lid' h.2⟩
theorem kp_print (w W : World) (a : Rx) (ha : a.by8) (hla : a.nn ≤ 512) (A : Option Addr) (c : Nat) (hr : Hid (Rp W W.heap.size A (a.po []))) :
    Calls Tryz.prog 10 #[.slice A (a.po []).length c] W fun e w' => e = .returned (.tuple #[.string ⟨(a.txt 1).toArray⟩, .int .i64 0]) ∧ Hid (Below W.heap.size W w') :=
  (print_any A _ c (a.po []) W (lid' rfl) hr).mono fun e w' h => by
    have e0 : prS (a.po []) = ⟨(a.txt 1).toArray⟩ := by unfold prS; rw [if_pos (sy_ok ha hla), rxPo]
    exact ⟨h.1.trans (by rw [e0, sy_ok ha hla]), lid' h.2⟩
theorem kp_same (w W : World) (a b : Rx) (hla : a.nn ≤ 512) (A A' : Option Addr) (c c' : Nat) (hr : Hid (Rp W W.heap.size A (a.po []))) (hr' : Hid (Rp W W.heap.size A' (b.po []))) :
    Calls Tryz.prog 18 #[.slice A (a.po []).length c, .slice A' (b.po []).length c'] W fun e w' => e = .returned (.bool (decide (a.po [] = b.po []))) ∧ Hid (Below W.heap.size W w') :=
  (psame_any A A' _ c _ c' (a.po []) (b.po []) W (lid' rfl) (lid' rfl) (by have := po_len a []; rw [List.length_nil] at this; omega) hr hr').mono fun e w' h => ⟨h.1, lid' h.2⟩
theorem less_lx : ∀ (u v : List UInt8), u.length = v.length → Op.bytesLess u v = true → lxS u v
  | _, [], _, h => by unfold Op.bytesLess at h; simp at h
  | [], _ :: _, h, _ => by simp at h
  | a :: u, b :: v, hl, h => by
    rw [Op.bytesLess] at h
    rcases Bool.or_eq_true _ _ ▸ h with h | h
    · exact .inl (UInt8.lt_iff_toNat_lt.1 (by simpa using h))
    · obtain ⟨h1, h2⟩ := Bool.and_eq_true _ _ ▸ h
      exact .inr ⟨by simpa using h1, less_lx u v (by simpa using hl) h2⟩
/-- what comes first is not shorter, and at one length it is not above -/
theorem le_geq {u v : List UInt8} (h : leS v u) : v.length ≤ u.length ∧ (v.length = u.length → Op.bytesLess u v = false) := by
  rcases h with (h | ⟨h1, h2⟩) | rfl
  · exact ⟨by omega, fun e => by omega⟩
  · refine ⟨by omega, fun _ => ?_⟩
    rw [Bool.eq_false_iff]
    exact fun e => lxS_irr _ (lxS_trans _ _ _ h2 (less_lx _ _ h1.symm e))
  · refine ⟨Nat.le_refl _, fun _ => ?_⟩
    rw [Bool.eq_false_iff]
    exact fun e => lxS_irr _ (less_lx _ _ rfl e)

end Go.Proofs.YtfkljlncnfeklaaGreatDoor
