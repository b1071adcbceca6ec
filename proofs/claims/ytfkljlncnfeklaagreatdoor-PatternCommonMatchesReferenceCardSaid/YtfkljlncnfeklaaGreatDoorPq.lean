/-
  Plain mathematics and contracts of package diagram, several texts in one: XSy.
-/
import Derived.Test.YtfkljlncnfeklaaGreatDoorPp
import Derived.Test.YtfkljlncnfeklaaGreatDoorPk
import Derived.Test.YtfkljlncnfeklaaGreatDoorPh
import Derived.Test.YtfkljlncnfeklaaGreatDoorPj
import Derived.Test.YtfkljlncnfeklaaGreatDoorPl

/-! The chapter's examples hold: sanity answers true. (Written by sangen.py.) -/
namespace Go.Proofs.YtfkljlncnfeklaaGreatDoor
open Go.RowKit Go.Shelf
set_option linter.unusedVariables false
set_option linter.unusedSimpArgs false
attribute [local go_sem ↓] Go.wp_at_zero Go.wp_at_succ

theorem pnC_nth : ∀ (l : List Pn) (j i : Nat), j < l.length → i < 5 → (pnC l)[j * 5 + i]? = (c5 (l.getD j (0, 0, 0, 0, 0)))[i]? := fun l j i hj hi => pnC_at l hj hi
/-- an owned row of nodes is read -/
theorem rp_own {W : World} {B n : Nat} {v : Value} {l : List Pn} (h : W.ownsRow B 42 5 v n (pnC l)) (hn : l.length = n) : ∃ A c, v = .slice A n c ∧ Rp W W.heap.size A l := by
  subst hn
  rcases Nat.eq_zero_or_pos l.length with h0 | h0
  · obtain ⟨A, c, rfl, _⟩ := own_form h
    exact ⟨A, c, rfl, fun q => absurd q (by omega)⟩
  · obtain ⟨g, c, rfl, _, hg⟩ := World.ownsRow.form h h0
    refine ⟨_, c, rfl, fun _ => ⟨g, 0, rfl, hg, fun j hj => ?_⟩⟩
    have at_ : ∀ i : Nat, i < 5 → W.cell? ⟨g, j * 5 + i, none⟩ = (c5 (l.getD j (0, 0, 0, 0, 0)))[i]? := fun i hi => (World.ownsRow.cellAt h (j * 5 + i) (by omega)).trans (pnC_at l hj hi)
    rw [Nat.zero_add]
    exact ⟨at_ 0 (by omega), at_ 1 (by omega), at_ 2 (by omega), at_ 3 (by omega), at_ 4 (by omega)⟩
/-- Parse in the laws' form -/
theorem k_parse (s : ByteArray) (l : List Pn) (z : Int) (hp : prsP s.data.toList = (l, z)) (w : World) : Calls Tryz.prog 23 #[.string s] w fun e w' => ∃ A c, e = .returned (.tuple #[.slice A l.length c, .int .i64 z]) ∧ Hid (Rp w' w'.heap.size A l) ∧ Hid (Below w.heap.size w w') :=
  (parse_any s w).mono fun e w' h => by
    obtain ⟨v, h1, h2, h3⟩ := h
    rw [hp] at h1 h2
    obtain ⟨A, c, rfl, hr⟩ := rp_own h2 rfl
    exact ⟨A, c, h1, lid' hr, lid' h3⟩
theorem rxPo (r : Rx) : rxP (r.po []) = r := rxN_po
theorem sy_ok {r : Rx} (h : r.by8) (hl : r.nn ≤ 512) : chP (r.po []) = 0 := chP_ok (po_ok h hl)
theorem rp_new (w : World) (l : List Pn) : Rp (w.alloc (.cells (pnC l).toArray 42)) (w.alloc (.cells (pnC l).toArray 42)).heap.size (some ⟨w.heap.size, 0, none⟩) l := fun h => by
  refine ⟨w.heap.size, 0, rfl, by simp, fun j hj => ?_⟩
  have at_ : ∀ i : Nat, i < 5 → (w.alloc (.cells (pnC l).toArray 42)).cell? ⟨w.heap.size, j * 5 + i, none⟩ = (c5 (l.getD j (0, 0, 0, 0, 0)))[i]? := fun i hi => (cell_of_row _ _ (j * 5 + i) _ _ _ (heap_alloc_new w (.cells (pnC l).toArray 42))).trans (by
    rw [List.getElem?_toArray]
    exact pnC_at l hj hi)
  rw [Nat.zero_add]
  exact ⟨at_ 0 (by omega), at_ 1 (by omega), at_ 2 (by omega), at_ 3 (by omega), at_ 4 (by omega)⟩
theorem sy_ls (l : List Pn) (h : chP l = 0) (s : List UInt8) (n : Int) (hn : lng (rxP l) s = n) : maP l s = decide (n = (s.length : Int)) := by unfold maP; rw [if_pos h, hn]
theorem firstB_any {r : Rx} {s : List UInt8} (h1 : s ≠ []) (h2 : r.mt s) (h3 : ∀ v, v ≠ [] → r.mt v → leS s v) : FirstB r anyR s := ⟨h1, h2, any_mt _, fun v k1 k2 _ => h3 v k1 k2⟩

set_option maxHeartbeats 8000000 in
set_option maxRecDepth 100000 in
theorem psanity_ok (w : World) (ht : Hid (Tz w)) (hts : 2 < w.heap.size) : Calls Tryz.prog 6 #[] w fun e w' => e = .returned (.bool true) ∧ Below w.heap.size w w' := by
  have HP : Hid (∀ W : World, Calls Tryz.prog 23 #[.string ⟨#[97, 40, 98, 124, 99, 41, 42]⟩] W fun e w' => ∃ A c, e = .returned (.tuple #[.slice A 6 c, .int .i64 0]) ∧ Hid (Rp w' w'.heap.size A (syP.po [])) ∧ Hid (Below W.heap.size W w')) := lid' (fun W => k_parse ⟨#[97, 40, 98, 124, 99, 41, 42]⟩ (syP.po []) 0 sy_p W)
  have HQ : Hid (∀ W : World, Calls Tryz.prog 23 #[.string ⟨#[91, 97, 45, 122, 93, 40, 91, 97, 45, 122, 93, 41, 42]⟩] W fun e w' => ∃ A c, e = .returned (.tuple #[.slice A 4 c, .int .i64 0]) ∧ Hid (Rp w' w'.heap.size A (syQ.po [])) ∧ Hid (Below W.heap.size W w')) := lid' (fun W => k_parse ⟨#[91, 97, 45, 122, 93, 40, 91, 97, 45, 122, 93, 41, 42]⟩ (syQ.po []) 0 sy_q W)
  have HR : Hid (∀ W : World, Calls Tryz.prog 23 #[.string ⟨#[105, 40, 102, 124, 110, 41]⟩] W fun e w' => ∃ A c, e = .returned (.tuple #[.slice A 5 c, .int .i64 0]) ∧ Hid (Rp w' w'.heap.size A (syR.po [])) ∧ Hid (Below W.heap.size W w')) := lid' (fun W => k_parse ⟨#[105, 40, 102, 124, 110, 41]⟩ (syR.po []) 0 sy_r W)
  have HN : Hid (∀ W : World, Calls Tryz.prog 23 #[.string ⟨#[91, 98, 45, 97, 93]⟩] W fun e w' => ∃ A c, e = .returned (.tuple #[.slice A 0 c, .int .i64 40]) ∧ Hid (Rp w' w'.heap.size A []) ∧ Hid (Below W.heap.size W w')) := lid' (fun W => k_parse ⟨#[91, 98, 45, 97, 93]⟩ [] 40 sy_no W)
  have cP : chP (syP.po []) = 0 := sy_ok sy_by8.1 (by decide)
  have cQ : chP (syQ.po []) = 0 := sy_ok sy_by8.2.1 (by decide)
  have cR : chP (syR.po []) = 0 := sy_ok sy_by8.2.2.1 (by decide)
  have cS : chP (syS.po []) = 0 := sy_ok sy_by8.2.2.2 (by decide)
  have HL : Hid (∀ (A : Option Addr) (c : Nat) (W : World), Hid (Rp W W.heap.size A (syP.po [])) → Hid (Tz W) → 2 < W.heap.size → Calls Tryz.prog 8 #[.slice A 6 c, .string ⟨#[120, 97, 98, 99, 100]⟩, .int .i64 1] W fun e w' => e = .returned (.tuple #[.int .i64 3, .bool true]) ∧ Hid (Below W.heap.size W w')) := lid' (fun A c W hr h1 h2 => (longestAt_any A 6 c (syP.po []) ⟨#[120, 97, 98, 99, 100]⟩ 1 W (lid' sy_nn) hr h1 h2 (by decide)).mono fun e w' h => by
    have e0 : loP (syP.po []) [120, 97, 98, 99, 100] 1 = (3, true) := by
      unfold loP
      rw [show ((1 : Int).toNat) = 1 from rfl, show List.drop 1 ([120, 97, 98, 99, 100] : List UInt8) = [97, 98, 99, 100] from rfl, rxPo, sy_lng.1, if_pos ⟨cP, by decide, by decide, by decide⟩]
    refine ⟨h.1.trans ?_, lid' h.2⟩
    show Ending.returned (.tuple #[.int .i64 (loP (syP.po []) [120, 97, 98, 99, 100] 1).1, .bool (loP (syP.po []) [120, 97, 98, 99, 100] 1).2]) = _
    rw [e0])
  have HSh : Hid (∀ (A : Option Addr) (c : Nat) (W : World), Hid (Rp W W.heap.size A (syP.po [])) → Hid (Tz W) → 2 < W.heap.size → Calls Tryz.prog 19 #[.slice A 6 c] W fun e w' => e = .returned (.tuple #[.string ⟨#[97]⟩, .int .i64 0]) ∧ Hid (Below W.heap.size W w')) := lid' (fun A c W hr h1 h2 => (shortest_any A 6 c (syP.po []) W (lid' sy_nn) hr h1 h2).mono fun e w' h => by
    obtain ⟨s, z, h1, h2⟩ := h
    rcases h2.out.1 with ⟨q, _⟩ | ⟨_, ⟨rfl, q1, q2, q3, _⟩ | ⟨_, _, q⟩⟩
    · exact absurd cP q
    · rw [rxPo] at q2 q3
      have := firstB_uniq (firstB_any q1 q2 q3) sy_short
      subst this
      exact ⟨h1, lid' h2.out.2⟩
    · rw [rxPo] at q
      exact absurd sy_short.2.1 (q _ sy_short.1))
  have HC : Hid (∀ (A A' : Option Addr) (c c' : Nat) (W : World), Hid (Rp W W.heap.size A (syQ.po [])) → Hid (Rp W W.heap.size A' (syR.po [])) → Hid (Tz W) → 2 < W.heap.size → Calls Tryz.prog 21 #[.slice A 4 c, .slice A' 5 c'] W fun e w' => e = .returned (.tuple #[.string ⟨#[105, 102]⟩, .int .i64 0]) ∧ Hid (Below W.heap.size W w')) := lid' (fun A A' c c' W hr hr' h1 h2 => (common_any A A' 4 c 5 c' (syQ.po []) (syR.po []) W (lid' (by decide +kernel)) (lid' (by decide +kernel)) hr hr' h1 h2).mono fun e w' h => by
    obtain ⟨s, z, h1, h2⟩ := h
    rcases h2.out.1 with ⟨q, _⟩ | ⟨_, q, _⟩ | ⟨_, _, q⟩
    · exact absurd cQ q
    · exact absurd cR q
    · rw [rxPo, rxPo] at q
      rcases q with ⟨rfl, q, _⟩ | ⟨_, _, q⟩
      · have := firstB_uniq q sy_common
        subst this
        exact ⟨h1, lid' h2.out.2⟩
      · exact absurd ⟨sy_common.2.1, sy_common.2.2.1⟩ (q _ sy_common.1))
  have HPr : Hid (∀ (A : Option Addr) (W : World), Hid (Rp W W.heap.size A (syS.po [])) → Calls Tryz.prog 10 #[.slice A 5 5] W fun e w' => e = .returned (.tuple #[.string ⟨#[97, 40, 98, 99, 41]⟩, .int .i64 0]) ∧ Hid (Below W.heap.size W w')) := lid' (fun A W hr => (print_any A 5 5 (syS.po []) W (lid' (by decide +kernel)) hr).mono fun e w' h => by
    have e0 : prS (syS.po []) = ⟨#[97, 40, 98, 99, 41]⟩ := by unfold prS; rw [if_pos cS, rxPo, sy_txt]
    exact ⟨h.1.trans (by rw [e0, cS]), lid' h.2⟩)
  have HM1 : Hid (∀ (A : Option Addr) (c : Nat) (W : World), Hid (Rp W W.heap.size A (syP.po [])) → Hid (Tz W) → 2 < W.heap.size → Calls Tryz.prog 14 #[.slice A 6 c, .string ⟨#[97, 98, 99, 98]⟩] W fun e w' => e = .returned (.bool true) ∧ Hid (Below W.heap.size W w')) := lid' (fun A c W hr h1 h2 => (matches_any A 6 c (syP.po []) ⟨#[97, 98, 99, 98]⟩ W (lid' sy_nn) hr h1 h2 (by decide)).mono fun e w' h => ⟨h.1.trans (by
    have e0 : maP (syP.po []) [97, 98, 99, 98] = true := by rw [sy_ls _ cP _ 4 (by rw [rxPo]; exact sy_lng.2.1)]; rfl
    show Ending.returned (.bool (maP (syP.po []) [97, 98, 99, 98])) = _
    rw [e0]), lid' h.2⟩)
  have HM2 : Hid (∀ (A : Option Addr) (c : Nat) (W : World), Hid (Rp W W.heap.size A (syP.po [])) → Hid (Tz W) → 2 < W.heap.size → Calls Tryz.prog 14 #[.slice A 6 c, .string ⟨#[98, 97]⟩] W fun e w' => e = .returned (.bool false) ∧ Hid (Below W.heap.size W w')) := lid' (fun A c W hr h1 h2 => (matches_any A 6 c (syP.po []) ⟨#[98, 97]⟩ W (lid' sy_nn) hr h1 h2 (by decide)).mono fun e w' h => ⟨h.1.trans (by
    have e0 : maP (syP.po []) [98, 97] = false := by rw [sy_ls _ cP _ (-1) (by rw [rxPo]; exact sy_lng.2.2)]; rfl
    show Ending.returned (.bool (maP (syP.po []) [98, 97])) = _
    rw [e0]), lid' h.2⟩)
  clear cP cQ cR cS
  have T0 := ht
  have S0 := hts
  have B0 := lid' (Below.refl w.heap.size w)
  go_enter Tryz.func6, Tryz.ntmps6
  go_upto_region 7 with (first
    | (go_at_call 23; with_reducible refine (HP.out _).mono ?_; rintro e w1 ⟨A1, c1, rfl, RP1, hb1⟩;  have T1 := Tz.below T0 hb1.out S0; have S1 := Nat.lt_of_lt_of_le S0 hb1.out.size; have B1 := lid' (B0.out.trans (hb1.out.mono B0.out.size)))
    | (go_at_call 8; with_reducible refine (HL.out _ _ _ RP1 T1 S1).mono ?_; rintro e w2 ⟨rfl, hb2⟩; have RP2 := Rp.later RP1 hb2.out; have T2 := Tz.below T1 hb2.out S1; have S2 := Nat.lt_of_lt_of_le S1 hb2.out.size; have B2 := lid' (B1.out.trans (hb2.out.mono B1.out.size)))
    | (go_at_call 19; with_reducible refine (HSh.out _ _ _ RP2 T2 S2).mono ?_; rintro e w3 ⟨rfl, hb3⟩; have RP3 := Rp.later RP2 hb3.out; have T3 := Tz.below T2 hb3.out S2; have S3 := Nat.lt_of_lt_of_le S2 hb3.out.size; have B3 := lid' (B2.out.trans (hb3.out.mono B2.out.size)))
    | (go_at_call 23; with_reducible refine (HQ.out _).mono ?_; rintro e w4 ⟨A4, c4, rfl, RQ4, hb4⟩; have RP4 := Rp.later RP3 hb4.out; have T4 := Tz.below T3 hb4.out S3; have S4 := Nat.lt_of_lt_of_le S3 hb4.out.size; have B4 := lid' (B3.out.trans (hb4.out.mono B3.out.size)))
    | (go_at_call 23; with_reducible refine (HR.out _).mono ?_; rintro e w5 ⟨A5, c5, rfl, RR5, hb5⟩; have RP5 := Rp.later RP4 hb5.out; have RQ5 := Rp.later RQ4 hb5.out; have T5 := Tz.below T4 hb5.out S4; have S5 := Nat.lt_of_lt_of_le S4 hb5.out.size; have B5 := lid' (B4.out.trans (hb5.out.mono B4.out.size)))
    | (go_at_call 21; with_reducible refine (HC.out _ _ _ _ _ RQ5 RR5 T5 S5).mono ?_; rintro e w6 ⟨rfl, hb6⟩; have RP6 := Rp.later RP5 hb6.out; have T6 := Tz.below T5 hb6.out S5; have S6 := Nat.lt_of_lt_of_le S5 hb6.out.size; have B6 := lid' (B5.out.trans (hb6.out.mono B5.out.size))))
  clear HP HL HSh HQ HR HC RP1 RP2 RP3 RP4 RP5 RQ4 RQ5 RR5 hb1 hb2 hb3 hb4 hb5 hb6 T1 T2 T3 T4 T5 S1 S2 S3 S4 S5 B1 B2 B3 B4 B5
  have hn7 := rp_new w6 (syS.po [])
  have hb7 := lid' ((Below.refl w6.heap.size w6).alloc (Nat.le_refl _) (.cells (pnC (syS.po [])).toArray 42))
  have RP7 := Rp.later RP6 hb7.out
  have RS7 := lid' hn7
  have T7 := Tz.below T6 hb7.out S6
  have S7 := Nat.lt_of_lt_of_le S6 hb7.out.size
  have B7 := lid' (B6.out.trans (hb7.out.mono B6.out.size))
  have hsc : (pnC (syS.po [])).toArray = #[.int .i64 1, .int .i64 97, .int .i64 97, .int .i64 0, .int .i64 0, .int .i64 1, .int .i64 98, .int .i64 98, .int .i64 0, .int .i64 0, .int .i64 1, .int .i64 99, .int .i64 99, .int .i64 0, .int .i64 0, .int .i64 2, .int .i64 0, .int .i64 0, .int .i64 1, .int .i64 2, .int .i64 2, .int .i64 0, .int .i64 0, .int .i64 0, .int .i64 3] := by rw [← sy_pat]; rfl
  rw [hsc] at hn7 hb7 RP7 RS7 T7 S7 B7
  clear hn7 hb7 hsc RP6 T6 S6 B6
  go_wp2_with (first
    | (go_at_call 10; with_reducible refine (HPr.out _ _ RS7).mono ?_; rintro e w8 ⟨rfl, hb8⟩; have RP8 := Rp.later RP7 hb8.out; have T8 := Tz.below T7 hb8.out S7; have S8 := Nat.lt_of_lt_of_le S7 hb8.out.size; have B8 := lid' (B7.out.trans (hb8.out.mono B7.out.size)))
    | (go_at_call 23; with_reducible refine (HN.out _).mono ?_; rintro e w9 ⟨A9, c9, rfl, RN9, hb9⟩; have RP9 := Rp.later RP8 hb9.out; have T9 := Tz.below T8 hb9.out S8; have S9 := Nat.lt_of_lt_of_le S8 hb9.out.size; have B9 := lid' (B8.out.trans (hb9.out.mono B8.out.size)))
    | (go_at_call 14; with_reducible refine (HM1.out _ _ _ RP9 T9 S9).mono ?_; rintro e w10 ⟨rfl, hb10⟩; have RP10 := Rp.later RP9 hb10.out; have T10 := Tz.below T9 hb10.out S9; have S10 := Nat.lt_of_lt_of_le S9 hb10.out.size; have B10 := lid' (B9.out.trans (hb10.out.mono B9.out.size)))
    | (go_at_call 14; with_reducible refine (HM2.out _ _ _ RP10 T10 S10).mono ?_; rintro e w11 ⟨rfl, hb11⟩;  have T11 := Tz.below T10 hb11.out S10; have S11 := Nat.lt_of_lt_of_le S10 hb11.out.size; have B11 := lid' (B10.out.trans (hb11.out.mono B10.out.size))))
  go_ret
  exact ⟨rfl, B11.out⟩

end Go.Proofs.YtfkljlncnfeklaaGreatDoor
