/-
  The reference's text: alternatives, repetitions, all; Print. (Seat of the great laws.)
-/
import Derived.Test.YtfkljlncnfeklaaGreatDoorXQtM
namespace Go.Proofs.YtfkljlncnfeklaaGreatDoor
open Go.RowKit Go.Shelf
set_option linter.unusedVariables false
set_option linter.unusedSimpArgs false
attribute [local go_sem ↓] Go.wp_at_zero Go.wp_at_succ

set_option maxRecDepth 100000 in
set_option maxHeartbeats 4000000 in
theorem qt_alt (A : Option Addr) (m c : Nat) (l : List Pn) (hl : Hid (l.length = m)) (h : okP l) (k : Nat) (hk : k < l.length) (c1 : pk l k = 3) (IA : QtC A m c l (pa l k).toNat) (IB : QgC A m c l (pb l k).toNat (pk l (pb l k).toNat == 3) 2) (hz : ((rxN l k).txt 1).length ≤ 100000) : QtC A m c l k := fun W hr => by
  have nd := h.nd hk
  obtain ⟨b, o, e, hb, hc⟩ := hr.out (by omega)
  subst e
  obtain ⟨d0, d1, d2, d3, d4⟩ := hc k hk
  have n3 := nd.b0 (by omega)
  obtain ⟨a1, a2⟩ := nd.a1 (by omega)
  obtain ⟨b1, b2⟩ := nd.b1 (.inr c1)
  rw [c1] at d0
  rw [n3.1] at d1
  rw [n3.2] at d2
  have hT := ts_alt h hk c1
  have hZ := congrArg ByteArray.size hT
  rw [ts_size] at hZ
  obtain ⟨j, hj⟩ : ∃ j : Nat, pa l k = (j : Int) := ⟨(pa l k).toNat, by omega⟩
  rw [hj] at d3 hT hZ IA a2
  rw [Int.toNat_natCast] at hT hZ IA a2
  obtain ⟨i, hi⟩ : ∃ i : Nat, pb l k = (i : Int) := ⟨(pb l k).toNat, by omega⟩
  rw [hi] at d4 hT hZ IB b2
  rw [Int.toNat_natCast] at hT hZ IB b2
  rw [ByteArray.size_append, ByteArray.size_append] at hZ
  have z1 : (tS l j 1).size ≤ 100000 := by omega
  have z2 : (tS l i 2).size ≤ 100000 := by omega
  have z3 : (⟨#[124]⟩ : ByteArray).size = 1 := rfl
  have z4 : (tS l j 1 ++ (⟨#[124]⟩ : ByteArray)).size = (tS l j 1).size + 1 := by rw [ByteArray.size_append]; rfl
  obtain ⟨g0, _⟩ := hc j (by omega)
  obtain ⟨g1, _⟩ := hc i (by omega)
  have k1 : (0 : Int) ≤ (i : Int) := by omega
  have k2 : (i : Int) < (m : Int) := by rw [← hl.out]; omega
  have i1 : (0 : Int) ≤ (k : Int) := by omega
  have i2 : (k : Int) < (m : Int) := by rw [← hl.out]; omega
  have j1 : (0 : Int) ≤ (j : Int) := by omega
  have j2 : (j : Int) < (m : Int) := by rw [← hl.out]; omega
  have P := cp_cells W (.int .i64 3) (.int .i64 0) (.int .i64 0) (.int .i64 (j : Int)) (.int .i64 (i : Int))
  have G0 : ∀ W', Below W.heap.size W W' → W'.cell? ⟨b, o + j * 5, none⟩ = some (.int .i64 (pk l j)) := fun W' hb' => (hb'.cell (p := ⟨b, _, none⟩) hb).trans g0
  have G1 : ∀ W', Below W.heap.size W W' → W'.cell? ⟨b, o + i * 5, none⟩ = some (.int .i64 (pk l i)) := fun W' hb' => (hb'.cell (p := ⟨b, _, none⟩) hb).trans g1
  have HRL : Hid (∀ W', Below W.heap.size W W' → Hid (Rp W' W'.heap.size (some ⟨b, o, none⟩) l)) := Lib.hid (fun W' hb' => Rp.later hr hb')
  clear hc nd
  have HT := Lib.hid hT
  have HIA := Lib.hid IA
  generalize pk l j = KA at *
  generalize pk l i = KB at *
  obtain ⟨bb, hbb⟩ : ∃ q, (KB == 3) = q := ⟨_, rfl⟩
  rw [hbb] at IB
  unfold QgC at IB
  have HIB := Lib.hid IB
  clear IA IB hT
  go_enter Tryz.func37, Tryz.ntmps37
  go_upto_region 2 with fail
  generalize hwa : World.alloc W _ = wa
  obtain ⟨B1, X1⟩ := P _ hwa
  have g0 := G0 _ B1
  have g1 := G1 _ B1
  clear G1
  clear hwa P d0 d1 d2 d3 d4 G0
  have HB := Lib.hid B1
  have HX := Lib.hid X1
  obtain ⟨y0, y1, y2, y3, y4⟩ := bx5 X1
  have HXd := Lib.hid (bx_dr X1)
  have HBd := Lib.hid B1.drew
  clear B1 X1
  have HA := Lib.hid (HIA.out wa.drew (HRL.out _ HB.out.drew))
  generalize tS l j 1 = TA at *
  generalize tS l i 2 = TB at *
  go_upto_region 12 with fail
  go_region_with (first
      | (go_at_call 37; with_reducible refine HA.out.mono ?_; rintro e w2 ⟨rfl, b2⟩; obtain ⟨y0, y1, y2, y3, y4⟩ := bx5 (HXd.out.below b2.out); have HB2 := Lib.hid (HBd.out.trans (b2.out.mono HBd.out.size)); have HBC := Lib.hid (HIB.out w2 (HRL.out _ HB2.out)); clear b2)
      | (go_at_call 62; with_reducible refine HBC.out.mono ?_; rintro e w3 ⟨rfl, b3⟩; have HB3 := Lib.hid (HB2.out.trans (b3.out.mono HB2.out.size)); clear b3))
  all_goals
      go_wp2
      go_ret
      exact ⟨by rw [HT.out]; rfl, HB3⟩
set_option maxRecDepth 100000 in
set_option maxHeartbeats 4000000 in
theorem qt_rep (A : Option Addr) (m c : Nat) (l : List Pn) (hl : Hid (l.length = m)) (h : okP l) (k : Nat) (hk : k < l.length) (c1 : pk l k = 4) (IA : QgC A m c l (pa l k).toNat (pk l (pa l k).toNat == 3 || pk l (pa l k).toNat == 2) 3) (hz : ((rxN l k).txt 1).length ≤ 100000) : QtC A m c l k := fun W hr => by
  have nd := h.nd hk
  obtain ⟨b, o, e, hb, hc⟩ := hr.out (by omega)
  subst e
  obtain ⟨d0, d1, d2, d3, d4⟩ := hc k hk
  have n3 := nd.b0 (by omega)
  obtain ⟨a1, a2⟩ := nd.a1 (by omega)
  have n2 := nd.b00 (by omega) (by omega)
  rw [n2] at d4
  rw [c1] at d0
  rw [n3.1] at d1
  rw [n3.2] at d2
  have hT := ts_rep h hk c1
  have hZ := congrArg ByteArray.size hT
  rw [ts_size] at hZ
  obtain ⟨j, hj⟩ : ∃ j : Nat, pa l k = (j : Int) := ⟨(pa l k).toNat, by omega⟩
  rw [hj] at d3 hT hZ IA a2
  rw [Int.toNat_natCast] at hT hZ IA a2
  rw [ByteArray.size_append] at hZ
  have z1 : (tS l j 3).size ≤ 100000 := by omega
  obtain ⟨g0, _⟩ := hc j (by omega)
  obtain ⟨g1, _⟩ := hc 0 (by omega)
  rw [Nat.zero_mul, Nat.add_zero] at g1
  have i1 : (0 : Int) ≤ (k : Int) := by omega
  have i2 : (k : Int) < (m : Int) := by rw [← hl.out]; omega
  have j1 : (0 : Int) ≤ (j : Int) := by omega
  have j2 : (j : Int) < (m : Int) := by rw [← hl.out]; omega
  have P := cp_cells W (.int .i64 4) (.int .i64 0) (.int .i64 0) (.int .i64 (j : Int)) (.int .i64 0)
  have G0 : ∀ W', Below W.heap.size W W' → W'.cell? ⟨b, o + j * 5, none⟩ = some (.int .i64 (pk l j)) := fun W' hb' => (hb'.cell (p := ⟨b, _, none⟩) hb).trans g0
  have G1 : ∀ W', Below W.heap.size W W' → W'.cell? ⟨b, o, none⟩ = some (.int .i64 (pk l 0)) := fun W' hb' => (hb'.cell (p := ⟨b, _, none⟩) hb).trans g1
  have HRL : Hid (∀ W', Below W.heap.size W W' → Hid (Rp W' W'.heap.size (some ⟨b, o, none⟩) l)) := Lib.hid (fun W' hb' => Rp.later hr hb')
  clear hc nd
  have HT := Lib.hid hT
  generalize pk l j = KA at *
  generalize pk l 0 = KB at *
  have i3 : (0 : Int) < (m : Int) := by omega
  clear hT
  go_enter Tryz.func37, Tryz.ntmps37
  go_upto_region 2 with fail
  generalize hwa : World.alloc W _ = wa
  obtain ⟨B1, X1⟩ := P _ hwa
  have g0 := G0 _ B1
  have g1 := G1 _ B1
  clear G1
  clear hwa P d0 d1 d2 d3 d4 G0
  have HB := Lib.hid B1
  have HX := Lib.hid X1
  obtain ⟨y0, y1, y2, y3, y4⟩ := bx5 X1
  have HXd := Lib.hid (bx_dr X1)
  have HBd := Lib.hid B1.drew
  clear B1 X1
  generalize hTT : tS l j 3 = TA at *
  have HTT := Lib.hid hTT
  clear hTT
  go_upto_region 14 with fail
  rcases hb3 : (KA == 3) with _ | _
  · obtain ⟨bb, hbb⟩ : ∃ q, (KA == 2) = q := ⟨_, rfl⟩
    rw [hb3, hbb, Bool.false_or] at IA
    have HA := Lib.hid (IA wa (HRL.out _ HB.out))
    rw [HTT.out] at HA
    clear IA
    go_wp2_with (go_at_call 62; with_reducible refine HA.out.mono ?_; rintro e w2 ⟨rfl, b2⟩; have HB2 := Lib.hid (HB.out.trans (b2.out.mono HB.out.size)); clear b2)
    go_ret
    exact ⟨by rw [HT.out]; rfl, HB2⟩
  · rw [hb3, Bool.true_or] at IA
    have HA := Lib.hid (IA wa (HRL.out _ HB.out))
    rw [HTT.out] at HA
    clear IA
    go_wp2_with (go_at_call 62; with_reducible refine HA.out.mono ?_; rintro e w2 ⟨rfl, b2⟩; have HB2 := Lib.hid (HB.out.trans (b2.out.mono HB.out.size)); clear b2)
    go_ret
    exact ⟨by rw [HT.out]; rfl, HB2⟩
theorem txt_part {l : List Pn} (h : okP l) {k : Nat} (hk : k < l.length) (hz : ((rxN l k).txt 1).length ≤ 100000) :
    (2 ≤ pk l k → ((rxN l (pa l k).toNat).txt 1).length ≤ 100000) ∧ (pk l k = 2 ∨ pk l k = 3 → ((rxN l (pb l k).toNat).txt 1).length ≤ 100000) := by
  rcases (show pk l k = 0 ∨ pk l k = 1 ∨ pk l k = 2 ∨ pk l k = 3 ∨ pk l k = 4 by have := (h.nd hk).kd; omega) with c | c | c | c | c
  · exact ⟨fun e => by omega, fun e => by omega⟩
  · exact ⟨fun e => by omega, fun e => by omega⟩
  · rw [rxN_2 h hk c, txt_seq, if_neg (by decide), List.length_append] at hz
    have h1 := (txt_low (rxN l (pa l k).toNat) 2).1
    have h2 := (txt_low (rxN l (pb l k).toNat) 3).1
    exact ⟨fun _ => by omega, fun _ => by omega⟩
  · rw [rxN_3 h hk c, txt_alt, if_neg (by decide), List.length_append, List.length_append] at hz
    have h2 := (txt_low (rxN l (pb l k).toNat) 2).1
    exact ⟨fun _ => by omega, fun _ => by omega⟩
  · rw [rxN_4 h hk c, txt_rep, if_neg (by decide), List.length_append] at hz
    have h1 := (txt_low (rxN l (pa l k).toNat) 3).1
    exact ⟨fun _ => by omega, fun e => by omega⟩
theorem beq3 (x : Int) : (x == 3) = decide (x = 3) := by by_cases h : x = 3 <;> simp [h]
theorem beq2 (x : Int) : (x == 2) = decide (x = 2) := by by_cases h : x = 2 <;> simp [h]
theorem rtext_all (A : Option Addr) (m c : Nat) (l : List Pn) (hl : Hid (l.length = m)) (h : okP l) : ∀ k, k < l.length → ((rxN l k).txt 1).length ≤ 100000 → QtC A m c l k := by
  intro k
  induction k using Nat.strongRecOn with
  | _ k ih =>
    intro hk hz
    have nd := h.nd hk
    obtain ⟨p1, p2⟩ := txt_part h hk hz
    have G2 : ∀ j, j < l.length → QtC A m c l j → ((rxN l j).txt 1).length ≤ 100000 → QgC A m c l j (pk l j == 3) 2 := fun j hj I hs => by
      rw [beq3]
      exact rgroup_any A m c l j I (by omega) _ 2 (txt_2 h hj)
    have G3 : ∀ j, j < l.length → QtC A m c l j → ((rxN l j).txt 1).length ≤ 100000 → QgC A m c l j (pk l j == 3 || pk l j == 2) 3 := fun j hj I hs => by
      rw [beq3, beq2]
      exact rgroup_any A m c l j I (by omega) _ 3 (txt_3 h hj)
    rcases (show pk l k = 0 ∨ pk l k = 1 ∨ pk l k = 2 ∨ pk l k = 3 ∨ pk l k = 4 by have := nd.kd; omega) with c1 | c1 | c1 | c1 | c1
    · exact qt_leaf A m c l hl h k hk c1
    · exact qt_rng A m c l hl h k hk c1
    · have a := nd.a1 (by omega)
      have b := nd.b1 (.inl c1)
      have s1 := p1 (by omega)
      have s2 := p2 (.inl c1)
      exact qt_seq A m c l hl h k hk c1 (G2 _ (by omega) (ih _ a.2 (by omega) s1) s1) (G3 _ (by omega) (ih _ b.2 (by omega) s2) s2) hz
    · have a := nd.a1 (by omega)
      have b := nd.b1 (.inr c1)
      have s1 := p1 (by omega)
      have s2 := p2 (.inr c1)
      exact qt_alt A m c l hl h k hk c1 (ih _ a.2 (by omega) s1) (G2 _ (by omega) (ih _ b.2 (by omega) s2) s2) hz
    · have a := nd.a1 (by omega)
      have s1 := p1 (by omega)
      exact qt_rep A m c l hl h k hk c1 (G3 _ (by omega) (ih _ a.2 (by omega) s1) s1) hz
set_option maxHeartbeats 4000000 in
set_option maxRecDepth 100000 in
theorem rprint_any (A : Option Addr) (m c : Nat) (l : List Pn) (w : World) (hl : Hid (l.length = m)) (hr : Hid (Rp w w.heap.size A l)) :
    Calls Tryz.prog 11 #[.slice A m c] w fun e w' => e = .returned (.tuple #[.string (prS l), .int .i64 (chP l)]) ∧ Hid (Below w.heap.size w w') := by
  have HC := Lib.hid (qpcheck_any A m c l w hl hr)
  by_cases h : chP l = 0
  · have hok := chP_zero.1 h
    have hm1 := hok.len
    have htb := txt_bound hok
    have hs : prS l = tS l (l.length - 1) 1 := if_pos h
    have hT := rtext_all A m c l hl hok (l.length - 1) (by omega) (by show ((rxP l).txt 1).length ≤ _; omega)
    obtain ⟨q, hq⟩ : ∃ q, l.length - 1 = q := ⟨_, rfl⟩
    rw [hq] at hs hT
    rw [hs, h]
    rw [h] at HC
    have HT := Lib.hid hT
    have hm2 : (m : Int) - 1 = (q : Int) := by have := hl.out; omega
    have hqb : (q : Int) ≤ 512 := by have := hm1.2; omega
    have hq0 : (0 : Int) ≤ (q : Int) := by omega
    clear hT hq
    have HRL : Hid (∀ W', Below w.heap.size w W' → Hid (Rp W' W'.heap.size A l)) := Lib.hid (fun W' hb' => Rp.later hr hb')
    unfold QtC at HT
    clear hs htb hm1 hok h
    go_enter Tryz.func11, Tryz.ntmps11
    go_wp2_with (first
      | (go_at_call 13; with_reducible refine HC.out.mono ?_; rintro e w1 ⟨rfl, b1⟩; have HX := Lib.hid (HT.out w1 (HRL.out _ b1)); have HB := Lib.hid b1; clear b1)
      | (go_at_call 37; with_reducible refine HX.out.mono ?_; rintro e w2 ⟨rfl, b2⟩; have HB2 := Lib.hid (HB.out.trans (b2.out.mono HB.out.size)); clear b2))
    go_ret2
    exact ⟨rfl, HB2⟩
  · have hs : prS l = ByteArray.mk #[] := if_neg h
    rw [hs]
    have hz : (chP l != 0) = true := bne_iff_ne.2 h
    clear hs
    go_enter Tryz.func11, Tryz.ntmps11
    go_wp2_with (go_at_call 13; with_reducible refine HC.out.mono ?_; rintro e w1 ⟨rfl, b1⟩; have HB := Lib.hid b1; clear b1)
    go_ret2
    exact ⟨rfl, HB⟩

end Go.Proofs.YtfkljlncnfeklaaGreatDoor
