/-
  The reference's text and Print. (Seat of the great laws.)
-/
import Derived.Test.YtfkljlncnfeklaaGreatDoorXQsM
import Derived.Test.YtfkljlncnfeklaaGreatDoorXQcM
import Derived.Test.YtfkljlncnfeklaaGreatDoorPh
import Derived.Deep.RegionHeld3
namespace Go.Proofs.YtfkljlncnfeklaaGreatDoor
open Go.RowKit Go.Shelf
set_option linter.unusedVariables false
set_option linter.unusedSimpArgs false
attribute [local go_sem ↓] Go.wp_at_zero Go.wp_at_succ

theorem hTake {P : Program} {md : Region.Mode} {ops : Array Oper} {Q : Exit → Act → World → Prop} {S : World → Prop} {i : Nat} {oi : Oper} {v : Value} {fuel : Nat} {listed : Array Bool} {a : Act} {w : World} (slot : Nat) (hi : ops[i]? = some oi) (hd : oi.dst = some slot)
    (hs : Region.noSelect ops = true) (hf : Region.free md ops listed i = true) (hr : (Region.ready md ops listed).contains i = true)
    (hQ : ∀ c a w, Q (.panic c) (a.put oi.dst v) w → Q (.panic c) a w) (hy : YieldsIf P ops S oi v a) (hS : S w)
    (h : wpAnyH P md ops Q S fuel (listed.setIfInBounds i true) (a.put (some slot) v) w) : wpAnyH P md ops Q S (fuel + 1) listed a w :=
  wpAnyH_take hi hs hf hr hQ hy hS (by rw [hd]; exact h)
/-- how an operand is written -/
theorem txt_2 {l : List Pn} (h : okP l) {k : Nat} (hk : k < l.length) : (rxN l k).txt 2 = if decide (pk l k = 3) = true then [40] ++ (rxN l k).txt 1 ++ [41] else (rxN l k).txt 1 := by
  rcases (show pk l k = 0 ∨ pk l k = 1 ∨ pk l k = 2 ∨ pk l k = 3 ∨ pk l k = 4 by have := (h.nd hk).kd; omega) with c | c | c | c | c
  · rw [rxN_0 c, if_neg (by rw [c]; decide)]; rfl
  · rw [rxN_1 c, if_neg (by rw [c]; decide)]; rfl
  · rw [rxN_2 h hk c, if_neg (by rw [c]; decide), txt_seq, txt_seq]; rfl
  · rw [rxN_3 h hk c, if_pos (by rw [c]; decide), txt_alt, txt_alt, if_pos (by decide), if_neg (by decide)]
  · rw [rxN_4 h hk c, if_neg (by rw [c]; decide), txt_rep, txt_rep]; rfl
theorem txt_3 {l : List Pn} (h : okP l) {k : Nat} (hk : k < l.length) : (rxN l k).txt 3 = if (decide (pk l k = 3) || decide (pk l k = 2)) = true then [40] ++ (rxN l k).txt 1 ++ [41] else (rxN l k).txt 1 := by
  rcases (show pk l k = 0 ∨ pk l k = 1 ∨ pk l k = 2 ∨ pk l k = 3 ∨ pk l k = 4 by have := (h.nd hk).kd; omega) with c | c | c | c | c
  · rw [rxN_0 c, if_neg (by rw [c]; decide)]; rfl
  · rw [rxN_1 c, if_neg (by rw [c]; decide)]; rfl
  · rw [rxN_2 h hk c, if_pos (by rw [c]; decide), txt_seq, txt_seq, if_pos (by decide), if_neg (by decide)]
  · rw [rxN_3 h hk c, if_pos (by rw [c]; decide), txt_alt, txt_alt, if_pos (by decide), if_neg (by decide)]
  · rw [rxN_4 h hk c, if_neg (by rw [c]; decide), txt_rep, txt_rep]; rfl
theorem txt_low (r : Rx) : ∀ least, (r.txt 1).length ≤ (r.txt least).length ∧ (r.txt least).length ≤ (r.txt 1).length + 2 := fun least => by
  cases r with
  | emp => exact ⟨Nat.le_refl _, by simp [txt_emp]⟩
  | rng lo hi => exact ⟨Nat.le_refl _, Nat.le_add_right _ _⟩
  | seq a b =>
    rw [txt_seq, txt_seq, if_neg (by decide)]
    split <;> simp only [List.length_append, List.length_cons, List.length_nil] <;> omega
  | alt a b =>
    rw [txt_alt, txt_alt, if_neg (by decide)]
    split <;> simp only [List.length_append, List.length_cons, List.length_nil] <;> omega
  | rep a =>
    rw [txt_rep, txt_rep, if_neg (by decide)]
    split <;> simp only [List.length_append, List.length_cons, List.length_nil] <;> omega
theorem ts_size (l : List Pn) (k least : Nat) : (tS l k least).size = ((rxN l k).txt least).length := bs_size _
theorem ts_seq {l : List Pn} (h : okP l) {k : Nat} (hk : k < l.length) (c : pk l k = 2) : tS l k 1 = tS l (pa l k).toNat 2 ++ tS l (pb l k).toNat 3 := by
  unfold tS
  rw [bs_app, rxN_2 h hk c, txt_seq, if_neg (by decide)]
theorem ts_alt {l : List Pn} (h : okP l) {k : Nat} (hk : k < l.length) (c : pk l k = 3) : tS l k 1 = tS l (pa l k).toNat 1 ++ (⟨#[124]⟩ : ByteArray) ++ tS l (pb l k).toNat 2 := by
  unfold tS
  rw [show (⟨#[124]⟩ : ByteArray) = ⟨[124].toArray⟩ from rfl, bs_app, bs_app, rxN_3 h hk c, txt_alt, if_neg (by decide)]
theorem ts_rep {l : List Pn} (h : okP l) {k : Nat} (hk : k < l.length) (c : pk l k = 4) : tS l k 1 = tS l (pa l k).toNat 3 ++ (⟨#[42]⟩ : ByteArray) := by
  unfold tS
  rw [show (⟨#[42]⟩ : ByteArray) = ⟨[42].toArray⟩ from rfl, bs_app, rxN_4 h hk c, txt_rep, if_neg (by decide)]
theorem ts_rng {l : List Pn} {k : Nat} (c : pk l k = 1) : tS l k 1 = rgS (plo l k).toNat (phi l k).toNat := by
  unfold tS
  rw [rxN_1 c, ← rgS_txt]
theorem ts_emp {l : List Pn} {k : Nat} (c : pk l k = 0) : tS l k 1 = ⟨#[40, 41]⟩ := by
  unfold tS
  rw [rxN_0 c, txt_emp]
/-- the cells of a node's copy -/
theorem cp_cells (w : World) (a0 a1 a2 a3 a4 : Value) : ∀ W, w.alloc (.cells #[a0, a1, a2, a3, a4] 42) = W → Below w.heap.size w W ∧ Bx W w.heap.size #[a0, a1, a2, a3, a4] 42 := by
  rintro W rfl
  exact ⟨(Below.refl _ _).alloc (Nat.le_refl _) _, bx_new rfl _ _⟩
theorem bx5 {W : World} {g T : Nat} {a0 a1 a2 a3 a4 : Value} (h : Bx W g #[a0, a1, a2, a3, a4] T) : W.cell? ⟨g, 0, none⟩ = some a0 ∧ W.cell? ⟨g, 1, none⟩ = some a1 ∧ W.cell? ⟨g, 2, none⟩ = some a2 ∧ W.cell? ⟨g, 3, none⟩ = some a3 ∧ W.cell? ⟨g, 4, none⟩ = some a4 :=
  ⟨h.cell 0, h.cell 1, h.cell 2, h.cell 3, h.cell 4⟩
set_option maxRecDepth 100000 in
set_option maxHeartbeats 4000000 in
theorem qt_leaf (A : Option Addr) (m c : Nat) (l : List Pn) (hl : Hid (l.length = m)) (h : okP l) (k : Nat) (hk : k < l.length) (c1 : pk l k = 0) : QtC A m c l k := fun W hr => by
  have nd := h.nd hk
  obtain ⟨b, o, e, hb, hc⟩ := hr.out (by omega)
  subst e
  obtain ⟨d0, d1, d2, d3, d4⟩ := hc k hk
  obtain ⟨g0, _⟩ := hc 0 (by omega)
  have n1 := nd.a0 (by omega)
  have n2 := nd.b00 (by omega) (by omega)
  rw [c1] at d0
  rw [n1] at d3
  rw [n2] at d4
  have HT := Lib.hid (ts_emp c1)
  have i1 : (0 : Int) ≤ (k : Int) := by omega
  have i2 : (k : Int) < (m : Int) := by rw [← hl.out]; omega
  have i3 : (0 : Int) < (m : Int) := by omega
  have HB := Lib.hid ((Below.refl W.heap.size W).alloc (Nat.le_refl _) (.cells #[.int .i64 0, .int .i64 (plo l k), .int .i64 (phi l k), .int .i64 0, .int .i64 0] 42))
  rw [Nat.zero_mul, Nat.add_zero] at g0
  clear hc nd n1 n2 c1
  go_enter Tryz.func37, Tryz.ntmps37
  go_wp2
  go_ret
  exact ⟨by rw [HT.out]; rfl, HB⟩
set_option maxRecDepth 100000 in
set_option maxHeartbeats 4000000 in
theorem qt_rng (A : Option Addr) (m c : Nat) (l : List Pn) (hl : Hid (l.length = m)) (h : okP l) (k : Nat) (hk : k < l.length) (c1 : pk l k = 1) : QtC A m c l k := fun W hr => by
  have nd := h.nd hk
  obtain ⟨b, o, e, hb, hc⟩ := hr.out (by omega)
  subst e
  obtain ⟨d0, d1, d2, d3, d4⟩ := hc k hk
  obtain ⟨g0, _⟩ := hc 0 (by omega)
  have n1 := nd.a0 (by omega)
  have n2 := nd.b00 (by omega) (by omega)
  have n3 := nd.by'
  rw [c1] at d0
  rw [n1] at d3
  rw [n2] at d4
  have HT := Lib.hid (ts_rng c1)
  obtain ⟨lo, hlo⟩ : ∃ j : Nat, plo l k = (j : Int) := ⟨(plo l k).toNat, by omega⟩
  obtain ⟨hi, hhi⟩ : ∃ j : Nat, phi l k = (j : Int) := ⟨(phi l k).toNat, by omega⟩
  rw [hlo] at d1 HT n3
  rw [hhi] at d2 HT n3
  rw [Int.toNat_natCast, Int.toNat_natCast] at HT
  have h1 : lo < 256 := by omega
  have h2 : hi < 256 := by omega
  have i1 : (0 : Int) ≤ (k : Int) := by omega
  have i2 : (k : Int) < (m : Int) := by rw [← hl.out]; omega
  have i3 : (0 : Int) < (m : Int) := by omega
  rw [Nat.zero_mul, Nat.add_zero] at g0
  have P := cp_cells W (.int .i64 1) (.int .i64 (lo : Int)) (.int .i64 (hi : Int)) (.int .i64 0) (.int .i64 0)
  have G0 : ∀ W', Below W.heap.size W W' → W'.cell? ⟨b, o, none⟩ = some (.int .i64 (pk l 0)) := fun W' hb' => (hb'.cell (p := ⟨b, _, none⟩) hb).trans g0
  clear hc nd n1 n2 c1 hlo hhi
  go_enter Tryz.func37, Tryz.ntmps37
  go_upto_region 2 with fail
  generalize hwa : World.alloc W _ = wa
  obtain ⟨B1, X1⟩ := P _ hwa
  have g0 := G0 _ B1
  clear hwa P d0 d1 d2 d3 d4 G0
  have HB := Lib.hid B1
  have HX := Lib.hid X1
  obtain ⟨y0, y1, y2, y3, y4⟩ := bx5 X1
  have HXd := Lib.hid (bx_dr X1)
  have HBd := Lib.hid B1.drew
  clear B1 X1
  by_cases he : lo = hi
  · subst he
    have HR := Lib.hid (show rgS lo lo = chS lo from if_pos rfl)
    go_wp2_with (go_at_call 61; with_reducible refine (rshow_any lo h1 _).mono ?_; rintro e w2 ⟨rfl, b2⟩; have HB2 := Lib.hid (HB.out.trans (b2.mono HB.out.size)); clear b2)
    go_ret
    exact ⟨by rw [HT.out, HR.out]; rfl, HB2⟩
  · have hn : ((lo : Int) == (hi : Int)) = false := beq_eq_false_iff_ne.2 (by omega)
    have HR := Lib.hid (show rgS lo hi = ByteArray.mk #[91] ++ chS lo ++ ByteArray.mk #[45] ++ chS hi ++ ByteArray.mk #[93] from if_neg he)
    have z1 := chS_size lo
    have z2 := chS_size hi
    have H1 := Lib.hid (fun W => rshow_any lo h1 W)
    have H2 := Lib.hid (fun W => rshow_any hi h2 W)
    generalize hC1 : chS lo = C1 at *
    generalize hC2 : chS hi = C2 at *
    clear hC1 hC2 he
    go_upto_region 8 with fail
    go_region_with (first
      | (go_at_call 61; with_reducible refine (H1.out _).mono ?_; rintro e w2 ⟨rfl, b2⟩; obtain ⟨y0, y1, y2, y3, y4⟩ := bx5 (HXd.out.below b2); have HB2 := Lib.hid (HBd.out.trans (b2.mono HBd.out.size)); clear b2)
      | (go_at_call 61; with_reducible refine (H2.out _).mono ?_; rintro e w3 ⟨rfl, b3⟩; have HB3 := Lib.hid (HB2.out.trans (b3.mono HB2.out.size)); clear b3))
    all_goals
      go_wp2
      go_ret
      exact ⟨by rw [HT.out, HR.out]; rfl, HB3⟩
set_option maxRecDepth 100000 in
set_option maxHeartbeats 4000000 in
theorem qt_seq (A : Option Addr) (m c : Nat) (l : List Pn) (hl : Hid (l.length = m)) (h : okP l) (k : Nat) (hk : k < l.length) (c1 : pk l k = 2) (IA : QgC A m c l (pa l k).toNat (pk l (pa l k).toNat == 3) 2) (IB : QgC A m c l (pb l k).toNat (pk l (pb l k).toNat == 3 || pk l (pb l k).toNat == 2) 3) (hz : ((rxN l k).txt 1).length ≤ 100000) : QtC A m c l k := fun W hr => by
  have nd := h.nd hk
  obtain ⟨b, o, e, hb, hc⟩ := hr.out (by omega)
  subst e
  obtain ⟨d0, d1, d2, d3, d4⟩ := hc k hk
  have n3 := nd.b0 (by omega)
  obtain ⟨a1, a2⟩ := nd.a1 (by omega)
  obtain ⟨b1, b2⟩ := nd.b1 (.inl c1)
  rw [c1] at d0
  rw [n3.1] at d1
  rw [n3.2] at d2
  have hT := ts_seq h hk c1
  have hZ := congrArg ByteArray.size hT
  rw [ts_size] at hZ
  obtain ⟨j, hj⟩ : ∃ j : Nat, pa l k = (j : Int) := ⟨(pa l k).toNat, by omega⟩
  rw [hj] at d3 hT hZ IA a2
  rw [Int.toNat_natCast] at hT hZ IA a2
  obtain ⟨i, hi⟩ : ∃ i : Nat, pb l k = (i : Int) := ⟨(pb l k).toNat, by omega⟩
  rw [hi] at d4 hT hZ IB b2
  rw [Int.toNat_natCast] at hT hZ IB b2
  rw [ByteArray.size_append] at hZ
  have z1 : (tS l j 2).size ≤ 100000 := by omega
  have z2 : (tS l i 3).size ≤ 100000 := by omega
  obtain ⟨g0, _⟩ := hc j (by omega)
  obtain ⟨g1, _⟩ := hc i (by omega)
  have k1 : (0 : Int) ≤ (i : Int) := by omega
  have k2 : (i : Int) < (m : Int) := by rw [← hl.out]; omega
  have i1 : (0 : Int) ≤ (k : Int) := by omega
  have i2 : (k : Int) < (m : Int) := by rw [← hl.out]; omega
  have j1 : (0 : Int) ≤ (j : Int) := by omega
  have j2 : (j : Int) < (m : Int) := by rw [← hl.out]; omega
  have P := cp_cells W (.int .i64 2) (.int .i64 0) (.int .i64 0) (.int .i64 (j : Int)) (.int .i64 (i : Int))
  have G0 : ∀ W', Below W.heap.size W W' → W'.cell? ⟨b, o + j * 5, none⟩ = some (.int .i64 (pk l j)) := fun W' hb' => (hb'.cell (p := ⟨b, _, none⟩) hb).trans g0
  have G1 : ∀ W', Below W.heap.size W W' → W'.cell? ⟨b, o + i * 5, none⟩ = some (.int .i64 (pk l i)) := fun W' hb' => (hb'.cell (p := ⟨b, _, none⟩) hb).trans g1
  have HRL : Hid (∀ W', Below W.heap.size W W' → Hid (Rp W' W'.heap.size (some ⟨b, o, none⟩) l)) := Lib.hid (fun W' hb' => Rp.later hr hb')
  clear hc nd
  have HT := Lib.hid hT
  have HIA := Lib.hid IA
  generalize pk l j = KA at *
  generalize pk l i = KB at *
  obtain ⟨ba, hba⟩ : ∃ q, (KA == 3) = q := ⟨_, rfl⟩
  rw [hba] at HIA

  clear IA hT
  go_enter Tryz.func37, Tryz.ntmps37
  go_upto_region 2 with fail
  generalize hwa : World.alloc W _ = wa
  obtain ⟨B1, X1⟩ := P _ hwa
  have g0 := G0 _ B1
  have g1 := G1 _ B1
  clear G1
  clear hwa P d0 d1 d2 d3 d4 G0
  have HB := Lib.hid B1
  have HX := Lib.hid X1
  obtain ⟨y0, y1, y2, y3, y4⟩ := bx5 X1
  have HXd := Lib.hid (bx_dr X1)
  have HBd := Lib.hid B1.drew
  clear B1 X1
  have HA := Lib.hid (HIA.out wa.drew (HRL.out _ HB.out.drew))
  generalize tS l j 2 = TA at *
  go_upto_region 10 with fail
  rcases hb3 : (KB == 3) with _ | _
  · obtain ⟨bb, hbb⟩ : ∃ q, (KB == 2) = q := ⟨_, rfl⟩
    rw [hb3, hbb, Bool.false_or] at IB
    unfold QgC at IB
    have HIB := Lib.hid IB
    clear IB
    go_region_with (first
      | (go_at_call 62; with_reducible refine HA.out.mono ?_; rintro e w2 ⟨rfl, b2⟩; obtain ⟨y0, y1, y2, y3, y4⟩ := bx5 (HXd.out.below b2.out); have HB2 := Lib.hid (HBd.out.trans (b2.out.mono HBd.out.size)); have HBC := Lib.hid (HIB.out w2 (HRL.out _ HB2.out)); clear b2)
      | (go_at_call 62; with_reducible refine HBC.out.mono ?_; rintro e w3 ⟨rfl, b3⟩; have HB3 := Lib.hid (HB2.out.trans (b3.out.mono HB2.out.size)); clear b3))
    all_goals
      go_wp2
      go_ret
      exact ⟨by rw [HT.out]; rfl, HB3⟩
  · rw [hb3, Bool.true_or] at IB
    unfold QgC at IB
    have HIB := Lib.hid IB
    clear IB
    generalize tS l i 3 = TB at *
    have zs : TA.size + TB.size ≤ 9223372036854775807 := by omega
    have y3d : wa.drew.cell? ⟨W.heap.size, 3, none⟩ = some (.int .i64 (j : Int)) := y3
    have y4d : wa.drew.cell? ⟨W.heap.size, 4, none⟩ = some (.int .i64 (i : Int)) := y4
    refine wp_region_held_drew (S := (fun w' => w'.cell? ⟨W.heap.size, 3, none⟩ = some (.int .i64 (j : Int)) ∧ w'.cell? ⟨W.heap.size, 4, none⟩ = some (.int .i64 (i : Int)))) (by kernel_rfl) ?_ (fun hHeld => ?_)
    · (try dsimp only); first | (refine ⟨?_, ?_⟩ <;> (with_reducible assumption)) | go_keep
    refine hTake (i := 0) (v := .slice (some ⟨b, o, none⟩) m c) 48 rfl rfl (by kernel_rfl) (by kernel_rfl) (by kernel_rfl) (fun _ _ _ h => h) (Or.inl ⟨by rfl, ?_⟩) hHeld ?_
    · (intro wS hSw; (try dsimp only at hSw); go_simp)
    simp only [Act.put, List.setIfInBounds_toArray, List.set_cons_zero, List.set_cons_succ]
    refine hTake (i := 1) (v := .pointer (some ⟨W.heap.size, 3, none⟩)) 49 rfl rfl (by kernel_rfl) (by kernel_rfl) (by kernel_rfl) (fun _ _ _ h => h) (Or.inl ⟨by rfl, ?_⟩) hHeld ?_
    · (intro wS hSw; (try dsimp only at hSw); go_simp)
    simp only [Act.put, List.setIfInBounds_toArray, List.set_cons_zero, List.set_cons_succ]
    refine hTake (i := 2) (v := .int .i64 (j : Int)) 50 rfl rfl (by kernel_rfl) (by kernel_rfl) (by kernel_rfl) (fun _ _ _ h => h) (Or.inl ⟨by rfl, ?_⟩) hHeld ?_
    · (intro wS hSw; (try dsimp only at hSw); go_simp)
    simp only [Act.put, List.setIfInBounds_toArray, List.set_cons_zero, List.set_cons_succ]
    refine hTake (i := 3) (v := .int .i64 KA) 51 rfl rfl (by kernel_rfl) (by kernel_rfl) (by kernel_rfl) (fun _ _ _ h => h) (Or.inl ⟨by rfl, ?_⟩) hHeld ?_
    · (intro wS hSw; (try dsimp only at hSw); go_simp)
    simp only [Act.put, List.setIfInBounds_toArray, List.set_cons_zero, List.set_cons_succ]
    refine hTake (i := 4) (v := .bool ba) 52 rfl rfl (by kernel_rfl) (by kernel_rfl) (by kernel_rfl) (fun _ _ _ h => h) (Or.inl ⟨by rfl, ?_⟩) hHeld ?_
    · (intro wS hSw; (try dsimp only at hSw); go_simp)
    simp only [Act.put, List.setIfInBounds_toArray, List.set_cons_zero, List.set_cons_succ]
    refine hTake (i := 6) (v := .slice (some ⟨b, o, none⟩) m c) 54 rfl rfl (by kernel_rfl) (by kernel_rfl) (by kernel_rfl) (fun _ _ _ h => h) (Or.inl ⟨by rfl, ?_⟩) hHeld ?_
    · (intro wS hSw; (try dsimp only at hSw); go_simp)
    simp only [Act.put, List.setIfInBounds_toArray, List.set_cons_zero, List.set_cons_succ]
    refine hTake (i := 7) (v := .pointer (some ⟨W.heap.size, 4, none⟩)) 55 rfl rfl (by kernel_rfl) (by kernel_rfl) (by kernel_rfl) (fun _ _ _ h => h) (Or.inl ⟨by rfl, ?_⟩) hHeld ?_
    · (intro wS hSw; (try dsimp only at hSw); go_simp)
    simp only [Act.put, List.setIfInBounds_toArray, List.set_cons_zero, List.set_cons_succ]
    refine hTake (i := 8) (v := .int .i64 (i : Int)) 56 rfl rfl (by kernel_rfl) (by kernel_rfl) (by kernel_rfl) (fun _ _ _ h => h) (Or.inl ⟨by rfl, ?_⟩) hHeld ?_
    · (intro wS hSw; (try dsimp only at hSw); go_simp)
    simp only [Act.put, List.setIfInBounds_toArray, List.set_cons_zero, List.set_cons_succ]
    refine hTake (i := 9) (v := .int .i64 KB) 57 rfl rfl (by kernel_rfl) (by kernel_rfl) (by kernel_rfl) (fun _ _ _ h => h) (Or.inl ⟨by rfl, ?_⟩) hHeld ?_
    · (intro wS hSw; (try dsimp only at hSw); go_simp)
    simp only [Act.put, List.setIfInBounds_toArray, List.set_cons_zero, List.set_cons_succ]
    refine hTake (i := 10) (v := .bool true) 58 rfl rfl (by kernel_rfl) (by kernel_rfl) (by kernel_rfl) (fun _ _ _ h => h) (Or.inl ⟨by rfl, ?_⟩) hHeld ?_
    · (intro wS hSw; (try dsimp only at hSw); go_simp)
    simp only [Act.put, List.setIfInBounds_toArray, List.set_cons_zero, List.set_cons_succ]
    refine wpAnyH_ready (rs := [5]) (by kernel_rfl) (by simp) ?_
    refine AllReadyH.cons rfl (fun K hK => ?_) AllReadyH.nil
    go_simp
    go_at_call 62
    with_reducible refine HA.out.mono ?_
    rintro e w2 ⟨rfl, b2⟩
    clear y3d y4d
    obtain ⟨y0, y1, y2, y3, y4⟩ := bx5 (HXd.out.below b2.out)
    have HB2 := Lib.hid (HBd.out.trans (b2.out.mono HBd.out.size))
    have HBC := Lib.hid (HIB.out w2 (HRL.out _ HB2.out))
    have HX2 := Lib.hid (HXd.out.below b2.out)
    clear b2
    go_wp2_with fail
    refine hK.out _ _ ?_ (fun hHeld => ?_)
    · (try dsimp only); first | (refine ⟨?_, ?_⟩ <;> (with_reducible assumption)) | go_keep
    clear hK K
    try simp only [Act.put, List.setIfInBounds_toArray, List.set_cons_zero, List.set_cons_succ]
    refine hTake (i := 11) (v := .bool true) 59 rfl rfl (by kernel_rfl) (by kernel_rfl) (by kernel_rfl) (fun _ _ _ h => h) (Or.inl ⟨by rfl, ?_⟩) hHeld ?_
    · (intro wS hSw; (try dsimp only at hSw); go_simp)
    simp only [Act.put, List.setIfInBounds_toArray, List.set_cons_zero, List.set_cons_succ]
    refine hTake (i := 12) (v := undef) 60 rfl rfl (by kernel_rfl) (by kernel_rfl) (by kernel_rfl) (fun _ _ _ h => h) (Or.inr ⟨by rfl, rfl⟩) hHeld ?_
    simp only [Act.put, List.setIfInBounds_toArray, List.set_cons_zero, List.set_cons_succ]
    refine hTake (i := 13) (v := undef) 61 rfl rfl (by kernel_rfl) (by kernel_rfl) (by kernel_rfl) (fun _ _ _ h => h) (Or.inr ⟨by rfl, rfl⟩) hHeld ?_
    simp only [Act.put, List.setIfInBounds_toArray, List.set_cons_zero, List.set_cons_succ]
    refine hTake (i := 14) (v := .bool true) 62 rfl rfl (by kernel_rfl) (by kernel_rfl) (by kernel_rfl) (fun _ _ _ h => h) (Or.inl ⟨by rfl, ?_⟩) hHeld ?_
    · (intro wS hSw; (try dsimp only at hSw); go_simp)
    simp only [Act.put, List.setIfInBounds_toArray, List.set_cons_zero, List.set_cons_succ]
    refine wpAnyH_ready (rs := [15]) (by kernel_rfl) (by simp) ?_
    refine AllReadyH.cons rfl (fun K hK => ?_) AllReadyH.nil
    go_simp
    go_at_call 62
    with_reducible refine HBC.out.mono ?_
    rintro e w3 ⟨rfl, b3⟩
    clear y0 y1 y2 y3 y4
    obtain ⟨y0, y1, y2, y3, y4⟩ := bx5 (HX2.out.below b3.out)
    have HB3 := Lib.hid (HB2.out.trans (b3.out.mono HB2.out.size))
    clear b3
    go_wp2_with fail
    refine hK.out _ _ ?_ (fun hHeld => ?_)
    · (try dsimp only); first | (refine ⟨?_, ?_⟩ <;> (with_reducible assumption)) | go_keep
    clear hK K
    try simp only [Act.put, List.setIfInBounds_toArray, List.set_cons_zero, List.set_cons_succ]
    refine hTake (i := 16) (v := .string (TA ++ TB)) 64 rfl rfl (by kernel_rfl) (by kernel_rfl) (by kernel_rfl) (fun _ _ _ h => h) (Or.inl ⟨by rfl, ?_⟩) hHeld ?_
    · (intro wS hSw; (try dsimp only at hSw); go_simp)
    simp only [Act.put, List.setIfInBounds_toArray, List.set_cons_zero, List.set_cons_succ]
    refine hTake (i := 17) (v := .string (TA ++ TB)) 4 rfl rfl (by kernel_rfl) (by kernel_rfl) (by kernel_rfl) (fun _ _ _ h => h) (Or.inl ⟨by rfl, ?_⟩) hHeld ?_
    · (intro wS hSw; (try dsimp only at hSw); go_simp)
    simp only [Act.put, List.setIfInBounds_toArray, List.set_cons_zero, List.set_cons_succ]
    refine wpAnyH_done (by kernel_rfl) ?_ _
    go_wp2
    go_ret
    exact ⟨by rw [HT.out]; rfl, HB3⟩

end Go.Proofs.YtfkljlncnfeklaaGreatDoor
