/-
  The reference's automaton in memory: rows of booleans; enter. (Seat of the great laws.)
-/
import Derived.Test.YtfkljlncnfeklaaGreatDoorXQtM
import Derived.Test.YtfkljlncnfeklaaGreatDoorPc
namespace Go.Proofs.YtfkljlncnfeklaaGreatDoor
open Go.RowKit Go.Shelf
set_option linter.unusedVariables false
set_option linter.unusedSimpArgs false
attribute [local go_sem ↓] Go.wp_at_zero Go.wp_at_succ

def boC (s : List Bool) : Array Value := (s.map Value.bool).toArray
/-- block g is the booleans s -/
def Bq (W : World) (g : Nat) (s : List Bool) : Prop := Bx W g (boC s) 4
theorem Bq.lt {W : World} {g : Nat} {s : List Bool} (h : Bq W g s) : g < W.heap.size := Bx.lt h
theorem Bq.cell' {W : World} {g : Nat} {s : List Bool} (h : Bq W g s) {j : Nat} (hj : j < s.length) : W.cell? ⟨g, j, none⟩ = some (.bool (s.getD j false)) := by
  have := cell_of_row W g j (boC s) 4 (0, 0) h
  rw [this]
  unfold boC
  rw [List.getD_eq_getElem?_getD, List.getElem?_eq_getElem hj]
  simp [hj]
theorem Bq.frz {W : World} {g : Nat} {s : List Bool} (h : Bq W g s) (j : Nat) : W.frozen? ⟨g, j, none⟩ = false := Bx.frz h j
theorem Bq.below {W W' : World} {g : Nat} {s : List Bool} (h : Bq W g s) (hb : Below W.heap.size W W') : Bq W' g s := Bx.below h hb
theorem Bq.set {W : World} {g : Nat} {s : List Bool} (h : Bq W g s) {j : Nat} (hj : j < s.length) : Bq (W.setCell ⟨g, j, none⟩ (.bool true)) g (s.set j true) := by
  have e : boC (s.set j true) = (boC s).setIfInBounds j (.bool true) := by
    unfold boC
    rw [List.map_set]
    simp
  unfold Bq
  rw [e]
  exact heap_set W g j (.bool true) h
theorem Mv.of_below {g : Nat} {w w' : World} (h : Below w.heap.size w w') : Mv g w w' := ⟨h.os, h.tape, h.output, h.size, fun k hk _ => h.block k hk⟩
theorem Mv.trans {g : Nat} {a b c : World} (h : Mv g a b) (h' : Mv g b c) : Mv g a c :=
  ⟨h'.os.trans h.os, h'.tape.trans h.tape, h'.output.trans h.output, Nat.le_trans h.size h'.size, fun k hk hn => (h'.block k (Nat.lt_of_lt_of_le hk h.size) hn).trans (h.block k hk hn)⟩
theorem Mv.set' {g : Nat} {a b : World} (h : Mv g a b) (j : Nat) (v : Value) : Mv g a (b.setCell ⟨g, j, none⟩ v) :=
  h.trans ⟨rfl, rfl, rfl, by simp, fun k _ hn => Below.heap_setCell _ _ _ _ (fun e => hn e)⟩
theorem Mv.bx {g k T : Nat} {a b : World} {cs : Array Value} (h : Mv g a b) (hb : Bx a k cs T) (hn : k ≠ g) : Bx b k cs T := (h.block k (Bx.lt hb) hn).trans hb
/-- the pattern's nodes stay, where their block is another -/
theorem Rp.mv {g B : Nat} {a b : World} {A : Option Addr} {l : List Pn} (h : Rp a B A l) (hm : Mv g a b) (hB : B ≤ a.heap.size) (hg : B ≤ g) : Rp b B A l := h.keep (fun k hk => hm.block k (by omega) (by omega))
/-- the call of enter at node k -/
def EnC (A : Option Addr) (m c : Nat) (l : List Pn) (B : Nat) (k : Nat) : Prop := ∀ (W : World) (g cl : Nat) (s : List Bool), Hid (Rp W B A l) → B ≤ g → Hid (Bq W g s) → s.length = m →
  Calls Tryz.prog 71 #[.slice A m c, .int .i64 (k : Int), .slice (some ⟨g, 0, none⟩) m cl] W fun e w' => e = .returned (.bool (enR l (k + 1) k s).1) ∧ Hid (Bq w' g (enR l (k + 1) k s).2) ∧ Hid (Mv g W w')
section
variable {l : List Pn} (n : Nat) {k : Nat} (s : List Bool)
theorem enS_0 (c : pk l k = 0) : enR l (n + 1) k s = (true, s) := by rw [enR, if_pos c]
theorem enS_1 (c : pk l k = 1) : enR l (n + 1) k s = (false, s.set k true) := by rw [enR, if_neg (by omega), if_pos c]
theorem enS_2 (c : pk l k = 2) : enR l (n + 1) k s = (if (enR l n (pa l k).toNat s).1 = true then enR l n (pb l k).toNat (enR l n (pa l k).toNat s).2 else (false, (enR l n (pa l k).toNat s).2)) := by rw [enR, if_neg (by omega), if_neg (by omega), if_pos c]
theorem enS_3 (c : pk l k = 3) : enR l (n + 1) k s = ((enR l n (pa l k).toNat s).1 || (enR l n (pb l k).toNat (enR l n (pa l k).toNat s).2).1, (enR l n (pb l k).toNat (enR l n (pa l k).toNat s).2).2) := by rw [enR, if_neg (by omega), if_neg (by omega), if_neg (by omega), if_pos c]
theorem enS_4 (c : pk l k = 4) : enR l (n + 1) k s = (true, (enR l n (pa l k).toNat s).2) := by rw [enR, if_neg (by omega), if_neg (by omega), if_neg (by omega), if_neg (by omega)]
end
theorem enR_fuel {l : List Pn} (h : okP l) : ∀ n n' k, k < n → k < n' → k < l.length → ∀ s, enR l n k s = enR l n' k s
  | 0, _, _, h1, _, _, _ => by omega
  | _, 0, _, _, h2, _, _ => by omega
  | n + 1, n' + 1, k, h1, h2, hk, s => by
    have nd := h.nd hk
    rcases (show pk l k = 0 ∨ pk l k = 1 ∨ pk l k = 2 ∨ pk l k = 3 ∨ pk l k = 4 by have := nd.kd; omega) with c | c | c | c | c
    · rw [enS_0 n s c, enS_0 n' s c]
    · rw [enS_1 n s c, enS_1 n' s c]
    · have ha := nd.a1 (by omega)
      have hb := nd.b1 (.inl c)
      rw [enS_2 n s c, enS_2 n' s c, enR_fuel h n n' (pa l k).toNat (by omega) (by omega) (by omega) s, enR_fuel h n n' (pb l k).toNat (by omega) (by omega) (by omega) _]
    · have ha := nd.a1 (by omega)
      have hb := nd.b1 (.inr c)
      rw [enS_3 n s c, enS_3 n' s c, enR_fuel h n n' (pa l k).toNat (by omega) (by omega) (by omega) s, enR_fuel h n n' (pb l k).toNat (by omega) (by omega) (by omega) _]
    · have ha := nd.a1 (by omega)
      rw [enS_4 n s c, enS_4 n' s c, enR_fuel h n n' (pa l k).toNat (by omega) (by omega) (by omega) s]
section
variable {l : List Pn} (h : okP l) {k : Nat} (hk : k < l.length) (s : List Bool)
theorem enR_0 (c : pk l k = 0) : enR l (k + 1) k s = (true, s) := enS_0 k s c
theorem enR_1 (c : pk l k = 1) : enR l (k + 1) k s = (false, s.set k true) := enS_1 k s c
include h hk
theorem enR_2 (c : pk l k = 2) : enR l (k + 1) k s = (if (enR l ((pa l k).toNat + 1) (pa l k).toNat s).1 = true then enR l ((pb l k).toNat + 1) (pb l k).toNat (enR l ((pa l k).toNat + 1) (pa l k).toNat s).2 else (false, (enR l ((pa l k).toNat + 1) (pa l k).toNat s).2)) := by
  have ha := (h.nd hk).a1 (by omega)
  have hb := (h.nd hk).b1 (.inl c)
  rw [enS_2 k s c, enR_fuel h k ((pa l k).toNat + 1) (pa l k).toNat (by omega) (by omega) (by omega) s, enR_fuel h k ((pb l k).toNat + 1) (pb l k).toNat (by omega) (by omega) (by omega) _]
theorem enR_3 (c : pk l k = 3) : enR l (k + 1) k s = ((enR l ((pa l k).toNat + 1) (pa l k).toNat s).1 || (enR l ((pb l k).toNat + 1) (pb l k).toNat (enR l ((pa l k).toNat + 1) (pa l k).toNat s).2).1, (enR l ((pb l k).toNat + 1) (pb l k).toNat (enR l ((pa l k).toNat + 1) (pa l k).toNat s).2).2) := by
  have ha := (h.nd hk).a1 (by omega)
  have hb := (h.nd hk).b1 (.inr c)
  rw [enS_3 k s c, enR_fuel h k ((pa l k).toNat + 1) (pa l k).toNat (by omega) (by omega) (by omega) s, enR_fuel h k ((pb l k).toNat + 1) (pb l k).toNat (by omega) (by omega) (by omega) _]
theorem enR_4 (c : pk l k = 4) : enR l (k + 1) k s = (true, (enR l ((pa l k).toNat + 1) (pa l k).toNat s).2) := by
  have ha := (h.nd hk).a1 (by omega)
  rw [enS_4 k s c, enR_fuel h k ((pa l k).toNat + 1) (pa l k).toNat (by omega) (by omega) (by omega) s]
end
theorem enR_len {l : List Pn} (h : okP l) {k : Nat} (hk : k < l.length) {s : List Bool} (hs : s.length = l.length) : (enR l (k + 1) k s).2.length = l.length := (enR_ok h (k + 1) k (by omega) hk s hs).2.1

set_option maxRecDepth 100000 in
set_option maxHeartbeats 4000000 in
theorem en_emp (A : Option Addr) (m c : Nat) (l : List Pn) (B : Nat) (hl : Hid (l.length = m)) (h : okP l) (k : Nat) (hk : k < l.length) (c1 : pk l k = 0) : EnC A m c l B k := fun W g cl s hr hBg hq hs => by
  have nd := h.nd hk
  obtain ⟨b, o, e, hb, hc⟩ := hr.out (by omega)
  subst e
  obtain ⟨d0, d1, d2, d3, d4⟩ := hc k hk
  have i1 : (0 : Int) ≤ (k : Int) := by omega
  have i2 : (k : Int) < (m : Int) := by rw [← hl.out]; omega
  have hgW := hq.out.lt
  rw [c1] at d0
  have HE := Lib.hid (enR_0 (l := l) (k := k) s c1)
  have P := cp_cells W (.int .i64 0) (.int .i64 (plo l k)) (.int .i64 (phi l k)) (.int .i64 (pa l k)) (.int .i64 (pb l k))
  clear hc nd c1
  go_enter Tryz.func71, Tryz.ntmps71
  go_upto_region 3 with fail
  generalize hwa : World.alloc W _ = wa
  obtain ⟨B1, X1⟩ := P _ hwa
  clear hwa P d0 d1 d2 d3 d4
  have HM := Lib.hid (Mv.of_below (g := g) B1)
  have HQ := Lib.hid (hq.out.below B1)
  have HX := Lib.hid X1
  have hgx : W.heap.size ≠ g := by omega
  obtain ⟨y0, y1, y2, y3, y4⟩ := bx5 X1
  go_wp2
  go_ret
  rw [HE.out]
  exact ⟨rfl, HQ, HM⟩

set_option maxRecDepth 100000 in
set_option maxHeartbeats 4000000 in
theorem en_rng (A : Option Addr) (m c : Nat) (l : List Pn) (B : Nat) (hl : Hid (l.length = m)) (h : okP l) (k : Nat) (hk : k < l.length) (c1 : pk l k = 1) : EnC A m c l B k := fun W g cl s hr hBg hq hs => by
  have nd := h.nd hk
  obtain ⟨b, o, e, hb, hc⟩ := hr.out (by omega)
  subst e
  obtain ⟨d0, d1, d2, d3, d4⟩ := hc k hk
  have i1 : (0 : Int) ≤ (k : Int) := by omega
  have i2 : (k : Int) < (m : Int) := by rw [← hl.out]; omega
  have hgW := hq.out.lt
  rw [c1] at d0
  have HE := Lib.hid (enR_1 (l := l) (k := k) s c1)
  have P := cp_cells W (.int .i64 1) (.int .i64 (plo l k)) (.int .i64 (phi l k)) (.int .i64 (pa l k)) (.int .i64 (pb l k))
  have hks : k < s.length := by rw [hs, ← hl.out]; exact hk
  clear hc nd c1
  go_enter Tryz.func71, Tryz.ntmps71
  go_upto_region 3 with fail
  generalize hwa : World.alloc W _ = wa
  obtain ⟨B1, X1⟩ := P _ hwa
  clear hwa P d0 d1 d2 d3 d4
  have HM := Lib.hid (Mv.of_below (g := g) B1)
  have HQ := Lib.hid (hq.out.below B1)
  have HX := Lib.hid X1
  have hgx : W.heap.size ≠ g := by omega
  obtain ⟨y0, y1, y2, y3, y4⟩ := bx5 X1
  have z0 := HQ.out.cell' hks
  have z1 := HQ.out.frz k
  have HS := Lib.hid (HQ.out.set hks)
  have HM2 := Lib.hid (HM.out.set' k (.bool true))
  go_wp2
  go_ret
  rw [HE.out]
  exact ⟨rfl, HS, HM2⟩

set_option maxRecDepth 100000 in
set_option maxHeartbeats 4000000 in
theorem en_seq (A : Option Addr) (m c : Nat) (l : List Pn) (B : Nat) (hl : Hid (l.length = m)) (h : okP l) (k : Nat) (hk : k < l.length) (c1 : pk l k = 2) (IA : EnC A m c l B (pa l k).toNat) (IB : EnC A m c l B (pb l k).toNat) : EnC A m c l B k := fun W g cl s hr hBg hq hs => by
  have nd := h.nd hk
  obtain ⟨b, o, e, hb, hc⟩ := hr.out (by omega)
  subst e
  obtain ⟨d0, d1, d2, d3, d4⟩ := hc k hk
  have i1 : (0 : Int) ≤ (k : Int) := by omega
  have i2 : (k : Int) < (m : Int) := by rw [← hl.out]; omega
  have hgW := hq.out.lt
  rw [c1] at d0
  obtain ⟨a1, a2⟩ := nd.a1 (by omega)
  obtain ⟨j, hj⟩ : ∃ j : Nat, pa l k = (j : Int) := ⟨(pa l k).toNat, by omega⟩
  obtain ⟨b1, b2⟩ := nd.b1 (by omega)
  obtain ⟨i, hi⟩ : ∃ i : Nat, pb l k = (i : Int) := ⟨(pb l k).toNat, by omega⟩
  have hE := enR_2 h hk s c1
  rw [hj] at d3 IA hE a2
  rw [Int.toNat_natCast] at IA hE a2
  have HLA := Lib.hid (enR_len h (k := j) (by omega) (s := s) (by rw [hs, hl.out]))
  rw [hi] at d4 IB hE b2
  rw [Int.toNat_natCast] at IB hE b2
  have HE := Lib.hid hE
  clear hE
  have P := cp_cells W (.int .i64 2) (.int .i64 (plo l k)) (.int .i64 (phi l k)) (.int .i64 (j : Int)) (.int .i64 (i : Int))
  have HIA : Hid (∀ W' s', Hid (Mv g W W') → Hid (Bq W' g s') → s'.length = m → Calls Tryz.prog 71 #[.slice (some ⟨b, o, none⟩) m c, .int .i64 (j : Int), .slice (some ⟨g, 0, none⟩) m cl] W' fun e w' => e = .returned (.bool (enR l (j + 1) j s').1) ∧ Hid (Bq w' g (enR l (j + 1) j s').2) ∧ Hid (Mv g W' w')) := Lib.hid (fun W' s' hm hq' hs' => IA W' g cl s' (Lib.hid (hr.out.mv hm.out (by omega) hBg)) hBg hq' hs')
  have HIB : Hid (∀ W' s', Hid (Mv g W W') → Hid (Bq W' g s') → s'.length = m → Calls Tryz.prog 71 #[.slice (some ⟨b, o, none⟩) m c, .int .i64 (i : Int), .slice (some ⟨g, 0, none⟩) m cl] W' fun e w' => e = .returned (.bool (enR l (i + 1) i s').1) ∧ Hid (Bq w' g (enR l (i + 1) i s').2) ∧ Hid (Mv g W' w')) := Lib.hid (fun W' s' hm hq' hs' => IB W' g cl s' (Lib.hid (hr.out.mv hm.out (by omega) hBg)) hBg hq' hs')
  clear hc nd c1
  go_enter Tryz.func71, Tryz.ntmps71
  go_upto_region 3 with fail
  generalize hwa : World.alloc W _ = wa
  obtain ⟨B1, X1⟩ := P _ hwa
  clear hwa P d0 d1 d2 d3 d4
  have HM := Lib.hid (Mv.of_below (g := g) B1)
  have HQ := Lib.hid (hq.out.below B1)
  have HX := Lib.hid X1
  have hgx : W.heap.size ≠ g := by omega
  obtain ⟨y0, y1, y2, y3, y4⟩ := bx5 X1
  have HA := Lib.hid (HIA.out wa s HM HQ hs)
  clear HIA
  have HLS : Hid ((enR l (j + 1) j s).2.length = m) := Lib.hid (by rw [HLA.out, hl.out])
  generalize hSA : (enR l (j + 1) j s).2 = SA at *
  rcases hfl : (enR l (j + 1) j s).1 with _ | _
  · rw [hfl] at HA
    have HEE := Lib.hid (show enR l (k + 1) k s = (false, SA) by rw [HE.out, hfl, if_neg (by decide)])
    clear hfl hSA HE HLA
    go_wp2_with (go_at_call 71; with_reducible refine HA.out.mono ?_; rintro e w2 ⟨rfl, q2, m2⟩; have HM2 := Lib.hid (HM.out.trans m2.out))
    go_ret
    rw [HEE.out]
    exact ⟨rfl, q2, HM2⟩
  · rw [hfl] at HA
    have HEE := Lib.hid (show enR l (k + 1) k s = enR l (i + 1) i SA by rw [HE.out, hfl, if_pos rfl])
    clear hfl hSA HE HLA
    go_wp2_with (first
      | (go_at_call 71; with_reducible refine HA.out.mono ?_; rintro e w2 ⟨rfl, q2, m2⟩; have HM2 := Lib.hid (HM.out.trans m2.out); obtain ⟨y0, y1, y2, y3, y4⟩ := bx5 (m2.out.bx HX.out hgx); have HB2 := Lib.hid (HIB.out w2 SA HM2 q2 HLS.out))
      | (go_at_call 71; with_reducible refine HB2.out.mono ?_; rintro e w3 ⟨rfl, q3, m3⟩; have HM3 := Lib.hid (HM2.out.trans m3.out)))
    go_ret
    rw [HEE.out]
    exact ⟨rfl, q3, HM3⟩

set_option maxRecDepth 100000 in
set_option maxHeartbeats 4000000 in
theorem en_alt (A : Option Addr) (m c : Nat) (l : List Pn) (B : Nat) (hl : Hid (l.length = m)) (h : okP l) (k : Nat) (hk : k < l.length) (c1 : pk l k = 3) (IA : EnC A m c l B (pa l k).toNat) (IB : EnC A m c l B (pb l k).toNat) : EnC A m c l B k := fun W g cl s hr hBg hq hs => by
  have nd := h.nd hk
  obtain ⟨b, o, e, hb, hc⟩ := hr.out (by omega)
  subst e
  obtain ⟨d0, d1, d2, d3, d4⟩ := hc k hk
  have i1 : (0 : Int) ≤ (k : Int) := by omega
  have i2 : (k : Int) < (m : Int) := by rw [← hl.out]; omega
  have hgW := hq.out.lt
  rw [c1] at d0
  obtain ⟨a1, a2⟩ := nd.a1 (by omega)
  obtain ⟨j, hj⟩ : ∃ j : Nat, pa l k = (j : Int) := ⟨(pa l k).toNat, by omega⟩
  obtain ⟨b1, b2⟩ := nd.b1 (by omega)
  obtain ⟨i, hi⟩ : ∃ i : Nat, pb l k = (i : Int) := ⟨(pb l k).toNat, by omega⟩
  have hE := enR_3 h hk s c1
  rw [hj] at d3 IA hE a2
  rw [Int.toNat_natCast] at IA hE a2
  have HLA := Lib.hid (enR_len h (k := j) (by omega) (s := s) (by rw [hs, hl.out]))
  rw [hi] at d4 IB hE b2
  rw [Int.toNat_natCast] at IB hE b2
  have HE := Lib.hid hE
  clear hE
  have P := cp_cells W (.int .i64 3) (.int .i64 (plo l k)) (.int .i64 (phi l k)) (.int .i64 (j : Int)) (.int .i64 (i : Int))
  have HIA : Hid (∀ W' s', Hid (Mv g W W') → Hid (Bq W' g s') → s'.length = m → Calls Tryz.prog 71 #[.slice (some ⟨b, o, none⟩) m c, .int .i64 (j : Int), .slice (some ⟨g, 0, none⟩) m cl] W' fun e w' => e = .returned (.bool (enR l (j + 1) j s').1) ∧ Hid (Bq w' g (enR l (j + 1) j s').2) ∧ Hid (Mv g W' w')) := Lib.hid (fun W' s' hm hq' hs' => IA W' g cl s' (Lib.hid (hr.out.mv hm.out (by omega) hBg)) hBg hq' hs')
  have HIB : Hid (∀ W' s', Hid (Mv g W W') → Hid (Bq W' g s') → s'.length = m → Calls Tryz.prog 71 #[.slice (some ⟨b, o, none⟩) m c, .int .i64 (i : Int), .slice (some ⟨g, 0, none⟩) m cl] W' fun e w' => e = .returned (.bool (enR l (i + 1) i s').1) ∧ Hid (Bq w' g (enR l (i + 1) i s').2) ∧ Hid (Mv g W' w')) := Lib.hid (fun W' s' hm hq' hs' => IB W' g cl s' (Lib.hid (hr.out.mv hm.out (by omega) hBg)) hBg hq' hs')
  clear hc nd c1
  go_enter Tryz.func71, Tryz.ntmps71
  go_upto_region 3 with fail
  generalize hwa : World.alloc W _ = wa
  obtain ⟨B1, X1⟩ := P _ hwa
  clear hwa P d0 d1 d2 d3 d4
  have HM := Lib.hid (Mv.of_below (g := g) B1)
  have HQ := Lib.hid (hq.out.below B1)
  have HX := Lib.hid X1
  have hgx : W.heap.size ≠ g := by omega
  obtain ⟨y0, y1, y2, y3, y4⟩ := bx5 X1
  have HA := Lib.hid (HIA.out wa s HM HQ hs)
  clear HIA
  have HLS : Hid ((enR l (j + 1) j s).2.length = m) := Lib.hid (by rw [HLA.out, hl.out])
  generalize hSA : (enR l (j + 1) j s).2 = SA at *
  generalize hfa : (enR l (j + 1) j s).1 = fa at *
  have HEE := Lib.hid (show enR l (k + 1) k s = (fa || (enR l (i + 1) i SA).1, (enR l (i + 1) i SA).2) from HE.out)
  clear hfa hSA HE HLA
  rcases fa with _ | _
  all_goals
    go_wp2_with (first
      | (go_at_call 71; with_reducible refine HA.out.mono ?_; rintro e w2 ⟨rfl, q2, m2⟩; have HM2 := Lib.hid (HM.out.trans m2.out); obtain ⟨y0, y1, y2, y3, y4⟩ := bx5 (m2.out.bx HX.out hgx); have HB2 := Lib.hid (HIB.out w2 SA HM2 q2 HLS.out))
      | (go_at_call 71; with_reducible refine HB2.out.mono ?_; rintro e w3 ⟨rfl, q3, m3⟩; have HM3 := Lib.hid (HM2.out.trans m3.out)))
    go_ret
    rw [HEE.out]
    exact ⟨rfl, q3, HM3⟩

set_option maxRecDepth 100000 in
set_option maxHeartbeats 4000000 in
theorem en_rep (A : Option Addr) (m c : Nat) (l : List Pn) (B : Nat) (hl : Hid (l.length = m)) (h : okP l) (k : Nat) (hk : k < l.length) (c1 : pk l k = 4) (IA : EnC A m c l B (pa l k).toNat) : EnC A m c l B k := fun W g cl s hr hBg hq hs => by
  have nd := h.nd hk
  obtain ⟨b, o, e, hb, hc⟩ := hr.out (by omega)
  subst e
  obtain ⟨d0, d1, d2, d3, d4⟩ := hc k hk
  have i1 : (0 : Int) ≤ (k : Int) := by omega
  have i2 : (k : Int) < (m : Int) := by rw [← hl.out]; omega
  have hgW := hq.out.lt
  rw [c1] at d0
  obtain ⟨a1, a2⟩ := nd.a1 (by omega)
  obtain ⟨j, hj⟩ : ∃ j : Nat, pa l k = (j : Int) := ⟨(pa l k).toNat, by omega⟩
  have hE := enR_4 h hk s c1
  rw [hj] at d3 IA hE a2
  rw [Int.toNat_natCast] at IA hE a2
  have HLA := Lib.hid (enR_len h (k := j) (by omega) (s := s) (by rw [hs, hl.out]))
  have HE := Lib.hid hE
  clear hE
  have P := cp_cells W (.int .i64 4) (.int .i64 (plo l k)) (.int .i64 (phi l k)) (.int .i64 (j : Int)) (.int .i64 (pb l k))
  have HIA : Hid (∀ W' s', Hid (Mv g W W') → Hid (Bq W' g s') → s'.length = m → Calls Tryz.prog 71 #[.slice (some ⟨b, o, none⟩) m c, .int .i64 (j : Int), .slice (some ⟨g, 0, none⟩) m cl] W' fun e w' => e = .returned (.bool (enR l (j + 1) j s').1) ∧ Hid (Bq w' g (enR l (j + 1) j s').2) ∧ Hid (Mv g W' w')) := Lib.hid (fun W' s' hm hq' hs' => IA W' g cl s' (Lib.hid (hr.out.mv hm.out (by omega) hBg)) hBg hq' hs')
  clear hc nd c1
  go_enter Tryz.func71, Tryz.ntmps71
  go_upto_region 3 with fail
  generalize hwa : World.alloc W _ = wa
  obtain ⟨B1, X1⟩ := P _ hwa
  clear hwa P d0 d1 d2 d3 d4
  have HM := Lib.hid (Mv.of_below (g := g) B1)
  have HQ := Lib.hid (hq.out.below B1)
  have HX := Lib.hid X1
  have hgx : W.heap.size ≠ g := by omega
  obtain ⟨y0, y1, y2, y3, y4⟩ := bx5 X1
  have HA := Lib.hid (HIA.out wa s HM HQ hs)
  clear HIA
  generalize hSA : (enR l (j + 1) j s).2 = SA at *
  have HEE := Lib.hid (show enR l (k + 1) k s = (true, SA) from HE.out)
  clear hSA HE HLA
  go_wp2_with (go_at_call 71; with_reducible refine HA.out.mono ?_; rintro e w2 ⟨rfl, q2, m2⟩; have HM2 := Lib.hid (HM.out.trans m2.out))
  go_ret
  rw [HEE.out]
  exact ⟨rfl, q2, HM2⟩

theorem renter_all (A : Option Addr) (m c : Nat) (l : List Pn) (B : Nat) (hl : Hid (l.length = m)) (h : okP l) : ∀ k, k < l.length → EnC A m c l B k := by
  intro k
  induction k using Nat.strongRecOn with
  | _ k ih =>
    intro hk
    have nd := h.nd hk
    rcases (show pk l k = 0 ∨ pk l k = 1 ∨ pk l k = 2 ∨ pk l k = 3 ∨ pk l k = 4 by have := nd.kd; omega) with c1 | c1 | c1 | c1 | c1
    · exact en_emp A m c l B hl h k hk c1
    · exact en_rng A m c l B hl h k hk c1
    · have a := nd.a1 (by omega)
      have b := nd.b1 (.inl c1)
      exact en_seq A m c l B hl h k hk c1 (ih _ a.2 (by omega)) (ih _ b.2 (by omega))
    · have a := nd.a1 (by omega)
      have b := nd.b1 (.inr c1)
      exact en_alt A m c l B hl h k hk c1 (ih _ a.2 (by omega)) (ih _ b.2 (by omega))
    · have a := nd.a1 (by omega)
      exact en_rep A m c l B hl h k hk c1 (ih _ a.2 (by omega))

end Go.Proofs.YtfkljlncnfeklaaGreatDoor
