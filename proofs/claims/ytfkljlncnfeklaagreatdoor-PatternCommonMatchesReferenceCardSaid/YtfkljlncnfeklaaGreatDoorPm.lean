/-
  Plain mathematics and contracts of package diagram, several texts in one: XFa, XNs.
-/
import Derived.Test.YtfkljlncnfeklaaGreatDoorPg

/-! A place is added to one of the sets of a row; the table of agreements. -/
namespace Go.Proofs.YtfkljlncnfeklaaGreatDoor
open Go.RowKit Go.Shelf
set_option linter.unusedVariables false
set_option linter.unusedSimpArgs false

theorem flC_add : ∀ (l : List (List Nat)) (p q : Nat), p < l.length → q < 256 → W4 (l.getD p noW) → flC (l.set p (addW (l.getD p noW) q)) = (flC l).set (p * 4 + q / 64) (.int .u64 (((l.getD p noW).getD (q / 64) 0 ||| 2 ^ (q % 64) : Nat) : Int))
  | [], p, q, h, _, _ => by simp at h
  | x :: l, 0, q, _, hq, hw => by
    have hx : W4 x := hw
    obtain ⟨a, b, c, d, rfl⟩ := w4_form hx
    show w4C (addW [a, b, c, d] q) ++ flC l = (w4C [a, b, c, d] ++ flC l).set (0 * 4 + q / 64) (.int .u64 ((([a, b, c, d] : List Nat).getD (q / 64) 0 ||| 2 ^ (q % 64) : Nat) : Int))
    unfold addW
    generalize 2 ^ (q % 64) = y
    rcases (show q / 64 = 0 ∨ q / 64 = 1 ∨ q / 64 = 2 ∨ q / 64 = 3 by omega) with e | e | e | e <;> rw [e] <;> rfl
  | x :: l, p + 1, q, h, hq, hw => by
    show w4C x ++ flC (l.set p (addW (l.getD p noW) q)) = (w4C x ++ flC l).set _ _
    have e : (p + 1) * 4 + q / 64 = (w4C x).length + (p * 4 + q / 64) := by simp [w4C]; omega
    rw [e, set_app_r, flC_add l p q (by simpa using h) hq hw]
    rfl
theorem FoO.add {w : World} {B f cap : Nat} {fl : List (List Nat)} (h : FoO w B f cap fl) {p q : Nat} (hp : p < fl.length) (hq : q < 256) (hw : W4 (fl.getD p noW)) : FoO (w.setCell ⟨f, p * 4 + q / 64, none⟩ (.int .u64 (((fl.getD p noW).getD (q / 64) 0 ||| 2 ^ (q % 64) : Nat) : Int))) B f cap (fl.set p (addW (fl.getD p noW) q)) := by
  unfold FoO
  rw [List.length_set, flC_add fl p q hp hq hw]
  exact (World.ownsRow.stored h (p * 4 + q / 64) _).1
/-- the places of b, of the first k, that agree with place i of a -/
def agR (a b : Rx) (i k : Nat) : List Nat := (List.range k).foldl (fun s j => if agr2 (rgA a i) (rgA b j) then addW s j else s) noW
theorem agR_succ (a b : Rx) (i k : Nat) : agR a b i (k + 1) = if agr2 (rgA a i) (rgA b k) then addW (agR a b i k) k else agR a b i k := by
  unfold agR
  rw [List.range_succ, List.foldl_append]
  rfl
theorem agR_w4 (a b : Rx) (i : Nat) : ∀ k, W4 (agR a b i k)
  | 0 => no_w4
  | k + 1 => by
    rw [agR_succ]
    split
    · exact add_w4 (agR_w4 a b i k) k
    · exact agR_w4 a b i k
theorem agR_has (a b : Rx) (i : Nat) : ∀ k, k ≤ 256 → ∀ j, j < 256 → hasW (agR a b i k) j = (decide (j < k) && agr2 (rgA a i) (rgA b j))
  | 0, _, j, _ => by
    show hasW noW j = _
    rw [has_no]
    simp
  | k + 1, hk, j, hj => by
    have ih := agR_has a b i k (by omega) j hj
    rw [agR_succ]
    split
    · next h =>
      rw [has_add (agR_w4 a b i k) (by omega) hj, ih]
      by_cases e : j = k
      · subst e; simp [h]
      · have : (j < k + 1) ↔ j < k := by omega
        simp [e, this]
    · next h =>
      rw [ih]
      by_cases e : j = k
      · subst e; simp [h]
      · have : (j < k + 1) ↔ j < k := by omega
        simp [this]
/-- the table when the rows before i are full and row i has seen k places -/
def agF (a b : Rx) (i k : Nat) : List (List Nat) := (List.range a.pl).map fun x => if x < i then agR a b x b.pl else if x = i then agR a b i k else noW
theorem agF_len (a b : Rx) (i k : Nat) : (agF a b i k).length = a.pl := by unfold agF; simp
theorem agF_get (a b : Rx) (i k : Nat) {x : Nat} (h : x < a.pl) : (agF a b i k).getD x noW = if x < i then agR a b x b.pl else if x = i then agR a b i k else noW := by
  unfold agF
  rw [List.getD_eq_getElem?_getD, List.getElem?_map, List.getElem?_range h]
  rfl
theorem ext_noW {l l' : List (List Nat)} (h : l.length = l'.length) (hg : ∀ x, x < l.length → l.getD x noW = l'.getD x noW) : l = l' := by
  apply List.ext_getElem h
  intro i h1 h2
  have := hg i h1
  rw [List.getD_eq_getElem?_getD, List.getD_eq_getElem?_getD, List.getElem?_eq_getElem h1, List.getElem?_eq_getElem h2] at this
  exact this
theorem agF_zero (a b : Rx) : agF a b 0 0 = List.replicate a.pl noW := by
  apply ext_noW (by rw [agF_len, List.length_replicate])
  intro x hx
  rw [agF_len] at hx
  rw [agF_get _ _ _ _ hx, if_neg (by omega), List.getD_eq_getElem?_getD, List.getElem?_replicate, if_pos hx]
  split
  · rfl
  · rfl
theorem agF_next (a b : Rx) (i : Nat) : agF a b i b.pl = agF a b (i + 1) 0 := by
  apply ext_noW (by rw [agF_len, agF_len])
  intro x hx
  rw [agF_len] at hx
  rw [agF_get _ _ _ _ hx, agF_get _ _ _ _ hx]
  by_cases h1 : x < i
  · rw [if_pos h1, if_pos (by omega)]
  · by_cases h2 : x = i
    · subst h2; rw [if_neg h1, if_pos rfl, if_pos (by omega)]
    · rw [if_neg h1, if_neg h2, if_neg (by omega)]
      split
      · rfl
      · rfl
theorem agF_yes (a b : Rx) {i k : Nat} (hi : i < a.pl) (h : agr2 (rgA a i) (rgA b k) = true) : (agF a b i k).set i (addW ((agF a b i k).getD i noW) k) = agF a b i (k + 1) := by
  apply ext_noW (by rw [List.length_set, agF_len, agF_len])
  intro x hx
  rw [List.length_set, agF_len] at hx
  rw [agF_get _ _ _ _ hi, if_neg (by omega), if_pos rfl, agF_get a b i (k + 1) hx, List.getD_eq_getElem?_getD, List.getElem?_set]
  by_cases e : i = x
  · subst e
    rw [if_pos rfl, if_pos (by rw [agF_len]; exact hi), if_neg (by omega), if_pos rfl, agR_succ, if_pos h]
    rfl
  · rw [if_neg e, ← List.getD_eq_getElem?_getD, agF_get _ _ _ _ hx]
    by_cases h1 : x < i
    · rw [if_pos h1, if_pos h1]
    · rw [if_neg h1, if_neg h1, if_neg (fun q => e q.symm), if_neg (fun q => e q.symm)]
theorem agF_no (a b : Rx) {i k : Nat} (h : agr2 (rgA a i) (rgA b k) = false) : agF a b i k = agF a b i (k + 1) := by
  unfold agF
  rw [agR_succ, if_neg (by rw [h]; decide)]
theorem agF_w4 (a b : Rx) (i k : Nat) {x : Nat} (h : x < a.pl) : W4 ((agF a b i k).getD x noW) := by
  rw [agF_get _ _ _ _ h]
  split
  · exact agR_w4 _ _ _ _
  · split
    · exact agR_w4 _ _ _ _
    · exact no_w4
theorem agF_ok (a b : Rx) (hb : b.pl ≤ 256) : AgW a b (agF a b a.pl 0) := ⟨fun i => by
  by_cases h : i < a.pl
  · exact agF_w4 a b _ _ h
  · rw [List.getD_eq_getElem?_getD, List.getElem?_eq_none (by rw [agF_len]; omega)]; exact no_w4, fun i j hi hj => by
  rw [agF_get _ _ _ _ hi, if_pos hi, agR_has a b i b.pl hb j hj]
  unfold agP
  simp [hi]⟩

end Go.Proofs.YtfkljlncnfeklaaGreatDoor

/-! newSearch. -/
namespace Go.Proofs.YtfkljlncnfeklaaGreatDoor
open Go.RowKit Go.Shelf
set_option linter.unusedVariables false
set_option linter.unusedSimpArgs false
attribute [local go_sem ↓] Go.wp_at_zero Go.wp_at_succ

/-- the search while its table of agreements is filled: w2 the world behind the two machines -/
structure SrA (w2 W : World) (mb1 mb2 ab sb n : Nat) (ag sn : List (List Nat)) : Prop where
  bel : Below w2.heap.size w2 W
  bx : Bx W w2.heap.size #[.pointer (some ⟨mb1, 0, none⟩), .pointer (some ⟨mb2, 0, none⟩), .slice (some ⟨ab, 0, none⟩) n n, .slice (some ⟨sb, 0, none⟩) n n, .slice none 0 0] 118
  oa : FoO W w2.heap.size ab n ag
  os : FoO W w2.heap.size sb n sn
  la : ag.length = n
  ls : sn.length = n
  ne : ab ≠ sb
theorem flC_rep (n : Nat) : flC (List.replicate n noW) = List.replicate (n * 4) (.int .u64 0) := by
  induction n with
  | zero => rfl
  | succ n ih =>
    rw [List.replicate_succ]
    show w4C noW ++ flC (List.replicate n noW) = _
    rw [ih, show (n + 1) * 4 = 4 + n * 4 by omega, ← List.replicate_append_replicate]
    rfl
theorem make_pls (L : Nat) (hL : L ≤ 256) : ∃ RC : Array Value, RC.toList = flC (List.replicate L noW) ∧ ∀ W : World, (Instr.makeSlice 92 (.int .i64 (L : Int)) (.int .i64 (L : Int))).run Tryz.prog W = .ok (.slice (some ⟨W.heap.size, 0, none⟩) L L) (W.alloc (.cells RC 95)) := by
  obtain ⟨i0, hi, hz0, hz1, hz2⟩ := info_parts Tryz.infoPl
  refine ⟨madeCells (Value.agg #[.int .u64 0, .int .u64 0, .int .u64 0, .int .u64 0]).cells (L * 4), ?_, fun W => ?_⟩
  · rw [flC_rep]
    unfold madeCells
    refine List.eq_replicate_iff.2 ⟨by simp, fun x hx => ?_⟩
    rw [Array.toList_map] at hx
    obtain ⟨y, _, rfl⟩ := List.mem_map.1 hx
    show (#[Value.int .u64 0, .int .u64 0, .int .u64 0, .int .u64 0] : Array Value)[y % 4]! = _
    rcases (show y % 4 = 0 ∨ y % 4 = 1 ∨ y % 4 = 2 ∨ y % 4 = 3 by omega) with e | e | e | e <;> rw [e] <;> rfl
  · have hrun := run_make (P := Tryz.prog) W 92 95 i0 _ Tryz.underlying92 hi hz0 .i64 .i64 (L : Int) (L : Int) (by omega) (by omega) (by rw [hz2]; omega) (by omega)
    simp only [Int.toNat_natCast, hz1] at hrun
    exact hrun
theorem foO_new {W : World} {H q n : Nat} {RC : Array Value} (h : Bx W q RC 95) (hRC : RC.toList = flC (List.replicate n noW)) (hq : H ≤ q) (hn : n ≤ 256) : FoO W H q n (List.replicate n noW) := by
  have hl : (flC (List.replicate n noW)).length = n * 4 := by rw [flC_len, List.length_replicate]
  refine ⟨by rw [flC_len], .inr ⟨q, n, RC, rfl, hq, h, by simp, by simp only [maxLen]; omega, ?_, ?_⟩⟩
  · rw [← Array.length_toList, hRC, hl]
  · rw [List.length_replicate, hRC, List.take_of_length_le (by rw [hl]; exact Nat.le_refl _)]
section
variable {w2 w3 : World} {a b u2 u3 u4 : Value}
theorem sr_make2 (h : Bx w3 w2.heap.size #[a, b, u2, u3, u4] 118) (hb : Below w2.heap.size w2 w3) (hlt : w2.heap.size < w3.heap.size) (RC : Array Value) (v : Value) : ∀ W, (w3.setCell ⟨w2.heap.size, 2, none⟩ v).alloc (.cells RC 95) = W →
    Hid (Bx W w2.heap.size #[a, b, v, u3, u4] 118) ∧ Hid (Below w2.heap.size w2 W) ∧ Hid (Bx W w3.heap.size RC 95) ∧ W.heap.size = w3.heap.size + 1 := by
  rintro W rfl
  exact ⟨Lib.hid (bx_al (heap_set _ w2.heap.size 2 v h) _), Lib.hid ((hb.setCell (p := ⟨w2.heap.size, _, none⟩) (Nat.le_refl _) _).alloc (by simp; omega) _), Lib.hid (bx_new (by simp) _ _), by simp⟩
theorem sr_make3 (h : Bx w3 w2.heap.size #[a, b, u2, u3, u4] 118) (hb : Below w2.heap.size w2 w3) (hlt : w2.heap.size < w3.heap.size) (RC : Array Value) (v : Value) : ∀ W, (w3.setCell ⟨w2.heap.size, 3, none⟩ v).alloc (.cells RC 95) = W →
    Hid (Bx W w2.heap.size #[a, b, u2, v, u4] 118) ∧ Hid (Below w2.heap.size w2 W) ∧ Hid (Bx W w3.heap.size RC 95) ∧ W.heap.size = w3.heap.size + 1 ∧ (∀ k, k < w3.heap.size → k ≠ w2.heap.size → W.heap[k]? = w3.heap[k]?) := by
  rintro W rfl
  exact ⟨Lib.hid (bx_al (heap_set _ w2.heap.size 3 v h) _), Lib.hid ((hb.setCell (p := ⟨w2.heap.size, _, none⟩) (Nat.le_refl _) _).alloc (by simp; omega) _), Lib.hid (bx_new (by simp) _ _), by simp, fun k hk hn => (((Below.refl (w3.setCell ⟨w2.heap.size, 3, none⟩ v).heap.size _).alloc (Nat.le_refl _) _).block k (by simp; exact hk)).trans (hp_set _ w2.heap.size 3 v hn)⟩
end
/-- a node of a machine in memory -/
theorem McM.node {W : World} {B mb : Nat} {r : Rx} {A : Option Addr} {n cr : Nat} {vf : Value} {fl : List (List Nat)} {f l : List Nat} (h : McM W B mb r (.slice A n cr) vf fl f l) {x : Nat} (hx : x < r.pl) : ∃ q, A = some ⟨q, 0, none⟩ ∧ q < W.heap.size ∧
    W.cell? ⟨q, x * 5, none⟩ = some (.int .i64 1) ∧ W.cell? ⟨q, x * 5 + 1, none⟩ = some (.int .i64 (((rgA r x).1 : Nat) : Int)) ∧ W.cell? ⟨q, x * 5 + 2, none⟩ = some (.int .i64 (((rgA r x).2 : Nat) : Int)) ∧ W.cell? ⟨q, x * 5 + 3, none⟩ = some (.int .i64 0) ∧ W.cell? ⟨q, x * 5 + 4, none⟩ = some (.int .i64 0) := by
  have h1 := h.ma.rf
  have hx' : x < (rgL r).length := by rw [rgL_len]; exact hx
  obtain ⟨q, cap, e1, _⟩ := World.ownsRow.form h1 (by omega)
  injection e1 with e1 e2 e3
  subst e1 e2 e3
  have e := rgL_at hx
  have hc : ∀ i, i < 5 → W.cell? ⟨q, x * 5 + i, none⟩ = (c5 (rgN (r.rgs.getD x (0, 0))))[i]? := fun i hi => by
    rw [World.ownsRow.cellAt h1 (x * 5 + i) (show x * 5 + i < (rgL r).length * 5 by omega), pnC_at _ hx' hi, e]
  exact ⟨q, rfl, (World.ownsRow.lt h1 q rfl).2, hc 0 (by omega), hc 1 (by omega), hc 2 (by omega), hc 3 (by omega), hc 4 (by omega)⟩
theorem SrA.later {w2 W W' : World} {mb1 mb2 ab sb n : Nat} {ag sn : List (List Nat)} (h : SrA w2 W mb1 mb2 ab sb n ag sn) (hb : Below W.heap.size W W') : SrA w2 W' mb1 mb2 ab sb n ag sn :=
  ⟨h.bel.trans (hb.mono h.bel.size), h.bx.below hb, h.oa.kept (row := none) ⟨hb.os, hb.tape, hb.output, hb.size, fun k hk _ => hb.block k hk⟩ (fun r e => by cases e), h.os.kept (row := none) ⟨hb.os, hb.tape, hb.output, hb.size, fun k hk _ => hb.block k hk⟩ (fun r e => by cases e), h.la, h.ls, h.ne⟩
theorem SrA.add {w2 W : World} {mb1 mb2 ab sb n : Nat} {ag sn : List (List Nat)} (h : SrA w2 W mb1 mb2 ab sb n ag sn) {p q : Nat} (hp : p < n) (hq : q < 256) (hw : W4 (ag.getD p noW)) (d : Nat) : SrA w2 ((W.setCell ⟨ab, p * 4 + q / 64, none⟩ (.int .u64 (((ag.getD p noW).getD (q / 64) 0 ||| 2 ^ (q % 64) : Nat) : Int))).drewN d) mb1 mb2 ab sb n (ag.set p (addW (ag.getD p noW) q)) sn := by
  have hne : w2.heap.size ≠ ab := fun e => by
    have h1 := own_ne h.oa h.bx (by decide)
    exact h1 (by rw [e]; rfl)
  have ha := h.oa.add (by rw [h.la]; exact hp) hq hw
  have ho : FoO (W.setCell ⟨ab, p * 4 + q / 64, none⟩ (.int .u64 (((ag.getD p noW).getD (q / 64) 0 ||| 2 ^ (q % 64) : Nat) : Int))) w2.heap.size sb n sn := h.os.kept (row := some ab) (grown_set W ab _ _) (fun r e => by cases e; exact h.ne)
  exact ⟨below_drewN (h.bel.setCell (p := ⟨ab, _, none⟩) h.oa.lt.1 _) d, (hp_set W ab _ _ hne).trans h.bx, ha, ho, by rw [List.length_set]; exact h.la, h.ls, h.ne⟩
theorem sr_keep {W W' : World} {ab rb o d T : Nat} {v : Value} {cs : Array Value} (hw : W' = (W.setCell ⟨ab, o, none⟩ v).drewN d) (hn : rb ≠ ab) (h : Bx W rb cs T) : Bx W' rb cs T := by
  subst hw
  exact (hp_set W ab _ _ hn).trans h
def nd5 (lo hi : Nat) : Array Value := #[.int .i64 1, .int .i64 (lo : Int), .int .i64 (hi : Int), .int .i64 0, .int .i64 0]
set_option maxHeartbeats 4000000 in
set_option maxRecDepth 100000 in
theorem newsearch_any (A A' : Option Addr) (m c m' c' : Nat) (l l' : List Pn) (w : World) (h : okP l) (h' : okP l') (hl : Hid (l.length = m)) (hl' : Hid (l'.length = m')) (hr : Hid (Rp w w.heap.size A l)) (hr' : Hid (Rp w w.heap.size A' l')) (ht : Hid (Tz w)) (hts : 2 < w.heap.size) :
    Calls Tryz.prog 44 #[.slice A m c, .slice A' m' c'] w fun e w' => ∃ mb1 mb2 ab sb vr1 vf1 vr2 vf2 fl1 f1 la1 fl2 f2 la2 w2, e = .returned (.pointer (some ⟨w2.heap.size, 0, none⟩)) ∧ Below w.heap.size w w2 ∧ McM w2 (w.heap.size + 1) mb1 (rxP l) vr1 vf1 fl1 f1 la1 ∧ (∃ B2, McM w2 B2 mb2 (rxP l') vr2 vf2 fl2 f2 la2) ∧ SrA w2 w' mb1 mb2 ab sb (rxP l).pl (agF (rxP l) (rxP l') (rxP l).pl 0) (List.replicate (rxP l).pl noW) := by
  have N1 := Lib.hid (newm_any A m c l w h hl hr ht hts)
  have N2 := Lib.hid (fun W h => newm_any A' m' c' l' W h' hl' h)
  go_enter Tryz.func44, Tryz.ntmps44
  go_upto_region 2 with (first
    | (go_at_call 28; with_reducible refine N1.out.mono ?_; rintro e w1 ⟨hb1, mb1, vr1, vf1, fl1, f1, la1, rfl, hm1, hM1⟩; have B1 := Lib.hid hb1; have M1 := Lib.hid hM1; have T1 := Tz.below ht hb1 hts; have R1 := Rp.later hr' hb1; have hts1 := Nat.lt_of_lt_of_le hts hb1.size; clear hb1 hM1)
    | (go_at_call 28; with_reducible refine (N2.out _ R1 T1 hts1).mono ?_; rintro e w2 ⟨hb2, mb2, vr2, vf2, fl2, f2, la2, rfl, hm2, hM2⟩; have B2 := Lib.hid hb2; have M2 := Lib.hid hM2; have T2 := Tz.below T1 hb2 hts1; have M1' := Lib.hid (M1.out.below hb2); clear hb2 hM2))
  have h256 := M1'.out.mw.pl
  obtain ⟨A1, cr1, ev1, _, _⟩ := own_form M1'.out.ma.rf
  subst ev1
  rw [rgL_len] at M1'
  have hbx := Lib.hid ((Below.refl w2.heap.size w2).alloc (Nat.le_refl _) (.cells #[.pointer (some ⟨mb1, 0, none⟩), .pointer (some ⟨mb2, 0, none⟩), .slice none 0 0, .slice none 0 0, .slice none 0 0] 118))
  have hX : Hid (Bx (w2.alloc (.cells #[.pointer (some ⟨mb1, 0, none⟩), .pointer (some ⟨mb2, 0, none⟩), .slice none 0 0, .slice none 0 0, .slice none 0 0] 118)) w2.heap.size #[.pointer (some ⟨mb1, 0, none⟩), .pointer (some ⟨mb2, 0, none⟩), .slice none 0 0, .slice none 0 0, .slice none 0 0] 118) := Lib.hid (bx_new rfl _ _)
  have M3 := Lib.hid (M1'.out.below hbx.out)
  obtain ⟨RC, hRC, mk⟩ := make_pls (rxP l).pl h256
  have HRC := Lib.hid hRC
  clear hRC
  generalize World.alloc w2 _ = w3 at *
  have y0 := hX.out.cell 0
  have y2 := hX.out.cell 2
  have y3 := hX.out.cell 3
  have yf := fun i => frozen_of_row _ _ i _ _ hX.out
  simp at y0 y2 y3
  have z0 := M3.out.ma.cf
  have hw23 : w2.heap.size < w3.heap.size := hX.out.lt
  go_upto_region 3 with fail
  have S4 := fun W e => sr_make2 hX.out hbx.out hw23 RC (.slice (some ⟨w3.heap.size, 0, none⟩) (rxP l).pl (rxP l).pl) W e
  generalize hw4 : World.alloc (World.setCell w3 _ _) _ = w4
  obtain ⟨X4, BX4, R4, hs4⟩ := S4 _ hw4
  clear hw4 S4 y0 y2 y3 yf z0 M3 hX
  have M4 := Lib.hid (M1'.out.below BX4.out)
  have y0 := X4.out.cell 0
  have y2 := X4.out.cell 2
  have y3 := X4.out.cell 3
  have yf := fun i => frozen_of_row _ _ i _ _ X4.out
  simp at y0 y2 y3
  have z0 := M4.out.ma.cf
  have hw24 : w2.heap.size < w4.heap.size := X4.out.lt
  go_upto_region 4 with fail
  have S5 := fun W e => sr_make3 X4.out BX4.out hw24 RC (.slice (some ⟨w3.heap.size + 1, 0, none⟩) (rxP l).pl (rxP l).pl) W e
  generalize hw5 : World.alloc (World.setCell w4 _ _) _ = w5
  obtain ⟨X5, BX5, R5, hs5, K5⟩ := S5 _ hw5
  rw [hs4] at R5
  have R4' := Lib.hid ((K5 w3.heap.size (by omega) (by omega)).trans R4.out)
  clear hw5 S5 y0 y2 y3 yf z0 M4 X4 R4 K5
  have hA : Hid (SrA w2 w5 mb1 mb2 w3.heap.size (w3.heap.size + 1) (rxP l).pl (List.replicate (rxP l).pl noW) (List.replicate (rxP l).pl noW)) := Lib.hid ⟨BX5.out, X5.out, foO_new R4'.out HRC.out (by omega) h256, foO_new R5.out HRC.out (by omega) h256, by simp, by simp, by omega⟩
  clear X5 R4' R5 HRC
  rw [← agF_zero (rxP l) (rxP l')] at hA
  have hA0 : Hid (SrA w2 w5 mb1 mb2 w3.heap.size (w3.heap.size + 1) (rxP l).pl (agF (rxP l) (rxP l') 0 0) (List.replicate (rxP l).pl noW)) := Lib.hid (by rw [← agF_zero (rxP l) (rxP l')]; exact hA.out)
  clear hA
  obtain ⟨A2, cr2, ev2, _, _⟩ := own_form M2.out.ma.rf
  subst ev2
  rw [rgL_len] at M2
  have h256' := M2.out.mw.pl
  have M5 := Lib.hid (M1'.out.below BX5.out)
  have y0 := hA0.out.bx.cell 0
  simp at y0
  have z0 := M5.out.ma.cf
  go_upto_region 5 with fail
  clear y0 z0 M5
  generalize w3.heap.size = ab at *
  go_wp2
  go_loopw [48] (fun v48 wr => ∃ i : Nat, i ≤ (rxP l).pl ∧ v48 = .int .i64 (i : Int) ∧ Hid (SrA w2 wr mb1 mb2 ab (ab + 1) (rxP l).pl (agF (rxP l) (rxP l') i 0) (List.replicate (rxP l).pl noW))) (fun v48 wr => (rxP l).pl - (intOf v48).toNat)
  case atStart => exact ⟨0, Nat.zero_le _, rfl, hA0⟩
  case round =>
    clear hA0
    obtain ⟨i, hi, rfl, hS⟩ := hrel
    by_cases hlt : i < (rxP l).pl
    · have Ma := Lib.hid (M1'.out.below hS.out.bel)
      obtain ⟨q, rfl, hq, d0, d1, d2, d3, d4⟩ := Ma.out.node hlt
      have i1 : (0 : Int) ≤ (i : Int) := by omega
      have i2 : (i : Int) < ((rxP l).pl : Int) := by omega
      have hS1 := Lib.hid (hS.out.later ((Below.refl wr.heap.size wr).alloc (Nat.le_refl _) (.cells (nd5 (rgA (rxP l) i).1 (rgA (rxP l) i).2) 42)))
      have hR1 : Hid (Bx (wr.alloc (.cells (nd5 (rgA (rxP l) i).1 (rgA (rxP l) i).2) 42)) wr.heap.size (nd5 (rgA (rxP l) i).1 (rgA (rxP l) i).2) 42) := Lib.hid (bx_new rfl _ _)
      unfold nd5 at hS1 hR1
      go_upto_region 7 with fail
      generalize wr.heap.size = rb at *
      generalize World.alloc wr _ = w6 at *
      clear d0 d1 d2 d3 d4 Ma hq
      have Mb := Lib.hid (M2.out.below hS1.out.bel)
      have y1 := hS1.out.bx.cell 1
      simp at y1
      have z1 := Mb.out.ma.cf
      go_upto_region 8 with fail
      clear y1 z1 Mb
      go_wp2
      go_loopw [61] (fun v61 wi => ∃ j : Nat, j ≤ (rxP l').pl ∧ v61 = .int .i64 (j : Int) ∧ Hid (SrA w2 wi mb1 mb2 ab (ab + 1) (rxP l).pl (agF (rxP l) (rxP l') i j) (List.replicate (rxP l).pl noW)) ∧ Hid (Bx wi rb #[.int .i64 1, .int .i64 (((rgA (rxP l) i).1 : Nat) : Int), .int .i64 (((rgA (rxP l) i).2 : Nat) : Int), .int .i64 0, .int .i64 0] 42)) (fun v61 wi => (rxP l').pl - (intOf v61).toNat)
      case atStart => exact ⟨0, Nat.zero_le _, rfl, hS1, hR1⟩
      case round =>
        clear hS1 hR1
        obtain ⟨j, hj, rfl, hS6, hR6⟩ := hrel
        by_cases hjt : j < (rxP l').pl
        · have Ma := Lib.hid (M2.out.below hS6.out.bel)
          obtain ⟨q2, rfl, hq2, d0, d1, d2, d3, d4⟩ := Ma.out.node hjt
          have j1 : (0 : Int) ≤ (j : Int) := by omega
          have j2 : (j : Int) < ((rxP l').pl : Int) := by omega
          have hS7 := Lib.hid (hS6.out.later ((Below.refl wr.heap.size wr).alloc (Nat.le_refl _) (.cells (nd5 (rgA (rxP l') j).1 (rgA (rxP l') j).2) 42)))
          have hR7 := Lib.hid (bx_al hR6.out (.cells (nd5 (rgA (rxP l') j).1 (rgA (rxP l') j).2) 42))
          have hN7 : Hid (Bx (wr.alloc (.cells (nd5 (rgA (rxP l') j).1 (rgA (rxP l') j).2) 42)) wr.heap.size (nd5 (rgA (rxP l') j).1 (rgA (rxP l') j).2) 42) := Lib.hid (bx_new rfl _ _)
          unfold nd5 at hS7 hR7 hN7
          go_upto_region 10 with fail
          generalize wr.heap.size = nb at *
          generalize World.alloc wr _ = w7 at *
          clear d0 d1 d2 d3 d4 Ma hq2 hS6 hR6
          have u1 := hR7.out.cell 1
          have u2 := hR7.out.cell 2
          have v1 := hN7.out.cell 1
          have v2 := hN7.out.cell 2
          simp at u1 u2 v1 v2
          have hag : agr2 (rgA (rxP l) i) (rgA (rxP l') j) = (decide ((rgA (rxP l) i).1 ≤ (rgA (rxP l') j).2) && decide ((rgA (rxP l') j).1 ≤ (rgA (rxP l) i).2)) := rfl
          by_cases hyes : agr2 (rgA (rxP l) i) (rgA (rxP l') j) = true
          · have HY := Lib.hid (agF_yes (rxP l) (rxP l') hlt hyes)
            rw [hag] at hyes
            simp only [Bool.and_eq_true, decide_eq_true_eq] at hyes
            have c1 : (((rgA (rxP l) i).1 : Nat) : Int) ≤ (((rgA (rxP l') j).2 : Nat) : Int) := by omega
            have c2 : (((rgA (rxP l') j).1 : Nat) : Int) ≤ (((rgA (rxP l) i).2 : Nat) : Int) := by omega
            have y2 := hS7.out.bx.cell 2
            simp at y2
            have hw4 := agF_w4 (rxP l) (rxP l') i j hlt
            have PA := Lib.hid (padd_any ab (i * 4) j _ w7 (by omega) hw4 (Lib.hid (hS7.out.oa.pl (by rw [hS7.out.la]; exact hlt))))
            have HA := Lib.hid (fun d => hS7.out.add hlt (show j < 256 by omega) hw4 d)
            have hab := own_ne hS7.out.oa hR7.out (by decide)
            have hnr : rb ≠ ab := fun e => hab (by rw [e]; rfl)
            rw [HY.out] at HA
            clear hyes hag hw4
            go_wp2_with (go_at_call 67; with_reducible refine PA.out.mono ?_; rintro e w8 ⟨rfl, d, hw⟩; have HAd := Lib.hid (hw.symm ▸ HA.out d); have HRd := Lib.hid (sr_keep hw hnr hR7.out); clear hw)
            go_roundw
            case rel => exact ⟨j + 1, hjt, rfl, HAd, HRd⟩
            case measure => simp only [intOf]; omega
          · have hno : agr2 (rgA (rxP l) i) (rgA (rxP l') j) = false := by simpa using hyes
            have HN := Lib.hid (agF_no (rxP l) (rxP l') (i := i) hno)
            rw [hag] at hno
            by_cases c0 : (rgA (rxP l) i).1 ≤ (rgA (rxP l') j).2
            · have c1 : (((rgA (rxP l) i).1 : Nat) : Int) ≤ (((rgA (rxP l') j).2 : Nat) : Int) := by omega
              have c2 : ¬ (((rgA (rxP l') j).1 : Nat) : Int) ≤ (((rgA (rxP l) i).2 : Nat) : Int) := by simp [c0] at hno; omega
              clear hyes hag hno
              go_wp2
              go_roundw
              case rel => exact ⟨j + 1, hjt, rfl, Lib.hid (by rw [← HN.out]; exact hS7.out), hR7⟩
              case measure => simp only [intOf]; omega
            · have c1 : ¬ (((rgA (rxP l) i).1 : Nat) : Int) ≤ (((rgA (rxP l') j).2 : Nat) : Int) := by omega
              clear hyes hag hno
              go_wp2
              go_roundw
              case rel => exact ⟨j + 1, hjt, rfl, Lib.hid (by rw [← HN.out]; exact hS7.out), hR7⟩
              case measure => simp only [intOf]; omega
        · obtain rfl : j = (rxP l').pl := by omega
          go_wp2
          go_roundw
          case rel => exact ⟨i + 1, hlt, rfl, Lib.hid (by rw [← agF_next]; exact hS6.out)⟩
          case measure => simp only [intOf]; omega
    · obtain rfl : i = (rxP l).pl := by omega
      have HB := Lib.hid (B1.out.trans (B2.out.mono B1.out.size))
      go_wp2
      go_ret
      exact ⟨mb1, mb2, ab, ab + 1, _, _, _, _, _, _, _, _, _, _, w2, rfl, HB.out, M1'.out, ⟨_, M2.out⟩, hS.out⟩

end Go.Proofs.YtfkljlncnfeklaaGreatDoor
