/-
  Plain mathematics and contracts of package diagram, several texts in one: DROp, DROp2.
-/
import Derived.Test.YtmfinkaphglmjaaDoorMx
import Derived.Test.YtmfinkaphglmjaaDoorMz
import Derived.Test.YtmfinkaphglmjaaDoorMy
import Derived.Deep.RegionHeld3
import Derived.Test.YtmfinkaphglmjaaDoorMv
import Derived.Test.YtmfinkaphglmjaaDoorMo

/-! The operations of the package and of the reference in one form, for any diagrams of at most 40 branches. (Written by drops.py.) -/
namespace Go.Proofs.YtmfinkaphglmjaaDoor
open Go.RowKit Dg St
set_option linter.unusedVariables false
set_option linter.unusedSimpArgs false
attribute [local go_sem ↓] Go.wp_at_zero Go.wp_at_succ

/-- a diagram and a code -/
def RO (w w' : World) (M : List Br) (n : Nat) (code : Int) (e : Ending) : Prop := (∃ (A : Option Addr) (m c : Nat), e = .returned (.tuple #[.agg #[.slice A m c, .int .i64 (n : Int)], .int .i64 code]) ∧ M.length = m ∧ Rd w' w'.heap.size A (up M) ∧ Fr A w.heap.size) ∧ Below w.heap.size w w'
/-- what an operation answers: k is the error of its arguments -/
def binR (k : Int) (h : Cfg → Bool) : List Br × Nat × Int := if k = 0 then (if (cn h).1.length ≤ 4096 then ((cn h).1, (cn h).2, 0) else ([], 0, 2)) else ([], 0, k)
def RR (w w' : World) (k : Int) (h : Cfg → Bool) (e : Ending) : Prop := RO w w' (binR k h).1 (binR k h).2.1 (binR k h).2.2 e
theorem binR_bad {k : Int} (hk : k ≠ 0) (h : Cfg → Bool) : binR k h = ([], 0, k) := if_neg hk
theorem binR_ok {h : Cfg → Bool} (hs : (cn h).1.length ≤ 4096) : binR 0 h = ((cn h).1, (cn h).2, 0) := by unfold binR; rw [if_pos rfl, if_pos hs]
theorem binR_large {h : Cfg → Bool} (hs : 4096 < (cn h).1.length) : binR 0 h = ([], 0, 2) := by unfold binR; rw [if_pos rfl, if_neg (by omega)]
theorem ro_zero {w w' : World} {code : Int} (h : Below w.heap.size w w') : RO w w' [] 0 code (.returned (.tuple #[.agg #[.slice none 0 0, .int .i64 0], .int .i64 code])) :=
  ⟨⟨none, 0, 0, rfl, rfl, Rd.nil, fun b o e => by cases e⟩, h⟩
theorem rr_bad {w w' : World} {k : Int} {h : Cfg → Bool} (hk : k ≠ 0) (hb : Below w.heap.size w w') : RR w w' k h (.returned (.tuple #[.agg #[.slice none 0 0, .int .i64 0], .int .i64 k])) := by
  unfold RR
  rw [binR_bad hk]
  exact ro_zero hb
theorem rr_large {w w' : World} {h : Cfg → Bool} (hs : 4096 < (cn h).1.length) (hb : Below w.heap.size w w') : RR w w' 0 h (.returned (.tuple #[.agg #[.slice none 0 0, .int .i64 0], .int .i64 2])) := by
  unfold RR
  rw [binR_large hs]
  exact ro_zero hb
theorem rr_ok {w w' : World} {h : Cfg → Bool} {e : Ending} (hb : BinOk w w' h e) : RR w w' 0 h e := by
  obtain ⟨⟨A, m, c, r, rfl, hd, hf⟩, hb⟩ := hb
  have h1 := hd.len
  have h2 := hd.rd
  have h3 := hd.rt
  have h4 := hd.lm
  clear hd
  unfold RR binR
  generalize cn h = R at *
  obtain ⟨M, n⟩ := R
  simp only at h1 h2 h3
  subst h3
  rw [if_pos rfl, if_pos (by show M.length ≤ 4096; omega)]
  exact ⟨⟨A, m, c, rfl, h1, h2, hf⟩, hb⟩
theorem rd_store {w2 : World} {g : Nat} {A : Option Addr} {l : List Bi} (hrd : Rd w2 w2.heap.size A l) (hf : Fr A (g + 1)) (u v : Value) : Rd ((w2.setCell ⟨g, 0, none⟩ u).setCell ⟨g, 1, none⟩ v) ((w2.setCell ⟨g, 0, none⟩ u).setCell ⟨g, 1, none⟩ v).heap.size A l := by
  have k := (hrd.setF (n := 0) hf u).setF (n := 1) hf v
  simpa [World.setCell] using k
/-- the answer is stored in the result's box -/
theorem ro_store {w w2 : World} {g n m c : Nat} {A : Option Addr} {M : List Br} {code : Int} (hB : Below w.heap.size w w2) (hg : w.heap.size ≤ g) (hl : M.length = m) (hrd : Rd w2 w2.heap.size A (up M)) (hf : Fr A (g + 1)) :
    RO w ((w2.setCell ⟨g, 0, none⟩ (.slice A m c)).setCell ⟨g, 1, none⟩ (.int .i64 (n : Int))) M n code (.returned (.tuple #[.agg #[.slice A m c, .int .i64 (n : Int)], .int .i64 code])) :=
  ⟨⟨A, m, c, rfl, hl, rd_store hrd hf _ _, hf.mono (by omega)⟩, (hB.setCell hg _).setCell hg _⟩
theorem rr_done {w w2 : World} {g m c r : Nat} {A : Option Addr} {f : Cfg → Bool} (hB : Below w.heap.size w w2) (hg : w.heap.size ≤ g) (hd : Dn w2 A m c r f) (hf : Fr A (g + 1)) :
    RR w ((w2.setCell ⟨g, 0, none⟩ (.slice A m c)).setCell ⟨g, 1, none⟩ (.int .i64 (r : Int))) 0 f (.returned (.tuple #[.agg #[.slice A m c, .int .i64 (r : Int)], .int .i64 0])) := by
  have h1 := hd.len
  have h2 := hd.rd
  have h3 := hd.rt
  have h4 := hd.lm
  clear hd
  unfold RR binR
  generalize cn f = R at *
  obtain ⟨M, n⟩ := R
  simp only at h1 h2 h3
  subst h3
  rw [if_pos rfl, if_pos (by show M.length ≤ 4096; omega)]
  exact ro_store hB hg h1 h2 hf
theorem pair_list {w : World} {b : Nat} {A0 : Option Addr} {m0 c0 : Nat} {l0 : List Bi} {r0 : Int} {A1 : Option Addr} {m1 c1 : Nat} {l1 : List Bi} {r1 : Int} (h0 : Hid (DOk w ⟨A0, m0, c0, l0, r0⟩)) (q0 : m0 ≤ 40) (h1 : Hid (DOk w ⟨A1, m1, c1, l1, r1⟩)) (q1 : m1 ≤ 40) (hb : Hid (Blk w b 4 (fun i => ([.slice A0 m0 c0, .int .i64 r0, .slice A1 m1 c1, .int .i64 r1] : List Value).getD i undef))) :
    Calls Tryd.prog 74 #[.slice (some ⟨b, 0, none⟩) 2 2] w fun e w' => e = .returned (.int .i64 (chkAll [(⟨A0, m0, c0, l0, r0⟩ : DA), ⟨A1, m1, c1, l1, r1⟩])) ∧ Below w.heap.size w w' :=
  rfirst_any b 2 2 [(⟨A0, m0, c0, l0, r0⟩ : DA), ⟨A1, m1, c1, l1, r1⟩] w (Lib.hid rfl) (by omega) (hb.out.lt (by omega)) (Lib.hid (fun d hd => by
    simp only [List.mem_cons, List.not_mem_nil, or_false] at hd
    rcases hd with rfl | rfl
    · exact h0.out
    · exact h1.out)) (Lib.hid (fun d hd => by
    simp only [List.mem_cons, List.not_mem_nil, or_false] at hd
    rcases hd with rfl | rfl
    · show m0 ≤ 4096; omega
    · show m1 ≤ 4096; omega)) (Lib.hid (fun k hk => by
    obtain rfl | rfl : k = 0 ∨ k = 1 := by simp at hk; omega
    · exact ⟨(hb.out 0 (by omega)).1, (hb.out 1 (by omega)).1⟩
    · exact ⟨(hb.out 2 (by omega)).1, (hb.out 3 (by omega)).1⟩))
theorem trip_list {w : World} {b : Nat} {A0 : Option Addr} {m0 c0 : Nat} {l0 : List Bi} {r0 : Int} {A1 : Option Addr} {m1 c1 : Nat} {l1 : List Bi} {r1 : Int} {A2 : Option Addr} {m2 c2 : Nat} {l2 : List Bi} {r2 : Int} (h0 : Hid (DOk w ⟨A0, m0, c0, l0, r0⟩)) (q0 : m0 ≤ 40) (h1 : Hid (DOk w ⟨A1, m1, c1, l1, r1⟩)) (q1 : m1 ≤ 40) (h2 : Hid (DOk w ⟨A2, m2, c2, l2, r2⟩)) (q2 : m2 ≤ 40) (hb : Hid (Blk w b 6 (fun i => ([.slice A0 m0 c0, .int .i64 r0, .slice A1 m1 c1, .int .i64 r1, .slice A2 m2 c2, .int .i64 r2] : List Value).getD i undef))) :
    Calls Tryd.prog 74 #[.slice (some ⟨b, 0, none⟩) 3 3] w fun e w' => e = .returned (.int .i64 (chkAll [(⟨A0, m0, c0, l0, r0⟩ : DA), ⟨A1, m1, c1, l1, r1⟩, ⟨A2, m2, c2, l2, r2⟩])) ∧ Below w.heap.size w w' :=
  rfirst_any b 3 3 [(⟨A0, m0, c0, l0, r0⟩ : DA), ⟨A1, m1, c1, l1, r1⟩, ⟨A2, m2, c2, l2, r2⟩] w (Lib.hid rfl) (by omega) (hb.out.lt (by omega)) (Lib.hid (fun d hd => by
    simp only [List.mem_cons, List.not_mem_nil, or_false] at hd
    rcases hd with rfl | rfl | rfl
    · exact h0.out
    · exact h1.out
    · exact h2.out)) (Lib.hid (fun d hd => by
    simp only [List.mem_cons, List.not_mem_nil, or_false] at hd
    rcases hd with rfl | rfl | rfl
    · show m0 ≤ 4096; omega
    · show m1 ≤ 4096; omega
    · show m2 ≤ 4096; omega)) (Lib.hid (fun k hk => by
    obtain rfl | rfl | rfl : k = 0 ∨ k = 1 ∨ k = 2 := by simp at hk; omega
    · exact ⟨(hb.out 0 (by omega)).1, (hb.out 1 (by omega)).1⟩
    · exact ⟨(hb.out 2 (by omega)).1, (hb.out 3 (by omega)).1⟩
    · exact ⟨(hb.out 4 (by omega)).1, (hb.out 5 (by omega)).1⟩))
theorem chk_two {w : World} {d0 d1 : DA} (h0 : DOk w d0) (q0 : d0.m ≤ 40) (h1 : DOk w d1) (q1 : d1.m ≤ 40) : (chkAll [d0, d1] = 0 ∧ chk d0.l d0.r = 0 ∧ chk d1.l d1.r = 0) ∨ (chkAll [d0, d1] = 20 ∧ ¬ (chk d0.l d0.r = 0 ∧ chk d1.l d1.r = 0)) := by
  have e0 := chk_or (l := d0.l) (r := d0.r) (by have := h0.len; omega)
  have e1 := chk_or (l := d1.l) (r := d1.r) (by have := h1.len; omega)
  unfold chkAll chkAll chkAll
  rcases e0 with e0 | e0
  · rcases e1 with e1 | e1
    · rw [e0, e1]; exact .inl ⟨rfl, rfl, rfl⟩
    · rw [e0, e1]; exact .inr ⟨rfl, by decide⟩
  · rw [e0]; exact .inr ⟨rfl, fun h => absurd h.1 (by decide)⟩
theorem chk_three {w : World} {d0 d1 d2 : DA} (h0 : DOk w d0) (q0 : d0.m ≤ 40) (h1 : DOk w d1) (q1 : d1.m ≤ 40) (h2 : DOk w d2) (q2 : d2.m ≤ 40) : (chkAll [d0, d1, d2] = 0 ∧ chk d0.l d0.r = 0 ∧ chk d1.l d1.r = 0 ∧ chk d2.l d2.r = 0) ∨ chkAll [d0, d1, d2] = 20 := by
  have e0 := chk_or (l := d0.l) (r := d0.r) (by have := h0.len; omega)
  rcases chk_two h1 q1 h2 q2 with ⟨e, h⟩ | ⟨e, h⟩
  · unfold chkAll
    rcases e0 with e0 | e0
    · rw [if_pos e0, e]; exact .inl ⟨rfl, e0, h⟩
    · rw [e0]; exact .inr rfl
  · unfold chkAll
    rcases e0 with e0 | e0
    · rw [if_pos e0, e]; exact .inr rfl
    · rw [e0]; exact .inr rfl
theorem chk_nat {l : List Bi} {r : Int} (h : chk l r = 0) : r = ((r.toNat : Nat) : Int) := by
  obtain ⟨M, n, _, rfl, _, _⟩ := chk_ok.1 h
  omega
theorem bin_small {w : World} {A0 A1 : Option Addr} {m0 c0 r0 m1 c1 r1 : Nat} {f g : Cfg → Bool} (h0 : Dn w A0 m0 c0 r0 f) (h1 : Dn w A1 m1 c1 r1 g) (q0 : m0 ≤ 40) (q1 : m1 ≤ 40) (op : Bool → Bool → Bool) : (cn (fun c => op (f c) (g c))).1.length ≤ 4096 := by
  have e0 := h0.den
  have e1 := h1.den
  have l0 := h0.len
  have l1 := h1.len
  have s := bin_size h0.valid.good.ord h1.valid.good.ord op (x := r0) (y := r1) (by rw [l0]; exact h0.lt) (by rw [l1]; exact h1.lt)
  rw [e0, e1, l0, l1] at s
  have t : (m0 + 2) * (m1 + 2) ≤ 42 * 42 := Nat.mul_le_mul (by omega) (by omega)
  omega

set_option maxHeartbeats 2000000 in
set_option maxRecDepth 100000 in
theorem rlimited_le (A : Option Addr) (m c : Nat) (r : Int) (w : World) (hm : m ≤ 4096) :
    Calls Tryd.prog 75 #[.agg #[.slice A m c, .int .i64 r]] w fun e w' => e = .returned (.tuple #[.agg #[.slice A m c, .int .i64 r], .int .i64 0]) ∧ ∃ w1, Below w.heap.size w w1 ∧ w.heap.size + 1 < w1.heap.size ∧ w' = (w1.setCell ⟨w.heap.size + 1, 0, none⟩ (.slice A m c)).setCell ⟨w.heap.size + 1, 1, none⟩ (.int .i64 r) := by
  have b0 := ab2 w (.cells #[.slice A m c, .int .i64 r] 24)
  have b1 := ab2 (w.alloc (.cells #[.slice A m c, .int .i64 r] 24)) (.cells #[.slice none 0 0, .int .i64 0] 24)
  have X0 : Hid (Blk (w.alloc (.cells #[.slice A m c, .int .i64 r] 24)) (w.heap.size) 2 (fun i => ([.slice A m c, .int .i64 r] : List Value).getD i undef)) := Lib.hid (Blk.new (w := w) (H := w.heap.size) (by simp) [.slice A m c, .int .i64 r] 24)
  replace X0 : Hid (Blk ((w.alloc (.cells #[.slice A m c, .int .i64 r] 24)).alloc (.cells #[.slice none 0 0, .int .i64 0] 24)) (w.heap.size) 2 (fun i => ([.slice A m c, .int .i64 r] : List Value).getD i undef)) := Lib.hid (X0.out.below (by omega) b1)
  have X1 : Hid (Blk ((w.alloc (.cells #[.slice A m c, .int .i64 r] 24)).alloc (.cells #[.slice none 0 0, .int .i64 0] 24)) (w.heap.size + 1) 2 (fun i => ([.slice none 0 0, .int .i64 0] : List Value).getD i undef)) := Lib.hid (Blk.new (w := (w.alloc (.cells #[.slice A m c, .int .i64 r] 24))) (H := w.heap.size + 1) (by simp) [.slice none 0 0, .int .i64 0] 24)
  have HB0 : Hid (Below w.heap.size w ((w.alloc (.cells #[.slice A m c, .int .i64 r] 24)).alloc (.cells #[.slice none 0 0, .int .i64 0] 24))) := Lib.hid (b0.trans (b1.mono b0.size))
  have HW0 : Hid (((w.alloc (.cells #[.slice A m c, .int .i64 r] 24)).alloc (.cells #[.slice none 0 0, .int .i64 0] 24)).heap.size = w.heap.size + 1 + 1) := Lib.hid (by simp)
  clear b0 b1
  go_enter Tryd.func75, Tryd.ntmps75
  go_upto_region 1 with fail
  generalize ((w.alloc (.cells #[.slice A m c, .int .i64 r] 24)).alloc (.cells #[.slice none 0 0, .int .i64 0] 24)) = w1 at *
  obtain ⟨x0, x1, xn⟩ := xb2 X0
  obtain ⟨y0, y0f⟩ := X1.out 0 (by omega)
  obtain ⟨y1, y1f⟩ := X1.out 1 (by omega)
  have HLT : Hid (w.heap.size + 1 < w1.heap.size) := Lib.hid (by have := HW0.out; omega)
  go_wp2
  refine bodyPost_ret (v := .tuple #[.agg #[.slice A m c, .int .i64 r], .int .i64 0]) ?_ rfl ⟨rfl, w1, HB0.out, HLT.out, rfl⟩
  rw [results_cell_tmp rfl]
  go_simp

set_option maxHeartbeats 2000000 in
set_option maxRecDepth 100000 in
theorem rlimited_gt (A : Option Addr) (m c : Nat) (r : Int) (w : World) (hm : 4096 < m) :
    Calls Tryd.prog 75 #[.agg #[.slice A m c, .int .i64 r]] w fun e w' => e = .returned (.tuple #[.agg #[.slice none 0 0, .int .i64 0], .int .i64 2]) ∧ Below w.heap.size w w' := by
  have b0 := ab2 w (.cells #[.slice A m c, .int .i64 r] 24)
  have b1 := ab2 (w.alloc (.cells #[.slice A m c, .int .i64 r] 24)) (.cells #[.slice none 0 0, .int .i64 0] 24)
  have X0 : Hid (Blk (w.alloc (.cells #[.slice A m c, .int .i64 r] 24)) (w.heap.size) 2 (fun i => ([.slice A m c, .int .i64 r] : List Value).getD i undef)) := Lib.hid (Blk.new (w := w) (H := w.heap.size) (by simp) [.slice A m c, .int .i64 r] 24)
  replace X0 : Hid (Blk ((w.alloc (.cells #[.slice A m c, .int .i64 r] 24)).alloc (.cells #[.slice none 0 0, .int .i64 0] 24)) (w.heap.size) 2 (fun i => ([.slice A m c, .int .i64 r] : List Value).getD i undef)) := Lib.hid (X0.out.below (by omega) b1)
  have X1 : Hid (Blk ((w.alloc (.cells #[.slice A m c, .int .i64 r] 24)).alloc (.cells #[.slice none 0 0, .int .i64 0] 24)) (w.heap.size + 1) 2 (fun i => ([.slice none 0 0, .int .i64 0] : List Value).getD i undef)) := Lib.hid (Blk.new (w := (w.alloc (.cells #[.slice A m c, .int .i64 r] 24))) (H := w.heap.size + 1) (by simp) [.slice none 0 0, .int .i64 0] 24)
  have HB0 : Hid (Below w.heap.size w ((w.alloc (.cells #[.slice A m c, .int .i64 r] 24)).alloc (.cells #[.slice none 0 0, .int .i64 0] 24))) := Lib.hid (b0.trans (b1.mono b0.size))
  have HW0 : Hid (((w.alloc (.cells #[.slice A m c, .int .i64 r] 24)).alloc (.cells #[.slice none 0 0, .int .i64 0] 24)).heap.size = w.heap.size + 1 + 1) := Lib.hid (by simp)
  clear b0 b1
  go_enter Tryd.func75, Tryd.ntmps75
  go_upto_region 1 with fail
  generalize ((w.alloc (.cells #[.slice A m c, .int .i64 r] 24)).alloc (.cells #[.slice none 0 0, .int .i64 0] 24)) = w1 at *
  obtain ⟨x0, x1, xn⟩ := xb2 X0
  obtain ⟨y0, y0f⟩ := X1.out 0 (by omega)
  obtain ⟨y1, y1f⟩ := X1.out 1 (by omega)
  go_wp2
  refine bodyPost_ret (v := .tuple #[.agg #[.slice none 0 0, .int .i64 0], .int .i64 2]) ?_ rfl ⟨rfl, ?_⟩
  · rw [results_cell_tmp rfl]
    go_simp
  · exact (HB0.out.setCell (by show w.heap.size ≤ w.heap.size + 1; omega) _).setCell (by show w.heap.size ≤ w.heap.size + 1; omega) _

/-- limited of a diagram that is small enough -/
theorem rlimited_ok {A : Option Addr} {m c r : Nat} {f : Cfg → Bool} {w : World} (h : Hid (Dn w A m c r f)) :
    Calls Tryd.prog 75 #[.agg #[.slice A m c, .int .i64 (r : Int)]] w fun e w' => e = .returned (.tuple #[.agg #[.slice A m c, .int .i64 (r : Int)], .int .i64 0]) ∧ Dn w' A m c r f ∧ Below w.heap.size w w' := by
  have hd := h.out
  refine (rlimited_le A m c (r : Int) w hd.lm).mono ?_
  rintro e w' ⟨rfl, w1, b1, hlt, rfl⟩
  have hb2 : Below w.heap.size w ((w1.setCell ⟨w.heap.size + 1, 0, none⟩ (.slice A m c)).setCell ⟨w.heap.size + 1, 1, none⟩ (.int .i64 (r : Int))) := (b1.setCell (by show w.heap.size ≤ w.heap.size + 1; omega) _).setCell (by show w.heap.size ≤ w.heap.size + 1; omega) _
  exact ⟨rfl, hd.below hb2, hb2⟩

set_option maxHeartbeats 8000000 in
set_option maxRecDepth 100000 in
theorem rop_any {w : World} (op T : Nat) (bop : Bool → Bool → Bool) (hop : Hid (OpT op T bop)) {A0 : Option Addr} {m0 c0 : Nat} {l0 : List Bi} {r0 : Int} {A1 : Option Addr} {m1 c1 : Nat} {l1 : List Bi} {r1 : Int} (h0 : Hid (DOk w (⟨A0, m0, c0, l0, r0⟩ : DA))) (q0 : m0 ≤ 40) (h1 : Hid (DOk w (⟨A1, m1, c1, l1, r1⟩ : DA))) (q1 : m1 ≤ 40) :
    Calls Tryd.prog 61 #[.agg #[.slice A0 m0 c0, .int .i64 r0], .agg #[.slice A1 m1 c1, .int .i64 r1], .int .i64 (op : Int)] w fun e w' => RR w w' (chkAll [(⟨A0, m0, c0, l0, r0⟩ : DA), (⟨A1, m1, c1, l1, r1⟩ : DA)]) (fun x => bop (dset l0 r0 x) (dset l1 r1 x)) e := by
  have b0 := ab2 w (.cells #[.slice A0 m0 c0, .int .i64 r0] 24)
  have b1 := ab2 (w.alloc (.cells #[.slice A0 m0 c0, .int .i64 r0] 24)) (.cells #[.slice A1 m1 c1, .int .i64 r1] 24)
  have b2 := ab2 ((w.alloc (.cells #[.slice A0 m0 c0, .int .i64 r0] 24)).alloc (.cells #[.slice A1 m1 c1, .int .i64 r1] 24)) (.cells #[.slice none 0 0, .int .i64 0] 24)
  have b3 := ab2 (((w.alloc (.cells #[.slice A0 m0 c0, .int .i64 r0] 24)).alloc (.cells #[.slice A1 m1 c1, .int .i64 r1] 24)).alloc (.cells #[.slice none 0 0, .int .i64 0] 24)) (.cells #[.slice A0 m0 c0, .int .i64 r0, .slice A1 m1 c1, .int .i64 r1] 24)
  have X0 : Hid (Blk (w.alloc (.cells #[.slice A0 m0 c0, .int .i64 r0] 24)) (w.heap.size) 2 (fun i => ([.slice A0 m0 c0, .int .i64 r0] : List Value).getD i undef)) := Lib.hid (Blk.new (w := w) (H := w.heap.size) (by simp) [.slice A0 m0 c0, .int .i64 r0] 24)
  replace X0 : Hid (Blk ((w.alloc (.cells #[.slice A0 m0 c0, .int .i64 r0] 24)).alloc (.cells #[.slice A1 m1 c1, .int .i64 r1] 24)) (w.heap.size) 2 (fun i => ([.slice A0 m0 c0, .int .i64 r0] : List Value).getD i undef)) := Lib.hid (X0.out.below (by omega) b1)
  replace X0 : Hid (Blk (((w.alloc (.cells #[.slice A0 m0 c0, .int .i64 r0] 24)).alloc (.cells #[.slice A1 m1 c1, .int .i64 r1] 24)).alloc (.cells #[.slice none 0 0, .int .i64 0] 24)) (w.heap.size) 2 (fun i => ([.slice A0 m0 c0, .int .i64 r0] : List Value).getD i undef)) := Lib.hid (X0.out.below (by omega) b2)
  replace X0 : Hid (Blk ((((w.alloc (.cells #[.slice A0 m0 c0, .int .i64 r0] 24)).alloc (.cells #[.slice A1 m1 c1, .int .i64 r1] 24)).alloc (.cells #[.slice none 0 0, .int .i64 0] 24)).alloc (.cells #[.slice A0 m0 c0, .int .i64 r0, .slice A1 m1 c1, .int .i64 r1] 24)) (w.heap.size) 2 (fun i => ([.slice A0 m0 c0, .int .i64 r0] : List Value).getD i undef)) := Lib.hid (X0.out.below (by omega) b3)
  have X1 : Hid (Blk ((w.alloc (.cells #[.slice A0 m0 c0, .int .i64 r0] 24)).alloc (.cells #[.slice A1 m1 c1, .int .i64 r1] 24)) (w.heap.size + 1) 2 (fun i => ([.slice A1 m1 c1, .int .i64 r1] : List Value).getD i undef)) := Lib.hid (Blk.new (w := (w.alloc (.cells #[.slice A0 m0 c0, .int .i64 r0] 24))) (H := w.heap.size + 1) (by simp) [.slice A1 m1 c1, .int .i64 r1] 24)
  replace X1 : Hid (Blk (((w.alloc (.cells #[.slice A0 m0 c0, .int .i64 r0] 24)).alloc (.cells #[.slice A1 m1 c1, .int .i64 r1] 24)).alloc (.cells #[.slice none 0 0, .int .i64 0] 24)) (w.heap.size + 1) 2 (fun i => ([.slice A1 m1 c1, .int .i64 r1] : List Value).getD i undef)) := Lib.hid (X1.out.below (by omega) b2)
  replace X1 : Hid (Blk ((((w.alloc (.cells #[.slice A0 m0 c0, .int .i64 r0] 24)).alloc (.cells #[.slice A1 m1 c1, .int .i64 r1] 24)).alloc (.cells #[.slice none 0 0, .int .i64 0] 24)).alloc (.cells #[.slice A0 m0 c0, .int .i64 r0, .slice A1 m1 c1, .int .i64 r1] 24)) (w.heap.size + 1) 2 (fun i => ([.slice A1 m1 c1, .int .i64 r1] : List Value).getD i undef)) := Lib.hid (X1.out.below (by omega) b3)
  have X2 : Hid (Blk (((w.alloc (.cells #[.slice A0 m0 c0, .int .i64 r0] 24)).alloc (.cells #[.slice A1 m1 c1, .int .i64 r1] 24)).alloc (.cells #[.slice none 0 0, .int .i64 0] 24)) (w.heap.size + 1 + 1) 2 (fun i => ([.slice none 0 0, .int .i64 0] : List Value).getD i undef)) := Lib.hid (Blk.new (w := ((w.alloc (.cells #[.slice A0 m0 c0, .int .i64 r0] 24)).alloc (.cells #[.slice A1 m1 c1, .int .i64 r1] 24))) (H := w.heap.size + 1 + 1) (by simp) [.slice none 0 0, .int .i64 0] 24)
  replace X2 : Hid (Blk ((((w.alloc (.cells #[.slice A0 m0 c0, .int .i64 r0] 24)).alloc (.cells #[.slice A1 m1 c1, .int .i64 r1] 24)).alloc (.cells #[.slice none 0 0, .int .i64 0] 24)).alloc (.cells #[.slice A0 m0 c0, .int .i64 r0, .slice A1 m1 c1, .int .i64 r1] 24)) (w.heap.size + 1 + 1) 2 (fun i => ([.slice none 0 0, .int .i64 0] : List Value).getD i undef)) := Lib.hid (X2.out.below (by omega) b3)
  have X3 : Hid (Blk ((((w.alloc (.cells #[.slice A0 m0 c0, .int .i64 r0] 24)).alloc (.cells #[.slice A1 m1 c1, .int .i64 r1] 24)).alloc (.cells #[.slice none 0 0, .int .i64 0] 24)).alloc (.cells #[.slice A0 m0 c0, .int .i64 r0, .slice A1 m1 c1, .int .i64 r1] 24)) (w.heap.size + 1 + 1 + 1) 4 (fun i => ([.slice A0 m0 c0, .int .i64 r0, .slice A1 m1 c1, .int .i64 r1] : List Value).getD i undef)) := Lib.hid (Blk.new (w := (((w.alloc (.cells #[.slice A0 m0 c0, .int .i64 r0] 24)).alloc (.cells #[.slice A1 m1 c1, .int .i64 r1] 24)).alloc (.cells #[.slice none 0 0, .int .i64 0] 24))) (H := w.heap.size + 1 + 1 + 1) (by simp) [.slice A0 m0 c0, .int .i64 r0, .slice A1 m1 c1, .int .i64 r1] 24)
  have HB0 : Hid (Below w.heap.size w ((((w.alloc (.cells #[.slice A0 m0 c0, .int .i64 r0] 24)).alloc (.cells #[.slice A1 m1 c1, .int .i64 r1] 24)).alloc (.cells #[.slice none 0 0, .int .i64 0] 24)).alloc (.cells #[.slice A0 m0 c0, .int .i64 r0, .slice A1 m1 c1, .int .i64 r1] 24))) := Lib.hid (((b0.trans (b1.mono b0.size)).trans (b2.mono (b0.trans (b1.mono b0.size)).size)).trans (b3.mono ((b0.trans (b1.mono b0.size)).trans (b2.mono (b0.trans (b1.mono b0.size)).size)).size))
  have HW0 : Hid (((((w.alloc (.cells #[.slice A0 m0 c0, .int .i64 r0] 24)).alloc (.cells #[.slice A1 m1 c1, .int .i64 r1] 24)).alloc (.cells #[.slice none 0 0, .int .i64 0] 24)).alloc (.cells #[.slice A0 m0 c0, .int .i64 r0, .slice A1 m1 c1, .int .i64 r1] 24)).heap.size = w.heap.size + 1 + 1 + 1 + 1) := Lib.hid (by simp)
  clear b0 b1 b2 b3
  have HF : Hid (∀ W, Below w.heap.size w W → Blk W (w.heap.size + 1 + 1 + 1) 4 (fun i => ([.slice A0 m0 c0, .int .i64 r0, .slice A1 m1 c1, .int .i64 r1] : List Value).getD i undef) → Calls Tryd.prog 74 #[.slice (some ⟨w.heap.size + 1 + 1 + 1, 0, none⟩) 2 2] W fun e w' => e = .returned (.int .i64 (chkAll [(⟨A0, m0, c0, l0, r0⟩ : DA), (⟨A1, m1, c1, l1, r1⟩ : DA)])) ∧ Below W.heap.size W w') := Lib.hid (fun W hW hblk => pair_list (dkh h0 hW) q0 (dkh h1 hW) q1 (Lib.hid hblk))
  have hc2 := chk_two h0.out q0 h1.out q1
  rcases hc2 with ⟨hk, k0, k1⟩ | ⟨hk, _⟩
  · rw [hk] at HF ⊢
    have D0 := Lib.hid (dn_dset h0.out k0)
    have D1 := Lib.hid (dn_dset h1.out k1)
    have e0 := chk_nat k0
    have e1 := chk_nat k1
    clear k0 k1 h0 h1 hk
    generalize dset l0 r0 = f0 at *
    generalize dset l1 r1 = f1 at *
    generalize r0.toNat = n0 at *
    generalize r1.toNat = n1 at *
    subst e0
    subst e1
    have HSZ := Lib.hid (bin_small D0.out D1.out q0 q1 bop)
    have HC : Hid (∀ W, Below w.heap.size w W → Calls Tryd.prog 102 #[.agg #[.slice A0 m0 c0, .int .i64 (n0 : Int)], .agg #[.slice A1 m1 c1, .int .i64 (n1 : Int)], .int .i64 (op : Int)] W fun e w' => DiaOk W w' (fun x => bop (f0 x) (f1 x)) e) :=
      Lib.hid (fun W hW => rcombine_ok op T m0 c0 n0 m1 c1 n1 bop A0 A1 f0 f1 W hop (rdn D0 hW) (rdn D1 hW) (Lib.hid (by have : (m0 + 2) * (m1 + 2) ≤ 42 * 42 := Nat.mul_le_mul (by omega) (by omega); omega)) HSZ)
    clear D0 D1
    go_enter Tryd.func61, Tryd.ntmps61
    go_wp2_with fail
    generalize ((((w.alloc (.cells #[.slice A0 m0 c0, .int .i64 (n0 : Int)] 24)).alloc (.cells #[.slice A1 m1 c1, .int .i64 (n1 : Int)] 24)).alloc (.cells #[.slice none 0 0, .int .i64 0] 24)).alloc (.cells #[.slice A0 m0 c0, .int .i64 (n0 : Int), .slice A1 m1 c1, .int .i64 (n1 : Int)] 24)) = w1 at *
    with_reducible refine (HF.out w1 HB0.out X3.out).mono ?_
    rintro e w3 ⟨rfl, b3⟩
    replace X0 := rb2 X0 b3
    replace X1 := rb2 X1 b3
    replace X2 := rb2 X2 b3
    have HW3 : Hid (w.heap.size + 1 + 1 + 1 + 1 ≤ w3.heap.size) := Lib.hid (by have := HW0.out; have := b3.size; omega)
    have HB3 := btr HB0 b3 HB0.out.size
    clear b3 HB0 X3 HF HW0
    obtain ⟨x0, x1, xn⟩ := xb2 X0
    obtain ⟨u0, u1, un⟩ := xb2 X1
    go_wp2_with fail
    with_reducible refine (HC.out w3 HB3.out).mono ?_
    rintro e w6 ⟨⟨A9, m9, c9, r9, rfl, d9, f9⟩, b9⟩
    replace X2 := rb2 X2 b9
    have D9 := Lib.hid d9
    have F9 := Lib.hid (f9.mono (show w.heap.size + 1 + 1 + 1 + 1 ≤ _ from HW3.out))
    have HB6 := btr HB3 b9 HB3.out.size
    clear d9 f9 b9 HC x0 x1 xn u0 u1 un
    go_wp2_with fail
    with_reducible refine (rlimited_ok D9).mono ?_
    rintro e w7 ⟨rfl, d7, b7⟩
    replace X2 := rb2 X2 b7
    have D7 := Lib.hid d7
    have HB7 := btr HB6 b7 HB6.out.size
    clear d7 b7 D9
    obtain ⟨y0, y0f⟩ := X2.out 0 (by omega)
    obtain ⟨y1, y1f⟩ := X2.out 1 (by omega)
    go_wp2
    refine bodyPost_ret (v := .tuple #[.agg #[.slice A9 m9 c9, .int .i64 (r9 : Int)], .int .i64 0]) ?_ rfl ?_
    · rw [results_cell_tmp rfl]
      go_simp
    · exact rr_done HB7.out (by omega) D7.out (F9.out.mono (by omega))
  · rw [hk] at HF ⊢
    clear h0 h1 hk
    go_enter Tryd.func61, Tryd.ntmps61
    go_wp2_with fail
    generalize ((((w.alloc (.cells #[.slice A0 m0 c0, .int .i64 r0] 24)).alloc (.cells #[.slice A1 m1 c1, .int .i64 r1] 24)).alloc (.cells #[.slice none 0 0, .int .i64 0] 24)).alloc (.cells #[.slice A0 m0 c0, .int .i64 r0, .slice A1 m1 c1, .int .i64 r1] 24)) = w1 at *
    with_reducible refine (HF.out w1 HB0.out X3.out).mono ?_
    rintro e w3 ⟨rfl, b3⟩
    replace X2 := rb2 X2 b3
    have HB3 := btr HB0 b3 HB0.out.size
    clear b3 HB0 X3 HF HW0
    obtain ⟨y0, y0f⟩ := X2.out 0 (by omega)
    obtain ⟨y1, y1f⟩ := X2.out 1 (by omega)
    go_wp2
    refine bodyPost_ret (v := .tuple #[.agg #[.slice none 0 0, .int .i64 0], .int .i64 20]) ?_ rfl ?_
    · rw [results_cell_tmp rfl]
      go_simp
    · exact rr_bad (by decide) ((HB3.out.setCell (by show w.heap.size ≤ w.heap.size + 1 + 1; omega) _).setCell (by show w.heap.size ≤ w.heap.size + 1 + 1; omega) _)

set_option maxHeartbeats 4000000 in
set_option maxRecDepth 100000 in
theorem rand_any {w : World} {A0 : Option Addr} {m0 c0 : Nat} {l0 : List Bi} {r0 : Int} {A1 : Option Addr} {m1 c1 : Nat} {l1 : List Bi} {r1 : Int} (h0 : Hid (DOk w (⟨A0, m0, c0, l0, r0⟩ : DA))) (q0 : m0 ≤ 40) (h1 : Hid (DOk w (⟨A1, m1, c1, l1, r1⟩ : DA))) (q1 : m1 ≤ 40) :
    Calls Tryd.prog 18 #[.agg #[.slice A0 m0 c0, .int .i64 r0], .agg #[.slice A1 m1 c1, .int .i64 r1]] w fun e w' => RR w w' (chkAll [(⟨A0, m0, c0, l0, r0⟩ : DA), (⟨A1, m1, c1, l1, r1⟩ : DA)]) (fun x => and (dset l0 r0 x) (dset l1 r1 x)) e := by
  have b0 := ab2 w (.cells #[.slice A0 m0 c0, .int .i64 r0] 24)
  have b1 := ab2 (w.alloc (.cells #[.slice A0 m0 c0, .int .i64 r0] 24)) (.cells #[.slice A1 m1 c1, .int .i64 r1] 24)
  have b2 := ab2 ((w.alloc (.cells #[.slice A0 m0 c0, .int .i64 r0] 24)).alloc (.cells #[.slice A1 m1 c1, .int .i64 r1] 24)) (.cells #[.slice none 0 0, .int .i64 0] 24)
  have X0 : Hid (Blk (w.alloc (.cells #[.slice A0 m0 c0, .int .i64 r0] 24)) (w.heap.size) 2 (fun i => ([.slice A0 m0 c0, .int .i64 r0] : List Value).getD i undef)) := Lib.hid (Blk.new (w := w) (H := w.heap.size) (by simp) [.slice A0 m0 c0, .int .i64 r0] 24)
  replace X0 : Hid (Blk ((w.alloc (.cells #[.slice A0 m0 c0, .int .i64 r0] 24)).alloc (.cells #[.slice A1 m1 c1, .int .i64 r1] 24)) (w.heap.size) 2 (fun i => ([.slice A0 m0 c0, .int .i64 r0] : List Value).getD i undef)) := Lib.hid (X0.out.below (by omega) b1)
  replace X0 : Hid (Blk (((w.alloc (.cells #[.slice A0 m0 c0, .int .i64 r0] 24)).alloc (.cells #[.slice A1 m1 c1, .int .i64 r1] 24)).alloc (.cells #[.slice none 0 0, .int .i64 0] 24)) (w.heap.size) 2 (fun i => ([.slice A0 m0 c0, .int .i64 r0] : List Value).getD i undef)) := Lib.hid (X0.out.below (by omega) b2)
  have X1 : Hid (Blk ((w.alloc (.cells #[.slice A0 m0 c0, .int .i64 r0] 24)).alloc (.cells #[.slice A1 m1 c1, .int .i64 r1] 24)) (w.heap.size + 1) 2 (fun i => ([.slice A1 m1 c1, .int .i64 r1] : List Value).getD i undef)) := Lib.hid (Blk.new (w := (w.alloc (.cells #[.slice A0 m0 c0, .int .i64 r0] 24))) (H := w.heap.size + 1) (by simp) [.slice A1 m1 c1, .int .i64 r1] 24)
  replace X1 : Hid (Blk (((w.alloc (.cells #[.slice A0 m0 c0, .int .i64 r0] 24)).alloc (.cells #[.slice A1 m1 c1, .int .i64 r1] 24)).alloc (.cells #[.slice none 0 0, .int .i64 0] 24)) (w.heap.size + 1) 2 (fun i => ([.slice A1 m1 c1, .int .i64 r1] : List Value).getD i undef)) := Lib.hid (X1.out.below (by omega) b2)
  have X2 : Hid (Blk (((w.alloc (.cells #[.slice A0 m0 c0, .int .i64 r0] 24)).alloc (.cells #[.slice A1 m1 c1, .int .i64 r1] 24)).alloc (.cells #[.slice none 0 0, .int .i64 0] 24)) (w.heap.size + 1 + 1) 2 (fun i => ([.slice none 0 0, .int .i64 0] : List Value).getD i undef)) := Lib.hid (Blk.new (w := ((w.alloc (.cells #[.slice A0 m0 c0, .int .i64 r0] 24)).alloc (.cells #[.slice A1 m1 c1, .int .i64 r1] 24))) (H := w.heap.size + 1 + 1) (by simp) [.slice none 0 0, .int .i64 0] 24)
  have HB0 : Hid (Below w.heap.size w (((w.alloc (.cells #[.slice A0 m0 c0, .int .i64 r0] 24)).alloc (.cells #[.slice A1 m1 c1, .int .i64 r1] 24)).alloc (.cells #[.slice none 0 0, .int .i64 0] 24))) := Lib.hid ((b0.trans (b1.mono b0.size)).trans (b2.mono (b0.trans (b1.mono b0.size)).size))
  have HW0 : Hid ((((w.alloc (.cells #[.slice A0 m0 c0, .int .i64 r0] 24)).alloc (.cells #[.slice A1 m1 c1, .int .i64 r1] 24)).alloc (.cells #[.slice none 0 0, .int .i64 0] 24)).heap.size = w.heap.size + 1 + 1 + 1) := Lib.hid (by simp)
  clear b0 b1 b2
  have HC : Hid (∀ W, Below w.heap.size w W → Calls Tryd.prog 61 #[.agg #[.slice A0 m0 c0, .int .i64 r0], .agg #[.slice A1 m1 c1, .int .i64 r1], .int .i64 0] W fun e w' => RR W w' (chkAll [(⟨A0, m0, c0, l0, r0⟩ : DA), (⟨A1, m1, c1, l1, r1⟩ : DA)]) (fun x => and (dset l0 r0 x) (dset l1 r1 x)) e) := Lib.hid (fun W hW => rop_any 0 136 (fun p q => p && q) (Lib.hid opt_and) (dkh h0 hW) q0 (dkh h1 hW) q1)
  clear h0 h1
  generalize chkAll [(⟨A0, m0, c0, l0, r0⟩ : DA), (⟨A1, m1, c1, l1, r1⟩ : DA)] = k at *
  unfold RR at HC ⊢
  generalize (binR k fun x => and (dset l0 r0 x) (dset l1 r1 x)) = B at *
  obtain ⟨MB, nB, cB⟩ := B
  simp only at HC ⊢
  go_enter Tryd.func18, Tryd.ntmps18
  go_upto_region 1 with fail
  generalize (((w.alloc (.cells #[.slice A0 m0 c0, .int .i64 r0] 24)).alloc (.cells #[.slice A1 m1 c1, .int .i64 r1] 24)).alloc (.cells #[.slice none 0 0, .int .i64 0] 24)) = w1 at *
  obtain ⟨x0, x1, xn⟩ := xb2 X0
  obtain ⟨u0, u1, un⟩ := xb2 X1
  go_wp2_with fail
  with_reducible refine (HC.out w1 HB0.out).mono ?_
  rintro e w3 ⟨⟨A9, m9, c9, rfl, e9, rd9, f9⟩, b9⟩
  replace X2 := rb2 X2 b9
  have HB3 := btr HB0 b9 HB0.out.size
  have L9 := Lib.hid e9
  have R9 := Lib.hid rd9
  have F9 := Lib.hid (f9.mono (show w.heap.size + 1 + 1 + 1 ≤ w1.heap.size by have := HW0.out; omega))
  clear e9 rd9 f9 b9 HC x0 x1 xn u0 u1 un
  obtain ⟨y0, y0f⟩ := X2.out 0 (by omega)
  obtain ⟨y1, y1f⟩ := X2.out 1 (by omega)
  go_wp2
  refine bodyPost_ret (v := .tuple #[.agg #[.slice A9 m9 c9, .int .i64 (nB : Int)], .int .i64 cB]) ?_ rfl ?_
  · rw [results_cell_tmp rfl]
    go_simp
  · exact ro_store HB3.out (by omega) L9.out R9.out (F9.out.mono (by omega))

set_option maxHeartbeats 4000000 in
set_option maxRecDepth 100000 in
theorem ror_any {w : World} {A0 : Option Addr} {m0 c0 : Nat} {l0 : List Bi} {r0 : Int} {A1 : Option Addr} {m1 c1 : Nat} {l1 : List Bi} {r1 : Int} (h0 : Hid (DOk w (⟨A0, m0, c0, l0, r0⟩ : DA))) (q0 : m0 ≤ 40) (h1 : Hid (DOk w (⟨A1, m1, c1, l1, r1⟩ : DA))) (q1 : m1 ≤ 40) :
    Calls Tryd.prog 20 #[.agg #[.slice A0 m0 c0, .int .i64 r0], .agg #[.slice A1 m1 c1, .int .i64 r1]] w fun e w' => RR w w' (chkAll [(⟨A0, m0, c0, l0, r0⟩ : DA), (⟨A1, m1, c1, l1, r1⟩ : DA)]) (fun x => or (dset l0 r0 x) (dset l1 r1 x)) e := by
  have b0 := ab2 w (.cells #[.slice A0 m0 c0, .int .i64 r0] 24)
  have b1 := ab2 (w.alloc (.cells #[.slice A0 m0 c0, .int .i64 r0] 24)) (.cells #[.slice A1 m1 c1, .int .i64 r1] 24)
  have b2 := ab2 ((w.alloc (.cells #[.slice A0 m0 c0, .int .i64 r0] 24)).alloc (.cells #[.slice A1 m1 c1, .int .i64 r1] 24)) (.cells #[.slice none 0 0, .int .i64 0] 24)
  have X0 : Hid (Blk (w.alloc (.cells #[.slice A0 m0 c0, .int .i64 r0] 24)) (w.heap.size) 2 (fun i => ([.slice A0 m0 c0, .int .i64 r0] : List Value).getD i undef)) := Lib.hid (Blk.new (w := w) (H := w.heap.size) (by simp) [.slice A0 m0 c0, .int .i64 r0] 24)
  replace X0 : Hid (Blk ((w.alloc (.cells #[.slice A0 m0 c0, .int .i64 r0] 24)).alloc (.cells #[.slice A1 m1 c1, .int .i64 r1] 24)) (w.heap.size) 2 (fun i => ([.slice A0 m0 c0, .int .i64 r0] : List Value).getD i undef)) := Lib.hid (X0.out.below (by omega) b1)
  replace X0 : Hid (Blk (((w.alloc (.cells #[.slice A0 m0 c0, .int .i64 r0] 24)).alloc (.cells #[.slice A1 m1 c1, .int .i64 r1] 24)).alloc (.cells #[.slice none 0 0, .int .i64 0] 24)) (w.heap.size) 2 (fun i => ([.slice A0 m0 c0, .int .i64 r0] : List Value).getD i undef)) := Lib.hid (X0.out.below (by omega) b2)
  have X1 : Hid (Blk ((w.alloc (.cells #[.slice A0 m0 c0, .int .i64 r0] 24)).alloc (.cells #[.slice A1 m1 c1, .int .i64 r1] 24)) (w.heap.size + 1) 2 (fun i => ([.slice A1 m1 c1, .int .i64 r1] : List Value).getD i undef)) := Lib.hid (Blk.new (w := (w.alloc (.cells #[.slice A0 m0 c0, .int .i64 r0] 24))) (H := w.heap.size + 1) (by simp) [.slice A1 m1 c1, .int .i64 r1] 24)
  replace X1 : Hid (Blk (((w.alloc (.cells #[.slice A0 m0 c0, .int .i64 r0] 24)).alloc (.cells #[.slice A1 m1 c1, .int .i64 r1] 24)).alloc (.cells #[.slice none 0 0, .int .i64 0] 24)) (w.heap.size + 1) 2 (fun i => ([.slice A1 m1 c1, .int .i64 r1] : List Value).getD i undef)) := Lib.hid (X1.out.below (by omega) b2)
  have X2 : Hid (Blk (((w.alloc (.cells #[.slice A0 m0 c0, .int .i64 r0] 24)).alloc (.cells #[.slice A1 m1 c1, .int .i64 r1] 24)).alloc (.cells #[.slice none 0 0, .int .i64 0] 24)) (w.heap.size + 1 + 1) 2 (fun i => ([.slice none 0 0, .int .i64 0] : List Value).getD i undef)) := Lib.hid (Blk.new (w := ((w.alloc (.cells #[.slice A0 m0 c0, .int .i64 r0] 24)).alloc (.cells #[.slice A1 m1 c1, .int .i64 r1] 24))) (H := w.heap.size + 1 + 1) (by simp) [.slice none 0 0, .int .i64 0] 24)
  have HB0 : Hid (Below w.heap.size w (((w.alloc (.cells #[.slice A0 m0 c0, .int .i64 r0] 24)).alloc (.cells #[.slice A1 m1 c1, .int .i64 r1] 24)).alloc (.cells #[.slice none 0 0, .int .i64 0] 24))) := Lib.hid ((b0.trans (b1.mono b0.size)).trans (b2.mono (b0.trans (b1.mono b0.size)).size))
  have HW0 : Hid ((((w.alloc (.cells #[.slice A0 m0 c0, .int .i64 r0] 24)).alloc (.cells #[.slice A1 m1 c1, .int .i64 r1] 24)).alloc (.cells #[.slice none 0 0, .int .i64 0] 24)).heap.size = w.heap.size + 1 + 1 + 1) := Lib.hid (by simp)
  clear b0 b1 b2
  have HC : Hid (∀ W, Below w.heap.size w W → Calls Tryd.prog 61 #[.agg #[.slice A0 m0 c0, .int .i64 r0], .agg #[.slice A1 m1 c1, .int .i64 r1], .int .i64 1] W fun e w' => RR W w' (chkAll [(⟨A0, m0, c0, l0, r0⟩ : DA), (⟨A1, m1, c1, l1, r1⟩ : DA)]) (fun x => or (dset l0 r0 x) (dset l1 r1 x)) e) := Lib.hid (fun W hW => rop_any 1 238 (fun p q => p || q) (Lib.hid opt_or) (dkh h0 hW) q0 (dkh h1 hW) q1)
  clear h0 h1
  generalize chkAll [(⟨A0, m0, c0, l0, r0⟩ : DA), (⟨A1, m1, c1, l1, r1⟩ : DA)] = k at *
  unfold RR at HC ⊢
  generalize (binR k fun x => or (dset l0 r0 x) (dset l1 r1 x)) = B at *
  obtain ⟨MB, nB, cB⟩ := B
  simp only at HC ⊢
  go_enter Tryd.func20, Tryd.ntmps20
  go_upto_region 1 with fail
  generalize (((w.alloc (.cells #[.slice A0 m0 c0, .int .i64 r0] 24)).alloc (.cells #[.slice A1 m1 c1, .int .i64 r1] 24)).alloc (.cells #[.slice none 0 0, .int .i64 0] 24)) = w1 at *
  obtain ⟨x0, x1, xn⟩ := xb2 X0
  obtain ⟨u0, u1, un⟩ := xb2 X1
  go_wp2_with fail
  with_reducible refine (HC.out w1 HB0.out).mono ?_
  rintro e w3 ⟨⟨A9, m9, c9, rfl, e9, rd9, f9⟩, b9⟩
  replace X2 := rb2 X2 b9
  have HB3 := btr HB0 b9 HB0.out.size
  have L9 := Lib.hid e9
  have R9 := Lib.hid rd9
  have F9 := Lib.hid (f9.mono (show w.heap.size + 1 + 1 + 1 ≤ w1.heap.size by have := HW0.out; omega))
  clear e9 rd9 f9 b9 HC x0 x1 xn u0 u1 un
  obtain ⟨y0, y0f⟩ := X2.out 0 (by omega)
  obtain ⟨y1, y1f⟩ := X2.out 1 (by omega)
  go_wp2
  refine bodyPost_ret (v := .tuple #[.agg #[.slice A9 m9 c9, .int .i64 (nB : Int)], .int .i64 cB]) ?_ rfl ?_
  · rw [results_cell_tmp rfl]
    go_simp
  · exact ro_store HB3.out (by omega) L9.out R9.out (F9.out.mono (by omega))

set_option maxHeartbeats 4000000 in
set_option maxRecDepth 100000 in
theorem rxor_any {w : World} {A0 : Option Addr} {m0 c0 : Nat} {l0 : List Bi} {r0 : Int} {A1 : Option Addr} {m1 c1 : Nat} {l1 : List Bi} {r1 : Int} (h0 : Hid (DOk w (⟨A0, m0, c0, l0, r0⟩ : DA))) (q0 : m0 ≤ 40) (h1 : Hid (DOk w (⟨A1, m1, c1, l1, r1⟩ : DA))) (q1 : m1 ≤ 40) :
    Calls Tryd.prog 26 #[.agg #[.slice A0 m0 c0, .int .i64 r0], .agg #[.slice A1 m1 c1, .int .i64 r1]] w fun e w' => RR w w' (chkAll [(⟨A0, m0, c0, l0, r0⟩ : DA), (⟨A1, m1, c1, l1, r1⟩ : DA)]) (fun x => dset l0 r0 x != dset l1 r1 x) e := by
  have b0 := ab2 w (.cells #[.slice A0 m0 c0, .int .i64 r0] 24)
  have b1 := ab2 (w.alloc (.cells #[.slice A0 m0 c0, .int .i64 r0] 24)) (.cells #[.slice A1 m1 c1, .int .i64 r1] 24)
  have b2 := ab2 ((w.alloc (.cells #[.slice A0 m0 c0, .int .i64 r0] 24)).alloc (.cells #[.slice A1 m1 c1, .int .i64 r1] 24)) (.cells #[.slice none 0 0, .int .i64 0] 24)
  have X0 : Hid (Blk (w.alloc (.cells #[.slice A0 m0 c0, .int .i64 r0] 24)) (w.heap.size) 2 (fun i => ([.slice A0 m0 c0, .int .i64 r0] : List Value).getD i undef)) := Lib.hid (Blk.new (w := w) (H := w.heap.size) (by simp) [.slice A0 m0 c0, .int .i64 r0] 24)
  replace X0 : Hid (Blk ((w.alloc (.cells #[.slice A0 m0 c0, .int .i64 r0] 24)).alloc (.cells #[.slice A1 m1 c1, .int .i64 r1] 24)) (w.heap.size) 2 (fun i => ([.slice A0 m0 c0, .int .i64 r0] : List Value).getD i undef)) := Lib.hid (X0.out.below (by omega) b1)
  replace X0 : Hid (Blk (((w.alloc (.cells #[.slice A0 m0 c0, .int .i64 r0] 24)).alloc (.cells #[.slice A1 m1 c1, .int .i64 r1] 24)).alloc (.cells #[.slice none 0 0, .int .i64 0] 24)) (w.heap.size) 2 (fun i => ([.slice A0 m0 c0, .int .i64 r0] : List Value).getD i undef)) := Lib.hid (X0.out.below (by omega) b2)
  have X1 : Hid (Blk ((w.alloc (.cells #[.slice A0 m0 c0, .int .i64 r0] 24)).alloc (.cells #[.slice A1 m1 c1, .int .i64 r1] 24)) (w.heap.size + 1) 2 (fun i => ([.slice A1 m1 c1, .int .i64 r1] : List Value).getD i undef)) := Lib.hid (Blk.new (w := (w.alloc (.cells #[.slice A0 m0 c0, .int .i64 r0] 24))) (H := w.heap.size + 1) (by simp) [.slice A1 m1 c1, .int .i64 r1] 24)
  replace X1 : Hid (Blk (((w.alloc (.cells #[.slice A0 m0 c0, .int .i64 r0] 24)).alloc (.cells #[.slice A1 m1 c1, .int .i64 r1] 24)).alloc (.cells #[.slice none 0 0, .int .i64 0] 24)) (w.heap.size + 1) 2 (fun i => ([.slice A1 m1 c1, .int .i64 r1] : List Value).getD i undef)) := Lib.hid (X1.out.below (by omega) b2)
  have X2 : Hid (Blk (((w.alloc (.cells #[.slice A0 m0 c0, .int .i64 r0] 24)).alloc (.cells #[.slice A1 m1 c1, .int .i64 r1] 24)).alloc (.cells #[.slice none 0 0, .int .i64 0] 24)) (w.heap.size + 1 + 1) 2 (fun i => ([.slice none 0 0, .int .i64 0] : List Value).getD i undef)) := Lib.hid (Blk.new (w := ((w.alloc (.cells #[.slice A0 m0 c0, .int .i64 r0] 24)).alloc (.cells #[.slice A1 m1 c1, .int .i64 r1] 24))) (H := w.heap.size + 1 + 1) (by simp) [.slice none 0 0, .int .i64 0] 24)
  have HB0 : Hid (Below w.heap.size w (((w.alloc (.cells #[.slice A0 m0 c0, .int .i64 r0] 24)).alloc (.cells #[.slice A1 m1 c1, .int .i64 r1] 24)).alloc (.cells #[.slice none 0 0, .int .i64 0] 24))) := Lib.hid ((b0.trans (b1.mono b0.size)).trans (b2.mono (b0.trans (b1.mono b0.size)).size))
  have HW0 : Hid ((((w.alloc (.cells #[.slice A0 m0 c0, .int .i64 r0] 24)).alloc (.cells #[.slice A1 m1 c1, .int .i64 r1] 24)).alloc (.cells #[.slice none 0 0, .int .i64 0] 24)).heap.size = w.heap.size + 1 + 1 + 1) := Lib.hid (by simp)
  clear b0 b1 b2
  have HC : Hid (∀ W, Below w.heap.size w W → Calls Tryd.prog 61 #[.agg #[.slice A0 m0 c0, .int .i64 r0], .agg #[.slice A1 m1 c1, .int .i64 r1], .int .i64 2] W fun e w' => RR W w' (chkAll [(⟨A0, m0, c0, l0, r0⟩ : DA), (⟨A1, m1, c1, l1, r1⟩ : DA)]) (fun x => dset l0 r0 x != dset l1 r1 x) e) := Lib.hid (fun W hW => rop_any 2 102 (fun p q => p != q) (Lib.hid opt_xor) (dkh h0 hW) q0 (dkh h1 hW) q1)
  clear h0 h1
  generalize chkAll [(⟨A0, m0, c0, l0, r0⟩ : DA), (⟨A1, m1, c1, l1, r1⟩ : DA)] = k at *
  unfold RR at HC ⊢
  generalize (binR k fun x => dset l0 r0 x != dset l1 r1 x) = B at *
  obtain ⟨MB, nB, cB⟩ := B
  simp only at HC ⊢
  go_enter Tryd.func26, Tryd.ntmps26
  go_upto_region 1 with fail
  generalize (((w.alloc (.cells #[.slice A0 m0 c0, .int .i64 r0] 24)).alloc (.cells #[.slice A1 m1 c1, .int .i64 r1] 24)).alloc (.cells #[.slice none 0 0, .int .i64 0] 24)) = w1 at *
  obtain ⟨x0, x1, xn⟩ := xb2 X0
  obtain ⟨u0, u1, un⟩ := xb2 X1
  go_wp2_with fail
  with_reducible refine (HC.out w1 HB0.out).mono ?_
  rintro e w3 ⟨⟨A9, m9, c9, rfl, e9, rd9, f9⟩, b9⟩
  replace X2 := rb2 X2 b9
  have HB3 := btr HB0 b9 HB0.out.size
  have L9 := Lib.hid e9
  have R9 := Lib.hid rd9
  have F9 := Lib.hid (f9.mono (show w.heap.size + 1 + 1 + 1 ≤ w1.heap.size by have := HW0.out; omega))
  clear e9 rd9 f9 b9 HC x0 x1 xn u0 u1 un
  obtain ⟨y0, y0f⟩ := X2.out 0 (by omega)
  obtain ⟨y1, y1f⟩ := X2.out 1 (by omega)
  go_wp2
  refine bodyPost_ret (v := .tuple #[.agg #[.slice A9 m9 c9, .int .i64 (nB : Int)], .int .i64 cB]) ?_ rfl ?_
  · rw [results_cell_tmp rfl]
    go_simp
  · exact ro_store HB3.out (by omega) L9.out R9.out (F9.out.mono (by omega))

end Go.Proofs.YtmfinkaphglmjaaDoor

/-! Not, Within, Disjoint, Choose of the reference, and the package's operations, in one form. (Written by drops2.py.) -/
namespace Go.Proofs.YtmfinkaphglmjaaDoor
open Go.RowKit Dg St
set_option linter.unusedVariables false
set_option linter.unusedSimpArgs false
attribute [local go_sem ↓] Go.wp_at_zero Go.wp_at_succ

theorem not_len {w : World} {A : Option Addr} {m c r : Nat} {f : Cfg → Bool} (h : Dn w A m c r f) : (cn (fun x => !f x)).1.length = m := by
  have e := cn_not h.d
  have l := h.len
  clear h
  generalize cn (fun x => !f x) = R at *
  generalize cn f = S at *
  subst e
  show (S.1.map cb).length = m
  rw [List.length_map]
  exact l
theorem fld_root (A : Option Addr) (m c : Nat) (r : Int) (W : World) : (Instr.field 24 (.agg #[.slice A m c, .int .i64 r]) 1).run Tryd.prog W = .ok (.int .i64 r) W := by kernel_rfl
def wB (k : Int) (h : Cfg → Bool) : Bool := if k = 0 then decide ((cn h).2 = 0) else false
theorem pr42 {m0 m1 : Nat} (q0 : m0 ≤ 40) (q1 : m1 ≤ 40) : (m0 + 2) * (m1 + 2) ≤ 1764 := Nat.mul_le_mul (by omega : m0 + 2 ≤ 42) (by omega : m1 + 2 ≤ 42)
theorem ite_eq (f g h : Cfg → Bool) : (fun x => or (and (f x) (g x)) (and (h x) (!f x))) = fun x => if f x then g x else h x := by
  funext x
  cases f x <;> cases g x <;> cases h x <;> rfl
theorem ite_small {w : World} {A0 A1 A2 : Option Addr} {m0 c0 r0 m1 c1 r1 m2 c2 r2 : Nat} {f g h : Cfg → Bool} (h0 : Dn w A0 m0 c0 r0 f) (h1 : Dn w A1 m1 c1 r1 g) (h2 : Dn w A2 m2 c2 r2 h) (q0 : m0 ≤ 40) (q1 : m1 ≤ 40) (q2 : m2 ≤ 40) : (cn (fun c => if f c then g c else h c)).1.length ≤ 1000000 := by
  have e0 := h0.den
  have e1 := h1.den
  have e2 := h2.den
  have l0 := h0.len
  have l1 := h1.len
  have l2 := h2.len
  have s := tri_size h0.valid.good.ord h1.valid.good.ord h2.valid.good.ord (fun p q r => if p then q else r) (x := r0) (y := r1) (z := r2) (by rw [l0]; exact h0.lt) (by rw [l1]; exact h1.lt) (by rw [l2]; exact h2.lt)
  rw [e0, e1, e2, l0, l1, l2] at s
  have t : (m0 + 2) * (m1 + 2) * (m2 + 2) ≤ 1764 * 42 := Nat.mul_le_mul (pr42 q0 q1) (by omega)
  omega

set_option maxHeartbeats 8000000 in
set_option maxRecDepth 100000 in
theorem rnot_any {w : World} {A0 : Option Addr} {m0 c0 : Nat} {l0 : List Bi} {r0 : Int} (h0 : Hid (DOk w (⟨A0, m0, c0, l0, r0⟩ : DA))) (q0 : m0 ≤ 40) :
    Calls Tryd.prog 30 #[.agg #[.slice A0 m0 c0, .int .i64 r0]] w fun e w' => RR w w' (chk l0 r0) (fun x => !(dset l0 r0 x)) e := by
  have b0 := ab2 w (.cells #[.slice A0 m0 c0, .int .i64 r0] 24)
  have b1 := ab2 (w.alloc (.cells #[.slice A0 m0 c0, .int .i64 r0] 24)) (.cells #[.slice none 0 0, .int .i64 0] 24)
  have X0 : Hid (Blk (w.alloc (.cells #[.slice A0 m0 c0, .int .i64 r0] 24)) (w.heap.size) 2 (fun i => ([.slice A0 m0 c0, .int .i64 r0] : List Value).getD i undef)) := Lib.hid (Blk.new (w := w) (H := w.heap.size) (by simp) [.slice A0 m0 c0, .int .i64 r0] 24)
  replace X0 : Hid (Blk ((w.alloc (.cells #[.slice A0 m0 c0, .int .i64 r0] 24)).alloc (.cells #[.slice none 0 0, .int .i64 0] 24)) (w.heap.size) 2 (fun i => ([.slice A0 m0 c0, .int .i64 r0] : List Value).getD i undef)) := Lib.hid (X0.out.below (by omega) b1)
  have X1 : Hid (Blk ((w.alloc (.cells #[.slice A0 m0 c0, .int .i64 r0] 24)).alloc (.cells #[.slice none 0 0, .int .i64 0] 24)) (w.heap.size + 1) 2 (fun i => ([.slice none 0 0, .int .i64 0] : List Value).getD i undef)) := Lib.hid (Blk.new (w := (w.alloc (.cells #[.slice A0 m0 c0, .int .i64 r0] 24))) (H := w.heap.size + 1) (by simp) [.slice none 0 0, .int .i64 0] 24)
  have HB0 : Hid (Below w.heap.size w ((w.alloc (.cells #[.slice A0 m0 c0, .int .i64 r0] 24)).alloc (.cells #[.slice none 0 0, .int .i64 0] 24))) := Lib.hid (b0.trans (b1.mono b0.size))
  have HW0 : Hid (((w.alloc (.cells #[.slice A0 m0 c0, .int .i64 r0] 24)).alloc (.cells #[.slice none 0 0, .int .i64 0] 24)).heap.size = w.heap.size + 1 + 1) := Lib.hid (by simp)
  clear b0 b1
  have HF : Hid (∀ W, Below w.heap.size w W → Calls Tryd.prog 23 #[.agg #[.slice A0 m0 c0, .int .i64 r0]] W fun e w' => e = .returned (.int .i64 (chk l0 r0)) ∧ Below W.heap.size W w') := Lib.hid (fun W hW => rcheck_any l0 r0 m0 c0 A0 W (dkh h0 hW) (by omega))
  rcases chk_or (l := l0) (r := r0) (by have := h0.out.len; simp only at this; omega) with hk | hk
  · rw [hk] at HF ⊢
    have D0 := Lib.hid (dn_dset h0.out hk)
    have e0 := chk_nat hk
    clear h0 hk
    generalize dset l0 r0 = f0 at *
    generalize r0.toNat = n0 at *
    subst e0
    have HC : Hid (∀ W, Below w.heap.size w W → Calls Tryd.prog 81 #[.agg #[.slice A0 m0 c0, .int .i64 (n0 : Int)]] W fun e w' => DiaOk W w' (fun x => !f0 x) e) :=
      Lib.hid (fun W hW => compl_ok m0 c0 n0 A0 f0 W (rdn D0 hW) (Lib.hid (by rw [not_len D0.out]; omega)))
    clear D0
    go_enter Tryd.func30, Tryd.ntmps30
    go_wp2_with fail
    generalize ((w.alloc (.cells #[.slice A0 m0 c0, .int .i64 (n0 : Int)] 24)).alloc (.cells #[.slice none 0 0, .int .i64 0] 24)) = w1 at *
    with_reducible refine (HF.out w1 HB0.out).mono ?_
    rintro e w3 ⟨rfl, b3⟩
    replace X0 := rb2 X0 b3
    replace X1 := rb2 X1 b3
    have HW3 : Hid (w.heap.size + 1 + 1 ≤ w3.heap.size) := Lib.hid (by have := HW0.out; have := b3.size; omega)
    have HB3 := btr HB0 b3 HB0.out.size
    clear b3 HB0 HF HW0
    obtain ⟨x0, x1, xn⟩ := xb2 X0
    go_wp2_with fail
    with_reducible refine (HC.out w3 HB3.out).mono ?_
    rintro e w6 ⟨⟨A9, m9, c9, r9, rfl, d9, f9⟩, b9⟩
    replace X1 := rb2 X1 b9
    have D9 := Lib.hid d9
    have F9 := Lib.hid (f9.mono (show w.heap.size + 1 + 1 ≤ _ from HW3.out))
    have HB6 := btr HB3 b9 HB3.out.size
    clear d9 f9 b9 HC x0 x1 xn
    go_wp2_with fail
    with_reducible refine (rlimited_ok D9).mono ?_
    rintro e w7 ⟨rfl, d7, b7⟩
    replace X1 := rb2 X1 b7
    have D7 := Lib.hid d7
    have HB7 := btr HB6 b7 HB6.out.size
    clear d7 b7 D9
    obtain ⟨y0, y0f⟩ := X1.out 0 (by omega)
    obtain ⟨y1, y1f⟩ := X1.out 1 (by omega)
    go_wp2
    refine bodyPost_ret (v := .tuple #[.agg #[.slice A9 m9 c9, .int .i64 (r9 : Int)], .int .i64 0]) ?_ rfl ?_
    · rw [results_cell_tmp rfl]
      go_simp
    · exact rr_done HB7.out (by omega) D7.out (F9.out.mono (by omega))
  · rw [hk] at HF ⊢
    clear h0 hk
    go_enter Tryd.func30, Tryd.ntmps30
    go_wp2_with fail
    generalize ((w.alloc (.cells #[.slice A0 m0 c0, .int .i64 r0] 24)).alloc (.cells #[.slice none 0 0, .int .i64 0] 24)) = w1 at *
    with_reducible refine (HF.out w1 HB0.out).mono ?_
    rintro e w3 ⟨rfl, b3⟩
    replace X1 := rb2 X1 b3
    have HB3 := btr HB0 b3 HB0.out.size
    clear b3 HB0 HF HW0
    obtain ⟨y0, y0f⟩ := X1.out 0 (by omega)
    obtain ⟨y1, y1f⟩ := X1.out 1 (by omega)
    go_wp2
    refine bodyPost_ret (v := .tuple #[.agg #[.slice none 0 0, .int .i64 0], .int .i64 20]) ?_ rfl ?_
    · rw [results_cell_tmp rfl]
      go_simp
    · exact rr_bad (by decide) ((HB3.out.setCell (by show w.heap.size ≤ w.heap.size + 1; omega) _).setCell (by show w.heap.size ≤ w.heap.size + 1; omega) _)

set_option maxHeartbeats 8000000 in
set_option maxRecDepth 100000 in
theorem rwithin_any {w : World} {A0 : Option Addr} {m0 c0 : Nat} {l0 : List Bi} {r0 : Int} {A1 : Option Addr} {m1 c1 : Nat} {l1 : List Bi} {r1 : Int} (h0 : Hid (DOk w (⟨A0, m0, c0, l0, r0⟩ : DA))) (q0 : m0 ≤ 40) (h1 : Hid (DOk w (⟨A1, m1, c1, l1, r1⟩ : DA))) (q1 : m1 ≤ 40) :
    Calls Tryd.prog 32 #[.agg #[.slice A0 m0 c0, .int .i64 r0], .agg #[.slice A1 m1 c1, .int .i64 r1]] w fun e w' => e = .returned (.bool (wB (chkAll [(⟨A0, m0, c0, l0, r0⟩ : DA), (⟨A1, m1, c1, l1, r1⟩ : DA)]) (fun x => and (dset l0 r0 x) (!(dset l1 r1 x))))) ∧ Below w.heap.size w w' := by
  have b0 := ab2 w (.cells #[.slice A0 m0 c0, .int .i64 r0] 24)
  have b1 := ab2 (w.alloc (.cells #[.slice A0 m0 c0, .int .i64 r0] 24)) (.cells #[.slice A1 m1 c1, .int .i64 r1] 24)
  have b2 := ab2 ((w.alloc (.cells #[.slice A0 m0 c0, .int .i64 r0] 24)).alloc (.cells #[.slice A1 m1 c1, .int .i64 r1] 24)) (.cells #[.slice A0 m0 c0, .int .i64 r0, .slice A1 m1 c1, .int .i64 r1] 24)
  have X0 : Hid (Blk (w.alloc (.cells #[.slice A0 m0 c0, .int .i64 r0] 24)) (w.heap.size) 2 (fun i => ([.slice A0 m0 c0, .int .i64 r0] : List Value).getD i undef)) := Lib.hid (Blk.new (w := w) (H := w.heap.size) (by simp) [.slice A0 m0 c0, .int .i64 r0] 24)
  replace X0 : Hid (Blk ((w.alloc (.cells #[.slice A0 m0 c0, .int .i64 r0] 24)).alloc (.cells #[.slice A1 m1 c1, .int .i64 r1] 24)) (w.heap.size) 2 (fun i => ([.slice A0 m0 c0, .int .i64 r0] : List Value).getD i undef)) := Lib.hid (X0.out.below (by omega) b1)
  replace X0 : Hid (Blk (((w.alloc (.cells #[.slice A0 m0 c0, .int .i64 r0] 24)).alloc (.cells #[.slice A1 m1 c1, .int .i64 r1] 24)).alloc (.cells #[.slice A0 m0 c0, .int .i64 r0, .slice A1 m1 c1, .int .i64 r1] 24)) (w.heap.size) 2 (fun i => ([.slice A0 m0 c0, .int .i64 r0] : List Value).getD i undef)) := Lib.hid (X0.out.below (by omega) b2)
  have X1 : Hid (Blk ((w.alloc (.cells #[.slice A0 m0 c0, .int .i64 r0] 24)).alloc (.cells #[.slice A1 m1 c1, .int .i64 r1] 24)) (w.heap.size + 1) 2 (fun i => ([.slice A1 m1 c1, .int .i64 r1] : List Value).getD i undef)) := Lib.hid (Blk.new (w := (w.alloc (.cells #[.slice A0 m0 c0, .int .i64 r0] 24))) (H := w.heap.size + 1) (by simp) [.slice A1 m1 c1, .int .i64 r1] 24)
  replace X1 : Hid (Blk (((w.alloc (.cells #[.slice A0 m0 c0, .int .i64 r0] 24)).alloc (.cells #[.slice A1 m1 c1, .int .i64 r1] 24)).alloc (.cells #[.slice A0 m0 c0, .int .i64 r0, .slice A1 m1 c1, .int .i64 r1] 24)) (w.heap.size + 1) 2 (fun i => ([.slice A1 m1 c1, .int .i64 r1] : List Value).getD i undef)) := Lib.hid (X1.out.below (by omega) b2)
  have X2 : Hid (Blk (((w.alloc (.cells #[.slice A0 m0 c0, .int .i64 r0] 24)).alloc (.cells #[.slice A1 m1 c1, .int .i64 r1] 24)).alloc (.cells #[.slice A0 m0 c0, .int .i64 r0, .slice A1 m1 c1, .int .i64 r1] 24)) (w.heap.size + 1 + 1) 4 (fun i => ([.slice A0 m0 c0, .int .i64 r0, .slice A1 m1 c1, .int .i64 r1] : List Value).getD i undef)) := Lib.hid (Blk.new (w := ((w.alloc (.cells #[.slice A0 m0 c0, .int .i64 r0] 24)).alloc (.cells #[.slice A1 m1 c1, .int .i64 r1] 24))) (H := w.heap.size + 1 + 1) (by simp) [.slice A0 m0 c0, .int .i64 r0, .slice A1 m1 c1, .int .i64 r1] 24)
  have HB0 : Hid (Below w.heap.size w (((w.alloc (.cells #[.slice A0 m0 c0, .int .i64 r0] 24)).alloc (.cells #[.slice A1 m1 c1, .int .i64 r1] 24)).alloc (.cells #[.slice A0 m0 c0, .int .i64 r0, .slice A1 m1 c1, .int .i64 r1] 24))) := Lib.hid ((b0.trans (b1.mono b0.size)).trans (b2.mono (b0.trans (b1.mono b0.size)).size))
  have HW0 : Hid ((((w.alloc (.cells #[.slice A0 m0 c0, .int .i64 r0] 24)).alloc (.cells #[.slice A1 m1 c1, .int .i64 r1] 24)).alloc (.cells #[.slice A0 m0 c0, .int .i64 r0, .slice A1 m1 c1, .int .i64 r1] 24)).heap.size = w.heap.size + 1 + 1 + 1) := Lib.hid (by simp)
  clear b0 b1 b2
  have HF : Hid (∀ W, Below w.heap.size w W → Blk W (w.heap.size + 1 + 1) 4 (fun i => ([.slice A0 m0 c0, .int .i64 r0, .slice A1 m1 c1, .int .i64 r1] : List Value).getD i undef) → Calls Tryd.prog 74 #[.slice (some ⟨w.heap.size + 1 + 1, 0, none⟩) 2 2] W fun e w' => e = .returned (.int .i64 (chkAll [(⟨A0, m0, c0, l0, r0⟩ : DA), (⟨A1, m1, c1, l1, r1⟩ : DA)])) ∧ Below W.heap.size W w') := Lib.hid (fun W hW hblk => pair_list (dkh h0 hW) q0 (dkh h1 hW) q1 (Lib.hid hblk))
  rcases chk_two h0.out q0 h1.out q1 with ⟨hk, k0, k1⟩ | ⟨hk, _⟩
  · rw [hk] at HF ⊢
    have D0 := Lib.hid (dn_dset h0.out k0)
    have D1 := Lib.hid (dn_dset h1.out k1)
    have e0 := chk_nat k0
    have e1 := chk_nat k1
    clear k0 k1 h0 h1 hk
    generalize dset l0 r0 = f0 at *
    generalize dset l1 r1 = f1 at *
    generalize r0.toNat = n0 at *
    generalize r1.toNat = n1 at *
    subst e0
    subst e1
    have HSZ : Hid ((cn (fun x => and (f0 x) (!(f1 x)))).1.length ≤ 4096) := Lib.hid (bin_small D0.out D1.out q0 q1 (fun p q => p && !q))
    have HC : Hid (∀ W, Below w.heap.size w W → Calls Tryd.prog 78 #[.agg #[.slice A0 m0 c0, .int .i64 (n0 : Int)], .agg #[.slice A1 m1 c1, .int .i64 (n1 : Int)]] W fun e w' => DiaOk W w' (fun x => and (f0 x) (!(f1 x))) e) :=
      Lib.hid (fun W hW => minus_ok m0 c0 n0 m1 c1 n1 A0 A1 f0 f1 W (rdn D0 hW) (rdn D1 hW) (Lib.hid (by rw [not_len D1.out]; have := pr42 q0 q1; omega)) (Lib.hid (by rw [not_len D1.out]; omega)) HSZ)
    clear D0 D1 HSZ
    have hwb : wB 0 (fun x => and (f0 x) (!(f1 x))) = decide ((cn (fun x => and (f0 x) (!(f1 x)))).2 = 0) := if_pos rfl
    rw [hwb]
    clear hwb
    go_enter Tryd.func32, Tryd.ntmps32
    go_wp2_with fail
    generalize (((w.alloc (.cells #[.slice A0 m0 c0, .int .i64 (n0 : Int)] 24)).alloc (.cells #[.slice A1 m1 c1, .int .i64 (n1 : Int)] 24)).alloc (.cells #[.slice A0 m0 c0, .int .i64 (n0 : Int), .slice A1 m1 c1, .int .i64 (n1 : Int)] 24)) = w1 at *
    with_reducible refine (HF.out w1 HB0.out X2.out).mono ?_
    rintro e w3 ⟨rfl, b3⟩
    replace X0 := rb2 X0 b3
    replace X1 := rb2 X1 b3
    have HB3 := btr HB0 b3 HB0.out.size
    clear b3 HB0 HF HW0 X2
    obtain ⟨x0, x1, xn⟩ := xb2 X0
    obtain ⟨u0, u1, un⟩ := xb2 X1
    go_wp2_with fail
    with_reducible refine (HC.out w3 HB3.out).mono ?_
    rintro e w6 ⟨⟨A9, m9, c9, r9, rfl, d9, f9⟩, b9⟩
    have HB6 := btr HB3 b9 HB3.out.size
    have RT := Lib.hid d9.rt
    clear d9 f9 b9 HC x0 x1 xn u0 u1 un
    by_cases h9 : r9 = 0
    · subst h9
      have hfd := fld_root A9 m9 c9 0
      go_wp2
      go_ret
      exact ⟨ret_bool (by rw [decide_eq_true RT.out]), HB6.out⟩
    · have hfd := fld_root A9 m9 c9 (r9 : Int)
      have e9 : ((r9 : Int) == 0) = false := beq_eq_false_iff_ne.2 (by omega)
      have hf : Hid (¬ (cn (fun x => and (f0 x) (!(f1 x)))).2 = 0) := Lib.hid (by rw [RT.out]; exact h9)
      go_wp2
      go_ret
      exact ⟨ret_bool (by rw [decide_eq_false hf.out]), HB6.out⟩
  · rw [hk] at HF ⊢
    have hwb : wB 20 (fun x => and (dset l0 r0 x) (!(dset l1 r1 x))) = false := if_neg (by decide)
    rw [hwb]
    clear h0 h1 hk hwb
    go_enter Tryd.func32, Tryd.ntmps32
    go_wp2_with fail
    generalize (((w.alloc (.cells #[.slice A0 m0 c0, .int .i64 r0] 24)).alloc (.cells #[.slice A1 m1 c1, .int .i64 r1] 24)).alloc (.cells #[.slice A0 m0 c0, .int .i64 r0, .slice A1 m1 c1, .int .i64 r1] 24)) = w1 at *
    with_reducible refine (HF.out w1 HB0.out X2.out).mono ?_
    rintro e w3 ⟨rfl, b3⟩
    have HB3 := btr HB0 b3 HB0.out.size
    clear b3 HB0 HF HW0 X2 X0 X1
    go_wp2
    go_ret
    exact ⟨rfl, HB3.out⟩

set_option maxHeartbeats 8000000 in
set_option maxRecDepth 100000 in
theorem rdisjoint_any {w : World} {A0 : Option Addr} {m0 c0 : Nat} {l0 : List Bi} {r0 : Int} {A1 : Option Addr} {m1 c1 : Nat} {l1 : List Bi} {r1 : Int} (h0 : Hid (DOk w (⟨A0, m0, c0, l0, r0⟩ : DA))) (q0 : m0 ≤ 40) (h1 : Hid (DOk w (⟨A1, m1, c1, l1, r1⟩ : DA))) (q1 : m1 ≤ 40) :
    Calls Tryd.prog 34 #[.agg #[.slice A0 m0 c0, .int .i64 r0], .agg #[.slice A1 m1 c1, .int .i64 r1]] w fun e w' => e = .returned (.bool (wB (chkAll [(⟨A0, m0, c0, l0, r0⟩ : DA), (⟨A1, m1, c1, l1, r1⟩ : DA)]) (fun x => and (dset l0 r0 x) (dset l1 r1 x)))) ∧ Below w.heap.size w w' := by
  have b0 := ab2 w (.cells #[.slice A0 m0 c0, .int .i64 r0] 24)
  have b1 := ab2 (w.alloc (.cells #[.slice A0 m0 c0, .int .i64 r0] 24)) (.cells #[.slice A1 m1 c1, .int .i64 r1] 24)
  have b2 := ab2 ((w.alloc (.cells #[.slice A0 m0 c0, .int .i64 r0] 24)).alloc (.cells #[.slice A1 m1 c1, .int .i64 r1] 24)) (.cells #[.slice A0 m0 c0, .int .i64 r0, .slice A1 m1 c1, .int .i64 r1] 24)
  have X0 : Hid (Blk (w.alloc (.cells #[.slice A0 m0 c0, .int .i64 r0] 24)) (w.heap.size) 2 (fun i => ([.slice A0 m0 c0, .int .i64 r0] : List Value).getD i undef)) := Lib.hid (Blk.new (w := w) (H := w.heap.size) (by simp) [.slice A0 m0 c0, .int .i64 r0] 24)
  replace X0 : Hid (Blk ((w.alloc (.cells #[.slice A0 m0 c0, .int .i64 r0] 24)).alloc (.cells #[.slice A1 m1 c1, .int .i64 r1] 24)) (w.heap.size) 2 (fun i => ([.slice A0 m0 c0, .int .i64 r0] : List Value).getD i undef)) := Lib.hid (X0.out.below (by omega) b1)
  replace X0 : Hid (Blk (((w.alloc (.cells #[.slice A0 m0 c0, .int .i64 r0] 24)).alloc (.cells #[.slice A1 m1 c1, .int .i64 r1] 24)).alloc (.cells #[.slice A0 m0 c0, .int .i64 r0, .slice A1 m1 c1, .int .i64 r1] 24)) (w.heap.size) 2 (fun i => ([.slice A0 m0 c0, .int .i64 r0] : List Value).getD i undef)) := Lib.hid (X0.out.below (by omega) b2)
  have X1 : Hid (Blk ((w.alloc (.cells #[.slice A0 m0 c0, .int .i64 r0] 24)).alloc (.cells #[.slice A1 m1 c1, .int .i64 r1] 24)) (w.heap.size + 1) 2 (fun i => ([.slice A1 m1 c1, .int .i64 r1] : List Value).getD i undef)) := Lib.hid (Blk.new (w := (w.alloc (.cells #[.slice A0 m0 c0, .int .i64 r0] 24))) (H := w.heap.size + 1) (by simp) [.slice A1 m1 c1, .int .i64 r1] 24)
  replace X1 : Hid (Blk (((w.alloc (.cells #[.slice A0 m0 c0, .int .i64 r0] 24)).alloc (.cells #[.slice A1 m1 c1, .int .i64 r1] 24)).alloc (.cells #[.slice A0 m0 c0, .int .i64 r0, .slice A1 m1 c1, .int .i64 r1] 24)) (w.heap.size + 1) 2 (fun i => ([.slice A1 m1 c1, .int .i64 r1] : List Value).getD i undef)) := Lib.hid (X1.out.below (by omega) b2)
  have X2 : Hid (Blk (((w.alloc (.cells #[.slice A0 m0 c0, .int .i64 r0] 24)).alloc (.cells #[.slice A1 m1 c1, .int .i64 r1] 24)).alloc (.cells #[.slice A0 m0 c0, .int .i64 r0, .slice A1 m1 c1, .int .i64 r1] 24)) (w.heap.size + 1 + 1) 4 (fun i => ([.slice A0 m0 c0, .int .i64 r0, .slice A1 m1 c1, .int .i64 r1] : List Value).getD i undef)) := Lib.hid (Blk.new (w := ((w.alloc (.cells #[.slice A0 m0 c0, .int .i64 r0] 24)).alloc (.cells #[.slice A1 m1 c1, .int .i64 r1] 24))) (H := w.heap.size + 1 + 1) (by simp) [.slice A0 m0 c0, .int .i64 r0, .slice A1 m1 c1, .int .i64 r1] 24)
  have HB0 : Hid (Below w.heap.size w (((w.alloc (.cells #[.slice A0 m0 c0, .int .i64 r0] 24)).alloc (.cells #[.slice A1 m1 c1, .int .i64 r1] 24)).alloc (.cells #[.slice A0 m0 c0, .int .i64 r0, .slice A1 m1 c1, .int .i64 r1] 24))) := Lib.hid ((b0.trans (b1.mono b0.size)).trans (b2.mono (b0.trans (b1.mono b0.size)).size))
  have HW0 : Hid ((((w.alloc (.cells #[.slice A0 m0 c0, .int .i64 r0] 24)).alloc (.cells #[.slice A1 m1 c1, .int .i64 r1] 24)).alloc (.cells #[.slice A0 m0 c0, .int .i64 r0, .slice A1 m1 c1, .int .i64 r1] 24)).heap.size = w.heap.size + 1 + 1 + 1) := Lib.hid (by simp)
  clear b0 b1 b2
  have HF : Hid (∀ W, Below w.heap.size w W → Blk W (w.heap.size + 1 + 1) 4 (fun i => ([.slice A0 m0 c0, .int .i64 r0, .slice A1 m1 c1, .int .i64 r1] : List Value).getD i undef) → Calls Tryd.prog 74 #[.slice (some ⟨w.heap.size + 1 + 1, 0, none⟩) 2 2] W fun e w' => e = .returned (.int .i64 (chkAll [(⟨A0, m0, c0, l0, r0⟩ : DA), (⟨A1, m1, c1, l1, r1⟩ : DA)])) ∧ Below W.heap.size W w') := Lib.hid (fun W hW hblk => pair_list (dkh h0 hW) q0 (dkh h1 hW) q1 (Lib.hid hblk))
  rcases chk_two h0.out q0 h1.out q1 with ⟨hk, k0, k1⟩ | ⟨hk, _⟩
  · rw [hk] at HF ⊢
    have D0 := Lib.hid (dn_dset h0.out k0)
    have D1 := Lib.hid (dn_dset h1.out k1)
    have e0 := chk_nat k0
    have e1 := chk_nat k1
    clear k0 k1 h0 h1 hk
    generalize dset l0 r0 = f0 at *
    generalize dset l1 r1 = f1 at *
    generalize r0.toNat = n0 at *
    generalize r1.toNat = n1 at *
    subst e0
    subst e1
    have HSZ : Hid ((cn (fun x => and (f0 x) (f1 x))).1.length ≤ 4096) := Lib.hid (bin_small D0.out D1.out q0 q1 (fun p q => p && q))
    have HC : Hid (∀ W, Below w.heap.size w W → Calls Tryd.prog 77 #[.agg #[.slice A0 m0 c0, .int .i64 (n0 : Int)], .agg #[.slice A1 m1 c1, .int .i64 (n1 : Int)]] W fun e w' => DiaOk W w' (fun x => and (f0 x) (f1 x)) e) :=
      Lib.hid (fun W hW => inter_ok m0 c0 n0 m1 c1 n1 A0 A1 f0 f1 W (rdn D0 hW) (rdn D1 hW) (Lib.hid (by have := pr42 q0 q1; omega)) HSZ)
    clear D0 D1 HSZ
    have hwb : wB 0 (fun x => and (f0 x) (f1 x)) = decide ((cn (fun x => and (f0 x) (f1 x))).2 = 0) := if_pos rfl
    rw [hwb]
    clear hwb
    go_enter Tryd.func34, Tryd.ntmps34
    go_wp2_with fail
    generalize (((w.alloc (.cells #[.slice A0 m0 c0, .int .i64 (n0 : Int)] 24)).alloc (.cells #[.slice A1 m1 c1, .int .i64 (n1 : Int)] 24)).alloc (.cells #[.slice A0 m0 c0, .int .i64 (n0 : Int), .slice A1 m1 c1, .int .i64 (n1 : Int)] 24)) = w1 at *
    with_reducible refine (HF.out w1 HB0.out X2.out).mono ?_
    rintro e w3 ⟨rfl, b3⟩
    replace X0 := rb2 X0 b3
    replace X1 := rb2 X1 b3
    have HB3 := btr HB0 b3 HB0.out.size
    clear b3 HB0 HF HW0 X2
    obtain ⟨x0, x1, xn⟩ := xb2 X0
    obtain ⟨u0, u1, un⟩ := xb2 X1
    go_wp2_with fail
    with_reducible refine (HC.out w3 HB3.out).mono ?_
    rintro e w6 ⟨⟨A9, m9, c9, r9, rfl, d9, f9⟩, b9⟩
    have HB6 := btr HB3 b9 HB3.out.size
    have RT := Lib.hid d9.rt
    clear d9 f9 b9 HC x0 x1 xn u0 u1 un
    by_cases h9 : r9 = 0
    · subst h9
      have hfd := fld_root A9 m9 c9 0
      go_wp2
      go_ret
      exact ⟨ret_bool (by rw [decide_eq_true RT.out]), HB6.out⟩
    · have hfd := fld_root A9 m9 c9 (r9 : Int)
      have e9 : ((r9 : Int) == 0) = false := beq_eq_false_iff_ne.2 (by omega)
      have hf : Hid (¬ (cn (fun x => and (f0 x) (f1 x))).2 = 0) := Lib.hid (by rw [RT.out]; exact h9)
      go_wp2
      go_ret
      exact ⟨ret_bool (by rw [decide_eq_false hf.out]), HB6.out⟩
  · rw [hk] at HF ⊢
    have hwb : wB 20 (fun x => and (dset l0 r0 x) (dset l1 r1 x)) = false := if_neg (by decide)
    rw [hwb]
    clear h0 h1 hk hwb
    go_enter Tryd.func34, Tryd.ntmps34
    go_wp2_with fail
    generalize (((w.alloc (.cells #[.slice A0 m0 c0, .int .i64 r0] 24)).alloc (.cells #[.slice A1 m1 c1, .int .i64 r1] 24)).alloc (.cells #[.slice A0 m0 c0, .int .i64 r0, .slice A1 m1 c1, .int .i64 r1] 24)) = w1 at *
    with_reducible refine (HF.out w1 HB0.out X2.out).mono ?_
    rintro e w3 ⟨rfl, b3⟩
    have HB3 := btr HB0 b3 HB0.out.size
    clear b3 HB0 HF HW0 X2 X0 X1
    go_wp2
    go_ret
    exact ⟨rfl, HB3.out⟩

set_option maxHeartbeats 20000000 in
set_option maxRecDepth 100000 in
theorem rchoose_any {w : World} {A0 : Option Addr} {m0 c0 : Nat} {l0 : List Bi} {r0 : Int} {A1 : Option Addr} {m1 c1 : Nat} {l1 : List Bi} {r1 : Int} {A2 : Option Addr} {m2 c2 : Nat} {l2 : List Bi} {r2 : Int} (h0 : Hid (DOk w (⟨A0, m0, c0, l0, r0⟩ : DA))) (q0 : m0 ≤ 40) (h1 : Hid (DOk w (⟨A1, m1, c1, l1, r1⟩ : DA))) (q1 : m1 ≤ 40) (h2 : Hid (DOk w (⟨A2, m2, c2, l2, r2⟩ : DA))) (q2 : m2 ≤ 40) :
    Calls Tryd.prog 28 #[.agg #[.slice A0 m0 c0, .int .i64 r0], .agg #[.slice A1 m1 c1, .int .i64 r1], .agg #[.slice A2 m2 c2, .int .i64 r2]] w fun e w' => RR w w' (chkAll [(⟨A0, m0, c0, l0, r0⟩ : DA), (⟨A1, m1, c1, l1, r1⟩ : DA), (⟨A2, m2, c2, l2, r2⟩ : DA)]) (fun x => if dset l0 r0 x then dset l1 r1 x else dset l2 r2 x) e := by
  have b0 := ab2 w (.cells #[.slice A0 m0 c0, .int .i64 r0] 24)
  have b1 := ab2 (w.alloc (.cells #[.slice A0 m0 c0, .int .i64 r0] 24)) (.cells #[.slice A1 m1 c1, .int .i64 r1] 24)
  have b2 := ab2 ((w.alloc (.cells #[.slice A0 m0 c0, .int .i64 r0] 24)).alloc (.cells #[.slice A1 m1 c1, .int .i64 r1] 24)) (.cells #[.slice A2 m2 c2, .int .i64 r2] 24)
  have b3 := ab2 (((w.alloc (.cells #[.slice A0 m0 c0, .int .i64 r0] 24)).alloc (.cells #[.slice A1 m1 c1, .int .i64 r1] 24)).alloc (.cells #[.slice A2 m2 c2, .int .i64 r2] 24)) (.cells #[.slice none 0 0, .int .i64 0] 24)
  have b4 := ab2 ((((w.alloc (.cells #[.slice A0 m0 c0, .int .i64 r0] 24)).alloc (.cells #[.slice A1 m1 c1, .int .i64 r1] 24)).alloc (.cells #[.slice A2 m2 c2, .int .i64 r2] 24)).alloc (.cells #[.slice none 0 0, .int .i64 0] 24)) (.cells #[.slice A0 m0 c0, .int .i64 r0, .slice A1 m1 c1, .int .i64 r1, .slice A2 m2 c2, .int .i64 r2] 24)
  have X0 : Hid (Blk (w.alloc (.cells #[.slice A0 m0 c0, .int .i64 r0] 24)) (w.heap.size) 2 (fun i => ([.slice A0 m0 c0, .int .i64 r0] : List Value).getD i undef)) := Lib.hid (Blk.new (w := w) (H := w.heap.size) (by simp) [.slice A0 m0 c0, .int .i64 r0] 24)
  replace X0 : Hid (Blk ((w.alloc (.cells #[.slice A0 m0 c0, .int .i64 r0] 24)).alloc (.cells #[.slice A1 m1 c1, .int .i64 r1] 24)) (w.heap.size) 2 (fun i => ([.slice A0 m0 c0, .int .i64 r0] : List Value).getD i undef)) := Lib.hid (X0.out.below (by omega) b1)
  replace X0 : Hid (Blk (((w.alloc (.cells #[.slice A0 m0 c0, .int .i64 r0] 24)).alloc (.cells #[.slice A1 m1 c1, .int .i64 r1] 24)).alloc (.cells #[.slice A2 m2 c2, .int .i64 r2] 24)) (w.heap.size) 2 (fun i => ([.slice A0 m0 c0, .int .i64 r0] : List Value).getD i undef)) := Lib.hid (X0.out.below (by omega) b2)
  replace X0 : Hid (Blk ((((w.alloc (.cells #[.slice A0 m0 c0, .int .i64 r0] 24)).alloc (.cells #[.slice A1 m1 c1, .int .i64 r1] 24)).alloc (.cells #[.slice A2 m2 c2, .int .i64 r2] 24)).alloc (.cells #[.slice none 0 0, .int .i64 0] 24)) (w.heap.size) 2 (fun i => ([.slice A0 m0 c0, .int .i64 r0] : List Value).getD i undef)) := Lib.hid (X0.out.below (by omega) b3)
  replace X0 : Hid (Blk (((((w.alloc (.cells #[.slice A0 m0 c0, .int .i64 r0] 24)).alloc (.cells #[.slice A1 m1 c1, .int .i64 r1] 24)).alloc (.cells #[.slice A2 m2 c2, .int .i64 r2] 24)).alloc (.cells #[.slice none 0 0, .int .i64 0] 24)).alloc (.cells #[.slice A0 m0 c0, .int .i64 r0, .slice A1 m1 c1, .int .i64 r1, .slice A2 m2 c2, .int .i64 r2] 24)) (w.heap.size) 2 (fun i => ([.slice A0 m0 c0, .int .i64 r0] : List Value).getD i undef)) := Lib.hid (X0.out.below (by omega) b4)
  have X1 : Hid (Blk ((w.alloc (.cells #[.slice A0 m0 c0, .int .i64 r0] 24)).alloc (.cells #[.slice A1 m1 c1, .int .i64 r1] 24)) (w.heap.size + 1) 2 (fun i => ([.slice A1 m1 c1, .int .i64 r1] : List Value).getD i undef)) := Lib.hid (Blk.new (w := (w.alloc (.cells #[.slice A0 m0 c0, .int .i64 r0] 24))) (H := w.heap.size + 1) (by simp) [.slice A1 m1 c1, .int .i64 r1] 24)
  replace X1 : Hid (Blk (((w.alloc (.cells #[.slice A0 m0 c0, .int .i64 r0] 24)).alloc (.cells #[.slice A1 m1 c1, .int .i64 r1] 24)).alloc (.cells #[.slice A2 m2 c2, .int .i64 r2] 24)) (w.heap.size + 1) 2 (fun i => ([.slice A1 m1 c1, .int .i64 r1] : List Value).getD i undef)) := Lib.hid (X1.out.below (by omega) b2)
  replace X1 : Hid (Blk ((((w.alloc (.cells #[.slice A0 m0 c0, .int .i64 r0] 24)).alloc (.cells #[.slice A1 m1 c1, .int .i64 r1] 24)).alloc (.cells #[.slice A2 m2 c2, .int .i64 r2] 24)).alloc (.cells #[.slice none 0 0, .int .i64 0] 24)) (w.heap.size + 1) 2 (fun i => ([.slice A1 m1 c1, .int .i64 r1] : List Value).getD i undef)) := Lib.hid (X1.out.below (by omega) b3)
  replace X1 : Hid (Blk (((((w.alloc (.cells #[.slice A0 m0 c0, .int .i64 r0] 24)).alloc (.cells #[.slice A1 m1 c1, .int .i64 r1] 24)).alloc (.cells #[.slice A2 m2 c2, .int .i64 r2] 24)).alloc (.cells #[.slice none 0 0, .int .i64 0] 24)).alloc (.cells #[.slice A0 m0 c0, .int .i64 r0, .slice A1 m1 c1, .int .i64 r1, .slice A2 m2 c2, .int .i64 r2] 24)) (w.heap.size + 1) 2 (fun i => ([.slice A1 m1 c1, .int .i64 r1] : List Value).getD i undef)) := Lib.hid (X1.out.below (by omega) b4)
  have X2 : Hid (Blk (((w.alloc (.cells #[.slice A0 m0 c0, .int .i64 r0] 24)).alloc (.cells #[.slice A1 m1 c1, .int .i64 r1] 24)).alloc (.cells #[.slice A2 m2 c2, .int .i64 r2] 24)) (w.heap.size + 1 + 1) 2 (fun i => ([.slice A2 m2 c2, .int .i64 r2] : List Value).getD i undef)) := Lib.hid (Blk.new (w := ((w.alloc (.cells #[.slice A0 m0 c0, .int .i64 r0] 24)).alloc (.cells #[.slice A1 m1 c1, .int .i64 r1] 24))) (H := w.heap.size + 1 + 1) (by simp) [.slice A2 m2 c2, .int .i64 r2] 24)
  replace X2 : Hid (Blk ((((w.alloc (.cells #[.slice A0 m0 c0, .int .i64 r0] 24)).alloc (.cells #[.slice A1 m1 c1, .int .i64 r1] 24)).alloc (.cells #[.slice A2 m2 c2, .int .i64 r2] 24)).alloc (.cells #[.slice none 0 0, .int .i64 0] 24)) (w.heap.size + 1 + 1) 2 (fun i => ([.slice A2 m2 c2, .int .i64 r2] : List Value).getD i undef)) := Lib.hid (X2.out.below (by omega) b3)
  replace X2 : Hid (Blk (((((w.alloc (.cells #[.slice A0 m0 c0, .int .i64 r0] 24)).alloc (.cells #[.slice A1 m1 c1, .int .i64 r1] 24)).alloc (.cells #[.slice A2 m2 c2, .int .i64 r2] 24)).alloc (.cells #[.slice none 0 0, .int .i64 0] 24)).alloc (.cells #[.slice A0 m0 c0, .int .i64 r0, .slice A1 m1 c1, .int .i64 r1, .slice A2 m2 c2, .int .i64 r2] 24)) (w.heap.size + 1 + 1) 2 (fun i => ([.slice A2 m2 c2, .int .i64 r2] : List Value).getD i undef)) := Lib.hid (X2.out.below (by omega) b4)
  have X3 : Hid (Blk ((((w.alloc (.cells #[.slice A0 m0 c0, .int .i64 r0] 24)).alloc (.cells #[.slice A1 m1 c1, .int .i64 r1] 24)).alloc (.cells #[.slice A2 m2 c2, .int .i64 r2] 24)).alloc (.cells #[.slice none 0 0, .int .i64 0] 24)) (w.heap.size + 1 + 1 + 1) 2 (fun i => ([.slice none 0 0, .int .i64 0] : List Value).getD i undef)) := Lib.hid (Blk.new (w := (((w.alloc (.cells #[.slice A0 m0 c0, .int .i64 r0] 24)).alloc (.cells #[.slice A1 m1 c1, .int .i64 r1] 24)).alloc (.cells #[.slice A2 m2 c2, .int .i64 r2] 24))) (H := w.heap.size + 1 + 1 + 1) (by simp) [.slice none 0 0, .int .i64 0] 24)
  replace X3 : Hid (Blk (((((w.alloc (.cells #[.slice A0 m0 c0, .int .i64 r0] 24)).alloc (.cells #[.slice A1 m1 c1, .int .i64 r1] 24)).alloc (.cells #[.slice A2 m2 c2, .int .i64 r2] 24)).alloc (.cells #[.slice none 0 0, .int .i64 0] 24)).alloc (.cells #[.slice A0 m0 c0, .int .i64 r0, .slice A1 m1 c1, .int .i64 r1, .slice A2 m2 c2, .int .i64 r2] 24)) (w.heap.size + 1 + 1 + 1) 2 (fun i => ([.slice none 0 0, .int .i64 0] : List Value).getD i undef)) := Lib.hid (X3.out.below (by omega) b4)
  have X4 : Hid (Blk (((((w.alloc (.cells #[.slice A0 m0 c0, .int .i64 r0] 24)).alloc (.cells #[.slice A1 m1 c1, .int .i64 r1] 24)).alloc (.cells #[.slice A2 m2 c2, .int .i64 r2] 24)).alloc (.cells #[.slice none 0 0, .int .i64 0] 24)).alloc (.cells #[.slice A0 m0 c0, .int .i64 r0, .slice A1 m1 c1, .int .i64 r1, .slice A2 m2 c2, .int .i64 r2] 24)) (w.heap.size + 1 + 1 + 1 + 1) 6 (fun i => ([.slice A0 m0 c0, .int .i64 r0, .slice A1 m1 c1, .int .i64 r1, .slice A2 m2 c2, .int .i64 r2] : List Value).getD i undef)) := Lib.hid (Blk.new (w := ((((w.alloc (.cells #[.slice A0 m0 c0, .int .i64 r0] 24)).alloc (.cells #[.slice A1 m1 c1, .int .i64 r1] 24)).alloc (.cells #[.slice A2 m2 c2, .int .i64 r2] 24)).alloc (.cells #[.slice none 0 0, .int .i64 0] 24))) (H := w.heap.size + 1 + 1 + 1 + 1) (by simp) [.slice A0 m0 c0, .int .i64 r0, .slice A1 m1 c1, .int .i64 r1, .slice A2 m2 c2, .int .i64 r2] 24)
  have HB0 : Hid (Below w.heap.size w (((((w.alloc (.cells #[.slice A0 m0 c0, .int .i64 r0] 24)).alloc (.cells #[.slice A1 m1 c1, .int .i64 r1] 24)).alloc (.cells #[.slice A2 m2 c2, .int .i64 r2] 24)).alloc (.cells #[.slice none 0 0, .int .i64 0] 24)).alloc (.cells #[.slice A0 m0 c0, .int .i64 r0, .slice A1 m1 c1, .int .i64 r1, .slice A2 m2 c2, .int .i64 r2] 24))) := Lib.hid ((((b0.trans (b1.mono b0.size)).trans (b2.mono (b0.trans (b1.mono b0.size)).size)).trans (b3.mono ((b0.trans (b1.mono b0.size)).trans (b2.mono (b0.trans (b1.mono b0.size)).size)).size)).trans (b4.mono (((b0.trans (b1.mono b0.size)).trans (b2.mono (b0.trans (b1.mono b0.size)).size)).trans (b3.mono ((b0.trans (b1.mono b0.size)).trans (b2.mono (b0.trans (b1.mono b0.size)).size)).size)).size))
  have HW0 : Hid ((((((w.alloc (.cells #[.slice A0 m0 c0, .int .i64 r0] 24)).alloc (.cells #[.slice A1 m1 c1, .int .i64 r1] 24)).alloc (.cells #[.slice A2 m2 c2, .int .i64 r2] 24)).alloc (.cells #[.slice none 0 0, .int .i64 0] 24)).alloc (.cells #[.slice A0 m0 c0, .int .i64 r0, .slice A1 m1 c1, .int .i64 r1, .slice A2 m2 c2, .int .i64 r2] 24)).heap.size = w.heap.size + 1 + 1 + 1 + 1 + 1) := Lib.hid (by simp)
  clear b0 b1 b2 b3 b4
  have HF : Hid (∀ W, Below w.heap.size w W → Blk W (w.heap.size + 1 + 1 + 1 + 1) 6 (fun i => ([.slice A0 m0 c0, .int .i64 r0, .slice A1 m1 c1, .int .i64 r1, .slice A2 m2 c2, .int .i64 r2] : List Value).getD i undef) → Calls Tryd.prog 74 #[.slice (some ⟨w.heap.size + 1 + 1 + 1 + 1, 0, none⟩) 3 3] W fun e w' => e = .returned (.int .i64 (chkAll [(⟨A0, m0, c0, l0, r0⟩ : DA), (⟨A1, m1, c1, l1, r1⟩ : DA), (⟨A2, m2, c2, l2, r2⟩ : DA)])) ∧ Below W.heap.size W w') := Lib.hid (fun W hW hblk => trip_list (dkh h0 hW) q0 (dkh h1 hW) q1 (dkh h2 hW) q2 (Lib.hid hblk))
  rcases chk_three h0.out q0 h1.out q1 h2.out q2 with ⟨hk, k0, k1, k2⟩ | hk
  · rw [hk] at HF ⊢
    have D0 := Lib.hid (dn_dset h0.out k0)
    have D1 := Lib.hid (dn_dset h1.out k1)
    have D2 := Lib.hid (dn_dset h2.out k2)
    have e0 := chk_nat k0
    have e1 := chk_nat k1
    have e2 := chk_nat k2
    clear k0 k1 k2 h0 h1 h2 hk
    generalize dset l0 r0 = f0 at *
    generalize dset l1 r1 = f1 at *
    generalize dset l2 r2 = f2 at *
    generalize r0.toNat = n0 at *
    generalize r1.toNat = n1 at *
    generalize r2.toNat = n2 at *
    subst e0
    subst e1
    subst e2
    have HSB := Lib.hid (ite_small D0.out D1.out D2.out q0 q1 q2)
    have HSI : Hid ((cn (fun x => and (f0 x) (f1 x))).1.length ≤ 4096) := Lib.hid (bin_small D0.out D1.out q0 q1 (fun p q => and p q))
    have HSM : Hid ((cn (fun x => and (f2 x) (!f0 x))).1.length ≤ 4096) := Lib.hid (bin_small D2.out D0.out q2 q0 (fun p q => and p (!q)))
    have HI : Hid (∀ W, Below w.heap.size w W → Calls Tryd.prog 77 #[.agg #[.slice A0 m0 c0, .int .i64 (n0 : Int)], .agg #[.slice A1 m1 c1, .int .i64 (n1 : Int)]] W fun e w' => DiaOk W w' (fun x => and (f0 x) (f1 x)) e) :=
      Lib.hid (fun W hW => inter_ok m0 c0 n0 m1 c1 n1 A0 A1 f0 f1 W (rdn D0 hW) (rdn D1 hW) (Lib.hid (by have := pr42 q0 q1; omega)) HSI)
    have HM : Hid (∀ W, Below w.heap.size w W → Calls Tryd.prog 78 #[.agg #[.slice A2 m2 c2, .int .i64 (n2 : Int)], .agg #[.slice A0 m0 c0, .int .i64 (n0 : Int)]] W fun e w' => DiaOk W w' (fun x => and (f2 x) (!f0 x)) e) :=
      Lib.hid (fun W hW => minus_ok m2 c2 n2 m0 c0 n0 A2 A0 f2 f0 W (rdn D2 hW) (rdn D0 hW) (Lib.hid (by rw [not_len D0.out]; have := pr42 q2 q0; omega)) (Lib.hid (by rw [not_len D0.out]; omega)) HSM)
    have HU : Hid (∀ A5 A6 m5 c5 r5 m6 c6 r6 W, Dn W A5 m5 c5 r5 (fun x => and (f0 x) (f1 x)) → Dn W A6 m6 c6 r6 (fun x => and (f2 x) (!f0 x)) → Calls Tryd.prog 76 #[.agg #[.slice A5 m5 c5, .int .i64 (r5 : Int)], .agg #[.slice A6 m6 c6, .int .i64 (r6 : Int)]] W fun e w' => DgOk W w' (fun x => if f0 x then f1 x else f2 x) e) :=
      Lib.hid (fun A5 A6 m5 c5 r5 m6 c6 r6 W d5 d6 => (union_bg m5 c5 r5 m6 c6 r6 A5 A6 (fun x => and (f0 x) (f1 x)) (fun x => and (f2 x) (!f0 x)) W (Lib.hid d5) (Lib.hid d6) (Lib.hid (by rw [ite_eq]; exact HSB.out))).mono (fun _ _ h => h.congr (ite_eq f0 f1 f2)))
    clear D0 D1 D2 HSI HSM HSB
    by_cases hs : (cn (fun x => if f0 x then f1 x else f2 x)).1.length ≤ 4096
    · have HSZ := Lib.hid hs
      clear hs
      go_enter Tryd.func28, Tryd.ntmps28
      go_wp2_with fail
      generalize (((((w.alloc (.cells #[.slice A0 m0 c0, .int .i64 (n0 : Int)] 24)).alloc (.cells #[.slice A1 m1 c1, .int .i64 (n1 : Int)] 24)).alloc (.cells #[.slice A2 m2 c2, .int .i64 (n2 : Int)] 24)).alloc (.cells #[.slice none 0 0, .int .i64 0] 24)).alloc (.cells #[.slice A0 m0 c0, .int .i64 (n0 : Int), .slice A1 m1 c1, .int .i64 (n1 : Int), .slice A2 m2 c2, .int .i64 (n2 : Int)] 24)) = w1 at *
      with_reducible refine (HF.out w1 HB0.out X4.out).mono ?_
      rintro e w3 ⟨rfl, b3⟩
      replace X0 := rb2 X0 b3
      replace X1 := rb2 X1 b3
      replace X2 := rb2 X2 b3
      have XZ := rb2 X3 b3
      have HW3 : Hid (w.heap.size + 1 + 1 + 1 + 1 + 1 ≤ w3.heap.size) := Lib.hid (by have := HW0.out; have := b3.size; omega)
      have HB := btr HB0 b3 HB0.out.size
      clear b3 HB0 HF HW0 X4 X3
      obtain ⟨x0, x1, xn⟩ := xb2 X0
      obtain ⟨u0, u1, un⟩ := xb2 X1
      obtain ⟨v0, v1, vn⟩ := xb2 X2
      go_wp2_with fail
      have hd : Below w3.heap.size w3 w3.drew := (Below.refl _ _).drew
      replace X0 := rb2 X0 hd
      replace X1 := rb2 X1 hd
      replace X2 := rb2 X2 hd
      replace XZ := rb2 XZ hd
      replace HB := btr HB hd HB.out.size
      have HWd : Hid (w.heap.size + 1 + 1 + 1 + 1 + 1 ≤ w3.drew.heap.size) := HW3
      clear hd x0 x1 xn u0 u1 un v0 v1 vn
      obtain ⟨x0, x1, xn⟩ := xb2 X0
      obtain ⟨u0, u1, un⟩ := xb2 X1
      obtain ⟨v0, v1, vn⟩ := xb2 X2
      generalize hGZ : w.heap.size + 1 + 1 + 1 = GZ at *
      have hn0 : ¬ GZ = w.heap.size := by omega
      have hn1 : ¬ GZ = w.heap.size + 1 := by omega
      have hn2 : ¬ GZ = w.heap.size + 1 + 1 := by omega
      go_region_held3 (fun w' => w'.cell? ⟨w.heap.size, 0, none⟩ = some (.slice A0 m0 c0) ∧ w'.cell? ⟨w.heap.size, 1, none⟩ = some (.int .i64 (n0 : Int)) ∧ w'.cell? ⟨w.heap.size + 1, 0, none⟩ = some (.slice A1 m1 c1) ∧ w'.cell? ⟨w.heap.size + 1, 1, none⟩ = some (.int .i64 (n1 : Int)) ∧ w'.cell? ⟨w.heap.size + 1 + 1, 0, none⟩ = some (.slice A2 m2 c2) ∧ w'.cell? ⟨w.heap.size + 1 + 1, 1, none⟩ = some (.int .i64 (n2 : Int))) (first | (refine ⟨?_, ?_, ?_, ?_, ?_, ?_⟩ <;> (with_reducible assumption)) | go_keep) ((first
        | (have _k := DM; go_at_call 77; (with_reducible refine (HI.out _ HB.out).mono ?_); rintro e w5 ⟨⟨A5, m5, c5, r5, rfl, d5, _⟩, b5⟩; have DI := Lib.hid d5; replace DM := rdn DM b5; replace X0 := rb2 X0 b5; replace X1 := rb2 X1 b5; replace X2 := rb2 X2 b5; replace XZ := rb2 XZ b5; replace HB := btr HB b5 HB.out.size; obtain ⟨x0, x1, xn⟩ := xb2 X0; obtain ⟨u0, u1, un⟩ := xb2 X1; obtain ⟨v0, v1, vn⟩ := xb2 X2; clear b5; clear d5)
        | (have _k := DI; go_at_call 78; (with_reducible refine (HM.out _ HB.out).mono ?_); rintro e w6 ⟨⟨A6, m6, c6, r6, rfl, d6, _⟩, b6⟩; have DM := Lib.hid d6; replace DI := rdn DI b6; replace X0 := rb2 X0 b6; replace X1 := rb2 X1 b6; replace X2 := rb2 X2 b6; replace XZ := rb2 XZ b6; replace HB := btr HB b6 HB.out.size; obtain ⟨x0, x1, xn⟩ := xb2 X0; obtain ⟨u0, u1, un⟩ := xb2 X1; obtain ⟨v0, v1, vn⟩ := xb2 X2; clear b6; clear d6)
        | (go_at_call 77; (with_reducible refine (HI.out _ HB.out).mono ?_); rintro e w5 ⟨⟨A5, m5, c5, r5, rfl, d5, _⟩, b5⟩; have DI := Lib.hid d5; replace X0 := rb2 X0 b5; replace X1 := rb2 X1 b5; replace X2 := rb2 X2 b5; replace XZ := rb2 XZ b5; replace HB := btr HB b5 HB.out.size; obtain ⟨x0, x1, xn⟩ := xb2 X0; obtain ⟨u0, u1, un⟩ := xb2 X1; obtain ⟨v0, v1, vn⟩ := xb2 X2; clear b5; clear d5)
        | (go_at_call 78; (with_reducible refine (HM.out _ HB.out).mono ?_); rintro e w6 ⟨⟨A6, m6, c6, r6, rfl, d6, _⟩, b6⟩; have DM := Lib.hid d6; replace X0 := rb2 X0 b6; replace X1 := rb2 X1 b6; replace X2 := rb2 X2 b6; replace XZ := rb2 XZ b6; replace HB := btr HB b6 HB.out.size; obtain ⟨x0, x1, xn⟩ := xb2 X0; obtain ⟨u0, u1, un⟩ := xb2 X1; obtain ⟨v0, v1, vn⟩ := xb2 X2; clear b6; clear d6)
        | (go_at_call 76; (with_reducible refine (HU.out A5 A6 m5 c5 r5 m6 c6 r6 _ DI.out DM.out).mono ?_); rintro e w8 ⟨⟨A8, m8, c8, r8, rfl, d8, f8⟩, b8⟩; have D8 := Lib.hid d8; have F8 := Lib.hid (f8.mono (XZ.out.lt (by omega))); replace X0 := rb2 X0 b8; replace X1 := rb2 X1 b8; replace X2 := rb2 X2 b8; replace XZ := rb2 XZ b8; replace HB := btr HB b8 HB.out.size; obtain ⟨x0, x1, xn⟩ := xb2 X0; obtain ⟨u0, u1, un⟩ := xb2 X1; obtain ⟨v0, v1, vn⟩ := xb2 X2; clear b8; clear d8 f8)
        | (go_at_call 75; (with_reducible refine (rlimited_le A8 m8 c8 (r8 : Int) w8 (by have := D8.out.len; have := HSZ.out; omega)).mono ?_); rintro e w9 ⟨rfl, w10, b10, hlt, rfl⟩; have b9 : Below w8.heap.size w8 ((w10.setCell ⟨w8.heap.size + 1, 0, none⟩ (.slice A8 m8 c8)).setCell ⟨w8.heap.size + 1, 1, none⟩ (.int .i64 (r8 : Int))) := (b10.setCell (by show w8.heap.size ≤ w8.heap.size + 1; omega) _).setCell (by show w8.heap.size ≤ w8.heap.size + 1; omega) _; generalize ((w10.setCell ⟨w8.heap.size + 1, 0, none⟩ (.slice A8 m8 c8)).setCell ⟨w8.heap.size + 1, 1, none⟩ (.int .i64 (r8 : Int))) = w9 at *; have HB9 := btr HB b9 HB.out.size; have Z9 := rb2 XZ b9; have D9 := Lib.hid (D8.out.below b9); obtain ⟨z0, z0f⟩ := Z9.out 0 (by omega); obtain ⟨z1, z1f⟩ := Z9.out 1 (by omega); obtain ⟨x0, x1, xn⟩ := xb2 (rb2 X0 b9); obtain ⟨u0, u1, un⟩ := xb2 (rb2 X1 b9); obtain ⟨v0, v1, vn⟩ := xb2 (rb2 X2 b9); clear b9 b10 hlt)))
      all_goals
        go_wp2
        refine bodyPost_ret (v := .tuple #[.agg #[.slice A8 m8 c8, .int .i64 (r8 : Int)], .int .i64 0]) ?_ rfl ?_
        · rw [results_cell_tmp rfl]
          go_simp
        · exact rr_done HB9.out (by omega) ⟨D9.out.rd, D9.out.len, D9.out.rt, D9.out.mc, by have := D9.out.len; have := HSZ.out; omega, D9.out.d⟩ F8.out
    · have HSZ : Hid (4096 < (cn (fun x => if f0 x then f1 x else f2 x)).1.length) := Lib.hid (by omega)
      clear hs
      go_enter Tryd.func28, Tryd.ntmps28
      go_wp2_with fail
      generalize (((((w.alloc (.cells #[.slice A0 m0 c0, .int .i64 (n0 : Int)] 24)).alloc (.cells #[.slice A1 m1 c1, .int .i64 (n1 : Int)] 24)).alloc (.cells #[.slice A2 m2 c2, .int .i64 (n2 : Int)] 24)).alloc (.cells #[.slice none 0 0, .int .i64 0] 24)).alloc (.cells #[.slice A0 m0 c0, .int .i64 (n0 : Int), .slice A1 m1 c1, .int .i64 (n1 : Int), .slice A2 m2 c2, .int .i64 (n2 : Int)] 24)) = w1 at *
      with_reducible refine (HF.out w1 HB0.out X4.out).mono ?_
      rintro e w3 ⟨rfl, b3⟩
      replace X0 := rb2 X0 b3
      replace X1 := rb2 X1 b3
      replace X2 := rb2 X2 b3
      have XZ := rb2 X3 b3
      have HW3 : Hid (w.heap.size + 1 + 1 + 1 + 1 + 1 ≤ w3.heap.size) := Lib.hid (by have := HW0.out; have := b3.size; omega)
      have HB := btr HB0 b3 HB0.out.size
      clear b3 HB0 HF HW0 X4 X3
      obtain ⟨x0, x1, xn⟩ := xb2 X0
      obtain ⟨u0, u1, un⟩ := xb2 X1
      obtain ⟨v0, v1, vn⟩ := xb2 X2
      go_wp2_with fail
      have hd : Below w3.heap.size w3 w3.drew := (Below.refl _ _).drew
      replace X0 := rb2 X0 hd
      replace X1 := rb2 X1 hd
      replace X2 := rb2 X2 hd
      replace XZ := rb2 XZ hd
      replace HB := btr HB hd HB.out.size
      have HWd : Hid (w.heap.size + 1 + 1 + 1 + 1 + 1 ≤ w3.drew.heap.size) := HW3
      clear hd x0 x1 xn u0 u1 un v0 v1 vn
      obtain ⟨x0, x1, xn⟩ := xb2 X0
      obtain ⟨u0, u1, un⟩ := xb2 X1
      obtain ⟨v0, v1, vn⟩ := xb2 X2
      generalize hGZ : w.heap.size + 1 + 1 + 1 = GZ at *
      have hn0 : ¬ GZ = w.heap.size := by omega
      have hn1 : ¬ GZ = w.heap.size + 1 := by omega
      have hn2 : ¬ GZ = w.heap.size + 1 + 1 := by omega
      go_region_held3 (fun w' => w'.cell? ⟨w.heap.size, 0, none⟩ = some (.slice A0 m0 c0) ∧ w'.cell? ⟨w.heap.size, 1, none⟩ = some (.int .i64 (n0 : Int)) ∧ w'.cell? ⟨w.heap.size + 1, 0, none⟩ = some (.slice A1 m1 c1) ∧ w'.cell? ⟨w.heap.size + 1, 1, none⟩ = some (.int .i64 (n1 : Int)) ∧ w'.cell? ⟨w.heap.size + 1 + 1, 0, none⟩ = some (.slice A2 m2 c2) ∧ w'.cell? ⟨w.heap.size + 1 + 1, 1, none⟩ = some (.int .i64 (n2 : Int))) (first | (refine ⟨?_, ?_, ?_, ?_, ?_, ?_⟩ <;> (with_reducible assumption)) | go_keep) ((first
        | (have _k := DM; go_at_call 77; (with_reducible refine (HI.out _ HB.out).mono ?_); rintro e w5 ⟨⟨A5, m5, c5, r5, rfl, d5, _⟩, b5⟩; have DI := Lib.hid d5; replace DM := rdn DM b5; replace X0 := rb2 X0 b5; replace X1 := rb2 X1 b5; replace X2 := rb2 X2 b5; replace XZ := rb2 XZ b5; replace HB := btr HB b5 HB.out.size; obtain ⟨x0, x1, xn⟩ := xb2 X0; obtain ⟨u0, u1, un⟩ := xb2 X1; obtain ⟨v0, v1, vn⟩ := xb2 X2; clear b5; clear d5)
        | (have _k := DI; go_at_call 78; (with_reducible refine (HM.out _ HB.out).mono ?_); rintro e w6 ⟨⟨A6, m6, c6, r6, rfl, d6, _⟩, b6⟩; have DM := Lib.hid d6; replace DI := rdn DI b6; replace X0 := rb2 X0 b6; replace X1 := rb2 X1 b6; replace X2 := rb2 X2 b6; replace XZ := rb2 XZ b6; replace HB := btr HB b6 HB.out.size; obtain ⟨x0, x1, xn⟩ := xb2 X0; obtain ⟨u0, u1, un⟩ := xb2 X1; obtain ⟨v0, v1, vn⟩ := xb2 X2; clear b6; clear d6)
        | (go_at_call 77; (with_reducible refine (HI.out _ HB.out).mono ?_); rintro e w5 ⟨⟨A5, m5, c5, r5, rfl, d5, _⟩, b5⟩; have DI := Lib.hid d5; replace X0 := rb2 X0 b5; replace X1 := rb2 X1 b5; replace X2 := rb2 X2 b5; replace XZ := rb2 XZ b5; replace HB := btr HB b5 HB.out.size; obtain ⟨x0, x1, xn⟩ := xb2 X0; obtain ⟨u0, u1, un⟩ := xb2 X1; obtain ⟨v0, v1, vn⟩ := xb2 X2; clear b5; clear d5)
        | (go_at_call 78; (with_reducible refine (HM.out _ HB.out).mono ?_); rintro e w6 ⟨⟨A6, m6, c6, r6, rfl, d6, _⟩, b6⟩; have DM := Lib.hid d6; replace X0 := rb2 X0 b6; replace X1 := rb2 X1 b6; replace X2 := rb2 X2 b6; replace XZ := rb2 XZ b6; replace HB := btr HB b6 HB.out.size; obtain ⟨x0, x1, xn⟩ := xb2 X0; obtain ⟨u0, u1, un⟩ := xb2 X1; obtain ⟨v0, v1, vn⟩ := xb2 X2; clear b6; clear d6)
        | (go_at_call 76; (with_reducible refine (HU.out A5 A6 m5 c5 r5 m6 c6 r6 _ DI.out DM.out).mono ?_); rintro e w8 ⟨⟨A8, m8, c8, r8, rfl, d8, f8⟩, b8⟩; have D8 := Lib.hid d8; have F8 := Lib.hid (f8.mono (XZ.out.lt (by omega))); replace X0 := rb2 X0 b8; replace X1 := rb2 X1 b8; replace X2 := rb2 X2 b8; replace XZ := rb2 XZ b8; replace HB := btr HB b8 HB.out.size; obtain ⟨x0, x1, xn⟩ := xb2 X0; obtain ⟨u0, u1, un⟩ := xb2 X1; obtain ⟨v0, v1, vn⟩ := xb2 X2; clear b8; clear d8 f8)
        | (go_at_call 75; (with_reducible refine (rlimited_gt A8 m8 c8 (r8 : Int) w8 (by have := D8.out.len; have := HSZ.out; omega)).mono ?_); rintro e w9 ⟨rfl, b9⟩; have HB9 := btr HB b9 HB.out.size; have Z9 := rb2 XZ b9; obtain ⟨z0, z0f⟩ := Z9.out 0 (by omega); obtain ⟨z1, z1f⟩ := Z9.out 1 (by omega); obtain ⟨x0, x1, xn⟩ := xb2 (rb2 X0 b9); obtain ⟨u0, u1, un⟩ := xb2 (rb2 X1 b9); obtain ⟨v0, v1, vn⟩ := xb2 (rb2 X2 b9); clear b9)))
      all_goals
        go_wp2
        refine bodyPost_ret (v := .tuple #[.agg #[.slice none 0 0, .int .i64 0], .int .i64 2]) ?_ rfl ?_
        · rw [results_cell_tmp rfl]
          go_simp
        · exact rr_large HSZ.out ((HB9.out.setCell (by show w.heap.size ≤ GZ; omega) _).setCell (by show w.heap.size ≤ GZ; omega) _)
  · rw [hk] at HF ⊢
    clear h0 h1 h2 hk
    go_enter Tryd.func28, Tryd.ntmps28
    go_wp2_with fail
    generalize (((((w.alloc (.cells #[.slice A0 m0 c0, .int .i64 r0] 24)).alloc (.cells #[.slice A1 m1 c1, .int .i64 r1] 24)).alloc (.cells #[.slice A2 m2 c2, .int .i64 r2] 24)).alloc (.cells #[.slice none 0 0, .int .i64 0] 24)).alloc (.cells #[.slice A0 m0 c0, .int .i64 r0, .slice A1 m1 c1, .int .i64 r1, .slice A2 m2 c2, .int .i64 r2] 24)) = w1 at *
    with_reducible refine (HF.out w1 HB0.out X4.out).mono ?_
    rintro e w3 ⟨rfl, b3⟩
    replace X3 := rb2 X3 b3
    have HB3 := btr HB0 b3 HB0.out.size
    clear b3 HB0 HF HW0 X4 X0 X1 X2
    obtain ⟨y0, y0f⟩ := X3.out 0 (by omega)
    obtain ⟨y1, y1f⟩ := X3.out 1 (by omega)
    go_wp2
    refine bodyPost_ret (v := .tuple #[.agg #[.slice none 0 0, .int .i64 0], .int .i64 20]) ?_ rfl ?_
    · rw [results_cell_tmp rfl]
      go_simp
    · exact rr_bad (by decide) ((HB3.out.setCell (by show w.heap.size ≤ w.heap.size + 1 + 1 + 1; omega) _).setCell (by show w.heap.size ≤ w.heap.size + 1 + 1 + 1; omega) _)

theorem dand_any {w : World} {A0 : Option Addr} {m0 c0 : Nat} {l0 : List Bi} {r0 : Int} {A1 : Option Addr} {m1 c1 : Nat} {l1 : List Bi} {r1 : Int} (h0 : Hid (DOk w (⟨A0, m0, c0, l0, r0⟩ : DA))) (q0 : m0 ≤ 40) (h1 : Hid (DOk w (⟨A1, m1, c1, l1, r1⟩ : DA))) (q1 : m1 ≤ 40) (hin : Hid (Ins w 0)) :
    Calls Tryd.prog 17 #[.agg #[.slice A0 m0 c0, .int .i64 r0], .agg #[.slice A1 m1 c1, .int .i64 r1]] w fun e w' => RR w w' (chkAll [(⟨A0, m0, c0, l0, r0⟩ : DA), (⟨A1, m1, c1, l1, r1⟩ : DA)]) (fun x => and (dset l0 r0 x) (dset l1 r1 x)) e := by
  rcases chk_two h0.out q0 h1.out q1 with ⟨hk, k0, k1⟩ | ⟨hk, _⟩
  · rw [hk]
    have D0 := Lib.hid (dn_dset h0.out k0)
    have D1 := Lib.hid (dn_dset h1.out k1)
    have e0 := chk_nat k0
    have e1 := chk_nat k1
    generalize dset l0 r0 = f0 at *
    generalize dset l1 r1 = f1 at *
    generalize r0.toNat = n0 at *
    generalize r1.toNat = n1 at *
    subst e0
    subst e1
    exact (and_ok m0 c0 m1 c1 n0 n1 A0 A1 f0 f1 w D0 D1 hin (Lib.hid (bin_small D0.out D1.out q0 q1 (fun p q => and p q))) (Lib.hid (by have := pr42 q0 q1; omega))).mono fun e w' h => rr_ok h
  · rw [hk]
    refine (bad_and h0 h1 (Lib.hid hk)).mono ?_
    rintro e w' ⟨rfl, hb⟩
    exact rr_bad (by decide) hb

theorem dor_any {w : World} {A0 : Option Addr} {m0 c0 : Nat} {l0 : List Bi} {r0 : Int} {A1 : Option Addr} {m1 c1 : Nat} {l1 : List Bi} {r1 : Int} (h0 : Hid (DOk w (⟨A0, m0, c0, l0, r0⟩ : DA))) (q0 : m0 ≤ 40) (h1 : Hid (DOk w (⟨A1, m1, c1, l1, r1⟩ : DA))) (q1 : m1 ≤ 40) (hin : Hid (Ins w 0)) :
    Calls Tryd.prog 19 #[.agg #[.slice A0 m0 c0, .int .i64 r0], .agg #[.slice A1 m1 c1, .int .i64 r1]] w fun e w' => RR w w' (chkAll [(⟨A0, m0, c0, l0, r0⟩ : DA), (⟨A1, m1, c1, l1, r1⟩ : DA)]) (fun x => or (dset l0 r0 x) (dset l1 r1 x)) e := by
  rcases chk_two h0.out q0 h1.out q1 with ⟨hk, k0, k1⟩ | ⟨hk, _⟩
  · rw [hk]
    have D0 := Lib.hid (dn_dset h0.out k0)
    have D1 := Lib.hid (dn_dset h1.out k1)
    have e0 := chk_nat k0
    have e1 := chk_nat k1
    generalize dset l0 r0 = f0 at *
    generalize dset l1 r1 = f1 at *
    generalize r0.toNat = n0 at *
    generalize r1.toNat = n1 at *
    subst e0
    subst e1
    exact (or_ok m0 c0 m1 c1 n0 n1 A0 A1 f0 f1 w D0 D1 hin (Lib.hid (bin_small D0.out D1.out q0 q1 (fun p q => or p q))) (Lib.hid (by have := pr42 q0 q1; omega))).mono fun e w' h => rr_ok h
  · rw [hk]
    refine (bad_or h0 h1 (Lib.hid hk)).mono ?_
    rintro e w' ⟨rfl, hb⟩
    exact rr_bad (by decide) hb

theorem dxor_any {w : World} {A0 : Option Addr} {m0 c0 : Nat} {l0 : List Bi} {r0 : Int} {A1 : Option Addr} {m1 c1 : Nat} {l1 : List Bi} {r1 : Int} (h0 : Hid (DOk w (⟨A0, m0, c0, l0, r0⟩ : DA))) (q0 : m0 ≤ 40) (h1 : Hid (DOk w (⟨A1, m1, c1, l1, r1⟩ : DA))) (q1 : m1 ≤ 40) (hin : Hid (Ins w 0)) :
    Calls Tryd.prog 25 #[.agg #[.slice A0 m0 c0, .int .i64 r0], .agg #[.slice A1 m1 c1, .int .i64 r1]] w fun e w' => RR w w' (chkAll [(⟨A0, m0, c0, l0, r0⟩ : DA), (⟨A1, m1, c1, l1, r1⟩ : DA)]) (fun x => dset l0 r0 x != dset l1 r1 x) e := by
  rcases chk_two h0.out q0 h1.out q1 with ⟨hk, k0, k1⟩ | ⟨hk, _⟩
  · rw [hk]
    have D0 := Lib.hid (dn_dset h0.out k0)
    have D1 := Lib.hid (dn_dset h1.out k1)
    have e0 := chk_nat k0
    have e1 := chk_nat k1
    generalize dset l0 r0 = f0 at *
    generalize dset l1 r1 = f1 at *
    generalize r0.toNat = n0 at *
    generalize r1.toNat = n1 at *
    subst e0
    subst e1
    exact (xor_ok m0 c0 m1 c1 n0 n1 A0 A1 f0 f1 w D0 D1 hin (Lib.hid (bin_small D0.out D1.out q0 q1 (fun p q => p != q))) (Lib.hid (by have := pr42 q0 q1; omega))).mono fun e w' h => rr_ok h
  · rw [hk]
    refine (bad_xor h0 h1 (Lib.hid hk)).mono ?_
    rintro e w' ⟨rfl, hb⟩
    exact rr_bad (by decide) hb

theorem dnot_any {w : World} {A0 : Option Addr} {m0 c0 : Nat} {l0 : List Bi} {r0 : Int} (h0 : Hid (DOk w (⟨A0, m0, c0, l0, r0⟩ : DA))) (q0 : m0 ≤ 40) :
    Calls Tryd.prog 29 #[.agg #[.slice A0 m0 c0, .int .i64 r0]] w fun e w' => RR w w' (chk l0 r0) (fun x => !(dset l0 r0 x)) e := by
  rcases chk_or (l := l0) (r := r0) (by have := h0.out.len; simp only at this; omega) with hk | hk
  · rw [hk]
    have D0 := Lib.hid (dn_dset h0.out hk)
    have e0 := chk_nat hk
    generalize dset l0 r0 = f0 at *
    generalize r0.toNat = n0 at *
    subst e0
    exact (not_ok m0 c0 n0 A0 f0 w D0).mono fun e w' h => rr_ok h
  · rw [hk]
    refine (bad_not (Lib.hid ⟨h0.out, hk⟩)).mono ?_
    rintro e w' ⟨rfl, hb⟩
    exact rr_bad (by decide) hb

theorem dwithin_any {w : World} {A0 : Option Addr} {m0 c0 : Nat} {l0 : List Bi} {r0 : Int} {A1 : Option Addr} {m1 c1 : Nat} {l1 : List Bi} {r1 : Int} (h0 : Hid (DOk w (⟨A0, m0, c0, l0, r0⟩ : DA))) (q0 : m0 ≤ 40) (h1 : Hid (DOk w (⟨A1, m1, c1, l1, r1⟩ : DA))) (q1 : m1 ≤ 40) (hin : Hid (Ins w 0)) :
    Calls Tryd.prog 31 #[.agg #[.slice A0 m0 c0, .int .i64 r0], .agg #[.slice A1 m1 c1, .int .i64 r1]] w fun e w' => e = .returned (.bool (wB (chkAll [(⟨A0, m0, c0, l0, r0⟩ : DA), (⟨A1, m1, c1, l1, r1⟩ : DA)]) (fun x => and (dset l0 r0 x) (!(dset l1 r1 x))))) ∧ Below w.heap.size w w' := by
  rcases chk_two h0.out q0 h1.out q1 with ⟨hk, k0, k1⟩ | ⟨hk, _⟩
  · rw [hk]
    have D0 := Lib.hid (dn_dset h0.out k0)
    have D1 := Lib.hid (dn_dset h1.out k1)
    have e0 := chk_nat k0
    have e1 := chk_nat k1
    generalize dset l0 r0 = f0 at *
    generalize dset l1 r1 = f1 at *
    generalize r0.toNat = n0 at *
    generalize r1.toNat = n1 at *
    subst e0
    subst e1
    exact within_ok m0 c0 m1 c1 n0 n1 A0 A1 f0 f1 w D0 D1 hin (Lib.hid (by have := pr42 q0 q1; omega)) _ (Lib.hid (if_pos rfl).symm)
  · rw [hk]
    exact bad_within h0 h1 (Lib.hid hk)

theorem ddisjoint_any {w : World} {A0 : Option Addr} {m0 c0 : Nat} {l0 : List Bi} {r0 : Int} {A1 : Option Addr} {m1 c1 : Nat} {l1 : List Bi} {r1 : Int} (h0 : Hid (DOk w (⟨A0, m0, c0, l0, r0⟩ : DA))) (q0 : m0 ≤ 40) (h1 : Hid (DOk w (⟨A1, m1, c1, l1, r1⟩ : DA))) (q1 : m1 ≤ 40) (hin : Hid (Ins w 0)) :
    Calls Tryd.prog 33 #[.agg #[.slice A0 m0 c0, .int .i64 r0], .agg #[.slice A1 m1 c1, .int .i64 r1]] w fun e w' => e = .returned (.bool (wB (chkAll [(⟨A0, m0, c0, l0, r0⟩ : DA), (⟨A1, m1, c1, l1, r1⟩ : DA)]) (fun x => and (dset l0 r0 x) (dset l1 r1 x)))) ∧ Below w.heap.size w w' := by
  rcases chk_two h0.out q0 h1.out q1 with ⟨hk, k0, k1⟩ | ⟨hk, _⟩
  · rw [hk]
    have D0 := Lib.hid (dn_dset h0.out k0)
    have D1 := Lib.hid (dn_dset h1.out k1)
    have e0 := chk_nat k0
    have e1 := chk_nat k1
    generalize dset l0 r0 = f0 at *
    generalize dset l1 r1 = f1 at *
    generalize r0.toNat = n0 at *
    generalize r1.toNat = n1 at *
    subst e0
    subst e1
    exact disjoint_ok m0 c0 m1 c1 n0 n1 A0 A1 f0 f1 w D0 D1 hin (Lib.hid (by have := pr42 q0 q1; omega)) _ (Lib.hid (if_pos rfl).symm)
  · rw [hk]
    exact bad_disjoint h0 h1 (Lib.hid hk)

theorem dchoose_any {w : World} {A0 : Option Addr} {m0 c0 : Nat} {l0 : List Bi} {r0 : Int} {A1 : Option Addr} {m1 c1 : Nat} {l1 : List Bi} {r1 : Int} {A2 : Option Addr} {m2 c2 : Nat} {l2 : List Bi} {r2 : Int} (h0 : Hid (DOk w (⟨A0, m0, c0, l0, r0⟩ : DA))) (q0 : m0 ≤ 40) (h1 : Hid (DOk w (⟨A1, m1, c1, l1, r1⟩ : DA))) (q1 : m1 ≤ 40) (h2 : Hid (DOk w (⟨A2, m2, c2, l2, r2⟩ : DA))) (q2 : m2 ≤ 40) (hin : Hid (Ins w 0)) :
    Calls Tryd.prog 27 #[.agg #[.slice A0 m0 c0, .int .i64 r0], .agg #[.slice A1 m1 c1, .int .i64 r1], .agg #[.slice A2 m2 c2, .int .i64 r2]] w fun e w' => RR w w' (chkAll [(⟨A0, m0, c0, l0, r0⟩ : DA), (⟨A1, m1, c1, l1, r1⟩ : DA), (⟨A2, m2, c2, l2, r2⟩ : DA)]) (fun x => if dset l0 r0 x then dset l1 r1 x else dset l2 r2 x) e := by
  rcases chk_three h0.out q0 h1.out q1 h2.out q2 with ⟨hk, k0, k1, k2⟩ | hk
  · rw [hk]
    have D0 := Lib.hid (dn_dset h0.out k0)
    have D1 := Lib.hid (dn_dset h1.out k1)
    have D2 := Lib.hid (dn_dset h2.out k2)
    have e0 := chk_nat k0
    have e1 := chk_nat k1
    have e2 := chk_nat k2
    generalize dset l0 r0 = f0 at *
    generalize dset l1 r1 = f1 at *
    generalize dset l2 r2 = f2 at *
    generalize r0.toNat = n0 at *
    generalize r1.toNat = n1 at *
    generalize r2.toNat = n2 at *
    subst e0
    subst e1
    subst e2
    by_cases hs : (cn (fun x => if f0 x then f1 x else f2 x)).1.length ≤ 4096
    · exact (choose_ok m0 c0 n0 m1 c1 n1 m2 c2 n2 A0 A1 A2 f0 f1 f2 w D0 D1 D2 hin (by omega) (Lib.hid hs)).mono fun e w' h => rr_ok h
    · refine (choose_over m0 c0 n0 m1 c1 n1 m2 c2 n2 A0 A1 A2 f0 f1 f2 w D0 D1 D2 hin (by omega) (Lib.hid (by omega))).mono ?_
      rintro e w' ⟨rfl, hb⟩
      exact rr_large (by omega) hb
  · rw [hk]
    refine (bad_choose h0 h1 h2 (Lib.hid hk)).mono ?_
    rintro e w' ⟨rfl, hb⟩
    exact rr_bad (by decide) hb

end Go.Proofs.YtmfinkaphglmjaaDoor
