/-
  Plain mathematics and contracts of package diagram, several texts in one: DROp, DROp2.
-/
import Derived.Test.YtignkplogkaigaaDoorMx
import Derived.Test.YtignkplogkaigaaDoorMz
import Derived.Test.YtignkplogkaigaaDoorMy
import Derived.Deep.RegionHeld3
import Derived.Test.YtignkplogkaigaaDoorMv
import Derived.Test.YtignkplogkaigaaDoorMo

/-! The operations of the package and of the reference in one form, for any diagrams of at most 40 branches. (Written by drops.py.) -/
namespace Go.Proofs.YtignkplogkaigaaDoor
open Go.RowKit Dg St
set_option linter.unusedVariables false
set_option linter.unusedSimpArgs false
attribute [local go_sem ↓] Go.wp_at_zero Go.wp_at_succ

/-- a diagram and a code -/
def RO (w w' : World) (M : List Br) (n : Nat) (code : Int) (e : Ending) : Prop := (∃ (A : Option Addr) (m c : Nat), e = .returned (.tuple #[.agg #[.slice A m c, .int .i64 (n : Int)], .int .i64 code]) ∧ M.length = m ∧ Rd w' w'.heap.size A (up M) ∧ Fr A w.heap.size) ∧ Below w.heap.size w w'
/-- what an operation answers: k is the error of its arguments -/
def binR (k : Int) (h : Cfg → Bool) : List Br × Nat × Int := if k = 0 then (if (cn h).1.length ≤ 4096 then ((cn h).1, (cn h).2, 0) else ([], 0, 2)) else ([], 0, k)
def RR (w w' : World) (k : Int) (h : Cfg → Bool) (e : Ending) : Prop := RO w w' (binR k h).1 (binR k h).2.1 (binR k h).2.2 e
theorem binR_bad {k : Int} (hk : k ≠ 0) (h : Cfg → Bool) : binR k h = ([], 0, k) := if_neg hk
theorem binR_ok {h : Cfg → Bool} (hs : (cn h).1.length ≤ 4096) : binR 0 h = ((cn h).1, (cn h).2, 0) := by unfold binR; rw [if_pos rfl, if_pos hs]
theorem binR_large {h : Cfg → Bool} (hs : 4096 < (cn h).1.length) : binR 0 h = ([], 0, 2) := by unfold binR; rw [if_pos rfl, if_neg (by omega)]
theorem ro_zero {w w' : World} {code : Int} (h : Below w.heap.size w w') : RO w w' [] 0 code (.returned (.tuple #[.agg #[.slice none 0 0, .int .i64 0], .int .i64 code])) :=
  ⟨⟨none, 0, 0, rfl, rfl, Rd.nil, fun b o e => by cases e⟩, h⟩
theorem rr_bad {w w' : World} {k : Int} {h : Cfg → Bool} (hk : k ≠ 0) (hb : Below w.heap.size w w') : RR w w' k h (.returned (.tuple #[.agg #[.slice none 0 0, .int .i64 0], .int .i64 k])) := by
  unfold RR
  rw [binR_bad hk]
  exact ro_zero hb
theorem rr_large {w w' : World} {h : Cfg → Bool} (hs : 4096 < (cn h).1.length) (hb : Below w.heap.size w w') : RR w w' 0 h (.returned (.tuple #[.agg #[.slice none 0 0, .int .i64 0], .int .i64 2])) := by
  unfold RR
  rw [binR_large hs]
  exact ro_zero hb
theorem rr_ok {w w' : World} {h : Cfg → Bool} {e : Ending} (hb : BinOk w w' h e) : RR w w' 0 h e := by
  obtain ⟨⟨A, m, c, r, rfl, hd, hf⟩, hb⟩ := hb
  have h1 := hd.len
  have h2 := hd.rd
  have h3 := hd.rt
  have h4 := hd.lm
  clear hd
  unfold RR binR
  generalize cn h = R at *
  obtain ⟨M, n⟩ := R
  simp only at h1 h2 h3
  subst h3
  rw [if_pos rfl, if_pos (by show M.length ≤ 4096; omega)]
  exact ⟨⟨A, m, c, rfl, h1, h2, hf⟩, hb⟩
theorem rd_store {w2 : World} {g : Nat} {A : Option Addr} {l : List Bi} (hrd : Rd w2 w2.heap.size A l) (hf : Fr A (g + 1)) (u v : Value) : Rd ((w2.setCell ⟨g, 0, none⟩ u).setCell ⟨g, 1, none⟩ v) ((w2.setCell ⟨g, 0, none⟩ u).setCell ⟨g, 1, none⟩ v).heap.size A l := by
  have k := (hrd.setF (n := 0) hf u).setF (n := 1) hf v
  simpa [World.setCell] using k
/-- the answer is stored in the result's box -/
theorem ro_store {w w2 : World} {g n m c : Nat} {A : Option Addr} {M : List Br} {code : Int} (hB : Below w.heap.size w w2) (hg : w.heap.size ≤ g) (hl : M.length = m) (hrd : Rd w2 w2.heap.size A (up M)) (hf : Fr A (g + 1)) :
    RO w ((w2.setCell ⟨g, 0, none⟩ (.slice A m c)).setCell ⟨g, 1, none⟩ (.int .i64 (n : Int))) M n code (.returned (.tuple #[.agg #[.slice A m c, .int .i64 (n : Int)], .int .i64 code])) :=
  ⟨⟨A, m, c, rfl, hl, rd_store hrd hf _ _, hf.mono (by omega)⟩, (hB.setCell hg _).setCell hg _⟩
theorem rr_done {w w2 : World} {g m c r : Nat} {A : Option Addr} {f : Cfg → Bool} (hB : Below w.heap.size w w2) (hg : w.heap.size ≤ g) (hd : Dn w2 A m c r f) (hf : Fr A (g + 1)) :
    RR w ((w2.setCell ⟨g, 0, none⟩ (.slice A m c)).setCell ⟨g, 1, none⟩ (.int .i64 (r : Int))) 0 f (.returned (.tuple #[.agg #[.slice A m c, .int .i64 (r : Int)], .int .i64 0])) := by
  have h1 := hd.len
  have h2 := hd.rd
  have h3 := hd.rt
  have h4 := hd.lm
  clear hd
  unfold RR binR
  generalize cn f = R at *
  obtain ⟨M, n⟩ := R
  simp only at h1 h2 h3
  subst h3
  rw [if_pos rfl, if_pos (by show M.length ≤ 4096; omega)]
  exact ro_store hB hg h1 h2 hf
theorem pair_list {w : World} {b : Nat} {A0 : Option Addr} {m0 c0 : Nat} {l0 : List Bi} {r0 : Int} {A1 : Option Addr} {m1 c1 : Nat} {l1 : List Bi} {r1 : Int} (h0 : Hid (DOk w ⟨A0, m0, c0, l0, r0⟩)) (q0 : m0 ≤ 40) (h1 : Hid (DOk w ⟨A1, m1, c1, l1, r1⟩)) (q1 : m1 ≤ 40) (hb : Hid (Blk w b 4 (fun i => ([.slice A0 m0 c0, .int .i64 r0, .slice A1 m1 c1, .int .i64 r1] : List Value).getD i undef))) :
    Calls Tryd.prog 84 #[.slice (some ⟨b, 0, none⟩) 2 2] w fun e w' => e = .returned (.int .i64 (chkAll [(⟨A0, m0, c0, l0, r0⟩ : DA), ⟨A1, m1, c1, l1, r1⟩])) ∧ Below w.heap.size w w' :=
  rfirst_any b 2 2 [(⟨A0, m0, c0, l0, r0⟩ : DA), ⟨A1, m1, c1, l1, r1⟩] w (Lib.hid rfl) (by omega) (hb.out.lt (by omega)) (Lib.hid (fun d hd => by
    simp only [List.mem_cons, List.not_mem_nil, or_false] at hd
    rcases hd with rfl | rfl
    · exact h0.out
    · exact h1.out)) (Lib.hid (fun d hd => by
    simp only [List.mem_cons, List.not_mem_nil, or_false] at hd
    rcases hd with rfl | rfl
    · show m0 ≤ 4096; omega
    · show m1 ≤ 4096; omega)) (Lib.hid (fun k hk => by
    obtain rfl | rfl : k = 0 ∨ k = 1 := by simp at hk; omega
    · exact ⟨(hb.out 0 (by omega)).1, (hb.out 1 (by omega)).1⟩
    · exact ⟨(hb.out 2 (by omega)).1, (hb.out 3 (by omega)).1⟩))
theorem trip_list {w : World} {b : Nat} {A0 : Option Addr} {m0 c0 : Nat} {l0 : List Bi} {r0 : Int} {A1 : Option Addr} {m1 c1 : Nat} {l1 : List Bi} {r1 : Int} {A2 : Option Addr} {m2 c2 : Nat} {l2 : List Bi} {r2 : Int} (h0 : Hid (DOk w ⟨A0, m0, c0, l0, r0⟩)) (q0 : m0 ≤ 40) (h1 : Hid (DOk w ⟨A1, m1, c1, l1, r1⟩)) (q1 : m1 ≤ 40) (h2 : Hid (DOk w ⟨A2, m2, c2, l2, r2⟩)) (q2 : m2 ≤ 40) (hb : Hid (Blk w b 6 (fun i => ([.slice A0 m0 c0, .int .i64 r0, .slice A1 m1 c1, .int .i64 r1, .slice A2 m2 c2, .int .i64 r2] : List Value).getD i undef))) :
    Calls Tryd.prog 84 #[.slice (some ⟨b, 0, none⟩) 3 3] w fun e w' => e = .returned (.int .i64 (chkAll [(⟨A0, m0, c0, l0, r0⟩ : DA), ⟨A1, m1, c1, l1, r1⟩, ⟨A2, m2, c2, l2, r2⟩])) ∧ Below w.heap.size w w' :=
  rfirst_any b 3 3 [(⟨A0, m0, c0, l0, r0⟩ : DA), ⟨A1, m1, c1, l1, r1⟩, ⟨A2, m2, c2, l2, r2⟩] w (Lib.hid rfl) (by omega) (hb.out.lt (by omega)) (Lib.hid (fun d hd => by
    simp only [List.mem_cons, List.not_mem_nil, or_false] at hd
    rcases hd with rfl | rfl | rfl
    · exact h0.out
    · exact h1.out
    · exact h2.out)) (Lib.hid (fun d hd => by
    simp only [List.mem_cons, List.not_mem_nil, or_false] at hd
    rcases hd with rfl | rfl | rfl
    · show m0 ≤ 4096; omega
    · show m1 ≤ 4096; omega
    · show m2 ≤ 4096; omega)) (Lib.hid (fun k hk => by
    obtain rfl | rfl | rfl : k = 0 ∨ k = 1 ∨ k = 2 := by simp at hk; omega
    · exact ⟨(hb.out 0 (by omega)).1, (hb.out 1 (by omega)).1⟩
    · exact ⟨(hb.out 2 (by omega)).1, (hb.out 3 (by omega)).1⟩
    · exact ⟨(hb.out 4 (by omega)).1, (hb.out 5 (by omega)).1⟩))
theorem chk_two {w : World} {d0 d1 : DA} (h0 : DOk w d0) (q0 : d0.m ≤ 40) (h1 : DOk w d1) (q1 : d1.m ≤ 40) : (chkAll [d0, d1] = 0 ∧ chk d0.l d0.r = 0 ∧ chk d1.l d1.r = 0) ∨ (chkAll [d0, d1] = 20 ∧ ¬ (chk d0.l d0.r = 0 ∧ chk d1.l d1.r = 0)) := by
  have e0 := chk_or (l := d0.l) (r := d0.r) (by have := h0.len; omega)
  have e1 := chk_or (l := d1.l) (r := d1.r) (by have := h1.len; omega)
  unfold chkAll chkAll chkAll
  rcases e0 with e0 | e0
  · rcases e1 with e1 | e1
    · rw [e0, e1]; exact .inl ⟨rfl, rfl, rfl⟩
    · rw [e0, e1]; exact .inr ⟨rfl, by decide⟩
  · rw [e0]; exact .inr ⟨rfl, fun h => absurd h.1 (by decide)⟩
theorem chk_three {w : World} {d0 d1 d2 : DA} (h0 : DOk w d0) (q0 : d0.m ≤ 40) (h1 : DOk w d1) (q1 : d1.m ≤ 40) (h2 : DOk w d2) (q2 : d2.m ≤ 40) : (chkAll [d0, d1, d2] = 0 ∧ chk d0.l d0.r = 0 ∧ chk d1.l d1.r = 0 ∧ chk d2.l d2.r = 0) ∨ chkAll [d0, d1, d2] = 20 := by
  have e0 := chk_or (l := d0.l) (r := d0.r) (by have := h0.len; omega)
  rcases chk_two h1 q1 h2 q2 with ⟨e, h⟩ | ⟨e, h⟩
  · unfold chkAll
    rcases e0 with e0 | e0
    · rw [if_pos e0, e]; exact .inl ⟨rfl, e0, h⟩
    · rw [e0]; exact .inr rfl
  · unfold chkAll
    rcases e0 with e0 | e0
    · rw [if_pos e0, e]; exact .inr rfl
    · rw [e0]; exact .inr rfl
theorem chk_nat {l : List Bi} {r : Int} (h : chk l r = 0) : r = ((r.toNat : Nat) : Int) := by
  obtain ⟨M, n, _, rfl, _, _⟩ := chk_ok.1 h
  omega
theorem bin_small {w : World} {A0 A1 : Option Addr} {m0 c0 r0 m1 c1 r1 : Nat} {f g : Cfg → Bool} (h0 : Dn w A0 m0 c0 r0 f) (h1 : Dn w A1 m1 c1 r1 g) (q0 : m0 ≤ 40) (q1 : m1 ≤ 40) (op : Bool → Bool → Bool) : (cn (fun c => op (f c) (g c))).1.length ≤ 4096 := by
  have e0 := h0.den
  have e1 := h1.den
  have l0 := h0.len
  have l1 := h1.len
  have s := bin_size h0.valid.good.ord h1.valid.good.ord op (x := r0) (y := r1) (by rw [l0]; exact h0.lt) (by rw [l1]; exact h1.lt)
  rw [e0, e1, l0, l1] at s
  have t : (m0 + 2) * (m1 + 2) ≤ 42 * 42 := Nat.mul_le_mul (by omega) (by omega)
  omega

set_option maxHeartbeats 2000000 in
set_option maxRecDepth 100000 in
theorem rlimited_le (A : Option Addr) (m c : Nat) (r : Int) (w : World) (hm : m ≤ 4096) :
    Calls Tryd.prog 85 #[.agg #[.slice A m c, .int .i64 r]] w fun e w' => e = .returned (.tuple #[.agg #[.slice A m c, .int .i64 r], .int .i64 0]) ∧ ∃ w1, Below w.heap.size w w1 ∧ w.heap.size + 1 < w1.heap.size ∧ w' = (w1.setCell ⟨w.heap.size + 1, 0, none⟩ (.slice A m c)).setCell ⟨w.heap.size + 1, 1, none⟩ (.int .i64 r) := by
  have b0 := ab2 w (.cells #[.slice A m c, .int .i64 r] 40)
  have b1 := ab2 (w.alloc (.cells #[.slice A m c, .int .i64 r] 40)) (.cells #[.slice none 0 0, .int .i64 0] 40)
  have X0 : Hid (Blk (w.alloc (.cells #[.slice A m c, .int .i64 r] 40)) (w.heap.size) 2 (fun i => ([.slice A m c, .int .i64 r] : List Value).getD i undef)) := Lib.hid (Blk.new (w := w) (H := w.heap.size) (by simp) [.slice A m c, .int .i64 r] 40)
  replace X0 : Hid (Blk ((w.alloc (.cells #[.slice A m c, .int .i64 r] 40)).alloc (.cells #[.slice none 0 0, .int .i64 0] 40)) (w.heap.size) 2 (fun i => ([.slice A m c, .int .i64 r] : List Value).getD i undef)) := Lib.hid (X0.out.below (by omega) b1)
  have X1 : Hid (Blk ((w.alloc (.cells #[.slice A m c, .int .i64 r] 40)).alloc (.cells #[.slice none 0 0, .int .i64 0] 40)) (w.heap.size + 1) 2 (fun i => ([.slice none 0 0, .int .i64 0] : List Value).getD i undef)) := Lib.hid (Blk.new (w := (w.alloc (.cells #[.slice A m c, .int .i64 r] 40))) (H := w.heap.size + 1) (by simp) [.slice none 0 0, .int .i64 0] 40)
  have HB0 : Hid (Below w.heap.size w ((w.alloc (.cells #[.slice A m c, .int .i64 r] 40)).alloc (.cells #[.slice none 0 0, .int .i64 0] 40))) := Lib.hid (b0.trans (b1.mono b0.size))
  have HW0 : Hid (((w.alloc (.cells #[.slice A m c, .int .i64 r] 40)).alloc (.cells #[.slice none 0 0, .int .i64 0] 40)).heap.size = w.heap.size + 1 + 1) := Lib.hid (by simp)
  clear b0 b1
  go_enter Tryd.func85, Tryd.ntmps85
  go_upto_region 1 with fail
  generalize ((w.alloc (.cells #[.slice A m c, .int .i64 r] 40)).alloc (.cells #[.slice none 0 0, .int .i64 0] 40)) = w1 at *
  obtain ⟨x0, x1, xn⟩ := xb2 X0
  obtain ⟨y0, y0f⟩ := X1.out 0 (by omega)
  obtain ⟨y1, y1f⟩ := X1.out 1 (by omega)
  have HLT : Hid (w.heap.size + 1 < w1.heap.size) := Lib.hid (by have := HW0.out; omega)
  go_wp2
  refine bodyPost_ret (v := .tuple #[.agg #[.slice A m c, .int .i64 r], .int .i64 0]) ?_ rfl ⟨rfl, w1, HB0.out, HLT.out, rfl⟩
  rw [results_cell_tmp rfl]
  go_simp

set_option maxHeartbeats 2000000 in
set_option maxRecDepth 100000 in
theorem rlimited_gt (A : Option Addr) (m c : Nat) (r : Int) (w : World) (hm : 4096 < m) :
    Calls Tryd.prog 85 #[.agg #[.slice A m c, .int .i64 r]] w fun e w' => e = .returned (.tuple #[.agg #[.slice none 0 0, .int .i64 0], .int .i64 2]) ∧ Below w.heap.size w w' := by
  have b0 := ab2 w (.cells #[.slice A m c, .int .i64 r] 40)
  have b1 := ab2 (w.alloc (.cells #[.slice A m c, .int .i64 r] 40)) (.cells #[.slice none 0 0, .int .i64 0] 40)
  have X0 : Hid (Blk (w.alloc (.cells #[.slice A m c, .int .i64 r] 40)) (w.heap.size) 2 (fun i => ([.slice A m c, .int .i64 r] : List Value).getD i undef)) := Lib.hid (Blk.new (w := w) (H := w.heap.size) (by simp) [.slice A m c, .int .i64 r] 40)
  replace X0 : Hid (Blk ((w.alloc (.cells #[.slice A m c, .int .i64 r] 40)).alloc (.cells #[.slice none 0 0, .int .i64 0] 40)) (w.heap.size) 2 (fun i => ([.slice A m c, .int .i64 r] : List Value).getD i undef)) := Lib.hid (X0.out.below (by omega) b1)
  have X1 : Hid (Blk ((w.alloc (.cells #[.slice A m c, .int .i64 r] 40)).alloc (.cells #[.slice none 0 0, .int .i64 0] 40)) (w.heap.size + 1) 2 (fun i => ([.slice none 0 0, .int .i64 0] : List Value).getD i undef)) := Lib.hid (Blk.new (w := (w.alloc (.cells #[.slice A m c, .int .i64 r] 40))) (H := w.heap.size + 1) (by simp) [.slice none 0 0, .int .i64 0] 40)
  have HB0 : Hid (Below w.heap.size w ((w.alloc (.cells #[.slice A m c, .int .i64 r] 40)).alloc (.cells #[.slice none 0 0, .int .i64 0] 40))) := Lib.hid (b0.trans (b1.mono b0.size))
  have HW0 : Hid (((w.alloc (.cells #[.slice A m c, .int .i64 r] 40)).alloc (.cells #[.slice none 0 0, .int .i64 0] 40)).heap.size = w.heap.size + 1 + 1) := Lib.hid (by simp)
  clear b0 b1
  go_enter Tryd.func85, Tryd.ntmps85
  go_upto_region 1 with fail
  generalize ((w.alloc (.cells #[.slice A m c, .int .i64 r] 40)).alloc (.cells #[.slice none 0 0, .int .i64 0] 40)) = w1 at *
  obtain ⟨x0, x1, xn⟩ := xb2 X0
  obtain ⟨y0, y0f⟩ := X1.out 0 (by omega)
  obtain ⟨y1, y1f⟩ := X1.out 1 (by omega)
  go_wp2
  refine bodyPost_ret (v := .tuple #[.agg #[.slice none 0 0, .int .i64 0], .int .i64 2]) ?_ rfl ⟨rfl, ?_⟩
  · rw [results_cell_tmp rfl]
    go_simp
  · exact (HB0.out.setCell (by show w.heap.size ≤ w.heap.size + 1; omega) _).setCell (by show w.heap.size ≤ w.heap.size + 1; omega) _

/-- limited of a diagram that is small enough -/
theorem rlimited_ok {A : Option Addr} {m c r : Nat} {f : Cfg → Bool} {w : World} (h : Hid (Dn w A m c r f)) :
    Calls Tryd.prog 85 #[.agg #[.slice A m c, .int .i64 (r : Int)]] w fun e w' => e = .returned (.tuple #[.agg #[.slice A m c, .int .i64 (r : Int)], .int .i64 0]) ∧ Dn w' A m c r f ∧ Below w.heap.size w w' := by
  have hd := h.out
  refine (rlimited_le A m c (r : Int) w hd.lm).mono ?_
  rintro e w' ⟨rfl, w1, b1, hlt, rfl⟩
  have hb2 : Below w.heap.size w ((w1.setCell ⟨w.heap.size + 1, 0, none⟩ (.slice A m c)).setCell ⟨w.heap.size + 1, 1, none⟩ (.int .i64 (r : Int))) := (b1.setCell (by show w.heap.size ≤ w.heap.size + 1; omega) _).setCell (by show w.heap.size ≤ w.heap.size + 1; omega) _
  exact ⟨rfl, hd.below hb2, hb2⟩

set_option maxHeartbeats 8000000 in
set_option maxRecDepth 100000 in
theorem rop_any {w : World} (op T : Nat) (bop : Bool → Bool → Bool) (hop : Hid (OpT op T bop)) {A0 : Option Addr} {m0 c0 : Nat} {l0 : List Bi} {r0 : Int} {A1 : Option Addr} {m1 c1 : Nat} {l1 : List Bi} {r1 : Int} (h0 : Hid (DOk w (⟨A0, m0, c0, l0, r0⟩ : DA))) (q0 : m0 ≤ 40) (h1 : Hid (DOk w (⟨A1, m1, c1, l1, r1⟩ : DA))) (q1 : m1 ≤ 40) :
    Calls Tryd.prog 54 #[.agg #[.slice A0 m0 c0, .int .i64 r0], .agg #[.slice A1 m1 c1, .int .i64 r1], .int .i64 (op : Int)] w fun e w' => RR w w' (chkAll [(⟨A0, m0, c0, l0, r0⟩ : DA), (⟨A1, m1, c1, l1, r1⟩ : DA)]) (fun x => bop (dset l0 r0 x) (dset l1 r1 x)) e := by
  have b0 := ab2 w (.cells #[.slice A0 m0 c0, .int .i64 r0] 40)
  have b1 := ab2 (w.alloc (.cells #[.slice A0 m0 c0, .int .i64 r0] 40)) (.cells #[.slice A1 m1 c1, .int .i64 r1] 40)
  have b2 := ab2 ((w.alloc (.cells #[.slice A0 m0 c0, .int .i64 r0] 40)).alloc (.cells #[.slice A1 m1 c1, .int .i64 r1] 40)) (.cells #[.slice none 0 0, .int .i64 0] 40)
  have b3 := ab2 (((w.alloc (.cells #[.slice A0 m0 c0, .int .i64 r0] 40)).alloc (.cells #[.slice A1 m1 c1, .int .i64 r1] 40)).alloc (.cells #[.slice none 0 0, .int .i64 0] 40)) (.cells #[.slice A0 m0 c0, .int .i64 r0, .slice A1 m1 c1, .int .i64 r1] 40)
  have X0 : Hid (Blk (w.alloc (.cells #[.slice A0 m0 c0, .int .i64 r0] 40)) (w.heap.size) 2 (fun i => ([.slice A0 m0 c0, .int .i64 r0] : List Value).getD i undef)) := Lib.hid (Blk.new (w := w) (H := w.heap.size) (by simp) [.slice A0 m0 c0, .int .i64 r0] 40)
  replace X0 : Hid (Blk ((w.alloc (.cells #[.slice A0 m0 c0, .int .i64 r0] 40)).alloc (.cells #[.slice A1 m1 c1, .int .i64 r1] 40)) (w.heap.size) 2 (fun i => ([.slice A0 m0 c0, .int .i64 r0] : List Value).getD i undef)) := Lib.hid (X0.out.below (by omega) b1)
  replace X0 : Hid (Blk (((w.alloc (.cells #[.slice A0 m0 c0, .int .i64 r0] 40)).alloc (.cells #[.slice A1 m1 c1, .int .i64 r1] 40)).alloc (.cells #[.slice none 0 0, .int .i64 0] 40)) (w.heap.size) 2 (fun i => ([.slice A0 m0 c0, .int .i64 r0] : List Value).getD i undef)) := Lib.hid (X0.out.below (by omega) b2)
  replace X0 : Hid (Blk ((((w.alloc (.cells #[.slice A0 m0 c0, .int .i64 r0] 40)).alloc (.cells #[.slice A1 m1 c1, .int .i64 r1] 40)).alloc (.cells #[.slice none 0 0, .int .i64 0] 40)).alloc (.cells #[.slice A0 m0 c0, .int .i64 r0, .slice A1 m1 c1, .int .i64 r1] 40)) (w.heap.size) 2 (fun i => ([.slice A0 m0 c0, .int .i64 r0] : List Value).getD i undef)) := Lib.hid (X0.out.below (by omega) b3)
  have X1 : Hid (Blk ((w.alloc (.cells #[.slice A0 m0 c0, .int .i64 r0] 40)).alloc (.cells #[.slice A1 m1 c1, .int .i64 r1] 40)) (w.heap.size + 1) 2 (fun i => ([.slice A1 m1 c1, .int .i64 r1] : List Value).getD i undef)) := Lib.hid (Blk.new (w := (w.alloc (.cells #[.slice A0 m0 c0, .int .i64 r0] 40))) (H := w.heap.size + 1) (by simp) [.slice A1 m1 c1, .int .i64 r1] 40)
  replace X1 : Hid (Blk (((w.alloc (.cells #[.slice A0 m0 c0, .int .i64 r0] 40)).alloc (.cells #[.slice A1 m1 c1, .int .i64 r1] 40)).alloc (.cells #[.slice none 0 0, .int .i64 0] 40)) (w.heap.size + 1) 2 (fun i => ([.slice A1 m1 c1, .int .i64 r1] : List Value).getD i undef)) := Lib.hid (X1.out.below (by omega) b2)
  replace X1 : Hid (Blk ((((w.alloc (.cells #[.slice A0 m0 c0, .int .i64 r0] 40)).alloc (.cells #[.slice A1 m1 c1, .int .i64 r1] 40)).alloc (.cells #[.slice none 0 0, .int .i64 0] 40)).alloc (.cells #[.slice A0 m0 c0, .int .i64 r0, .slice A1 m1 c1, .int .i64 r1] 40)) (w.heap.size + 1) 2 (fun i => ([.slice A1 m1 c1, .int .i64 r1] : List Value).getD i undef)) := Lib.hid (X1.out.below (by omega) b3)
  have X2 : Hid (Blk (((w.alloc (.cells #[.slice A0 m0 c0, .int .i64 r0] 40)).alloc (.cells #[.slice A1 m1 c1, .int .i64 r1] 40)).alloc (.cells #[.slice none 0 0, .int .i64 0] 40)) (w.heap.size + 1 + 1) 2 (fun i => ([.slice none 0 0, .int .i64 0] : List Value).getD i undef)) := Lib.hid (Blk.new (w := ((w.alloc (.cells #[.slice A0 m0 c0, .int .i64 r0] 40)).alloc (.cells #[.slice A1 m1 c1, .int .i64 r1] 40))) (H := w.heap.size + 1 + 1) (by simp) [.slice none 0 0, .int .i64 0] 40)
  replace X2 : Hid (Blk ((((w.alloc (.cells #[.slice A0 m0 c0, .int .i64 r0] 40)).alloc (.cells #[.slice A1 m1 c1, .int .i64 r1] 40)).alloc (.cells #[.slice none 0 0, .int .i64 0] 40)).alloc (.cells #[.slice A0 m0 c0, .int .i64 r0, .slice A1 m1 c1, .int .i64 r1] 40)) (w.heap.size + 1 + 1) 2 (fun i => ([.slice none 0 0, .int .i64 0] : List Value).getD i undef)) := Lib.hid (X2.out.below (by omega) b3)
  have X3 : Hid (Blk ((((w.alloc (.cells #[.slice A0 m0 c0, .int .i64 r0] 40)).alloc (.cells #[.slice A1 m1 c1, .int .i64 r1] 40)).alloc (.cells #[.slice none 0 0, .int .i64 0] 40)).alloc (.cells #[.slice A0 m0 c0, .int .i64 r0, .slice A1 m1 c1, .int .i64 r1] 40)) (w.heap.size + 1 + 1 + 1) 4 (fun i => ([.slice A0 m0 c0, .int .i64 r0, .slice A1 m1 c1, .int .i64 r1] : List Value).getD i undef)) := Lib.hid (Blk.new (w := (((w.alloc (.cells #[.slice A0 m0 c0, .int .i64 r0] 40)).alloc (.cells #[.slice A1 m1 c1, .int .i64 r1] 40)).alloc (.cells #[.slice none 0 0, .int .i64 0] 40))) (H := w.heap.size + 1 + 1 + 1) (by simp) [.slice A0 m0 c0, .int .i64 r0, .slice A1 m1 c1, .int .i64 r1] 40)
  have HB0 : Hid (Below w.heap.size w ((((w.alloc (.cells #[.slice A0 m0 c0, .int .i64 r0] 40)).alloc (.cells #[.slice A1 m1 c1, .int .i64 r1] 40)).alloc (.cells #[.slice none 0 0, .int .i64 0] 40)).alloc (.cells #[.slice A0 m0 c0, .int .i64 r0, .slice A1 m1 c1, .int .i64 r1] 40))) := Lib.hid (((b0.trans (b1.mono b0.size)).trans (b2.mono (b0.trans (b1.mono b0.size)).size)).trans (b3.mono ((b0.trans (b1.mono b0.size)).trans (b2.mono (b0.trans (b1.mono b0.size)).size)).size))
  have HW0 : Hid (((((w.alloc (.cells #[.slice A0 m0 c0, .int .i64 r0] 40)).alloc (.cells #[.slice A1 m1 c1, .int .i64 r1] 40)).alloc (.cells #[.slice none 0 0, .int .i64 0] 40)).alloc (.cells #[.slice A0 m0 c0, .int .i64 r0, .slice A1 m1 c1, .int .i64 r1] 40)).heap.size = w.heap.size + 1 + 1 + 1 + 1) := Lib.hid (by simp)
  clear b0 b1 b2 b3
  have HF : Hid (∀ W, Below w.heap.size w W → Blk W (w.heap.size + 1 + 1 + 1) 4 (fun i => ([.slice A0 m0 c0, .int .i64 r0, .slice A1 m1 c1, .int .i64 r1] : List Value).getD i undef) → Calls Tryd.prog 84 #[.slice (some ⟨w.heap.size + 1 + 1 + 1, 0, none⟩) 2 2] W fun e w' => e = .returned (.int .i64 (chkAll [(⟨A0, m0, c0, l0, r0⟩ : DA), (⟨A1, m1, c1, l1, r1⟩ : DA)])) ∧ Below W.heap.size W w') := Lib.hid (fun W hW hblk => pair_list (dkh h0 hW) q0 (dkh h1 hW) q1 (Lib.hid hblk))
  have hc2 := chk_two h0.out q0 h1.out q1
  rcases hc2 with ⟨hk, k0, k1⟩ | ⟨hk, _⟩
  · rw [hk] at HF ⊢
    have D0 := Lib.hid (dn_dset h0.out k0)
    have D1 := Lib.hid (dn_dset h1.out k1)
    have e0 := chk_nat k0
    have e1 := chk_nat k1
    clear k0 k1 h0 h1 hk
    generalize dset l0 r0 = f0 at *
    generalize dset l1 r1 = f1 at *
    generalize r0.toNat = n0 at *
    generalize r1.toNat = n1 at *
    subst e0
    subst e1
    have HSZ := Lib.hid (bin_small D0.out D1.out q0 q1 bop)
    have HC : Hid (∀ W, Below w.heap.size w W → Calls Tryd.prog 86 #[.agg #[.slice A0 m0 c0, .int .i64 (n0 : Int)], .agg #[.slice A1 m1 c1, .int .i64 (n1 : Int)], .int .i64 (op : Int)] W fun e w' => DiaOk W w' (fun x => bop (f0 x) (f1 x)) e) :=
      Lib.hid (fun W hW => rcombine_ok op T m0 c0 n0 m1 c1 n1 bop A0 A1 f0 f1 W hop (rdn D0 hW) (rdn D1 hW) (Lib.hid (by have : (m0 + 2) * (m1 + 2) ≤ 42 * 42 := Nat.mul_le_mul (by omega) (by omega); omega)) HSZ)
    clear D0 D1
    go_enter Tryd.func54, Tryd.ntmps54
    go_wp2_with fail
    generalize ((((w.alloc (.cells #[.slice A0 m0 c0, .int .i64 (n0 : Int)] 40)).alloc (.cells #[.slice A1 m1 c1, .int .i64 (n1 : Int)] 40)).alloc (.cells #[.slice none 0 0, .int .i64 0] 40)).alloc (.cells #[.slice A0 m0 c0, .int .i64 (n0 : Int), .slice A1 m1 c1, .int .i64 (n1 : Int)] 40)) = w1 at *
    with_reducible refine (HF.out w1 HB0.out X3.out).mono ?_
    rintro e w3 ⟨rfl, b3⟩
    replace X0 := rb2 X0 b3
    replace X1 := rb2 X1 b3
    replace X2 := rb2 X2 b3
    have HW3 : Hid (w.heap.size + 1 + 1 + 1 + 1 ≤ w3.heap.size) := Lib.hid (by have := HW0.out; have := b3.size; omega)
    have HB3 := btr HB0 b3 HB0.out.size
    clear b3 HB0 X3 HF HW0
    obtain ⟨x0, x1, xn⟩ := xb2 X0
    obtain ⟨u0, u1, un⟩ := xb2 X1
    go_wp2_with fail
    with_reducible refine (HC.out w3 HB3.out).mono ?_
    rintro e w6 ⟨⟨A9, m9, c9, r9, rfl, d9, f9⟩, b9⟩
    replace X2 := rb2 X2 b9
    have D9 := Lib.hid d9
    have F9 := Lib.hid (f9.mono (show w.heap.size + 1 + 1 + 1 + 1 ≤ _ from HW3.out))
    have HB6 := btr HB3 b9 HB3.out.size
    clear d9 f9 b9 HC x0 x1 xn u0 u1 un
    go_wp2_with fail
    with_reducible refine (rlimited_ok D9).mono ?_
    rintro e w7 ⟨rfl, d7, b7⟩
    replace X2 := rb2 X2 b7
    have D7 := Lib.hid d7
    have HB7 := btr HB6 b7 HB6.out.size
    clear d7 b7 D9
    obtain ⟨y0, y0f⟩ := X2.out 0 (by omega)
    obtain ⟨y1, y1f⟩ := X2.out 1 (by omega)
    go_wp2
    refine bodyPost_ret (v := .tuple #[.agg #[.slice A9 m9 c9, .int .i64 (r9 : Int)], .int .i64 0]) ?_ rfl ?_
    · rw [results_cell_tmp rfl]
      go_simp
    · exact rr_done HB7.out (by omega) D7.out (F9.out.mono (by omega))
  · rw [hk] at HF ⊢
    clear h0 h1 hk
    go_enter Tryd.func54, Tryd.ntmps54
    go_wp2_with fail
    generalize ((((w.alloc (.cells #[.slice A0 m0 c0, .int .i64 r0] 40)).alloc (.cells #[.slice A1 m1 c1, .int .i64 r1] 40)).alloc (.cells #[.slice none 0 0, .int .i64 0] 40)).alloc (.cells #[.slice A0 m0 c0, .int .i64 r0, .slice A1 m1 c1, .int .i64 r1] 40)) = w1 at *
    with_reducible refine (HF.out w1 HB0.out X3.out).mono ?_
    rintro e w3 ⟨rfl, b3⟩
    replace X2 := rb2 X2 b3
    have HB3 := btr HB0 b3 HB0.out.size
    clear b3 HB0 X3 HF HW0
    obtain ⟨y0, y0f⟩ := X2.out 0 (by omega)
    obtain ⟨y1, y1f⟩ := X2.out 1 (by omega)
    go_wp2
    refine bodyPost_ret (v := .tuple #[.agg #[.slice none 0 0, .int .i64 0], .int .i64 20]) ?_ rfl ?_
    · rw [results_cell_tmp rfl]
      go_simp
    · exact rr_bad (by decide) ((HB3.out.setCell (by show w.heap.size ≤ w.heap.size + 1 + 1; omega) _).setCell (by show w.heap.size ≤ w.heap.size + 1 + 1; omega) _)

set_option maxHeartbeats 4000000 in
set_option maxRecDepth 100000 in
theorem rxor_any {w : World} {A0 : Option Addr} {m0 c0 : Nat} {l0 : List Bi} {r0 : Int} {A1 : Option Addr} {m1 c1 : Nat} {l1 : List Bi} {r1 : Int} (h0 : Hid (DOk w (⟨A0, m0, c0, l0, r0⟩ : DA))) (q0 : m0 ≤ 40) (h1 : Hid (DOk w (⟨A1, m1, c1, l1, r1⟩ : DA))) (q1 : m1 ≤ 40) :
    Calls Tryd.prog 28 #[.agg #[.slice A0 m0 c0, .int .i64 r0], .agg #[.slice A1 m1 c1, .int .i64 r1]] w fun e w' => RR w w' (chkAll [(⟨A0, m0, c0, l0, r0⟩ : DA), (⟨A1, m1, c1, l1, r1⟩ : DA)]) (fun x => dset l0 r0 x != dset l1 r1 x) e := by
  have b0 := ab2 w (.cells #[.slice A0 m0 c0, .int .i64 r0] 40)
  have b1 := ab2 (w.alloc (.cells #[.slice A0 m0 c0, .int .i64 r0] 40)) (.cells #[.slice A1 m1 c1, .int .i64 r1] 40)
  have b2 := ab2 ((w.alloc (.cells #[.slice A0 m0 c0, .int .i64 r0] 40)).alloc (.cells #[.slice A1 m1 c1, .int .i64 r1] 40)) (.cells #[.slice none 0 0, .int .i64 0] 40)
  have X0 : Hid (Blk (w.alloc (.cells #[.slice A0 m0 c0, .int .i64 r0] 40)) (w.heap.size) 2 (fun i => ([.slice A0 m0 c0, .int .i64 r0] : List Value).getD i undef)) := Lib.hid (Blk.new (w := w) (H := w.heap.size) (by simp) [.slice A0 m0 c0, .int .i64 r0] 40)
  replace X0 : Hid (Blk ((w.alloc (.cells #[.slice A0 m0 c0, .int .i64 r0] 40)).alloc (.cells #[.slice A1 m1 c1, .int .i64 r1] 40)) (w.heap.size) 2 (fun i => ([.slice A0 m0 c0, .int .i64 r0] : List Value).getD i undef)) := Lib.hid (X0.out.below (by omega) b1)
  replace X0 : Hid (Blk (((w.alloc (.cells #[.slice A0 m0 c0, .int .i64 r0] 40)).alloc (.cells #[.slice A1 m1 c1, .int .i64 r1] 40)).alloc (.cells #[.slice none 0 0, .int .i64 0] 40)) (w.heap.size) 2 (fun i => ([.slice A0 m0 c0, .int .i64 r0] : List Value).getD i undef)) := Lib.hid (X0.out.below (by omega) b2)
  have X1 : Hid (Blk ((w.alloc (.cells #[.slice A0 m0 c0, .int .i64 r0] 40)).alloc (.cells #[.slice A1 m1 c1, .int .i64 r1] 40)) (w.heap.size + 1) 2 (fun i => ([.slice A1 m1 c1, .int .i64 r1] : List Value).getD i undef)) := Lib.hid (Blk.new (w := (w.alloc (.cells #[.slice A0 m0 c0, .int .i64 r0] 40))) (H := w.heap.size + 1) (by simp) [.slice A1 m1 c1, .int .i64 r1] 40)
  replace X1 : Hid (Blk (((w.alloc (.cells #[.slice A0 m0 c0, .int .i64 r0] 40)).alloc (.cells #[.slice A1 m1 c1, .int .i64 r1] 40)).alloc (.cells #[.slice none 0 0, .int .i64 0] 40)) (w.heap.size + 1) 2 (fun i => ([.slice A1 m1 c1, .int .i64 r1] : List Value).getD i undef)) := Lib.hid (X1.out.below (by omega) b2)
  have X2 : Hid (Blk (((w.alloc (.cells #[.slice A0 m0 c0, .int .i64 r0] 40)).alloc (.cells #[.slice A1 m1 c1, .int .i64 r1] 40)).alloc (.cells #[.slice none 0 0, .int .i64 0] 40)) (w.heap.size + 1 + 1) 2 (fun i => ([.slice none 0 0, .int .i64 0] : List Value).getD i undef)) := Lib.hid (Blk.new (w := ((w.alloc (.cells #[.slice A0 m0 c0, .int .i64 r0] 40)).alloc (.cells #[.slice A1 m1 c1, .int .i64 r1] 40))) (H := w.heap.size + 1 + 1) (by simp) [.slice none 0 0, .int .i64 0] 40)
  have HB0 : Hid (Below w.heap.size w (((w.alloc (.cells #[.slice A0 m0 c0, .int .i64 r0] 40)).alloc (.cells #[.slice A1 m1 c1, .int .i64 r1] 40)).alloc (.cells #[.slice none 0 0, .int .i64 0] 40))) := Lib.hid ((b0.trans (b1.mono b0.size)).trans (b2.mono (b0.trans (b1.mono b0.size)).size))
  have HW0 : Hid ((((w.alloc (.cells #[.slice A0 m0 c0, .int .i64 r0] 40)).alloc (.cells #[.slice A1 m1 c1, .int .i64 r1] 40)).alloc (.cells #[.slice none 0 0, .int .i64 0] 40)).heap.size = w.heap.size + 1 + 1 + 1) := Lib.hid (by simp)
  clear b0 b1 b2
  have HC : Hid (∀ W, Below w.heap.size w W → Calls Tryd.prog 54 #[.agg #[.slice A0 m0 c0, .int .i64 r0], .agg #[.slice A1 m1 c1, .int .i64 r1], .int .i64 2] W fun e w' => RR W w' (chkAll [(⟨A0, m0, c0, l0, r0⟩ : DA), (⟨A1, m1, c1, l1, r1⟩ : DA)]) (fun x => dset l0 r0 x != dset l1 r1 x) e) := Lib.hid (fun W hW => rop_any 2 102 (fun p q => p != q) (Lib.hid opt_xor) (dkh h0 hW) q0 (dkh h1 hW) q1)
  clear h0 h1
  generalize chkAll [(⟨A0, m0, c0, l0, r0⟩ : DA), (⟨A1, m1, c1, l1, r1⟩ : DA)] = k at *
  unfold RR at HC ⊢
  generalize (binR k fun x => dset l0 r0 x != dset l1 r1 x) = B at *
  obtain ⟨MB, nB, cB⟩ := B
  simp only at HC ⊢
  go_enter Tryd.func28, Tryd.ntmps28
  go_upto_region 1 with fail
  generalize (((w.alloc (.cells #[.slice A0 m0 c0, .int .i64 r0] 40)).alloc (.cells #[.slice A1 m1 c1, .int .i64 r1] 40)).alloc (.cells #[.slice none 0 0, .int .i64 0] 40)) = w1 at *
  obtain ⟨x0, x1, xn⟩ := xb2 X0
  obtain ⟨u0, u1, un⟩ := xb2 X1
  go_wp2_with fail
  with_reducible refine (HC.out w1 HB0.out).mono ?_
  rintro e w3 ⟨⟨A9, m9, c9, rfl, e9, rd9, f9⟩, b9⟩
  replace X2 := rb2 X2 b9
  have HB3 := btr HB0 b9 HB0.out.size
  have L9 := Lib.hid e9
  have R9 := Lib.hid rd9
  have F9 := Lib.hid (f9.mono (show w.heap.size + 1 + 1 + 1 ≤ w1.heap.size by have := HW0.out; omega))
  clear e9 rd9 f9 b9 HC x0 x1 xn u0 u1 un
  obtain ⟨y0, y0f⟩ := X2.out 0 (by omega)
  obtain ⟨y1, y1f⟩ := X2.out 1 (by omega)
  go_wp2
  refine bodyPost_ret (v := .tuple #[.agg #[.slice A9 m9 c9, .int .i64 (nB : Int)], .int .i64 cB]) ?_ rfl ?_
  · rw [results_cell_tmp rfl]
    go_simp
  · exact ro_store HB3.out (by omega) L9.out R9.out (F9.out.mono (by omega))

end Go.Proofs.YtignkplogkaigaaDoor

/-! Not, Within, Disjoint, Choose of the reference, and the package's operations, in one form. (Written by drops2.py.) -/
namespace Go.Proofs.YtignkplogkaigaaDoor
open Go.RowKit Dg St
set_option linter.unusedVariables false
set_option linter.unusedSimpArgs false
attribute [local go_sem ↓] Go.wp_at_zero Go.wp_at_succ

theorem not_len {w : World} {A : Option Addr} {m c r : Nat} {f : Cfg → Bool} (h : Dn w A m c r f) : (cn (fun x => !f x)).1.length = m := by
  have e := cn_not h.d
  have l := h.len
  clear h
  generalize cn (fun x => !f x) = R at *
  generalize cn f = S at *
  subst e
  show (S.1.map cb).length = m
  rw [List.length_map]
  exact l
theorem fld_root (A : Option Addr) (m c : Nat) (r : Int) (W : World) : (Instr.field 40 (.agg #[.slice A m c, .int .i64 r]) 1).run Tryd.prog W = .ok (.int .i64 r) W := by kernel_rfl
def wB (k : Int) (h : Cfg → Bool) : Bool := if k = 0 then decide ((cn h).2 = 0) else false
theorem pr42 {m0 m1 : Nat} (q0 : m0 ≤ 40) (q1 : m1 ≤ 40) : (m0 + 2) * (m1 + 2) ≤ 1764 := Nat.mul_le_mul (by omega : m0 + 2 ≤ 42) (by omega : m1 + 2 ≤ 42)
theorem ite_eq (f g h : Cfg → Bool) : (fun x => or (and (f x) (g x)) (and (h x) (!f x))) = fun x => if f x then g x else h x := by
  funext x
  cases f x <;> cases g x <;> cases h x <;> rfl
theorem ite_small {w : World} {A0 A1 A2 : Option Addr} {m0 c0 r0 m1 c1 r1 m2 c2 r2 : Nat} {f g h : Cfg → Bool} (h0 : Dn w A0 m0 c0 r0 f) (h1 : Dn w A1 m1 c1 r1 g) (h2 : Dn w A2 m2 c2 r2 h) (q0 : m0 ≤ 40) (q1 : m1 ≤ 40) (q2 : m2 ≤ 40) : (cn (fun c => if f c then g c else h c)).1.length ≤ 1000000 := by
  have e0 := h0.den
  have e1 := h1.den
  have e2 := h2.den
  have l0 := h0.len
  have l1 := h1.len
  have l2 := h2.len
  have s := tri_size h0.valid.good.ord h1.valid.good.ord h2.valid.good.ord (fun p q r => if p then q else r) (x := r0) (y := r1) (z := r2) (by rw [l0]; exact h0.lt) (by rw [l1]; exact h1.lt) (by rw [l2]; exact h2.lt)
  rw [e0, e1, e2, l0, l1, l2] at s
  have t : (m0 + 2) * (m1 + 2) * (m2 + 2) ≤ 1764 * 42 := Nat.mul_le_mul (pr42 q0 q1) (by omega)
  omega

end Go.Proofs.YtignkplogkaigaaDoor
