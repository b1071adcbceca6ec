/-
  Plain mathematics and contracts of package diagram, several texts in one: DBad.
-/
import Derived.Test.YtmfinkaphglmjaaDoorMt
import Derived.Test.YtmfinkaphglmjaaDoorMg
import Derived.Test.YtmfinkaphglmjaaDoorMh

/-! What the functions answer to a diagram that is rejected. (Written by dbad.py.) -/
namespace Go.Proofs.YtmfinkaphglmjaaDoor
open Go.RowKit Dg St
attribute [local go_sem ↓] Go.wp_at_zero Go.wp_at_succ

/-- a diagram that Check rejects -/
def Bad (w : World) (A : Option Addr) (m c : Nat) (l : List Bi) (r : Int) : Prop := DOk w ⟨A, m, c, l, r⟩ ∧ chk l r = 20
theorem Bad.below {w w' : World} {A : Option Addr} {m c : Nat} {l : List Bi} {r : Int} (h : Bad w A m c l r) (hb : Below w.heap.size w w') : Bad w' A m c l r := ⟨h.1.below hb, h.2⟩
theorem rbad {w w' : World} {A : Option Addr} {m c : Nat} {l : List Bi} {r : Int} (h : Hid (Bad w A m c l r)) (hb : Below w.heap.size w w') : Hid (Bad w' A m c l r) := Lib.hid (h.out.below hb)
theorem bad_check {w : World} {A : Option Addr} {m c : Nat} {l : List Bi} {r : Int} (h : Hid (Bad w A m c l r)) :
    Calls Tryd.prog 22 #[.agg #[.slice A m c, .int .i64 r]] w fun e w' => e = .returned (.int .i64 20) ∧ Below w.heap.size w w' := by
  have h1 := h.out.1
  have := check_any l r m c A w (Lib.hid h1.rd) (Lib.hid h1.wi) (Lib.hid h1.len) h1.lm h1.mc (Lib.hid h1.ri)
  rwa [h.out.2] at this
theorem bad_with {w : World} {A : Option Addr} {m c : Nat} {l : List Bi} {r : Int} (v : Int) (h : Hid (Bad w A m c l r)) :
    Calls Tryd.prog 85 #[.agg #[.slice A m c, .int .i64 r], .int .i64 v] w fun e w' => e = .returned (.int .i64 20) ∧ Below w.heap.size w w' := by
  have := checkWith_any l r v m c A w (Lib.hid h.out.1)
  have e : chkWith l r v = 20 := by
    unfold chkWith
    rw [h.out.2]
    rfl
  rwa [e] at this

set_option maxHeartbeats 1000000 in
set_option maxRecDepth 100000 in
theorem bad_count {w : World} {A : Option Addr} {m c : Nat} {l : List Bi} {r : Int} (d : Int) (h : Hid (Bad w A m c l r)) :
    Calls Tryd.prog 39 #[.agg #[.slice A m c, .int .i64 r], .int .i64 d] w fun e w' => e = .returned (.tuple #[.slice none 0 0, .int .i64 20]) ∧ Below w.heap.size w w' := by
  have X0 := nb2 w (.slice A m c) (.int .i64 r) 24
  have ab := ab2 w (.cells #[.slice A m c, .int .i64 r] 24)
  have HC := Lib.hid (bad_check (rbad h ab))
  have HB1 := Lib.hid ab
  clear ab
  obtain ⟨p0, q0, n0⟩ := xb2 X0
  go_enter Tryd.func39, Tryd.ntmps39
  go_wp2_with fail
  with_reducible refine HC.out.mono ?_
  rintro e w3 ⟨rfl, b3⟩
  have HB3 := btr HB1 b3 HB1.out.size
  clear b3 p0 q0 n0
  go_wp2
  first | go_ret2 | go_ret
  exact ⟨rfl, HB3.out⟩

set_option maxHeartbeats 1000000 in
set_option maxRecDepth 100000 in
theorem bad_least {w : World} {A : Option Addr} {m c : Nat} {l : List Bi} {r : Int} (h : Hid (Bad w A m c l r)) :
    Calls Tryd.prog 41 #[.agg #[.slice A m c, .int .i64 r]] w fun e w' => e = .returned (.tuple #[.int .u64 0, .bool false]) ∧ Below w.heap.size w w' := by
  have X0 := nb2 w (.slice A m c) (.int .i64 r) 24
  have ab := ab2 w (.cells #[.slice A m c, .int .i64 r] 24)
  have HC := Lib.hid (bad_check (rbad h ab))
  have HB1 := Lib.hid ab
  clear ab
  obtain ⟨p0, q0, n0⟩ := xb2 X0
  go_enter Tryd.func41, Tryd.ntmps41
  go_wp2_with fail
  with_reducible refine HC.out.mono ?_
  rintro e w3 ⟨rfl, b3⟩
  have HB3 := btr HB1 b3 HB1.out.size
  clear b3 p0 q0 n0
  go_wp2
  first | go_ret2 | go_ret
  exact ⟨rfl, HB3.out⟩

set_option maxHeartbeats 1000000 in
set_option maxRecDepth 100000 in
theorem bad_support {w : World} {A : Option Addr} {m c : Nat} {l : List Bi} {r : Int} (h : Hid (Bad w A m c l r)) :
    Calls Tryd.prog 49 #[.agg #[.slice A m c, .int .i64 r]] w fun e w' => e = .returned (.slice none 0 0) ∧ Below w.heap.size w w' := by
  have X0 := nb2 w (.slice A m c) (.int .i64 r) 24
  have ab := ab2 w (.cells #[.slice A m c, .int .i64 r] 24)
  have HC := Lib.hid (bad_check (rbad h ab))
  have HB1 := Lib.hid ab
  clear ab
  obtain ⟨p0, q0, n0⟩ := xb2 X0
  go_enter Tryd.func49, Tryd.ntmps49
  go_wp2_with fail
  with_reducible refine HC.out.mono ?_
  rintro e w3 ⟨rfl, b3⟩
  have HB3 := btr HB1 b3 HB1.out.size
  clear b3 p0 q0 n0
  go_wp2
  first | go_ret2 | go_ret
  exact ⟨rfl, HB3.out⟩

set_option maxHeartbeats 1000000 in
set_option maxRecDepth 100000 in
theorem bad_holds {w : World} {A : Option Addr} {m c : Nat} {l : List Bi} {r : Int} (x : Int) (h : Hid (Bad w A m c l r)) :
    Calls Tryd.prog 46 #[.agg #[.slice A m c, .int .i64 r], .int .u64 x] w fun e w' => e = .returned (.bool false) ∧ Below w.heap.size w w' := by
  have X0 := nb2 w (.slice A m c) (.int .i64 r) 24
  have ab := ab2 w (.cells #[.slice A m c, .int .i64 r] 24)
  have HC := Lib.hid (bad_check (rbad h ab))
  have HB1 := Lib.hid ab
  clear ab
  obtain ⟨p0, q0, n0⟩ := xb2 X0
  go_enter Tryd.func46, Tryd.ntmps46
  go_wp2_with fail
  with_reducible refine HC.out.mono ?_
  rintro e w3 ⟨rfl, b3⟩
  have HB3 := btr HB1 b3 HB1.out.size
  clear b3 p0 q0 n0
  go_wp2
  first | go_ret2 | go_ret
  exact ⟨rfl, HB3.out⟩

set_option maxHeartbeats 1000000 in
set_option maxRecDepth 100000 in
theorem bad_not {w : World} {A : Option Addr} {m c : Nat} {l : List Bi} {r : Int} (h : Hid (Bad w A m c l r)) :
    Calls Tryd.prog 29 #[.agg #[.slice A m c, .int .i64 r]] w fun e w' => e = .returned (.tuple #[.agg #[.slice none 0 0, .int .i64 0], .int .i64 20]) ∧ Below w.heap.size w w' := by
  have b1 := ab2 w (.cells #[.slice A m c, .int .i64 r] 24)
  have b2 := ab2 (w.alloc (.cells #[.slice A m c, .int .i64 r] 24)) (.cells #[.slice none 0 0, .int .i64 0] 24)
  have X0 := rb2 (nb2 w (.slice A m c) (.int .i64 r) 24) b2
  have Y0 := nb2 (w.alloc (.cells #[.slice A m c, .int .i64 r] 24)) (.slice none 0 0) (.int .i64 0) 24
  rw [show (w.alloc (.cells #[.slice A m c, .int .i64 r] 24)).heap.size = w.heap.size + 1 by simp] at Y0
  have HC := Lib.hid (bad_check (rbad (rbad h b1) b2))
  have HB1 := Lib.hid (b1.trans (b2.mono b1.size))
  clear b1 b2
  obtain ⟨p0, q0, n0⟩ := xb2 X0
  go_enter Tryd.func29, Tryd.ntmps29
  go_wp2_with fail
  with_reducible refine HC.out.mono ?_
  rintro e w3 ⟨rfl, b3⟩
  have Y3 := rb2 Y0 b3
  have HB3 := btr HB1 b3 HB1.out.size
  clear b3 p0 q0 n0
  obtain ⟨y0, y0f⟩ := Y3.out 0 (by omega)
  obtain ⟨y1, y1f⟩ := Y3.out 1 (by omega)
  go_wp2
  refine bodyPost_ret (v := .tuple #[.agg #[.slice none 0 0, .int .i64 0], .int .i64 20]) ?_ rfl ⟨rfl, ?_⟩
  · rw [results_cell_tmp rfl]
    go_simp
  · exact (HB3.out.setCell (by simp) _).setCell (by simp) _

set_option maxHeartbeats 1000000 in
set_option maxRecDepth 100000 in
theorem bad_restrict {w : World} {A : Option Addr} {m c : Nat} {l : List Bi} {r : Int} (v : Int) (b : Bool) (h : Hid (Bad w A m c l r)) :
    Calls Tryd.prog 35 #[.agg #[.slice A m c, .int .i64 r], .int .i64 v, .bool b] w fun e w' => e = .returned (.tuple #[.agg #[.slice none 0 0, .int .i64 0], .int .i64 20]) ∧ Below w.heap.size w w' := by
  have b1 := ab2 w (.cells #[.slice A m c, .int .i64 r] 24)
  have b2 := ab2 (w.alloc (.cells #[.slice A m c, .int .i64 r] 24)) (.cells #[.slice none 0 0, .int .i64 0] 24)
  have X0 := rb2 (nb2 w (.slice A m c) (.int .i64 r) 24) b2
  have Y0 := nb2 (w.alloc (.cells #[.slice A m c, .int .i64 r] 24)) (.slice none 0 0) (.int .i64 0) 24
  rw [show (w.alloc (.cells #[.slice A m c, .int .i64 r] 24)).heap.size = w.heap.size + 1 by simp] at Y0
  have HC := Lib.hid (bad_with v (rbad (rbad h b1) b2))
  have HB1 := Lib.hid (b1.trans (b2.mono b1.size))
  clear b1 b2
  obtain ⟨p0, q0, n0⟩ := xb2 X0
  go_enter Tryd.func35, Tryd.ntmps35
  go_wp2_with fail
  with_reducible refine HC.out.mono ?_
  rintro e w3 ⟨rfl, b3⟩
  have Y3 := rb2 Y0 b3
  have HB3 := btr HB1 b3 HB1.out.size
  clear b3 p0 q0 n0
  obtain ⟨y0, y0f⟩ := Y3.out 0 (by omega)
  obtain ⟨y1, y1f⟩ := Y3.out 1 (by omega)
  go_wp2
  refine bodyPost_ret (v := .tuple #[.agg #[.slice none 0 0, .int .i64 0], .int .i64 20]) ?_ rfl ⟨rfl, ?_⟩
  · rw [results_cell_tmp rfl]
    go_simp
  · exact (HB3.out.setCell (by simp) _).setCell (by simp) _

set_option maxHeartbeats 1000000 in
set_option maxRecDepth 100000 in
theorem bad_exists {w : World} {A : Option Addr} {m c : Nat} {l : List Bi} {r : Int} (v : Int) (h : Hid (Bad w A m c l r)) :
    Calls Tryd.prog 37 #[.agg #[.slice A m c, .int .i64 r], .int .i64 v] w fun e w' => e = .returned (.tuple #[.agg #[.slice none 0 0, .int .i64 0], .int .i64 20]) ∧ Below w.heap.size w w' := by
  have b1 := ab2 w (.cells #[.slice A m c, .int .i64 r] 24)
  have b2 := ab2 (w.alloc (.cells #[.slice A m c, .int .i64 r] 24)) (.cells #[.slice none 0 0, .int .i64 0] 24)
  have X0 := rb2 (nb2 w (.slice A m c) (.int .i64 r) 24) b2
  have Y0 := nb2 (w.alloc (.cells #[.slice A m c, .int .i64 r] 24)) (.slice none 0 0) (.int .i64 0) 24
  rw [show (w.alloc (.cells #[.slice A m c, .int .i64 r] 24)).heap.size = w.heap.size + 1 by simp] at Y0
  have HC := Lib.hid (bad_with v (rbad (rbad h b1) b2))
  have HB1 := Lib.hid (b1.trans (b2.mono b1.size))
  clear b1 b2
  obtain ⟨p0, q0, n0⟩ := xb2 X0
  go_enter Tryd.func37, Tryd.ntmps37
  go_wp2_with fail
  with_reducible refine HC.out.mono ?_
  rintro e w3 ⟨rfl, b3⟩
  have Y3 := rb2 Y0 b3
  have HB3 := btr HB1 b3 HB1.out.size
  clear b3 p0 q0 n0
  obtain ⟨y0, y0f⟩ := Y3.out 0 (by omega)
  obtain ⟨y1, y1f⟩ := Y3.out 1 (by omega)
  go_wp2
  refine bodyPost_ret (v := .tuple #[.agg #[.slice none 0 0, .int .i64 0], .int .i64 20]) ?_ rfl ⟨rfl, ?_⟩
  · rw [results_cell_tmp rfl]
    go_simp
  · exact (HB3.out.setCell (by simp) _).setCell (by simp) _

theorem rdok {w w' : World} {d : DA} (h : Hid (DOk w d)) (hb : Below w.heap.size w w') : Hid (DOk w' d) := Lib.hid (h.out.below hb)

theorem pair_check {w : World} {b : Nat} {A0 : Option Addr} {m0 c0 : Nat} {l0 : List Bi} {r0 : Int} {A1 : Option Addr} {m1 c1 : Nat} {l1 : List Bi} {r1 : Int} (h0 : Hid (DOk w ⟨A0, m0, c0, l0, r0⟩)) (h1 : Hid (DOk w ⟨A1, m1, c1, l1, r1⟩)) (hb : Hid (Blk w b 4 (fun i => ([.slice A0 m0 c0, .int .i64 r0, .slice A1 m1 c1, .int .i64 r1] : List Value).getD i undef))) (hc : Hid (chkAll [(⟨A0, m0, c0, l0, r0⟩ : DA), ⟨A1, m1, c1, l1, r1⟩] = 20)) :
    Calls Tryd.prog 70 #[.slice (some ⟨b, 0, none⟩) 2 2] w fun e w' => e = .returned (.int .i64 20) ∧ Below w.heap.size w w' := by
  have h := checkAll_any b 2 2 [(⟨A0, m0, c0, l0, r0⟩ : DA), ⟨A1, m1, c1, l1, r1⟩] w (Lib.hid rfl) (by omega) (hb.out.lt (by omega)) (Lib.hid (fun d hd => by
    simp only [List.mem_cons, List.not_mem_nil, or_false] at hd
    rcases hd with rfl | rfl
    · exact h0.out
    · exact h1.out)) (Lib.hid (fun k hk => by
    obtain rfl | rfl : k = 0 ∨ k = 1 := by simp at hk; omega
    · exact ⟨(hb.out 0 (by omega)).1, (hb.out 1 (by omega)).1⟩
    · exact ⟨(hb.out 2 (by omega)).1, (hb.out 3 (by omega)).1⟩))
  rw [hc.out] at h
  exact h

theorem trip_check {w : World} {b : Nat} {A0 : Option Addr} {m0 c0 : Nat} {l0 : List Bi} {r0 : Int} {A1 : Option Addr} {m1 c1 : Nat} {l1 : List Bi} {r1 : Int} {A2 : Option Addr} {m2 c2 : Nat} {l2 : List Bi} {r2 : Int} (h0 : Hid (DOk w ⟨A0, m0, c0, l0, r0⟩)) (h1 : Hid (DOk w ⟨A1, m1, c1, l1, r1⟩)) (h2 : Hid (DOk w ⟨A2, m2, c2, l2, r2⟩)) (hb : Hid (Blk w b 6 (fun i => ([.slice A0 m0 c0, .int .i64 r0, .slice A1 m1 c1, .int .i64 r1, .slice A2 m2 c2, .int .i64 r2] : List Value).getD i undef))) (hc : Hid (chkAll [(⟨A0, m0, c0, l0, r0⟩ : DA), ⟨A1, m1, c1, l1, r1⟩, ⟨A2, m2, c2, l2, r2⟩] = 20)) :
    Calls Tryd.prog 70 #[.slice (some ⟨b, 0, none⟩) 3 3] w fun e w' => e = .returned (.int .i64 20) ∧ Below w.heap.size w w' := by
  have h := checkAll_any b 3 3 [(⟨A0, m0, c0, l0, r0⟩ : DA), ⟨A1, m1, c1, l1, r1⟩, ⟨A2, m2, c2, l2, r2⟩] w (Lib.hid rfl) (by omega) (hb.out.lt (by omega)) (Lib.hid (fun d hd => by
    simp only [List.mem_cons, List.not_mem_nil, or_false] at hd
    rcases hd with rfl | rfl | rfl
    · exact h0.out
    · exact h1.out
    · exact h2.out)) (Lib.hid (fun k hk => by
    obtain rfl | rfl | rfl : k = 0 ∨ k = 1 ∨ k = 2 := by simp at hk; omega
    · exact ⟨(hb.out 0 (by omega)).1, (hb.out 1 (by omega)).1⟩
    · exact ⟨(hb.out 2 (by omega)).1, (hb.out 3 (by omega)).1⟩
    · exact ⟨(hb.out 4 (by omega)).1, (hb.out 5 (by omega)).1⟩))
  rw [hc.out] at h
  exact h

set_option maxHeartbeats 1000000 in
set_option maxRecDepth 100000 in
theorem bad_checked {w : World} {b : Nat} (f : Nat) {A0 : Option Addr} {m0 c0 : Nat} {l0 : List Bi} {r0 : Int} {A1 : Option Addr} {m1 c1 : Nat} {l1 : List Bi} {r1 : Int} (h0 : Hid (DOk w ⟨A0, m0, c0, l0, r0⟩)) (h1 : Hid (DOk w ⟨A1, m1, c1, l1, r1⟩)) (hb : Hid (Blk w b 4 (fun i => ([.slice A0 m0 c0, .int .i64 r0, .slice A1 m1 c1, .int .i64 r1] : List Value).getD i undef))) (hc : Hid (chkAll [(⟨A0, m0, c0, l0, r0⟩ : DA), ⟨A1, m1, c1, l1, r1⟩] = 20)) :
    Calls Tryd.prog 59 #[.func (.func f) #[] #[], .slice (some ⟨b, 0, none⟩) 2 2] w fun e w' => e = .returned (.tuple #[.agg #[.slice none 0 0, .int .i64 0], .int .i64 20]) ∧ Below w.heap.size w w' := by
  have ab := ab2 w (.cells #[.slice none 0 0, .int .i64 0] 24)
  have Y0 := nb2 w (.slice none 0 0) (.int .i64 0) 24
  have HC := Lib.hid (pair_check (rdok h0 ab) (rdok h1 ab) (Lib.hid (hb.out.below (by omega) ab)) hc)
  have HB1 := Lib.hid ab
  clear ab
  go_enter Tryd.func59, Tryd.ntmps59
  go_wp2_with fail
  with_reducible refine HC.out.mono ?_
  rintro e w3 ⟨rfl, b3⟩
  have Y3 := rb2 Y0 b3
  have HB3 := btr HB1 b3 HB1.out.size
  clear b3
  obtain ⟨y0, y0f⟩ := Y3.out 0 (by omega)
  obtain ⟨y1, y1f⟩ := Y3.out 1 (by omega)
  go_wp2
  refine bodyPost_ret (v := .tuple #[.agg #[.slice none 0 0, .int .i64 0], .int .i64 20]) ?_ rfl ⟨rfl, ?_⟩
  · rw [results_cell_tmp rfl]
    go_simp
  · exact (HB3.out.setCell (by simp) _).setCell (by simp) _

set_option maxHeartbeats 2000000 in
set_option maxRecDepth 100000 in
theorem bad_and {w : World} {A0 : Option Addr} {m0 c0 : Nat} {l0 : List Bi} {r0 : Int} {A1 : Option Addr} {m1 c1 : Nat} {l1 : List Bi} {r1 : Int} (h0 : Hid (DOk w ⟨A0, m0, c0, l0, r0⟩)) (h1 : Hid (DOk w ⟨A1, m1, c1, l1, r1⟩)) (hc : Hid (chkAll [(⟨A0, m0, c0, l0, r0⟩ : DA), ⟨A1, m1, c1, l1, r1⟩] = 20)) :
    Calls Tryd.prog 17 #[.agg #[.slice A0 m0 c0, .int .i64 r0], .agg #[.slice A1 m1 c1, .int .i64 r1]] w fun e w' => e = .returned (.tuple #[.agg #[.slice none 0 0, .int .i64 0], .int .i64 20]) ∧ Below w.heap.size w w' := by
  have b0 := ab2 w (.cells #[.slice A0 m0 c0, .int .i64 r0] 24)
  have b1 := ab2 (w.alloc (.cells #[.slice A0 m0 c0, .int .i64 r0] 24)) (.cells #[.slice A1 m1 c1, .int .i64 r1] 24)
  have b2 := ab2 ((w.alloc (.cells #[.slice A0 m0 c0, .int .i64 r0] 24)).alloc (.cells #[.slice A1 m1 c1, .int .i64 r1] 24)) (.cells #[.slice none 0 0, .int .i64 0] 24)
  have b3 := ab2 (((w.alloc (.cells #[.slice A0 m0 c0, .int .i64 r0] 24)).alloc (.cells #[.slice A1 m1 c1, .int .i64 r1] 24)).alloc (.cells #[.slice none 0 0, .int .i64 0] 24)) (.cells #[.slice A0 m0 c0, .int .i64 r0, .slice A1 m1 c1, .int .i64 r1] 24)
  have X0 := (rb2 (rb2 (rb2 (nb2 w (.slice A0 m0 c0) (.int .i64 r0) 24) b1) b2) b3)
  have X1 := (rb2 (rb2 (nb2 (w.alloc (.cells #[.slice A0 m0 c0, .int .i64 r0] 24)) (.slice A1 m1 c1) (.int .i64 r1) 24) b2) b3)
  rw [show (w.alloc (.cells #[.slice A0 m0 c0, .int .i64 r0] 24)).heap.size = w.heap.size + 1 by simp] at X1
  have Y0 := (rb2 (nb2 ((w.alloc (.cells #[.slice A0 m0 c0, .int .i64 r0] 24)).alloc (.cells #[.slice A1 m1 c1, .int .i64 r1] 24)) (.slice none 0 0) (.int .i64 0) 24) b3)
  rw [show ((w.alloc (.cells #[.slice A0 m0 c0, .int .i64 r0] 24)).alloc (.cells #[.slice A1 m1 c1, .int .i64 r1] 24)).heap.size = w.heap.size + 1 + 1 by simp] at Y0
  have XL := Lib.hid (Blk.new (w := ((w.alloc (.cells #[.slice A0 m0 c0, .int .i64 r0] 24)).alloc (.cells #[.slice A1 m1 c1, .int .i64 r1] 24)).alloc (.cells #[.slice none 0 0, .int .i64 0] 24)) (H := w.heap.size + 1 + 1 + 1) (by simp) [.slice A0 m0 c0, .int .i64 r0, .slice A1 m1 c1, .int .i64 r1] 24)
  have HB1 := Lib.hid (((b0.trans (b1.mono b0.size)).trans (b2.mono (b0.trans (b1.mono b0.size)).size)).trans (b3.mono ((b0.trans (b1.mono b0.size)).trans (b2.mono (b0.trans (b1.mono b0.size)).size)).size))
  have K0 := rdok h0 HB1.out
  have K1 := rdok h1 HB1.out
  clear b0 b1 b2 b3
  have HC := Lib.hid (bad_checked 60 K0 K1 XL hc)
  obtain ⟨p0, q0, n0⟩ := xb2 X0
  obtain ⟨p1, q1, n1⟩ := xb2 X1
  go_enter Tryd.func17, Tryd.ntmps17
  go_wp2_with fail
  with_reducible refine HC.out.mono ?_
  rintro e w3 ⟨rfl, b3⟩
  have Y3 := rb2 Y0 b3
  have HB3 := btr HB1 b3 HB1.out.size
  clear b3
  obtain ⟨y0, y0f⟩ := Y3.out 0 (by omega)
  obtain ⟨y1, y1f⟩ := Y3.out 1 (by omega)
  go_wp2
  refine bodyPost_ret (v := .tuple #[.agg #[.slice none 0 0, .int .i64 0], .int .i64 20]) ?_ rfl ⟨rfl, ?_⟩
  · rw [results_cell_tmp rfl]
    go_simp
  · exact (HB3.out.setCell (by show w.heap.size ≤ w.heap.size + 1 + 1; omega) _).setCell (by show w.heap.size ≤ w.heap.size + 1 + 1; omega) _

set_option maxHeartbeats 2000000 in
set_option maxRecDepth 100000 in
theorem bad_or {w : World} {A0 : Option Addr} {m0 c0 : Nat} {l0 : List Bi} {r0 : Int} {A1 : Option Addr} {m1 c1 : Nat} {l1 : List Bi} {r1 : Int} (h0 : Hid (DOk w ⟨A0, m0, c0, l0, r0⟩)) (h1 : Hid (DOk w ⟨A1, m1, c1, l1, r1⟩)) (hc : Hid (chkAll [(⟨A0, m0, c0, l0, r0⟩ : DA), ⟨A1, m1, c1, l1, r1⟩] = 20)) :
    Calls Tryd.prog 19 #[.agg #[.slice A0 m0 c0, .int .i64 r0], .agg #[.slice A1 m1 c1, .int .i64 r1]] w fun e w' => e = .returned (.tuple #[.agg #[.slice none 0 0, .int .i64 0], .int .i64 20]) ∧ Below w.heap.size w w' := by
  have b0 := ab2 w (.cells #[.slice A0 m0 c0, .int .i64 r0] 24)
  have b1 := ab2 (w.alloc (.cells #[.slice A0 m0 c0, .int .i64 r0] 24)) (.cells #[.slice A1 m1 c1, .int .i64 r1] 24)
  have b2 := ab2 ((w.alloc (.cells #[.slice A0 m0 c0, .int .i64 r0] 24)).alloc (.cells #[.slice A1 m1 c1, .int .i64 r1] 24)) (.cells #[.slice none 0 0, .int .i64 0] 24)
  have b3 := ab2 (((w.alloc (.cells #[.slice A0 m0 c0, .int .i64 r0] 24)).alloc (.cells #[.slice A1 m1 c1, .int .i64 r1] 24)).alloc (.cells #[.slice none 0 0, .int .i64 0] 24)) (.cells #[.slice A0 m0 c0, .int .i64 r0, .slice A1 m1 c1, .int .i64 r1] 24)
  have X0 := (rb2 (rb2 (rb2 (nb2 w (.slice A0 m0 c0) (.int .i64 r0) 24) b1) b2) b3)
  have X1 := (rb2 (rb2 (nb2 (w.alloc (.cells #[.slice A0 m0 c0, .int .i64 r0] 24)) (.slice A1 m1 c1) (.int .i64 r1) 24) b2) b3)
  rw [show (w.alloc (.cells #[.slice A0 m0 c0, .int .i64 r0] 24)).heap.size = w.heap.size + 1 by simp] at X1
  have Y0 := (rb2 (nb2 ((w.alloc (.cells #[.slice A0 m0 c0, .int .i64 r0] 24)).alloc (.cells #[.slice A1 m1 c1, .int .i64 r1] 24)) (.slice none 0 0) (.int .i64 0) 24) b3)
  rw [show ((w.alloc (.cells #[.slice A0 m0 c0, .int .i64 r0] 24)).alloc (.cells #[.slice A1 m1 c1, .int .i64 r1] 24)).heap.size = w.heap.size + 1 + 1 by simp] at Y0
  have XL := Lib.hid (Blk.new (w := ((w.alloc (.cells #[.slice A0 m0 c0, .int .i64 r0] 24)).alloc (.cells #[.slice A1 m1 c1, .int .i64 r1] 24)).alloc (.cells #[.slice none 0 0, .int .i64 0] 24)) (H := w.heap.size + 1 + 1 + 1) (by simp) [.slice A0 m0 c0, .int .i64 r0, .slice A1 m1 c1, .int .i64 r1] 24)
  have HB1 := Lib.hid (((b0.trans (b1.mono b0.size)).trans (b2.mono (b0.trans (b1.mono b0.size)).size)).trans (b3.mono ((b0.trans (b1.mono b0.size)).trans (b2.mono (b0.trans (b1.mono b0.size)).size)).size))
  have K0 := rdok h0 HB1.out
  have K1 := rdok h1 HB1.out
  clear b0 b1 b2 b3
  have HC := Lib.hid (bad_checked 62 K0 K1 XL hc)
  obtain ⟨p0, q0, n0⟩ := xb2 X0
  obtain ⟨p1, q1, n1⟩ := xb2 X1
  go_enter Tryd.func19, Tryd.ntmps19
  go_wp2_with fail
  with_reducible refine HC.out.mono ?_
  rintro e w3 ⟨rfl, b3⟩
  have Y3 := rb2 Y0 b3
  have HB3 := btr HB1 b3 HB1.out.size
  clear b3
  obtain ⟨y0, y0f⟩ := Y3.out 0 (by omega)
  obtain ⟨y1, y1f⟩ := Y3.out 1 (by omega)
  go_wp2
  refine bodyPost_ret (v := .tuple #[.agg #[.slice none 0 0, .int .i64 0], .int .i64 20]) ?_ rfl ⟨rfl, ?_⟩
  · rw [results_cell_tmp rfl]
    go_simp
  · exact (HB3.out.setCell (by show w.heap.size ≤ w.heap.size + 1 + 1; omega) _).setCell (by show w.heap.size ≤ w.heap.size + 1 + 1; omega) _

set_option maxHeartbeats 2000000 in
set_option maxRecDepth 100000 in
theorem bad_xor {w : World} {A0 : Option Addr} {m0 c0 : Nat} {l0 : List Bi} {r0 : Int} {A1 : Option Addr} {m1 c1 : Nat} {l1 : List Bi} {r1 : Int} (h0 : Hid (DOk w ⟨A0, m0, c0, l0, r0⟩)) (h1 : Hid (DOk w ⟨A1, m1, c1, l1, r1⟩)) (hc : Hid (chkAll [(⟨A0, m0, c0, l0, r0⟩ : DA), ⟨A1, m1, c1, l1, r1⟩] = 20)) :
    Calls Tryd.prog 25 #[.agg #[.slice A0 m0 c0, .int .i64 r0], .agg #[.slice A1 m1 c1, .int .i64 r1]] w fun e w' => e = .returned (.tuple #[.agg #[.slice none 0 0, .int .i64 0], .int .i64 20]) ∧ Below w.heap.size w w' := by
  have b0 := ab2 w (.cells #[.slice A0 m0 c0, .int .i64 r0] 24)
  have b1 := ab2 (w.alloc (.cells #[.slice A0 m0 c0, .int .i64 r0] 24)) (.cells #[.slice A1 m1 c1, .int .i64 r1] 24)
  have b2 := ab2 ((w.alloc (.cells #[.slice A0 m0 c0, .int .i64 r0] 24)).alloc (.cells #[.slice A1 m1 c1, .int .i64 r1] 24)) (.cells #[.slice none 0 0, .int .i64 0] 24)
  have b3 := ab2 (((w.alloc (.cells #[.slice A0 m0 c0, .int .i64 r0] 24)).alloc (.cells #[.slice A1 m1 c1, .int .i64 r1] 24)).alloc (.cells #[.slice none 0 0, .int .i64 0] 24)) (.cells #[.slice A0 m0 c0, .int .i64 r0, .slice A1 m1 c1, .int .i64 r1] 24)
  have X0 := (rb2 (rb2 (rb2 (nb2 w (.slice A0 m0 c0) (.int .i64 r0) 24) b1) b2) b3)
  have X1 := (rb2 (rb2 (nb2 (w.alloc (.cells #[.slice A0 m0 c0, .int .i64 r0] 24)) (.slice A1 m1 c1) (.int .i64 r1) 24) b2) b3)
  rw [show (w.alloc (.cells #[.slice A0 m0 c0, .int .i64 r0] 24)).heap.size = w.heap.size + 1 by simp] at X1
  have Y0 := (rb2 (nb2 ((w.alloc (.cells #[.slice A0 m0 c0, .int .i64 r0] 24)).alloc (.cells #[.slice A1 m1 c1, .int .i64 r1] 24)) (.slice none 0 0) (.int .i64 0) 24) b3)
  rw [show ((w.alloc (.cells #[.slice A0 m0 c0, .int .i64 r0] 24)).alloc (.cells #[.slice A1 m1 c1, .int .i64 r1] 24)).heap.size = w.heap.size + 1 + 1 by simp] at Y0
  have XL := Lib.hid (Blk.new (w := ((w.alloc (.cells #[.slice A0 m0 c0, .int .i64 r0] 24)).alloc (.cells #[.slice A1 m1 c1, .int .i64 r1] 24)).alloc (.cells #[.slice none 0 0, .int .i64 0] 24)) (H := w.heap.size + 1 + 1 + 1) (by simp) [.slice A0 m0 c0, .int .i64 r0, .slice A1 m1 c1, .int .i64 r1] 24)
  have HB1 := Lib.hid (((b0.trans (b1.mono b0.size)).trans (b2.mono (b0.trans (b1.mono b0.size)).size)).trans (b3.mono ((b0.trans (b1.mono b0.size)).trans (b2.mono (b0.trans (b1.mono b0.size)).size)).size))
  have K0 := rdok h0 HB1.out
  have K1 := rdok h1 HB1.out
  clear b0 b1 b2 b3
  have HC := Lib.hid (bad_checked 69 K0 K1 XL hc)
  obtain ⟨p0, q0, n0⟩ := xb2 X0
  obtain ⟨p1, q1, n1⟩ := xb2 X1
  go_enter Tryd.func25, Tryd.ntmps25
  go_wp2_with fail
  with_reducible refine HC.out.mono ?_
  rintro e w3 ⟨rfl, b3⟩
  have Y3 := rb2 Y0 b3
  have HB3 := btr HB1 b3 HB1.out.size
  clear b3
  obtain ⟨y0, y0f⟩ := Y3.out 0 (by omega)
  obtain ⟨y1, y1f⟩ := Y3.out 1 (by omega)
  go_wp2
  refine bodyPost_ret (v := .tuple #[.agg #[.slice none 0 0, .int .i64 0], .int .i64 20]) ?_ rfl ⟨rfl, ?_⟩
  · rw [results_cell_tmp rfl]
    go_simp
  · exact (HB3.out.setCell (by show w.heap.size ≤ w.heap.size + 1 + 1; omega) _).setCell (by show w.heap.size ≤ w.heap.size + 1 + 1; omega) _

set_option maxHeartbeats 2000000 in
set_option maxRecDepth 100000 in
theorem bad_choose {w : World} {A0 : Option Addr} {m0 c0 : Nat} {l0 : List Bi} {r0 : Int} {A1 : Option Addr} {m1 c1 : Nat} {l1 : List Bi} {r1 : Int} {A2 : Option Addr} {m2 c2 : Nat} {l2 : List Bi} {r2 : Int} (h0 : Hid (DOk w ⟨A0, m0, c0, l0, r0⟩)) (h1 : Hid (DOk w ⟨A1, m1, c1, l1, r1⟩)) (h2 : Hid (DOk w ⟨A2, m2, c2, l2, r2⟩)) (hc : Hid (chkAll [(⟨A0, m0, c0, l0, r0⟩ : DA), ⟨A1, m1, c1, l1, r1⟩, ⟨A2, m2, c2, l2, r2⟩] = 20)) :
    Calls Tryd.prog 27 #[.agg #[.slice A0 m0 c0, .int .i64 r0], .agg #[.slice A1 m1 c1, .int .i64 r1], .agg #[.slice A2 m2 c2, .int .i64 r2]] w fun e w' => e = .returned (.tuple #[.agg #[.slice none 0 0, .int .i64 0], .int .i64 20]) ∧ Below w.heap.size w w' := by
  have b0 := ab2 w (.cells #[.slice A0 m0 c0, .int .i64 r0] 24)
  have b1 := ab2 (w.alloc (.cells #[.slice A0 m0 c0, .int .i64 r0] 24)) (.cells #[.slice A1 m1 c1, .int .i64 r1] 24)
  have b2 := ab2 ((w.alloc (.cells #[.slice A0 m0 c0, .int .i64 r0] 24)).alloc (.cells #[.slice A1 m1 c1, .int .i64 r1] 24)) (.cells #[.slice A2 m2 c2, .int .i64 r2] 24)
  have b3 := ab2 (((w.alloc (.cells #[.slice A0 m0 c0, .int .i64 r0] 24)).alloc (.cells #[.slice A1 m1 c1, .int .i64 r1] 24)).alloc (.cells #[.slice A2 m2 c2, .int .i64 r2] 24)) (.cells #[.slice none 0 0, .int .i64 0] 24)
  have b4 := ab2 ((((w.alloc (.cells #[.slice A0 m0 c0, .int .i64 r0] 24)).alloc (.cells #[.slice A1 m1 c1, .int .i64 r1] 24)).alloc (.cells #[.slice A2 m2 c2, .int .i64 r2] 24)).alloc (.cells #[.slice none 0 0, .int .i64 0] 24)) (.cells #[.slice A0 m0 c0, .int .i64 r0, .slice A1 m1 c1, .int .i64 r1, .slice A2 m2 c2, .int .i64 r2] 24)
  have X0 := (rb2 (rb2 (rb2 (rb2 (nb2 w (.slice A0 m0 c0) (.int .i64 r0) 24) b1) b2) b3) b4)
  have X1 := (rb2 (rb2 (rb2 (nb2 (w.alloc (.cells #[.slice A0 m0 c0, .int .i64 r0] 24)) (.slice A1 m1 c1) (.int .i64 r1) 24) b2) b3) b4)
  rw [show (w.alloc (.cells #[.slice A0 m0 c0, .int .i64 r0] 24)).heap.size = w.heap.size + 1 by simp] at X1
  have X2 := (rb2 (rb2 (nb2 ((w.alloc (.cells #[.slice A0 m0 c0, .int .i64 r0] 24)).alloc (.cells #[.slice A1 m1 c1, .int .i64 r1] 24)) (.slice A2 m2 c2) (.int .i64 r2) 24) b3) b4)
  rw [show ((w.alloc (.cells #[.slice A0 m0 c0, .int .i64 r0] 24)).alloc (.cells #[.slice A1 m1 c1, .int .i64 r1] 24)).heap.size = w.heap.size + 1 + 1 by simp] at X2
  have Y0 := (rb2 (nb2 (((w.alloc (.cells #[.slice A0 m0 c0, .int .i64 r0] 24)).alloc (.cells #[.slice A1 m1 c1, .int .i64 r1] 24)).alloc (.cells #[.slice A2 m2 c2, .int .i64 r2] 24)) (.slice none 0 0) (.int .i64 0) 24) b4)
  rw [show (((w.alloc (.cells #[.slice A0 m0 c0, .int .i64 r0] 24)).alloc (.cells #[.slice A1 m1 c1, .int .i64 r1] 24)).alloc (.cells #[.slice A2 m2 c2, .int .i64 r2] 24)).heap.size = w.heap.size + 1 + 1 + 1 by simp] at Y0
  have XL := Lib.hid (Blk.new (w := (((w.alloc (.cells #[.slice A0 m0 c0, .int .i64 r0] 24)).alloc (.cells #[.slice A1 m1 c1, .int .i64 r1] 24)).alloc (.cells #[.slice A2 m2 c2, .int .i64 r2] 24)).alloc (.cells #[.slice none 0 0, .int .i64 0] 24)) (H := w.heap.size + 1 + 1 + 1 + 1) (by simp) [.slice A0 m0 c0, .int .i64 r0, .slice A1 m1 c1, .int .i64 r1, .slice A2 m2 c2, .int .i64 r2] 24)
  have HB1 := Lib.hid ((((b0.trans (b1.mono b0.size)).trans (b2.mono (b0.trans (b1.mono b0.size)).size)).trans (b3.mono ((b0.trans (b1.mono b0.size)).trans (b2.mono (b0.trans (b1.mono b0.size)).size)).size)).trans (b4.mono (((b0.trans (b1.mono b0.size)).trans (b2.mono (b0.trans (b1.mono b0.size)).size)).trans (b3.mono ((b0.trans (b1.mono b0.size)).trans (b2.mono (b0.trans (b1.mono b0.size)).size)).size)).size))
  have K0 := rdok h0 HB1.out
  have K1 := rdok h1 HB1.out
  have K2 := rdok h2 HB1.out
  clear b0 b1 b2 b3 b4
  have HC := Lib.hid (trip_check K0 K1 K2 XL hc)
  obtain ⟨p0, q0, n0⟩ := xb2 X0
  obtain ⟨p1, q1, n1⟩ := xb2 X1
  obtain ⟨p2, q2, n2⟩ := xb2 X2
  go_enter Tryd.func27, Tryd.ntmps27
  go_wp2_with fail
  with_reducible refine HC.out.mono ?_
  rintro e w3 ⟨rfl, b3⟩
  have Y3 := rb2 Y0 b3
  have HB3 := btr HB1 b3 HB1.out.size
  clear b3
  obtain ⟨y0, y0f⟩ := Y3.out 0 (by omega)
  obtain ⟨y1, y1f⟩ := Y3.out 1 (by omega)
  go_wp2
  refine bodyPost_ret (v := .tuple #[.agg #[.slice none 0 0, .int .i64 0], .int .i64 20]) ?_ rfl ⟨rfl, ?_⟩
  · rw [results_cell_tmp rfl]
    go_simp
  · exact (HB3.out.setCell (by show w.heap.size ≤ w.heap.size + 1 + 1 + 1; omega) _).setCell (by show w.heap.size ≤ w.heap.size + 1 + 1 + 1; omega) _

set_option maxHeartbeats 2000000 in
set_option maxRecDepth 100000 in
theorem bad_never {w : World} (f : Nat) {A0 : Option Addr} {m0 c0 : Nat} {l0 : List Bi} {r0 : Int} {A1 : Option Addr} {m1 c1 : Nat} {l1 : List Bi} {r1 : Int} (h0 : Hid (DOk w ⟨A0, m0, c0, l0, r0⟩)) (h1 : Hid (DOk w ⟨A1, m1, c1, l1, r1⟩)) (hc : Hid (chkAll [(⟨A0, m0, c0, l0, r0⟩ : DA), ⟨A1, m1, c1, l1, r1⟩] = 20)) :
    Calls Tryd.prog 82 #[.func (.func f) #[] #[], .agg #[.slice A0 m0 c0, .int .i64 r0], .agg #[.slice A1 m1 c1, .int .i64 r1]] w fun e w' => e = .returned (.bool false) ∧ Below w.heap.size w w' := by
  have b0 := ab2 w (.cells #[.slice A0 m0 c0, .int .i64 r0] 24)
  have b1 := ab2 (w.alloc (.cells #[.slice A0 m0 c0, .int .i64 r0] 24)) (.cells #[.slice A1 m1 c1, .int .i64 r1] 24)
  have b2 := ab2 ((w.alloc (.cells #[.slice A0 m0 c0, .int .i64 r0] 24)).alloc (.cells #[.slice A1 m1 c1, .int .i64 r1] 24)) (.cells #[.slice A0 m0 c0, .int .i64 r0, .slice A1 m1 c1, .int .i64 r1] 24)
  have X0 := (rb2 (rb2 (nb2 w (.slice A0 m0 c0) (.int .i64 r0) 24) b1) b2)
  have X1 := (rb2 (nb2 (w.alloc (.cells #[.slice A0 m0 c0, .int .i64 r0] 24)) (.slice A1 m1 c1) (.int .i64 r1) 24) b2)
  rw [show (w.alloc (.cells #[.slice A0 m0 c0, .int .i64 r0] 24)).heap.size = w.heap.size + 1 by simp] at X1
  have XL := Lib.hid (Blk.new (w := (w.alloc (.cells #[.slice A0 m0 c0, .int .i64 r0] 24)).alloc (.cells #[.slice A1 m1 c1, .int .i64 r1] 24)) (H := w.heap.size + 1 + 1) (by simp) [.slice A0 m0 c0, .int .i64 r0, .slice A1 m1 c1, .int .i64 r1] 24)
  have HB1 := Lib.hid ((b0.trans (b1.mono b0.size)).trans (b2.mono (b0.trans (b1.mono b0.size)).size))
  have K0 := rdok h0 HB1.out
  have K1 := rdok h1 HB1.out
  clear b0 b1 b2
  have HC := Lib.hid (pair_check K0 K1 XL hc)
  obtain ⟨p0, q0, n0⟩ := xb2 X0
  obtain ⟨p1, q1, n1⟩ := xb2 X1
  go_enter Tryd.func82, Tryd.ntmps82
  go_wp2_with fail
  with_reducible refine HC.out.mono ?_
  rintro e w3 ⟨rfl, b3⟩
  have HB3 := btr HB1 b3 HB1.out.size
  clear b3
  go_wp2
  go_ret
  exact ⟨rfl, HB3.out⟩

set_option maxHeartbeats 2000000 in
set_option maxRecDepth 100000 in
theorem bad_within {w : World} {A0 : Option Addr} {m0 c0 : Nat} {l0 : List Bi} {r0 : Int} {A1 : Option Addr} {m1 c1 : Nat} {l1 : List Bi} {r1 : Int} (h0 : Hid (DOk w ⟨A0, m0, c0, l0, r0⟩)) (h1 : Hid (DOk w ⟨A1, m1, c1, l1, r1⟩)) (hc : Hid (chkAll [(⟨A0, m0, c0, l0, r0⟩ : DA), ⟨A1, m1, c1, l1, r1⟩] = 20)) :
    Calls Tryd.prog 31 #[.agg #[.slice A0 m0 c0, .int .i64 r0], .agg #[.slice A1 m1 c1, .int .i64 r1]] w fun e w' => e = .returned (.bool false) ∧ Below w.heap.size w w' := by
  have b0 := ab2 w (.cells #[.slice A0 m0 c0, .int .i64 r0] 24)
  have b1 := ab2 (w.alloc (.cells #[.slice A0 m0 c0, .int .i64 r0] 24)) (.cells #[.slice A1 m1 c1, .int .i64 r1] 24)
  have X0 := rb2 (nb2 w (.slice A0 m0 c0) (.int .i64 r0) 24) b1
  have X1 := nb2 (w.alloc (.cells #[.slice A0 m0 c0, .int .i64 r0] 24)) (.slice A1 m1 c1) (.int .i64 r1) 24
  rw [show (w.alloc (.cells #[.slice A0 m0 c0, .int .i64 r0] 24)).heap.size = w.heap.size + 1 by simp] at X1
  have HB1 := Lib.hid (b0.trans (b1.mono b0.size))
  have HC := Lib.hid (bad_never 83 (rdok h0 HB1.out) (rdok h1 HB1.out) hc)
  clear b0 b1
  obtain ⟨p0, q0, n0⟩ := xb2 X0
  obtain ⟨p1, q1, n1⟩ := xb2 X1
  go_enter Tryd.func31, Tryd.ntmps31
  go_wp2_with fail
  with_reducible refine HC.out.mono ?_
  rintro e w3 ⟨rfl, b3⟩
  have HB3 := btr HB1 b3 HB1.out.size
  clear b3
  go_wp2
  go_ret
  exact ⟨rfl, HB3.out⟩

set_option maxHeartbeats 2000000 in
set_option maxRecDepth 100000 in
theorem bad_disjoint {w : World} {A0 : Option Addr} {m0 c0 : Nat} {l0 : List Bi} {r0 : Int} {A1 : Option Addr} {m1 c1 : Nat} {l1 : List Bi} {r1 : Int} (h0 : Hid (DOk w ⟨A0, m0, c0, l0, r0⟩)) (h1 : Hid (DOk w ⟨A1, m1, c1, l1, r1⟩)) (hc : Hid (chkAll [(⟨A0, m0, c0, l0, r0⟩ : DA), ⟨A1, m1, c1, l1, r1⟩] = 20)) :
    Calls Tryd.prog 33 #[.agg #[.slice A0 m0 c0, .int .i64 r0], .agg #[.slice A1 m1 c1, .int .i64 r1]] w fun e w' => e = .returned (.bool false) ∧ Below w.heap.size w w' := by
  have b0 := ab2 w (.cells #[.slice A0 m0 c0, .int .i64 r0] 24)
  have b1 := ab2 (w.alloc (.cells #[.slice A0 m0 c0, .int .i64 r0] 24)) (.cells #[.slice A1 m1 c1, .int .i64 r1] 24)
  have X0 := rb2 (nb2 w (.slice A0 m0 c0) (.int .i64 r0) 24) b1
  have X1 := nb2 (w.alloc (.cells #[.slice A0 m0 c0, .int .i64 r0] 24)) (.slice A1 m1 c1) (.int .i64 r1) 24
  rw [show (w.alloc (.cells #[.slice A0 m0 c0, .int .i64 r0] 24)).heap.size = w.heap.size + 1 by simp] at X1
  have HB1 := Lib.hid (b0.trans (b1.mono b0.size))
  have HC := Lib.hid (bad_never 84 (rdok h0 HB1.out) (rdok h1 HB1.out) hc)
  clear b0 b1
  obtain ⟨p0, q0, n0⟩ := xb2 X0
  obtain ⟨p1, q1, n1⟩ := xb2 X1
  go_enter Tryd.func33, Tryd.ntmps33
  go_wp2_with fail
  with_reducible refine HC.out.mono ?_
  rintro e w3 ⟨rfl, b3⟩
  have HB3 := btr HB1 b3 HB1.out.size
  clear b3
  go_wp2
  go_ret
  exact ⟨rfl, HB3.out⟩

end Go.Proofs.YtmfinkaphglmjaaDoor
