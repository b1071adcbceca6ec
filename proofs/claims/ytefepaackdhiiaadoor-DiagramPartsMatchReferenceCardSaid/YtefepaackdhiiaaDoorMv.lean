/-
  Plain mathematics and contracts of package diagram, several texts in one: DBad.
-/
import Derived.Test.YtefepaackdhiiaaDoorMt
import Derived.Test.YtefepaackdhiiaaDoorMg
import Derived.Test.YtefepaackdhiiaaDoorMh
namespace Go.Proofs.YtefepaackdhiiaaDoor
open Go.RowKit Dg St
attribute [local go_sem ↓] Go.wp_at_zero Go.wp_at_succ
def Bad (w : World) (A : Option Addr) (m c : Nat) (l : List Bi) (r : Int) : Prop := DOk w ⟨A, m, c, l, r⟩ ∧ chk l r = 20
theorem Bad.below {w w' : World} {A : Option Addr} {m c : Nat} {l : List Bi} {r : Int} (h : Bad w A m c l r) (hb : Below w.heap.size w w') : Bad w' A m c l r := ⟨h.1.below hb, h.2⟩
theorem rbad {w w' : World} {A : Option Addr} {m c : Nat} {l : List Bi} {r : Int} (h : Hid (Bad w A m c l r)) (hb : Below w.heap.size w w') : Hid (Bad w' A m c l r) := Lib.hid (h.out.below hb)
theorem bad_check {w : World} {A : Option Addr} {m c : Nat} {l : List Bi} {r : Int} (h : Hid (Bad w A m c l r)) :
    Calls Tryd.prog 22 #[.agg #[.slice A m c, .int .i64 r]] w fun e w' => e = .returned (.int .i64 20) ∧ Below w.heap.size w w' := by
  have h1 := h.out.1
  have := check_any l r m c A w (Lib.hid h1.rd) (Lib.hid h1.wi) (Lib.hid h1.len) h1.lm h1.mc (Lib.hid h1.ri)
  rwa [h.out.2] at this
theorem bad_with {w : World} {A : Option Addr} {m c : Nat} {l : List Bi} {r : Int} (v : Int) (h : Hid (Bad w A m c l r)) :
    Calls Tryd.prog 85 #[.agg #[.slice A m c, .int .i64 r], .int .i64 v] w fun e w' => e = .returned (.int .i64 20) ∧ Below w.heap.size w w' := by
  have := checkWith_any l r v m c A w (Lib.hid h.out.1)
  have e : chkWith l r v = 20 := by
    unfold chkWith
    rw [h.out.2]
    rfl
  rwa [e] at this
set_option maxHeartbeats 1000000 in
set_option maxRecDepth 100000 in
theorem bad_count {w : World} {A : Option Addr} {m c : Nat} {l : List Bi} {r : Int} (d : Int) (h : Hid (Bad w A m c l r)) :
    Calls Tryd.prog 39 #[.agg #[.slice A m c, .int .i64 r], .int .i64 d] w fun e w' => e = .returned (.tuple #[.slice none 0 0, .int .i64 20]) ∧ Below w.heap.size w w' := by
  have X0 := nb2 w (.slice A m c) (.int .i64 r) 24
  have ab := ab2 w (.cells #[.slice A m c, .int .i64 r] 24)
  have HC := Lib.hid (bad_check (rbad h ab))
  have HB1 := Lib.hid ab
  clear ab
  obtain ⟨p0, q0, n0⟩ := xb2 X0
  go_enter Tryd.func39, Tryd.ntmps39
  go_wp2_with fail
  with_reducible refine HC.out.mono ?_
  rintro e w3 ⟨rfl, b3⟩
  have HB3 := btr HB1 b3 HB1.out.size
  clear b3 p0 q0 n0
  go_wp2
  first | go_ret2 | go_ret
  exact ⟨rfl, HB3.out⟩
set_option maxHeartbeats 1000000 in
set_option maxRecDepth 100000 in
theorem bad_least {w : World} {A : Option Addr} {m c : Nat} {l : List Bi} {r : Int} (h : Hid (Bad w A m c l r)) :
    Calls Tryd.prog 41 #[.agg #[.slice A m c, .int .i64 r]] w fun e w' => e = .returned (.tuple #[.int .u64 0, .bool false]) ∧ Below w.heap.size w w' := by
  have X0 := nb2 w (.slice A m c) (.int .i64 r) 24
  have ab := ab2 w (.cells #[.slice A m c, .int .i64 r] 24)
  have HC := Lib.hid (bad_check (rbad h ab))
  have HB1 := Lib.hid ab
  clear ab
  obtain ⟨p0, q0, n0⟩ := xb2 X0
  go_enter Tryd.func41, Tryd.ntmps41
  go_wp2_with fail
  with_reducible refine HC.out.mono ?_
  rintro e w3 ⟨rfl, b3⟩
  have HB3 := btr HB1 b3 HB1.out.size
  clear b3 p0 q0 n0
  go_wp2
  first | go_ret2 | go_ret
  exact ⟨rfl, HB3.out⟩
set_option maxHeartbeats 1000000 in
set_option maxRecDepth 100000 in
theorem bad_support {w : World} {A : Option Addr} {m c : Nat} {l : List Bi} {r : Int} (h : Hid (Bad w A m c l r)) :
    Calls Tryd.prog 49 #[.agg #[.slice A m c, .int .i64 r]] w fun e w' => e = .returned (.slice none 0 0) ∧ Below w.heap.size w w' := by
  have X0 := nb2 w (.slice A m c) (.int .i64 r) 24
  have ab := ab2 w (.cells #[.slice A m c, .int .i64 r] 24)
  have HC := Lib.hid (bad_check (rbad h ab))
  have HB1 := Lib.hid ab
  clear ab
  obtain ⟨p0, q0, n0⟩ := xb2 X0
  go_enter Tryd.func49, Tryd.ntmps49
  go_wp2_with fail
  with_reducible refine HC.out.mono ?_
  rintro e w3 ⟨rfl, b3⟩
  have HB3 := btr HB1 b3 HB1.out.size
  clear b3 p0 q0 n0
  go_wp2
  first | go_ret2 | go_ret
  exact ⟨rfl, HB3.out⟩
set_option maxHeartbeats 1000000 in
set_option maxRecDepth 100000 in
theorem bad_holds {w : World} {A : Option Addr} {m c : Nat} {l : List Bi} {r : Int} (x : Int) (h : Hid (Bad w A m c l r)) :
    Calls Tryd.prog 46 #[.agg #[.slice A m c, .int .i64 r], .int .u64 x] w fun e w' => e = .returned (.bool false) ∧ Below w.heap.size w w' := by
  have X0 := nb2 w (.slice A m c) (.int .i64 r) 24
  have ab := ab2 w (.cells #[.slice A m c, .int .i64 r] 24)
  have HC := Lib.hid (bad_check (rbad h ab))
  have HB1 := Lib.hid ab
  clear ab
  obtain ⟨p0, q0, n0⟩ := xb2 X0
  go_enter Tryd.func46, Tryd.ntmps46
  go_wp2_with fail
  with_reducible refine HC.out.mono ?_
  rintro e w3 ⟨rfl, b3⟩
  have HB3 := btr HB1 b3 HB1.out.size
  clear b3 p0 q0 n0
  go_wp2
  first | go_ret2 | go_ret
  exact ⟨rfl, HB3.out⟩
set_option maxHeartbeats 1000000 in
set_option maxRecDepth 100000 in
theorem bad_not {w : World} {A : Option Addr} {m c : Nat} {l : List Bi} {r : Int} (h : Hid (Bad w A m c l r)) :
    Calls Tryd.prog 29 #[.agg #[.slice A m c, .int .i64 r]] w fun e w' => e = .returned (.tuple #[.agg #[.slice none 0 0, .int .i64 0], .int .i64 20]) ∧ Below w.heap.size w w' := by
  have b1 := ab2 w (.cells #[.slice A m c, .int .i64 r] 24)
  have b2 := ab2 (w.alloc (.cells #[.slice A m c, .int .i64 r] 24)) (.cells #[.slice none 0 0, .int .i64 0] 24)
  have X0 := rb2 (nb2 w (.slice A m c) (.int .i64 r) 24) b2
  have Y0 := nb2 (w.alloc (.cells #[.slice A m c, .int .i64 r] 24)) (.slice none 0 0) (.int .i64 0) 24
  rw [show (w.alloc (.cells #[.slice A m c, .int .i64 r] 24)).heap.size = w.heap.size + 1 by simp] at Y0
  have HC := Lib.hid (bad_check (rbad (rbad h b1) b2))
  have HB1 := Lib.hid (b1.trans (b2.mono b1.size))
  clear b1 b2
  obtain ⟨p0, q0, n0⟩ := xb2 X0
  go_enter Tryd.func29, Tryd.ntmps29
  go_wp2_with fail
  with_reducible refine HC.out.mono ?_
  rintro e w3 ⟨rfl, b3⟩
  have Y3 := rb2 Y0 b3
  have HB3 := btr HB1 b3 HB1.out.size
  clear b3 p0 q0 n0
  obtain ⟨y0, y0f⟩ := Y3.out 0 (by omega)
  obtain ⟨y1, y1f⟩ := Y3.out 1 (by omega)
  go_wp2
  refine bodyPost_ret (v := .tuple #[.agg #[.slice none 0 0, .int .i64 0], .int .i64 20]) ?_ rfl ⟨rfl, ?_⟩
  · rw [results_cell_tmp rfl]
    go_simp
  · exact (HB3.out.setCell (by simp) _).setCell (by simp) _
set_option maxHeartbeats 1000000 in
set_option maxRecDepth 100000 in
theorem bad_restrict {w : World} {A : Option Addr} {m c : Nat} {l : List Bi} {r : Int} (v : Int) (b : Bool) (h : Hid (Bad w A m c l r)) :
    Calls Tryd.prog 35 #[.agg #[.slice A m c, .int .i64 r], .int .i64 v, .bool b] w fun e w' => e = .returned (.tuple #[.agg #[.slice none 0 0, .int .i64 0], .int .i64 20]) ∧ Below w.heap.size w w' := by
  have b1 := ab2 w (.cells #[.slice A m c, .int .i64 r] 24)
  have b2 := ab2 (w.alloc (.cells #[.slice A m c, .int .i64 r] 24)) (.cells #[.slice none 0 0, .int .i64 0] 24)
  have X0 := rb2 (nb2 w (.slice A m c) (.int .i64 r) 24) b2
  have Y0 := nb2 (w.alloc (.cells #[.slice A m c, .int .i64 r] 24)) (.slice none 0 0) (.int .i64 0) 24
  rw [show (w.alloc (.cells #[.slice A m c, .int .i64 r] 24)).heap.size = w.heap.size + 1 by simp] at Y0
  have HC := Lib.hid (bad_with v (rbad (rbad h b1) b2))
  have HB1 := Lib.hid (b1.trans (b2.mono b1.size))
  clear b1 b2
  obtain ⟨p0, q0, n0⟩ := xb2 X0
  go_enter Tryd.func35, Tryd.ntmps35
  go_wp2_with fail
  with_reducible refine HC.out.mono ?_
  rintro e w3 ⟨rfl, b3⟩
  have Y3 := rb2 Y0 b3
  have HB3 := btr HB1 b3 HB1.out.size
  clear b3 p0 q0 n0
  obtain ⟨y0, y0f⟩ := Y3.out 0 (by omega)
  obtain ⟨y1, y1f⟩ := Y3.out 1 (by omega)
  go_wp2
  refine bodyPost_ret (v := .tuple #[.agg #[.slice none 0 0, .int .i64 0], .int .i64 20]) ?_ rfl ⟨rfl, ?_⟩
  · rw [results_cell_tmp rfl]
    go_simp
  · exact (HB3.out.setCell (by simp) _).setCell (by simp) _
set_option maxHeartbeats 1000000 in
set_option maxRecDepth 100000 in
theorem bad_exists {w : World} {A : Option Addr} {m c : Nat} {l : List Bi} {r : Int} (v : Int) (h : Hid (Bad w A m c l r)) :
    Calls Tryd.prog 37 #[.agg #[.slice A m c, .int .i64 r], .int .i64 v] w fun e w' => e = .returned (.tuple #[.agg #[.slice none 0 0, .int .i64 0], .int .i64 20]) ∧ Below w.heap.size w w' := by
  have b1 := ab2 w (.cells #[.slice A m c, .int .i64 r] 24)
  have b2 := ab2 (w.alloc (.cells #[.slice A m c, .int .i64 r] 24)) (.cells #[.slice none 0 0, .int .i64 0] 24)
  have X0 := rb2 (nb2 w (.slice A m c) (.int .i64 r) 24) b2
  have Y0 := nb2 (w.alloc (.cells #[.slice A m c, .int .i64 r] 24)) (.slice none 0 0) (.int .i64 0) 24
  rw [show (w.alloc (.cells #[.slice A m c, .int .i64 r] 24)).heap.size = w.heap.size + 1 by simp] at Y0
  have HC := Lib.hid (bad_with v (rbad (rbad h b1) b2))
  have HB1 := Lib.hid (b1.trans (b2.mono b1.size))
  clear b1 b2
  obtain ⟨p0, q0, n0⟩ := xb2 X0
  go_enter Tryd.func37, Tryd.ntmps37
  go_wp2_with fail
  with_reducible refine HC.out.mono ?_
  rintro e w3 ⟨rfl, b3⟩
  have Y3 := rb2 Y0 b3
  have HB3 := btr HB1 b3 HB1.out.size
  clear b3 p0 q0 n0
  obtain ⟨y0, y0f⟩ := Y3.out 0 (by omega)
  obtain ⟨y1, y1f⟩ := Y3.out 1 (by omega)
  go_wp2
  refine bodyPost_ret (v := .tuple #[.agg #[.slice none 0 0, .int .i64 0], .int .i64 20]) ?_ rfl ⟨rfl, ?_⟩
  · rw [results_cell_tmp rfl]
    go_simp
  · exact (HB3.out.setCell (by simp) _).setCell (by simp) _
end Go.Proofs.YtefepaackdhiiaaDoor
