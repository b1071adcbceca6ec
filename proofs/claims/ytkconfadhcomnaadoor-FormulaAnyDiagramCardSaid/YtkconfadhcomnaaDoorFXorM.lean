/-
  The reference's Xor of two valid diagrams: the result is a diagram.
-/
import Derived.Test.YtkconfadhcomnaaDoorNa
namespace Go.Proofs.YtkconfadhcomnaaDoor
open Go.RowKit Dg St
set_option linter.unusedVariables false
set_option linter.unusedSimpArgs false
attribute [local go_sem ↓] Go.wp_at_zero Go.wp_at_succ

set_option maxHeartbeats 8000000 in
set_option maxRecDepth 100000 in
theorem ropD {w : World} (op T : Nat) (bop : Bool → Bool → Bool) (hop : Hid (OpT op T bop)) {A0 : Option Addr} {m0 c0 : Nat} {l0 : List Bi} {r0 : Int} {A1 : Option Addr} {m1 c1 : Nat} {l1 : List Bi} {r1 : Int} (h0 : Hid (DOk w (⟨A0, m0, c0, l0, r0⟩ : DA))) (q0 : m0 ≤ 40) (h1 : Hid (DOk w (⟨A1, m1, c1, l1, r1⟩ : DA))) (q1 : m1 ≤ 40) (k0 : chk l0 r0 = 0) (k1 : chk l1 r1 = 0) :
    Calls Tryd.prog 54 #[.agg #[.slice A0 m0 c0, .int .i64 r0], .agg #[.slice A1 m1 c1, .int .i64 r1], .int .i64 (op : Int)] w fun e w' => BinOk w w' (fun x => bop (dset l0 r0 x) (dset l1 r1 x)) e := by
  have b0 := ab2 w (.cells #[.slice A0 m0 c0, .int .i64 r0] 40)
  have b1 := ab2 (w.alloc (.cells #[.slice A0 m0 c0, .int .i64 r0] 40)) (.cells #[.slice A1 m1 c1, .int .i64 r1] 40)
  have b2 := ab2 ((w.alloc (.cells #[.slice A0 m0 c0, .int .i64 r0] 40)).alloc (.cells #[.slice A1 m1 c1, .int .i64 r1] 40)) (.cells #[.slice none 0 0, .int .i64 0] 40)
  have b3 := ab2 (((w.alloc (.cells #[.slice A0 m0 c0, .int .i64 r0] 40)).alloc (.cells #[.slice A1 m1 c1, .int .i64 r1] 40)).alloc (.cells #[.slice none 0 0, .int .i64 0] 40)) (.cells #[.slice A0 m0 c0, .int .i64 r0, .slice A1 m1 c1, .int .i64 r1] 40)
  have X0 : Hid (Blk (w.alloc (.cells #[.slice A0 m0 c0, .int .i64 r0] 40)) (w.heap.size) 2 (fun i => ([.slice A0 m0 c0, .int .i64 r0] : List Value).getD i undef)) := Lib.hid (Blk.new (w := w) (H := w.heap.size) (by simp) [.slice A0 m0 c0, .int .i64 r0] 40)
  replace X0 : Hid (Blk ((w.alloc (.cells #[.slice A0 m0 c0, .int .i64 r0] 40)).alloc (.cells #[.slice A1 m1 c1, .int .i64 r1] 40)) (w.heap.size) 2 (fun i => ([.slice A0 m0 c0, .int .i64 r0] : List Value).getD i undef)) := Lib.hid (X0.out.below (by omega) b1)
  replace X0 : Hid (Blk (((w.alloc (.cells #[.slice A0 m0 c0, .int .i64 r0] 40)).alloc (.cells #[.slice A1 m1 c1, .int .i64 r1] 40)).alloc (.cells #[.slice none 0 0, .int .i64 0] 40)) (w.heap.size) 2 (fun i => ([.slice A0 m0 c0, .int .i64 r0] : List Value).getD i undef)) := Lib.hid (X0.out.below (by omega) b2)
  replace X0 : Hid (Blk ((((w.alloc (.cells #[.slice A0 m0 c0, .int .i64 r0] 40)).alloc (.cells #[.slice A1 m1 c1, .int .i64 r1] 40)).alloc (.cells #[.slice none 0 0, .int .i64 0] 40)).alloc (.cells #[.slice A0 m0 c0, .int .i64 r0, .slice A1 m1 c1, .int .i64 r1] 40)) (w.heap.size) 2 (fun i => ([.slice A0 m0 c0, .int .i64 r0] : List Value).getD i undef)) := Lib.hid (X0.out.below (by omega) b3)
  have X1 : Hid (Blk ((w.alloc (.cells #[.slice A0 m0 c0, .int .i64 r0] 40)).alloc (.cells #[.slice A1 m1 c1, .int .i64 r1] 40)) (w.heap.size + 1) 2 (fun i => ([.slice A1 m1 c1, .int .i64 r1] : List Value).getD i undef)) := Lib.hid (Blk.new (w := (w.alloc (.cells #[.slice A0 m0 c0, .int .i64 r0] 40))) (H := w.heap.size + 1) (by simp) [.slice A1 m1 c1, .int .i64 r1] 40)
  replace X1 : Hid (Blk (((w.alloc (.cells #[.slice A0 m0 c0, .int .i64 r0] 40)).alloc (.cells #[.slice A1 m1 c1, .int .i64 r1] 40)).alloc (.cells #[.slice none 0 0, .int .i64 0] 40)) (w.heap.size + 1) 2 (fun i => ([.slice A1 m1 c1, .int .i64 r1] : List Value).getD i undef)) := Lib.hid (X1.out.below (by omega) b2)
  replace X1 : Hid (Blk ((((w.alloc (.cells #[.slice A0 m0 c0, .int .i64 r0] 40)).alloc (.cells #[.slice A1 m1 c1, .int .i64 r1] 40)).alloc (.cells #[.slice none 0 0, .int .i64 0] 40)).alloc (.cells #[.slice A0 m0 c0, .int .i64 r0, .slice A1 m1 c1, .int .i64 r1] 40)) (w.heap.size + 1) 2 (fun i => ([.slice A1 m1 c1, .int .i64 r1] : List Value).getD i undef)) := Lib.hid (X1.out.below (by omega) b3)
  have X2 : Hid (Blk (((w.alloc (.cells #[.slice A0 m0 c0, .int .i64 r0] 40)).alloc (.cells #[.slice A1 m1 c1, .int .i64 r1] 40)).alloc (.cells #[.slice none 0 0, .int .i64 0] 40)) (w.heap.size + 1 + 1) 2 (fun i => ([.slice none 0 0, .int .i64 0] : List Value).getD i undef)) := Lib.hid (Blk.new (w := ((w.alloc (.cells #[.slice A0 m0 c0, .int .i64 r0] 40)).alloc (.cells #[.slice A1 m1 c1, .int .i64 r1] 40))) (H := w.heap.size + 1 + 1) (by simp) [.slice none 0 0, .int .i64 0] 40)
  replace X2 : Hid (Blk ((((w.alloc (.cells #[.slice A0 m0 c0, .int .i64 r0] 40)).alloc (.cells #[.slice A1 m1 c1, .int .i64 r1] 40)).alloc (.cells #[.slice none 0 0, .int .i64 0] 40)).alloc (.cells #[.slice A0 m0 c0, .int .i64 r0, .slice A1 m1 c1, .int .i64 r1] 40)) (w.heap.size + 1 + 1) 2 (fun i => ([.slice none 0 0, .int .i64 0] : List Value).getD i undef)) := Lib.hid (X2.out.below (by omega) b3)
  have X3 : Hid (Blk ((((w.alloc (.cells #[.slice A0 m0 c0, .int .i64 r0] 40)).alloc (.cells #[.slice A1 m1 c1, .int .i64 r1] 40)).alloc (.cells #[.slice none 0 0, .int .i64 0] 40)).alloc (.cells #[.slice A0 m0 c0, .int .i64 r0, .slice A1 m1 c1, .int .i64 r1] 40)) (w.heap.size + 1 + 1 + 1) 4 (fun i => ([.slice A0 m0 c0, .int .i64 r0, .slice A1 m1 c1, .int .i64 r1] : List Value).getD i undef)) := Lib.hid (Blk.new (w := (((w.alloc (.cells #[.slice A0 m0 c0, .int .i64 r0] 40)).alloc (.cells #[.slice A1 m1 c1, .int .i64 r1] 40)).alloc (.cells #[.slice none 0 0, .int .i64 0] 40))) (H := w.heap.size + 1 + 1 + 1) (by simp) [.slice A0 m0 c0, .int .i64 r0, .slice A1 m1 c1, .int .i64 r1] 40)
  have HB0 : Hid (Below w.heap.size w ((((w.alloc (.cells #[.slice A0 m0 c0, .int .i64 r0] 40)).alloc (.cells #[.slice A1 m1 c1, .int .i64 r1] 40)).alloc (.cells #[.slice none 0 0, .int .i64 0] 40)).alloc (.cells #[.slice A0 m0 c0, .int .i64 r0, .slice A1 m1 c1, .int .i64 r1] 40))) := Lib.hid (((b0.trans (b1.mono b0.size)).trans (b2.mono (b0.trans (b1.mono b0.size)).size)).trans (b3.mono ((b0.trans (b1.mono b0.size)).trans (b2.mono (b0.trans (b1.mono b0.size)).size)).size))
  have HW0 : Hid (((((w.alloc (.cells #[.slice A0 m0 c0, .int .i64 r0] 40)).alloc (.cells #[.slice A1 m1 c1, .int .i64 r1] 40)).alloc (.cells #[.slice none 0 0, .int .i64 0] 40)).alloc (.cells #[.slice A0 m0 c0, .int .i64 r0, .slice A1 m1 c1, .int .i64 r1] 40)).heap.size = w.heap.size + 1 + 1 + 1 + 1) := Lib.hid (by simp)
  clear b0 b1 b2 b3
  have HF : Hid (∀ W, Below w.heap.size w W → Blk W (w.heap.size + 1 + 1 + 1) 4 (fun i => ([.slice A0 m0 c0, .int .i64 r0, .slice A1 m1 c1, .int .i64 r1] : List Value).getD i undef) → Calls Tryd.prog 84 #[.slice (some ⟨w.heap.size + 1 + 1 + 1, 0, none⟩) 2 2] W fun e w' => e = .returned (.int .i64 (chkAll [(⟨A0, m0, c0, l0, r0⟩ : DA), (⟨A1, m1, c1, l1, r1⟩ : DA)])) ∧ Below W.heap.size W w') := Lib.hid (fun W hW hblk => pair_list (dkh h0 hW) q0 (dkh h1 hW) q1 (Lib.hid hblk))
  have hk : chkAll [(⟨A0, m0, c0, l0, r0⟩ : DA), (⟨A1, m1, c1, l1, r1⟩ : DA)] = 0 := chkAll_ok (by
    intro d hd
    simp only [List.mem_cons, List.not_mem_nil, or_false] at hd
    rcases hd with rfl | rfl
    · exact k0
    · exact k1)
  rw [hk] at HF
  have D0 := Lib.hid (dn_dset h0.out k0)
  have D1 := Lib.hid (dn_dset h1.out k1)
  have e0 := chk_nat k0
  have e1 := chk_nat k1
  clear k0 k1 h0 h1 hk
  generalize dset l0 r0 = f0 at *
  generalize dset l1 r1 = f1 at *
  generalize r0.toNat = n0 at *
  generalize r1.toNat = n1 at *
  subst e0
  subst e1
  have HSZ := Lib.hid (bin_small D0.out D1.out q0 q1 bop)
  have HC : Hid (∀ W, Below w.heap.size w W → Calls Tryd.prog 86 #[.agg #[.slice A0 m0 c0, .int .i64 (n0 : Int)], .agg #[.slice A1 m1 c1, .int .i64 (n1 : Int)], .int .i64 (op : Int)] W fun e w' => DiaOk W w' (fun x => bop (f0 x) (f1 x)) e) :=
    Lib.hid (fun W hW => rcombine_ok op T m0 c0 n0 m1 c1 n1 bop A0 A1 f0 f1 W hop (rdn D0 hW) (rdn D1 hW) (Lib.hid (by have : (m0 + 2) * (m1 + 2) ≤ 42 * 42 := Nat.mul_le_mul (by omega) (by omega); omega)) HSZ)
  clear D0 D1
  go_enter Tryd.func54, Tryd.ntmps54
  go_wp2_with fail
  generalize ((((w.alloc (.cells #[.slice A0 m0 c0, .int .i64 (n0 : Int)] 40)).alloc (.cells #[.slice A1 m1 c1, .int .i64 (n1 : Int)] 40)).alloc (.cells #[.slice none 0 0, .int .i64 0] 40)).alloc (.cells #[.slice A0 m0 c0, .int .i64 (n0 : Int), .slice A1 m1 c1, .int .i64 (n1 : Int)] 40)) = w1 at *
  with_reducible refine (HF.out w1 HB0.out X3.out).mono ?_
  rintro e w3 ⟨rfl, b3⟩
  replace X0 := rb2 X0 b3
  replace X1 := rb2 X1 b3
  replace X2 := rb2 X2 b3
  have HW3 : Hid (w.heap.size + 1 + 1 + 1 + 1 ≤ w3.heap.size) := Lib.hid (by have := HW0.out; have := b3.size; omega)
  have HB3 := btr HB0 b3 HB0.out.size
  clear b3 HB0 X3 HF HW0
  obtain ⟨x0, x1, xn⟩ := xb2 X0
  obtain ⟨u0, u1, un⟩ := xb2 X1
  go_wp2_with fail
  with_reducible refine (HC.out w3 HB3.out).mono ?_
  rintro e w6 ⟨⟨A9, m9, c9, r9, rfl, d9, f9⟩, b9⟩
  replace X2 := rb2 X2 b9
  have D9 := Lib.hid d9
  have F9 := Lib.hid (f9.mono (show w.heap.size + 1 + 1 + 1 + 1 ≤ _ from HW3.out))
  have HB6 := btr HB3 b9 HB3.out.size
  clear d9 f9 b9 HC x0 x1 xn u0 u1 un
  go_wp2_with fail
  with_reducible refine (rlimited_ok D9).mono ?_
  rintro e w7 ⟨rfl, d7, b7⟩
  replace X2 := rb2 X2 b7
  have D7 := Lib.hid d7
  have HB7 := btr HB6 b7 HB6.out.size
  clear d7 b7 D9
  obtain ⟨y0, y0f⟩ := X2.out 0 (by omega)
  obtain ⟨y1, y1f⟩ := X2.out 1 (by omega)
  go_wp2
  refine bodyPost_ret (v := .tuple #[.agg #[.slice A9 m9 c9, .int .i64 (r9 : Int)], .int .i64 0]) ?_ rfl ?_
  · rw [results_cell_tmp rfl]
    go_simp
  · exact ⟨⟨A9, m9, c9, r9, rfl, D7.out.put (F9.out.mono (by omega)) _ _, F9.out.mono (by omega)⟩, (HB7.out.setCell (by show w.heap.size ≤ w.heap.size + 1 + 1; omega) _).setCell (by show w.heap.size ≤ w.heap.size + 1 + 1; omega) _⟩

set_option maxHeartbeats 4000000 in
set_option maxRecDepth 100000 in
theorem rxorD {w : World} {A0 : Option Addr} {m0 c0 : Nat} {l0 : List Bi} {r0 : Int} {A1 : Option Addr} {m1 c1 : Nat} {l1 : List Bi} {r1 : Int} (h0 : Hid (DOk w (⟨A0, m0, c0, l0, r0⟩ : DA))) (q0 : m0 ≤ 40) (h1 : Hid (DOk w (⟨A1, m1, c1, l1, r1⟩ : DA))) (q1 : m1 ≤ 40) (k0 : chk l0 r0 = 0) (k1 : chk l1 r1 = 0) :
    Calls Tryd.prog 28 #[.agg #[.slice A0 m0 c0, .int .i64 r0], .agg #[.slice A1 m1 c1, .int .i64 r1]] w fun e w' => BinOk w w' (fun x => dset l0 r0 x != dset l1 r1 x) e := by
  have b0 := ab2 w (.cells #[.slice A0 m0 c0, .int .i64 r0] 40)
  have b1 := ab2 (w.alloc (.cells #[.slice A0 m0 c0, .int .i64 r0] 40)) (.cells #[.slice A1 m1 c1, .int .i64 r1] 40)
  have b2 := ab2 ((w.alloc (.cells #[.slice A0 m0 c0, .int .i64 r0] 40)).alloc (.cells #[.slice A1 m1 c1, .int .i64 r1] 40)) (.cells #[.slice none 0 0, .int .i64 0] 40)
  have X0 : Hid (Blk (w.alloc (.cells #[.slice A0 m0 c0, .int .i64 r0] 40)) (w.heap.size) 2 (fun i => ([.slice A0 m0 c0, .int .i64 r0] : List Value).getD i undef)) := Lib.hid (Blk.new (w := w) (H := w.heap.size) (by simp) [.slice A0 m0 c0, .int .i64 r0] 40)
  replace X0 : Hid (Blk ((w.alloc (.cells #[.slice A0 m0 c0, .int .i64 r0] 40)).alloc (.cells #[.slice A1 m1 c1, .int .i64 r1] 40)) (w.heap.size) 2 (fun i => ([.slice A0 m0 c0, .int .i64 r0] : List Value).getD i undef)) := Lib.hid (X0.out.below (by omega) b1)
  replace X0 : Hid (Blk (((w.alloc (.cells #[.slice A0 m0 c0, .int .i64 r0] 40)).alloc (.cells #[.slice A1 m1 c1, .int .i64 r1] 40)).alloc (.cells #[.slice none 0 0, .int .i64 0] 40)) (w.heap.size) 2 (fun i => ([.slice A0 m0 c0, .int .i64 r0] : List Value).getD i undef)) := Lib.hid (X0.out.below (by omega) b2)
  have X1 : Hid (Blk ((w.alloc (.cells #[.slice A0 m0 c0, .int .i64 r0] 40)).alloc (.cells #[.slice A1 m1 c1, .int .i64 r1] 40)) (w.heap.size + 1) 2 (fun i => ([.slice A1 m1 c1, .int .i64 r1] : List Value).getD i undef)) := Lib.hid (Blk.new (w := (w.alloc (.cells #[.slice A0 m0 c0, .int .i64 r0] 40))) (H := w.heap.size + 1) (by simp) [.slice A1 m1 c1, .int .i64 r1] 40)
  replace X1 : Hid (Blk (((w.alloc (.cells #[.slice A0 m0 c0, .int .i64 r0] 40)).alloc (.cells #[.slice A1 m1 c1, .int .i64 r1] 40)).alloc (.cells #[.slice none 0 0, .int .i64 0] 40)) (w.heap.size + 1) 2 (fun i => ([.slice A1 m1 c1, .int .i64 r1] : List Value).getD i undef)) := Lib.hid (X1.out.below (by omega) b2)
  have X2 : Hid (Blk (((w.alloc (.cells #[.slice A0 m0 c0, .int .i64 r0] 40)).alloc (.cells #[.slice A1 m1 c1, .int .i64 r1] 40)).alloc (.cells #[.slice none 0 0, .int .i64 0] 40)) (w.heap.size + 1 + 1) 2 (fun i => ([.slice none 0 0, .int .i64 0] : List Value).getD i undef)) := Lib.hid (Blk.new (w := ((w.alloc (.cells #[.slice A0 m0 c0, .int .i64 r0] 40)).alloc (.cells #[.slice A1 m1 c1, .int .i64 r1] 40))) (H := w.heap.size + 1 + 1) (by simp) [.slice none 0 0, .int .i64 0] 40)
  have HB0 : Hid (Below w.heap.size w (((w.alloc (.cells #[.slice A0 m0 c0, .int .i64 r0] 40)).alloc (.cells #[.slice A1 m1 c1, .int .i64 r1] 40)).alloc (.cells #[.slice none 0 0, .int .i64 0] 40))) := Lib.hid ((b0.trans (b1.mono b0.size)).trans (b2.mono (b0.trans (b1.mono b0.size)).size))
  have HW0 : Hid ((((w.alloc (.cells #[.slice A0 m0 c0, .int .i64 r0] 40)).alloc (.cells #[.slice A1 m1 c1, .int .i64 r1] 40)).alloc (.cells #[.slice none 0 0, .int .i64 0] 40)).heap.size = w.heap.size + 1 + 1 + 1) := Lib.hid (by simp)
  clear b0 b1 b2
  have HC : Hid (∀ W, Below w.heap.size w W → Calls Tryd.prog 54 #[.agg #[.slice A0 m0 c0, .int .i64 r0], .agg #[.slice A1 m1 c1, .int .i64 r1], .int .i64 2] W fun e w' => BinOk W w' (fun x => dset l0 r0 x != dset l1 r1 x) e) := Lib.hid (fun W hW => ropD 2 102 (fun p q => p != q) (Lib.hid opt_xor) (dkh h0 hW) q0 (dkh h1 hW) q1 k0 k1)
  clear h0 h1
  go_enter Tryd.func28, Tryd.ntmps28
  go_upto_region 1 with fail
  generalize (((w.alloc (.cells #[.slice A0 m0 c0, .int .i64 r0] 40)).alloc (.cells #[.slice A1 m1 c1, .int .i64 r1] 40)).alloc (.cells #[.slice none 0 0, .int .i64 0] 40)) = w1 at *
  obtain ⟨x0, x1, xn⟩ := xb2 X0
  obtain ⟨u0, u1, un⟩ := xb2 X1
  go_wp2_with fail
  with_reducible refine (HC.out w1 HB0.out).mono ?_
  rintro e w3 ⟨⟨A9, m9, c9, r9, rfl, d9, f9⟩, b9⟩
  replace X2 := rb2 X2 b9
  have HB3 := btr HB0 b9 HB0.out.size
  have D9 := Lib.hid d9
  have F9 := Lib.hid (f9.mono (show w.heap.size + 1 + 1 + 1 ≤ w1.heap.size by have := HW0.out; omega))
  clear d9 f9 b9 HC x0 x1 xn u0 u1 un
  obtain ⟨y0, y0f⟩ := X2.out 0 (by omega)
  obtain ⟨y1, y1f⟩ := X2.out 1 (by omega)
  go_wp2
  refine bodyPost_ret (v := .tuple #[.agg #[.slice A9 m9 c9, .int .i64 (r9 : Int)], .int .i64 0]) ?_ rfl ?_
  · rw [results_cell_tmp rfl]
    go_simp
  · exact ⟨⟨A9, m9, c9, r9, rfl, D9.out.put (F9.out.mono (by omega)) _ _, F9.out.mono (by omega)⟩, (HB3.out.setCell (by show w.heap.size ≤ w.heap.size + 1 + 1; omega) _).setCell (by show w.heap.size ≤ w.heap.size + 1 + 1; omega) _⟩

end Go.Proofs.YtkconfadhcomnaaDoor
