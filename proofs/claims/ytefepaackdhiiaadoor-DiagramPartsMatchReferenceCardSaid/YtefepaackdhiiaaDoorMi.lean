/-
  Plain mathematics and contracts of package diagram, several texts in one: DSan.
-/
import Derived.Test.YtefepaackdhiiaaDoorMh
namespace Go.Proofs.YtefepaackdhiiaaDoor
open Go.RowKit Dg St
theorem s_var (v : Nat) (V : Int) (hV : V = (v : Int)) (w : World) (hv : conB V = true) (h64 : v < 64) : Calls Tryd.prog 43 #[.int .i64 V] w (fun e w' => LitOk w w' (fun c => c v) 1 2 2 e) := by
  subst hV
  refine (var_ok v w hv).mono ?_
  rintro e w' ⟨A, rfl, hr, hb⟩
  have hc := cn_var h64
  exact ⟨A, 1, rfl, ⟨by rw [hc]; exact hr, by rw [hc]; rfl, by rw [hc], Nat.le_refl _, by omega, d64_var h64⟩, hb⟩
section
variable {w : World} {A A' : Option Addr} {c c' : Nat}
theorem s_and (h0 : Hid (Dn w A 1 c 2 (fun c => c 0))) (h1 : Hid (Dn w A' 1 c' 2 (fun c => c 1))) (hin : Hid (Ins w 0)) : Calls Tryd.prog 17 #[.agg #[.slice A 1 c, .int .i64 2], .agg #[.slice A' 1 c', .int .i64 2]] w (fun e w' => LitOk w w' (fun c => c 0 && c 1) 2 3 3 e) :=
  (and_ok 1 c 1 c' 2 2 A A' _ _ w h0 h1 hin (Lib.hid (by rw [cn_and01]; decide)) (Lib.hid (by decide))).mono (fun _ _ h => h.lit cn_and01 rfl rfl)
theorem s_or (h0 : Hid (Dn w A 1 c 2 (fun c => c 0))) (h1 : Hid (Dn w A' 1 c' 2 (fun c => c 1))) (hin : Hid (Ins w 0)) : Calls Tryd.prog 19 #[.agg #[.slice A 1 c, .int .i64 2], .agg #[.slice A' 1 c', .int .i64 2]] w (fun e w' => LitOk w w' (fun c => c 0 || c 1) 2 3 3 e) :=
  (or_ok 1 c 1 c' 2 2 A A' _ _ w h0 h1 hin (Lib.hid (by rw [cn_or01]; decide)) (Lib.hid (by decide))).mono (fun _ _ h => h.lit cn_or01 rfl rfl)
theorem s_xor (h0 : Hid (Dn w A 1 c 2 (fun c => c 0))) (h1 : Hid (Dn w A' 1 c' 2 (fun c => c 1))) (hin : Hid (Ins w 0)) : Calls Tryd.prog 25 #[.agg #[.slice A 1 c, .int .i64 2], .agg #[.slice A' 1 c', .int .i64 2]] w (fun e w' => LitOk w w' (fun c => c 0 != c 1) 3 4 4 e) :=
  (xor_ok 1 c 1 c' 2 2 A A' _ _ w h0 h1 hin (Lib.hid (by rw [cn_xor01]; decide)) (Lib.hid (by decide))).mono (fun _ _ h => h.lit cn_xor01 rfl rfl)
theorem s_not (h0 : Hid (Dn w A 1 c 2 (fun c => c 0))) : Calls Tryd.prog 29 #[.agg #[.slice A 1 c, .int .i64 2]] w (fun e w' => LitOk w w' (fun c => !c 0) 1 2 2 e) :=
  (not_ok 1 c 2 A _ w h0).mono (fun _ _ h => h.lit cn_nx0 rfl rfl)
theorem or_high : (fun x : Cfg => (fun c : Cfg => c 0 || c 1) (Dg.set x 0 true)) = fun _ => true := by funext x; simp [Dg.set]
theorem or_low : (fun x : Cfg => (fun c : Cfg => c 0 || c 1) (Dg.set x 0 false)) = fun c => c 1 := by funext x; simp [Dg.set]
theorem and_some : (fun x : Cfg => (fun c : Cfg => c 0 && c 1) (Dg.set x 1 false) || (fun c : Cfg => c 0 && c 1) (Dg.set x 1 true)) = fun c => c 0 := by funext x; simp [Dg.set]
theorem s_high (h0 : Hid (Dn w A 2 c 3 (fun c => c 0 || c 1))) (hin : Hid (Ins w 0)) : Calls Tryd.prog 35 #[.agg #[.slice A 2 c, .int .i64 3], .int .i64 0, .bool true] w (fun e w' => LitOk w w' (fun _ => true) 0 1 1 e) :=
  (restrict_ok 2 c 3 0 A true _ w h0 (Lib.hid (by decide)) hin (Lib.hid (by rw [or_high, cn_const]; decide)) (Lib.hid (by decide))).mono (fun _ _ h => (h.congr or_high).lit (cn_const true) rfl rfl)
theorem s_low (h0 : Hid (Dn w A 2 c 3 (fun c => c 0 || c 1))) (hin : Hid (Ins w 0)) : Calls Tryd.prog 35 #[.agg #[.slice A 2 c, .int .i64 3], .int .i64 0, .bool false] w (fun e w' => LitOk w w' (fun c => c 1) 1 2 2 e) :=
  (restrict_ok 2 c 3 0 A false _ w h0 (Lib.hid (by decide)) hin (Lib.hid (by rw [or_low, cn_x1]; decide)) (Lib.hid (by decide))).mono (fun _ _ h => (h.congr or_low).lit cn_x1 rfl rfl)
theorem s_some (h0 : Hid (Dn w A 2 c 3 (fun c => c 0 && c 1))) (hin : Hid (Ins w 0)) : Calls Tryd.prog 37 #[.agg #[.slice A 2 c, .int .i64 3], .int .i64 1] w (fun e w' => LitOk w w' (fun c => c 0) 1 2 2 e) :=
  (exists_ok 2 c 3 1 A _ w h0 (Lib.hid (by decide)) hin (Lib.hid (by rw [and_some, cn_x0]; decide)) (Lib.hid (by decide))).mono (fun _ _ h => (h.congr and_some).lit cn_x0 rfl rfl)
theorem or_vars (d : Nat) (hd : 2 ≤ d) : ∀ k, k < 2 → bv (cn (fun c => c 0 || c 1)).1 k < d := by
  intro k hk
  rw [cn_or01]
  obtain rfl | rfl : k = 0 ∨ k = 1 := by omega
  · show 1 < d; omega
  · show 0 < d; omega
theorem cnt_or2 : cnt 2 (fun c => c 0 || c 1) = 3 := by decide
theorem cnt_or3 : cnt 3 (fun c => c 0 || c 1) = 6 := by decide
def OneOk (w w' : World) (N : Nat) (e : Ending) : Prop := ∃ b o c, e = .returned (.tuple #[.slice (some ⟨b, o, none⟩) 1 c, .int .i64 0]) ∧ w'.cell? ⟨b, o, none⟩ = some (.int .u32 (N : Int)) ∧ Below w.heap.size w w'
theorem s_count (d N : Nat) (hd : 2 ≤ d) (hd2 : d ≤ 64) (hN : cnt d (fun c => c 0 || c 1) = N) (h1 : 0 < N) (h2 : N < 4294967296) (h0 : Hid (Dn w A 2 c 3 (fun c => c 0 || c 1))) : Calls Tryd.prog 39 #[.agg #[.slice A 2 c, .int .i64 3], .int .i64 (d : Int)] w (fun e w' => OneOk w w' N e) := by
  refine (count_br 2 c 3 d A _ w h0 hd2 (by omega) (by omega) (Lib.hid (or_vars d hd))).mono ?_
  rintro e w' ⟨⟨v, rfl, hn⟩, hb⟩
  rw [hN] at hn
  have hdg : Nn.Nt.dg N = [N] := by rw [Nn.Nt.dg_pos (by omega), Nat.mod_eq_of_lt h2, Nat.div_eq_of_lt h2, Nn.Nt.dg_zero]
  obtain ⟨A, c, rfl, _, hr⟩ := hn
  rw [hdg] at hr ⊢
  obtain ⟨b, o, rfl, _, hc⟩ := hr (by simp)
  exact ⟨b, o, c, rfl, hc 0 (by simp), hb⟩
theorem s_few (h0 : Hid (Dn w A 2 c 3 (fun c => c 0 || c 1))) : Calls Tryd.prog 39 #[.agg #[.slice A 2 c, .int .i64 3], .int .i64 1] w (fun e w' => e = .returned (.tuple #[.slice none 0 0, .int .i64 1]) ∧ Below w.heap.size w w') :=
  count_few 2 c 3 1 A _ w h0 (by omega) (Lib.hid ⟨0, by omega, by rw [cn_or01]; decide⟩)
theorem s_least {m r x : Nat} {R : Int} {f : Cfg → Bool} (h0 : Hid (Dn w A m c r f)) (hR : R = (r : Int)) (hr : r ≠ 0) (hx : IsL f x) : Calls Tryd.prog 41 #[.agg #[.slice A m c, .int .i64 R]] w (fun e w' => e = .returned (.tuple #[.int .u64 (x : Int), .bool true]) ∧ Below w.heap.size w w') := by
  subst hR
  refine (least_some m c r A f w h0 (Lib.hid hr)).mono ?_
  rintro e w' ⟨⟨y, rfl, hy, _⟩, hb⟩
  exact ⟨by rw [Nat.le_antisymm (hy.2 x hx.1) (hx.2 y hy.1)], hb⟩
theorem isl_of {f : Cfg → Bool} {x : Nat} (h : f (cf x) = true) (hl : ∀ y, y < x → f (cf y) = false) : IsL f x := ⟨h, fun y hy => Nat.le_of_not_lt (fun k => by rw [hl y k] at hy; cases hy)⟩
theorem isl_xor : IsL (fun c => c 0 != c 1) 1 := isl_of (by decide) (fun y hy => by
  obtain rfl : y = 0 := by omega
  decide)
theorem isl_and : IsL (fun c => c 0 && c 1) 3 := isl_of (by decide) (fun y hy => by
  obtain rfl | rfl | rfl : y = 0 ∨ y = 1 ∨ y = 2 := by omega
  all_goals decide)
theorem isl_not : IsL (fun c => !c 0) 0 := isl_of (by decide) (fun y hy => by omega)
theorem s_check (M : List Br) (R : Int) (n : Nat) (hn : M.length = n) (hw : Wi (up M)) (hR : I64 R) (hl : n ≤ 9223372036854775800) (hr : Hid (Rd w w.heap.size A (up M))) (hc : chk (up M) R = 20) : Calls Tryd.prog 22 #[.agg #[.slice A n n, .int .i64 R]] w (fun e w' => e = .returned (.int .i64 20) ∧ Below w.heap.size w w') := by
  have := check_any (up M) R n n A w hr (Lib.hid hw) (Lib.hid (by rw [up_len, hn])) hl (Nat.le_refl _) (Lib.hid hR)
  rwa [hc] at this
theorem s_holds {m r x : Nat} {R X : Int} {f : Cfg → Bool} (h0 : Hid (Dn w A m c r f)) (hR : R = (r : Int)) (hX : X = (x : Int)) (hx : x < 18446744073709551616) (b : Bool) (hb : f (cf x) = b) : Calls Tryd.prog 46 #[.agg #[.slice A m c, .int .i64 R], .int .u64 X] w (fun e w' => e = .returned (.bool b) ∧ Below w.heap.size w w') := by
  subst hR
  subst hX
  have hd := h0.out.den
  refine (holds_ok A c m r x _ w (Lib.hid h0.out.rd) (Lib.hid h0.out.valid) (Lib.hid h0.out.len) h0.out.lm h0.out.mc hx).mono ?_
  rintro e w' ⟨rfl, hb'⟩
  refine ⟨ret_bool ?_, hb'⟩
  rw [hd, ← hb]
  rfl
end
theorem rz {w w' : World} {a : Addr} {v : Value} (h : Hid (w.cell? a = some v)) (b : Below w.heap.size w w') : Hid (w'.cell? a = some v) := Lib.hid ((b.cell (p := a) (block_lt_of_cell h.out)).trans h.out)
set_option maxHeartbeats 8000000 in
set_option maxRecDepth 100000 in
theorem sanity_ok (w : World) (HIN : Hid (Ins w 0)) : Calls Tryd.prog 15 #[] w fun e w' => e = .returned (.bool true) ∧ Below w.heap.size w w' := by
  have B0 : Hid (Below w.heap.size w w) := Lib.hid (Below.refl _ _)
  go_enter Tryd.func15, Tryd.ntmps15
  go_wp2_with fail
  refine (s_var 0 0 rfl _ (by decide) (by omega)).mono ?_
  rintro e w1 ⟨A1, c1, rfl, d1, b1⟩
  replace HIN := rin HIN b1
  have B1 := btr B0 b1 B0.out.size
  clear B0 b1
  have D_x := Lib.hid d1
  clear d1
  go_wp2_with fail
  have a := ab2 w1 (.cells #[.slice A1 1 c1, .int .i64 2] 24)
  replace HIN := rin HIN a
  replace D_x := rdn D_x a
  have X_x := nb2 w1 (.slice A1 1 c1) (.int .i64 2) 24
  have E1 := btr B1 a B1.out.size
  clear B1 a
  refine (s_var 1 1 rfl _ (by decide) (by omega)).mono ?_
  rintro e w2 ⟨A2, c2, rfl, d2, b2⟩
  replace HIN := rin HIN b2
  replace D_x := rdn D_x b2
  replace X_x := rb2 X_x b2
  have B2 := btr E1 b2 E1.out.size
  clear E1 b2
  have D_y := Lib.hid d2
  clear d2
  go_wp2_with fail
  have a := ab2 w2 (.cells #[.slice A2 1 c2, .int .i64 2] 24)
  replace HIN := rin HIN a
  replace D_x := rdn D_x a
  replace X_x := rb2 X_x a
  replace D_y := rdn D_y a
  have X_y := nb2 w2 (.slice A2 1 c2) (.int .i64 2) 24
  have E2 := btr B2 a B2.out.size
  clear B2 a
  refine (var_bad 64 _ (by decide)).mono ?_
  rintro e w3 ⟨rfl, b3⟩
  replace HIN := rin HIN b3
  replace D_x := rdn D_x b3
  replace X_x := rb2 X_x b3
  replace D_y := rdn D_y b3
  replace X_y := rb2 X_y b3
  have B3 := btr E2 b3 E2.out.size
  clear E2 b3
  obtain ⟨px, qx, nx⟩ := xb2 X_x
  obtain ⟨py, qy, ny⟩ := xb2 X_y
  go_wp2_with fail
  clear px qx nx py qy ny
  have a := ab2 w3 (.cells #[.slice none 0 0, .int .i64 0] 24)
  replace HIN := rin HIN a
  replace D_x := rdn D_x a
  replace X_x := rb2 X_x a
  replace D_y := rdn D_y a
  replace X_y := rb2 X_y a
  have E3 := btr B3 a B3.out.size
  clear B3 a
  refine (s_and D_x D_y HIN).mono ?_
  rintro e w4 ⟨A4, c4, rfl, d4, b4⟩
  replace HIN := rin HIN b4
  replace D_x := rdn D_x b4
  replace X_x := rb2 X_x b4
  replace D_y := rdn D_y b4
  replace X_y := rb2 X_y b4
  have B4 := btr E3 b4 E3.out.size
  clear E3 b4
  have D_and := Lib.hid d4
  clear d4
  obtain ⟨px, qx, nx⟩ := xb2 X_x
  obtain ⟨py, qy, ny⟩ := xb2 X_y
  go_wp2_with fail
  clear px qx nx py qy ny
  have a := ab2 w4 (.cells #[.slice A4 2 c4, .int .i64 3] 24)
  replace HIN := rin HIN a
  replace D_x := rdn D_x a
  replace X_x := rb2 X_x a
  replace D_y := rdn D_y a
  replace X_y := rb2 X_y a
  replace D_and := rdn D_and a
  have X_and := nb2 w4 (.slice A4 2 c4) (.int .i64 3) 24
  have E4 := btr B4 a B4.out.size
  clear B4 a
  refine (s_or D_x D_y HIN).mono ?_
  rintro e w5 ⟨A5, c5, rfl, d5, b5⟩
  replace HIN := rin HIN b5
  replace D_x := rdn D_x b5
  replace X_x := rb2 X_x b5
  replace D_y := rdn D_y b5
  replace X_y := rb2 X_y b5
  replace D_and := rdn D_and b5
  replace X_and := rb2 X_and b5
  have B5 := btr E4 b5 E4.out.size
  clear E4 b5
  have D_or := Lib.hid d5
  clear d5
  obtain ⟨px, qx, nx⟩ := xb2 X_x
  obtain ⟨py, qy, ny⟩ := xb2 X_y
  go_wp2_with fail
  clear px qx nx py qy ny
  have a := ab2 w5 (.cells #[.slice A5 2 c5, .int .i64 3] 24)
  replace HIN := rin HIN a
  replace D_x := rdn D_x a
  replace X_x := rb2 X_x a
  replace D_y := rdn D_y a
  replace X_y := rb2 X_y a
  replace D_and := rdn D_and a
  replace X_and := rb2 X_and a
  replace D_or := rdn D_or a
  have X_or := nb2 w5 (.slice A5 2 c5) (.int .i64 3) 24
  have E5 := btr B5 a B5.out.size
  clear B5 a
  refine (s_xor D_x D_y HIN).mono ?_
  rintro e w6 ⟨A6, c6, rfl, d6, b6⟩
  replace HIN := rin HIN b6
  replace D_x := rdn D_x b6
  replace X_x := rb2 X_x b6
  replace D_y := rdn D_y b6
  replace X_y := rb2 X_y b6
  replace D_and := rdn D_and b6
  replace X_and := rb2 X_and b6
  replace D_or := rdn D_or b6
  replace X_or := rb2 X_or b6
  have B6 := btr E5 b6 E5.out.size
  clear E5 b6
  have D_xor := Lib.hid d6
  clear d6
  obtain ⟨px, qx, nx⟩ := xb2 X_x
  go_wp2_with fail
  clear px qx nx
  have a := ab2 w6 (.cells #[.slice A6 3 c6, .int .i64 4] 24)
  replace HIN := rin HIN a
  replace D_x := rdn D_x a
  replace X_x := rb2 X_x a
  replace D_y := rdn D_y a
  replace X_y := rb2 X_y a
  replace D_and := rdn D_and a
  replace X_and := rb2 X_and a
  replace D_or := rdn D_or a
  replace X_or := rb2 X_or a
  replace D_xor := rdn D_xor a
  have X_xor := nb2 w6 (.slice A6 3 c6) (.int .i64 4) 24
  have E6 := btr B6 a B6.out.size
  clear B6 a
  refine (s_not D_x).mono ?_
  rintro e w7 ⟨A7, c7, rfl, d7, b7⟩
  replace HIN := rin HIN b7
  replace D_x := rdn D_x b7
  replace X_x := rb2 X_x b7
  replace D_y := rdn D_y b7
  replace X_y := rb2 X_y b7
  replace D_and := rdn D_and b7
  replace X_and := rb2 X_and b7
  replace D_or := rdn D_or b7
  replace X_or := rb2 X_or b7
  replace D_xor := rdn D_xor b7
  replace X_xor := rb2 X_xor b7
  have B7 := btr E6 b7 E6.out.size
  clear E6 b7
  have D_not := Lib.hid d7
  clear d7
  obtain ⟨por, qor, nor⟩ := xb2 X_or
  go_wp2_with fail
  clear por qor nor
  have a := ab2 w7 (.cells #[.slice A7 1 c7, .int .i64 2] 24)
  replace HIN := rin HIN a
  replace D_x := rdn D_x a
  replace X_x := rb2 X_x a
  replace D_y := rdn D_y a
  replace X_y := rb2 X_y a
  replace D_and := rdn D_and a
  replace X_and := rb2 X_and a
  replace D_or := rdn D_or a
  replace X_or := rb2 X_or a
  replace D_xor := rdn D_xor a
  replace X_xor := rb2 X_xor a
  replace D_not := rdn D_not a
  have X_not := nb2 w7 (.slice A7 1 c7) (.int .i64 2) 24
  have E7 := btr B7 a B7.out.size
  clear B7 a
  refine (s_high D_or HIN).mono ?_
  rintro e w8 ⟨A8, c8, rfl, d8, b8⟩
  replace HIN := rin HIN b8
  replace D_x := rdn D_x b8
  replace X_x := rb2 X_x b8
  replace D_y := rdn D_y b8
  replace X_y := rb2 X_y b8
  replace D_and := rdn D_and b8
  replace X_and := rb2 X_and b8
  replace D_or := rdn D_or b8
  replace X_or := rb2 X_or b8
  replace D_xor := rdn D_xor b8
  replace X_xor := rb2 X_xor b8
  replace D_not := rdn D_not b8
  replace X_not := rb2 X_not b8
  have B8 := btr E7 b8 E7.out.size
  clear E7 b8
  have D_high := Lib.hid d8
  clear d8
  obtain ⟨por, qor, nor⟩ := xb2 X_or
  go_wp2_with fail
  clear por qor nor
  have a := ab2 w8 (.cells #[.slice A8 0 c8, .int .i64 1] 24)
  replace HIN := rin HIN a
  replace D_x := rdn D_x a
  replace X_x := rb2 X_x a
  replace D_y := rdn D_y a
  replace X_y := rb2 X_y a
  replace D_and := rdn D_and a
  replace X_and := rb2 X_and a
  replace D_or := rdn D_or a
  replace X_or := rb2 X_or a
  replace D_xor := rdn D_xor a
  replace X_xor := rb2 X_xor a
  replace D_not := rdn D_not a
  replace X_not := rb2 X_not a
  replace D_high := rdn D_high a
  have X_high := nb2 w8 (.slice A8 0 c8) (.int .i64 1) 24
  have E8 := btr B8 a B8.out.size
  clear B8 a
  refine (s_low D_or HIN).mono ?_
  rintro e w9 ⟨A9, c9, rfl, d9, b9⟩
  replace HIN := rin HIN b9
  replace D_x := rdn D_x b9
  replace X_x := rb2 X_x b9
  replace D_y := rdn D_y b9
  replace X_y := rb2 X_y b9
  replace D_and := rdn D_and b9
  replace X_and := rb2 X_and b9
  replace D_or := rdn D_or b9
  replace X_or := rb2 X_or b9
  replace D_xor := rdn D_xor b9
  replace X_xor := rb2 X_xor b9
  replace D_not := rdn D_not b9
  replace X_not := rb2 X_not b9
  replace D_high := rdn D_high b9
  replace X_high := rb2 X_high b9
  have B9 := btr E8 b9 E8.out.size
  clear E8 b9
  have D_low := Lib.hid d9
  clear d9
  obtain ⟨pand, qand, nand⟩ := xb2 X_and
  go_wp2_with fail
  clear pand qand nand
  have a := ab2 w9 (.cells #[.slice A9 1 c9, .int .i64 2] 24)
  replace HIN := rin HIN a
  replace D_x := rdn D_x a
  replace X_x := rb2 X_x a
  replace D_y := rdn D_y a
  replace X_y := rb2 X_y a
  replace D_and := rdn D_and a
  replace X_and := rb2 X_and a
  replace D_or := rdn D_or a
  replace X_or := rb2 X_or a
  replace D_xor := rdn D_xor a
  replace X_xor := rb2 X_xor a
  replace D_not := rdn D_not a
  replace X_not := rb2 X_not a
  replace D_high := rdn D_high a
  replace X_high := rb2 X_high a
  replace D_low := rdn D_low a
  have X_low := nb2 w9 (.slice A9 1 c9) (.int .i64 2) 24
  have E9 := btr B9 a B9.out.size
  clear B9 a
  refine (s_some D_and HIN).mono ?_
  rintro e w10 ⟨A10, c10, rfl, d10, b10⟩
  replace HIN := rin HIN b10
  replace D_x := rdn D_x b10
  replace X_x := rb2 X_x b10
  replace D_y := rdn D_y b10
  replace X_y := rb2 X_y b10
  replace D_and := rdn D_and b10
  replace X_and := rb2 X_and b10
  replace D_or := rdn D_or b10
  replace X_or := rb2 X_or b10
  replace D_xor := rdn D_xor b10
  replace X_xor := rb2 X_xor b10
  replace D_not := rdn D_not b10
  replace X_not := rb2 X_not b10
  replace D_high := rdn D_high b10
  replace X_high := rb2 X_high b10
  replace D_low := rdn D_low b10
  replace X_low := rb2 X_low b10
  have B10 := btr E9 b10 E9.out.size
  clear E9 b10
  have D_some := Lib.hid d10
  clear d10
  obtain ⟨por, qor, nor⟩ := xb2 X_or
  go_wp2_with fail
  clear por qor nor
  have a := ab2 w10 (.cells #[.slice A10 1 c10, .int .i64 2] 24)
  replace HIN := rin HIN a
  replace D_x := rdn D_x a
  replace X_x := rb2 X_x a
  replace D_y := rdn D_y a
  replace X_y := rb2 X_y a
  replace D_and := rdn D_and a
  replace X_and := rb2 X_and a
  replace D_or := rdn D_or a
  replace X_or := rb2 X_or a
  replace D_xor := rdn D_xor a
  replace X_xor := rb2 X_xor a
  replace D_not := rdn D_not a
  replace X_not := rb2 X_not a
  replace D_high := rdn D_high a
  replace X_high := rb2 X_high a
  replace D_low := rdn D_low a
  replace X_low := rb2 X_low a
  replace D_some := rdn D_some a
  have X_some := nb2 w10 (.slice A10 1 c10) (.int .i64 2) 24
  have E10 := btr B10 a B10.out.size
  clear B10 a
  refine (s_count 2 3 (by omega) (by omega) cnt_or2 (by omega) (by omega) D_or).mono ?_
  rintro e w11 ⟨g11, o11, c11, rfl, z11, b11⟩
  replace HIN := rin HIN b11
  replace D_x := rdn D_x b11
  replace X_x := rb2 X_x b11
  replace D_y := rdn D_y b11
  replace X_y := rb2 X_y b11
  replace D_and := rdn D_and b11
  replace X_and := rb2 X_and b11
  replace D_or := rdn D_or b11
  replace X_or := rb2 X_or b11
  replace D_xor := rdn D_xor b11
  replace X_xor := rb2 X_xor b11
  replace D_not := rdn D_not b11
  replace X_not := rb2 X_not b11
  replace D_high := rdn D_high b11
  replace X_high := rb2 X_high b11
  replace D_low := rdn D_low b11
  replace X_low := rb2 X_low b11
  replace D_some := rdn D_some b11
  replace X_some := rb2 X_some b11
  have B11 := btr E10 b11 E10.out.size
  clear E10 b11
  have Z_two : Hid (w11.cell? ⟨g11, o11, none⟩ = some (.int .u32 3)) := Lib.hid z11
  clear z11
  obtain ⟨por, qor, nor⟩ := xb2 X_or
  go_wp2_with fail
  clear por qor nor
  refine (s_count 3 6 (by omega) (by omega) cnt_or3 (by omega) (by omega) D_or).mono ?_
  rintro e w12 ⟨g12, o12, c12, rfl, z12, b12⟩
  replace HIN := rin HIN b12
  replace D_x := rdn D_x b12
  replace X_x := rb2 X_x b12
  replace D_y := rdn D_y b12
  replace X_y := rb2 X_y b12
  replace D_and := rdn D_and b12
  replace X_and := rb2 X_and b12
  replace D_or := rdn D_or b12
  replace X_or := rb2 X_or b12
  replace D_xor := rdn D_xor b12
  replace X_xor := rb2 X_xor b12
  replace D_not := rdn D_not b12
  replace X_not := rb2 X_not b12
  replace D_high := rdn D_high b12
  replace X_high := rb2 X_high b12
  replace D_low := rdn D_low b12
  replace X_low := rb2 X_low b12
  replace D_some := rdn D_some b12
  replace X_some := rb2 X_some b12
  replace Z_two := rz Z_two b12
  have B12 := btr B11 b12 B11.out.size
  clear B11 b12
  have Z_three : Hid (w12.cell? ⟨g12, o12, none⟩ = some (.int .u32 6)) := Lib.hid z12
  clear z12
  obtain ⟨por, qor, nor⟩ := xb2 X_or
  go_wp2_with fail
  clear por qor nor
  refine (s_few D_or).mono ?_
  rintro e w13 ⟨rfl, b13⟩
  replace HIN := rin HIN b13
  replace D_x := rdn D_x b13
  replace X_x := rb2 X_x b13
  replace D_y := rdn D_y b13
  replace X_y := rb2 X_y b13
  replace D_and := rdn D_and b13
  replace X_and := rb2 X_and b13
  replace D_or := rdn D_or b13
  replace X_or := rb2 X_or b13
  replace D_xor := rdn D_xor b13
  replace X_xor := rb2 X_xor b13
  replace D_not := rdn D_not b13
  replace X_not := rb2 X_not b13
  replace D_high := rdn D_high b13
  replace X_high := rb2 X_high b13
  replace D_low := rdn D_low b13
  replace X_low := rb2 X_low b13
  replace D_some := rdn D_some b13
  replace X_some := rb2 X_some b13
  replace Z_two := rz Z_two b13
  replace Z_three := rz Z_three b13
  have B13 := btr B12 b13 B12.out.size
  clear B12 b13
  obtain ⟨pxor, qxor, nxor⟩ := xb2 X_xor
  go_wp2_with fail
  clear pxor qxor nxor
  refine (s_least D_xor rfl (by omega) isl_xor).mono ?_
  rintro e w14 ⟨rfl, b14⟩
  replace HIN := rin HIN b14
  replace D_x := rdn D_x b14
  replace X_x := rb2 X_x b14
  replace D_y := rdn D_y b14
  replace X_y := rb2 X_y b14
  replace D_and := rdn D_and b14
  replace X_and := rb2 X_and b14
  replace D_or := rdn D_or b14
  replace X_or := rb2 X_or b14
  replace D_xor := rdn D_xor b14
  replace X_xor := rb2 X_xor b14
  replace D_not := rdn D_not b14
  replace X_not := rb2 X_not b14
  replace D_high := rdn D_high b14
  replace X_high := rb2 X_high b14
  replace D_low := rdn D_low b14
  replace X_low := rb2 X_low b14
  replace D_some := rdn D_some b14
  replace X_some := rb2 X_some b14
  replace Z_two := rz Z_two b14
  replace Z_three := rz Z_three b14
  have B14 := btr B13 b14 B13.out.size
  clear B13 b14
  obtain ⟨pand, qand, nand⟩ := xb2 X_and
  go_wp2_with fail
  clear pand qand nand
  refine (s_least D_and rfl (by omega) isl_and).mono ?_
  rintro e w15 ⟨rfl, b15⟩
  replace HIN := rin HIN b15
  replace D_x := rdn D_x b15
  replace X_x := rb2 X_x b15
  replace D_y := rdn D_y b15
  replace X_y := rb2 X_y b15
  replace D_and := rdn D_and b15
  replace X_and := rb2 X_and b15
  replace D_or := rdn D_or b15
  replace X_or := rb2 X_or b15
  replace D_xor := rdn D_xor b15
  replace X_xor := rb2 X_xor b15
  replace D_not := rdn D_not b15
  replace X_not := rb2 X_not b15
  replace D_high := rdn D_high b15
  replace X_high := rb2 X_high b15
  replace D_low := rdn D_low b15
  replace X_low := rb2 X_low b15
  replace D_some := rdn D_some b15
  replace X_some := rb2 X_some b15
  replace Z_two := rz Z_two b15
  replace Z_three := rz Z_three b15
  have B15 := btr B14 b15 B14.out.size
  clear B14 b15
  obtain ⟨pnot, qnot, nnot⟩ := xb2 X_not
  go_wp2_with fail
  clear pnot qnot nnot
  refine (s_least D_not rfl (by omega) isl_not).mono ?_
  rintro e w16 ⟨rfl, b16⟩
  replace HIN := rin HIN b16
  replace D_x := rdn D_x b16
  replace X_x := rb2 X_x b16
  replace D_y := rdn D_y b16
  replace X_y := rb2 X_y b16
  replace D_and := rdn D_and b16
  replace X_and := rb2 X_and b16
  replace D_or := rdn D_or b16
  replace X_or := rb2 X_or b16
  replace D_xor := rdn D_xor b16
  replace X_xor := rb2 X_xor b16
  replace D_not := rdn D_not b16
  replace X_not := rb2 X_not b16
  replace D_high := rdn D_high b16
  replace X_high := rb2 X_high b16
  replace D_low := rdn D_low b16
  replace X_low := rb2 X_low b16
  replace D_some := rdn D_some b16
  replace X_some := rb2 X_some b16
  replace Z_two := rz Z_two b16
  replace Z_three := rz Z_three b16
  have B16 := btr B15 b16 B15.out.size
  clear B15 b16
  obtain ⟨px, qx, nx⟩ := xb2 X_x
  go_wp2_with fail
  clear px qx nx
  have a := ab2 w16 (.cells #[.int .i64 0, .int .i64 0, .int .i64 1] 72)
  replace HIN := rin HIN a
  replace D_x := rdn D_x a
  replace X_x := rb2 X_x a
  replace D_y := rdn D_y a
  replace X_y := rb2 X_y a
  replace D_and := rdn D_and a
  replace X_and := rb2 X_and a
  replace D_or := rdn D_or a
  replace X_or := rb2 X_or a
  replace D_xor := rdn D_xor a
  replace X_xor := rb2 X_xor a
  replace D_not := rdn D_not a
  replace X_not := rb2 X_not a
  replace D_high := rdn D_high a
  replace X_high := rb2 X_high a
  replace D_low := rdn D_low a
  replace X_low := rb2 X_low a
  replace D_some := rdn D_some a
  replace X_some := rb2 X_some a
  replace Z_two := rz Z_two a
  replace Z_three := rz Z_three a
  have E11 := btr B16 a B16.out.size
  clear B16 a
  refine (is_yes [(0, 0, 1)] D_x cn_x0 rfl (Lib.hid (rd_new _ [(0, 0, 1)] _ _ rfl)) (by omega) rfl).mono ?_
  rintro e w17 ⟨rfl, b17⟩
  replace HIN := rin HIN b17
  replace D_x := rdn D_x b17
  replace X_x := rb2 X_x b17
  replace D_y := rdn D_y b17
  replace X_y := rb2 X_y b17
  replace D_and := rdn D_and b17
  replace X_and := rb2 X_and b17
  replace D_or := rdn D_or b17
  replace X_or := rb2 X_or b17
  replace D_xor := rdn D_xor b17
  replace X_xor := rb2 X_xor b17
  replace D_not := rdn D_not b17
  replace X_not := rb2 X_not b17
  replace D_high := rdn D_high b17
  replace X_high := rb2 X_high b17
  replace D_low := rdn D_low b17
  replace X_low := rb2 X_low b17
  replace D_some := rdn D_some b17
  replace X_some := rb2 X_some b17
  replace Z_two := rz Z_two b17
  replace Z_three := rz Z_three b17
  have B17 := btr E11 b17 E11.out.size
  clear E11 b17
  obtain ⟨pnot, qnot, nnot⟩ := xb2 X_not
  go_wp2_with fail
  clear pnot qnot nnot
  have a := ab2 w17 (.cells #[.int .i64 0, .int .i64 1, .int .i64 0] 72)
  replace HIN := rin HIN a
  replace D_x := rdn D_x a
  replace X_x := rb2 X_x a
  replace D_y := rdn D_y a
  replace X_y := rb2 X_y a
  replace D_and := rdn D_and a
  replace X_and := rb2 X_and a
  replace D_or := rdn D_or a
  replace X_or := rb2 X_or a
  replace D_xor := rdn D_xor a
  replace X_xor := rb2 X_xor a
  replace D_not := rdn D_not a
  replace X_not := rb2 X_not a
  replace D_high := rdn D_high a
  replace X_high := rb2 X_high a
  replace D_low := rdn D_low a
  replace X_low := rb2 X_low a
  replace D_some := rdn D_some a
  replace X_some := rb2 X_some a
  replace Z_two := rz Z_two a
  replace Z_three := rz Z_three a
  have E12 := btr B17 a B17.out.size
  clear B17 a
  refine (is_yes [(0, 1, 0)] D_not cn_nx0 rfl (Lib.hid (rd_new _ [(0, 1, 0)] _ _ rfl)) (by omega) rfl).mono ?_
  rintro e w18 ⟨rfl, b18⟩
  replace HIN := rin HIN b18
  replace D_x := rdn D_x b18
  replace X_x := rb2 X_x b18
  replace D_y := rdn D_y b18
  replace X_y := rb2 X_y b18
  replace D_and := rdn D_and b18
  replace X_and := rb2 X_and b18
  replace D_or := rdn D_or b18
  replace X_or := rb2 X_or b18
  replace D_xor := rdn D_xor b18
  replace X_xor := rb2 X_xor b18
  replace D_not := rdn D_not b18
  replace X_not := rb2 X_not b18
  replace D_high := rdn D_high b18
  replace X_high := rb2 X_high b18
  replace D_low := rdn D_low b18
  replace X_low := rb2 X_low b18
  replace D_some := rdn D_some b18
  replace X_some := rb2 X_some b18
  replace Z_two := rz Z_two b18
  replace Z_three := rz Z_three b18
  have B18 := btr E12 b18 E12.out.size
  clear E12 b18
  obtain ⟨pand, qand, nand⟩ := xb2 X_and
  go_wp2_with fail
  clear pand qand nand
  have a := ab2 w18 (.cells #[.int .i64 1, .int .i64 0, .int .i64 1, .int .i64 0, .int .i64 0, .int .i64 2] 72)
  replace HIN := rin HIN a
  replace D_x := rdn D_x a
  replace X_x := rb2 X_x a
  replace D_y := rdn D_y a
  replace X_y := rb2 X_y a
  replace D_and := rdn D_and a
  replace X_and := rb2 X_and a
  replace D_or := rdn D_or a
  replace X_or := rb2 X_or a
  replace D_xor := rdn D_xor a
  replace X_xor := rb2 X_xor a
  replace D_not := rdn D_not a
  replace X_not := rb2 X_not a
  replace D_high := rdn D_high a
  replace X_high := rb2 X_high a
  replace D_low := rdn D_low a
  replace X_low := rb2 X_low a
  replace D_some := rdn D_some a
  replace X_some := rb2 X_some a
  replace Z_two := rz Z_two a
  replace Z_three := rz Z_three a
  have E13 := btr B18 a B18.out.size
  clear B18 a
  refine (is_yes [(1, 0, 1), (0, 0, 2)] D_and cn_and01 rfl (Lib.hid (rd_new _ [(1, 0, 1), (0, 0, 2)] _ _ rfl)) (by omega) rfl).mono ?_
  rintro e w19 ⟨rfl, b19⟩
  replace HIN := rin HIN b19
  replace D_x := rdn D_x b19
  replace X_x := rb2 X_x b19
  replace D_y := rdn D_y b19
  replace X_y := rb2 X_y b19
  replace D_and := rdn D_and b19
  replace X_and := rb2 X_and b19
  replace D_or := rdn D_or b19
  replace X_or := rb2 X_or b19
  replace D_xor := rdn D_xor b19
  replace X_xor := rb2 X_xor b19
  replace D_not := rdn D_not b19
  replace X_not := rb2 X_not b19
  replace D_high := rdn D_high b19
  replace X_high := rb2 X_high b19
  replace D_low := rdn D_low b19
  replace X_low := rb2 X_low b19
  replace D_some := rdn D_some b19
  replace X_some := rb2 X_some b19
  replace Z_two := rz Z_two b19
  replace Z_three := rz Z_three b19
  have B19 := btr E13 b19 E13.out.size
  clear E13 b19
  obtain ⟨por, qor, nor⟩ := xb2 X_or
  go_wp2_with fail
  clear por qor nor
  have a := ab2 w19 (.cells #[.int .i64 1, .int .i64 0, .int .i64 1, .int .i64 0, .int .i64 2, .int .i64 1] 72)
  replace HIN := rin HIN a
  replace D_x := rdn D_x a
  replace X_x := rb2 X_x a
  replace D_y := rdn D_y a
  replace X_y := rb2 X_y a
  replace D_and := rdn D_and a
  replace X_and := rb2 X_and a
  replace D_or := rdn D_or a
  replace X_or := rb2 X_or a
  replace D_xor := rdn D_xor a
  replace X_xor := rb2 X_xor a
  replace D_not := rdn D_not a
  replace X_not := rb2 X_not a
  replace D_high := rdn D_high a
  replace X_high := rb2 X_high a
  replace D_low := rdn D_low a
  replace X_low := rb2 X_low a
  replace D_some := rdn D_some a
  replace X_some := rb2 X_some a
  replace Z_two := rz Z_two a
  replace Z_three := rz Z_three a
  have E14 := btr B19 a B19.out.size
  clear B19 a
  refine (is_yes [(1, 0, 1), (0, 2, 1)] D_or cn_or01 rfl (Lib.hid (rd_new _ [(1, 0, 1), (0, 2, 1)] _ _ rfl)) (by omega) rfl).mono ?_
  rintro e w20 ⟨rfl, b20⟩
  replace HIN := rin HIN b20
  replace D_x := rdn D_x b20
  replace X_x := rb2 X_x b20
  replace D_y := rdn D_y b20
  replace X_y := rb2 X_y b20
  replace D_and := rdn D_and b20
  replace X_and := rb2 X_and b20
  replace D_or := rdn D_or b20
  replace X_or := rb2 X_or b20
  replace D_xor := rdn D_xor b20
  replace X_xor := rb2 X_xor b20
  replace D_not := rdn D_not b20
  replace X_not := rb2 X_not b20
  replace D_high := rdn D_high b20
  replace X_high := rb2 X_high b20
  replace D_low := rdn D_low b20
  replace X_low := rb2 X_low b20
  replace D_some := rdn D_some b20
  replace X_some := rb2 X_some b20
  replace Z_two := rz Z_two b20
  replace Z_three := rz Z_three b20
  have B20 := btr E14 b20 E14.out.size
  clear E14 b20
  obtain ⟨pxor, qxor, nxor⟩ := xb2 X_xor
  go_wp2_with fail
  clear pxor qxor nxor
  have a := ab2 w20 (.cells #[.int .i64 1, .int .i64 0, .int .i64 1, .int .i64 1, .int .i64 1, .int .i64 0, .int .i64 0, .int .i64 2, .int .i64 3] 72)
  replace HIN := rin HIN a
  replace D_x := rdn D_x a
  replace X_x := rb2 X_x a
  replace D_y := rdn D_y a
  replace X_y := rb2 X_y a
  replace D_and := rdn D_and a
  replace X_and := rb2 X_and a
  replace D_or := rdn D_or a
  replace X_or := rb2 X_or a
  replace D_xor := rdn D_xor a
  replace X_xor := rb2 X_xor a
  replace D_not := rdn D_not a
  replace X_not := rb2 X_not a
  replace D_high := rdn D_high a
  replace X_high := rb2 X_high a
  replace D_low := rdn D_low a
  replace X_low := rb2 X_low a
  replace D_some := rdn D_some a
  replace X_some := rb2 X_some a
  replace Z_two := rz Z_two a
  replace Z_three := rz Z_three a
  have E15 := btr B20 a B20.out.size
  clear B20 a
  refine (is_yes [(1, 0, 1), (1, 1, 0), (0, 2, 3)] D_xor cn_xor01 rfl (Lib.hid (rd_new _ [(1, 0, 1), (1, 1, 0), (0, 2, 3)] _ _ rfl)) (by omega) rfl).mono ?_
  rintro e w21 ⟨rfl, b21⟩
  replace HIN := rin HIN b21
  replace D_x := rdn D_x b21
  replace X_x := rb2 X_x b21
  replace D_y := rdn D_y b21
  replace X_y := rb2 X_y b21
  replace D_and := rdn D_and b21
  replace X_and := rb2 X_and b21
  replace D_or := rdn D_or b21
  replace X_or := rb2 X_or b21
  replace D_xor := rdn D_xor b21
  replace X_xor := rb2 X_xor b21
  replace D_not := rdn D_not b21
  replace X_not := rb2 X_not b21
  replace D_high := rdn D_high b21
  replace X_high := rb2 X_high b21
  replace D_low := rdn D_low b21
  replace X_low := rb2 X_low b21
  replace D_some := rdn D_some b21
  replace X_some := rb2 X_some b21
  replace Z_two := rz Z_two b21
  replace Z_three := rz Z_three b21
  have B21 := btr E15 b21 E15.out.size
  clear E15 b21
  obtain ⟨phigh, qhigh, nhigh⟩ := xb2 X_high
  go_wp2_with fail
  clear phigh qhigh nhigh
  refine (is_yes [] D_high (cn_const true) rfl (Lib.hid Rd.nil) (by omega) rfl).mono ?_
  rintro e w22 ⟨rfl, b22⟩
  replace HIN := rin HIN b22
  replace D_x := rdn D_x b22
  replace X_x := rb2 X_x b22
  replace D_y := rdn D_y b22
  replace X_y := rb2 X_y b22
  replace D_and := rdn D_and b22
  replace X_and := rb2 X_and b22
  replace D_or := rdn D_or b22
  replace X_or := rb2 X_or b22
  replace D_xor := rdn D_xor b22
  replace X_xor := rb2 X_xor b22
  replace D_not := rdn D_not b22
  replace X_not := rb2 X_not b22
  replace D_high := rdn D_high b22
  replace X_high := rb2 X_high b22
  replace D_low := rdn D_low b22
  replace X_low := rb2 X_low b22
  replace D_some := rdn D_some b22
  replace X_some := rb2 X_some b22
  replace Z_two := rz Z_two b22
  replace Z_three := rz Z_three b22
  have B22 := btr B21 b22 B21.out.size
  clear B21 b22
  obtain ⟨plow, qlow, nlow⟩ := xb2 X_low
  obtain ⟨py, qy, ny⟩ := xb2 X_y
  go_wp2_with fail
  clear plow qlow nlow py qy ny
  refine (rsame_dn D_low D_y rfl rfl true (Lib.hid (by simp))).mono ?_
  rintro e w23 ⟨rfl, b23⟩
  replace HIN := rin HIN b23
  replace D_x := rdn D_x b23
  replace X_x := rb2 X_x b23
  replace D_y := rdn D_y b23
  replace X_y := rb2 X_y b23
  replace D_and := rdn D_and b23
  replace X_and := rb2 X_and b23
  replace D_or := rdn D_or b23
  replace X_or := rb2 X_or b23
  replace D_xor := rdn D_xor b23
  replace X_xor := rb2 X_xor b23
  replace D_not := rdn D_not b23
  replace X_not := rb2 X_not b23
  replace D_high := rdn D_high b23
  replace X_high := rb2 X_high b23
  replace D_low := rdn D_low b23
  replace X_low := rb2 X_low b23
  replace D_some := rdn D_some b23
  replace X_some := rb2 X_some b23
  replace Z_two := rz Z_two b23
  replace Z_three := rz Z_three b23
  have B23 := btr B22 b23 B22.out.size
  clear B22 b23
  obtain ⟨psome, qsome, nsome⟩ := xb2 X_some
  obtain ⟨px, qx, nx⟩ := xb2 X_x
  go_wp2_with fail
  clear psome qsome nsome px qx nx
  refine (rsame_dn D_some D_x rfl rfl true (Lib.hid (by simp))).mono ?_
  rintro e w24 ⟨rfl, b24⟩
  replace HIN := rin HIN b24
  replace D_x := rdn D_x b24
  replace X_x := rb2 X_x b24
  replace D_y := rdn D_y b24
  replace X_y := rb2 X_y b24
  replace D_and := rdn D_and b24
  replace X_and := rb2 X_and b24
  replace D_or := rdn D_or b24
  replace X_or := rb2 X_or b24
  replace D_xor := rdn D_xor b24
  replace X_xor := rb2 X_xor b24
  replace D_not := rdn D_not b24
  replace X_not := rb2 X_not b24
  replace D_high := rdn D_high b24
  replace X_high := rb2 X_high b24
  replace D_low := rdn D_low b24
  replace X_low := rb2 X_low b24
  replace D_some := rdn D_some b24
  replace X_some := rb2 X_some b24
  replace Z_two := rz Z_two b24
  replace Z_three := rz Z_three b24
  have B24 := btr B23 b24 B23.out.size
  clear B23 b24
  have z1 := Z_two.out
  have z2 := Z_three.out
  go_wp2_with fail
  have a := ab2 w24 (.cells #[.int .i64 0, .int .i64 0, .int .i64 0] 72)
  replace HIN := rin HIN a
  replace D_x := rdn D_x a
  replace X_x := rb2 X_x a
  replace D_y := rdn D_y a
  replace X_y := rb2 X_y a
  replace D_and := rdn D_and a
  replace X_and := rb2 X_and a
  replace D_or := rdn D_or a
  replace X_or := rb2 X_or a
  replace D_xor := rdn D_xor a
  replace X_xor := rb2 X_xor a
  replace D_not := rdn D_not a
  replace X_not := rb2 X_not a
  replace D_high := rdn D_high a
  replace X_high := rb2 X_high a
  replace D_low := rdn D_low a
  replace X_low := rb2 X_low a
  replace D_some := rdn D_some a
  replace X_some := rb2 X_some a
  replace Z_two := rz Z_two a
  replace Z_three := rz Z_three a
  have E16 := btr B24 a B24.out.size
  clear B24 a
  refine (s_check [(0, 0, 0)] 2 1 rfl (by unfold Wi; decide) (by unfold I64; omega) (by omega) (Lib.hid (rd_new _ [(0, 0, 0)] _ _ rfl)) (by decide)).mono ?_
  rintro e w25 ⟨rfl, b25⟩
  replace HIN := rin HIN b25
  replace D_x := rdn D_x b25
  replace X_x := rb2 X_x b25
  replace D_y := rdn D_y b25
  replace X_y := rb2 X_y b25
  replace D_and := rdn D_and b25
  replace X_and := rb2 X_and b25
  replace D_or := rdn D_or b25
  replace X_or := rb2 X_or b25
  replace D_xor := rdn D_xor b25
  replace X_xor := rb2 X_xor b25
  replace D_not := rdn D_not b25
  replace X_not := rb2 X_not b25
  replace D_high := rdn D_high b25
  replace X_high := rb2 X_high b25
  replace D_low := rdn D_low b25
  replace X_low := rb2 X_low b25
  replace D_some := rdn D_some b25
  replace X_some := rb2 X_some b25
  replace Z_two := rz Z_two b25
  replace Z_three := rz Z_three b25
  have B25 := btr E16 b25 E16.out.size
  clear E16 b25
  clear z1 z2
  go_wp2_with fail
  have a := ab2 w25 (.cells #[.int .i64 0, .int .i64 0, .int .i64 1] 72)
  replace HIN := rin HIN a
  replace D_x := rdn D_x a
  replace X_x := rb2 X_x a
  replace D_y := rdn D_y a
  replace X_y := rb2 X_y a
  replace D_and := rdn D_and a
  replace X_and := rb2 X_and a
  replace D_or := rdn D_or a
  replace X_or := rb2 X_or a
  replace D_xor := rdn D_xor a
  replace X_xor := rb2 X_xor a
  replace D_not := rdn D_not a
  replace X_not := rb2 X_not a
  replace D_high := rdn D_high a
  replace X_high := rb2 X_high a
  replace D_low := rdn D_low a
  replace X_low := rb2 X_low a
  replace D_some := rdn D_some a
  replace X_some := rb2 X_some a
  replace Z_two := rz Z_two a
  replace Z_three := rz Z_three a
  have E17 := btr B25 a B25.out.size
  clear B25 a
  refine (s_check [(0, 0, 1)] 1 1 rfl (by unfold Wi; decide) (by unfold I64; omega) (by omega) (Lib.hid (rd_new _ [(0, 0, 1)] _ _ rfl)) (by decide)).mono ?_
  rintro e w26 ⟨rfl, b26⟩
  replace HIN := rin HIN b26
  replace D_x := rdn D_x b26
  replace X_x := rb2 X_x b26
  replace D_y := rdn D_y b26
  replace X_y := rb2 X_y b26
  replace D_and := rdn D_and b26
  replace X_and := rb2 X_and b26
  replace D_or := rdn D_or b26
  replace X_or := rb2 X_or b26
  replace D_xor := rdn D_xor b26
  replace X_xor := rb2 X_xor b26
  replace D_not := rdn D_not b26
  replace X_not := rb2 X_not b26
  replace D_high := rdn D_high b26
  replace X_high := rb2 X_high b26
  replace D_low := rdn D_low b26
  replace X_low := rb2 X_low b26
  replace D_some := rdn D_some b26
  replace X_some := rb2 X_some b26
  replace Z_two := rz Z_two b26
  replace Z_three := rz Z_three b26
  have B26 := btr E17 b26 E17.out.size
  clear E17 b26
  obtain ⟨por, qor, nor⟩ := xb2 X_or
  go_wp2_with fail
  clear por qor nor
  refine (s_holds D_or rfl rfl (by omega) (x := 2) true (by decide)).mono ?_
  rintro e w27 ⟨rfl, b27⟩
  replace HIN := rin HIN b27
  replace D_x := rdn D_x b27
  replace X_x := rb2 X_x b27
  replace D_y := rdn D_y b27
  replace X_y := rb2 X_y b27
  replace D_and := rdn D_and b27
  replace X_and := rb2 X_and b27
  replace D_or := rdn D_or b27
  replace X_or := rb2 X_or b27
  replace D_xor := rdn D_xor b27
  replace X_xor := rb2 X_xor b27
  replace D_not := rdn D_not b27
  replace X_not := rb2 X_not b27
  replace D_high := rdn D_high b27
  replace X_high := rb2 X_high b27
  replace D_low := rdn D_low b27
  replace X_low := rb2 X_low b27
  replace D_some := rdn D_some b27
  replace X_some := rb2 X_some b27
  replace Z_two := rz Z_two b27
  replace Z_three := rz Z_three b27
  have B27 := btr B26 b27 B26.out.size
  clear B26 b27
  obtain ⟨pand, qand, nand⟩ := xb2 X_and
  go_wp2_with fail
  clear pand qand nand
  refine (s_holds D_and rfl rfl (by omega) (x := 2) false (by decide)).mono ?_
  rintro e w28 ⟨rfl, b28⟩
  replace HIN := rin HIN b28
  replace D_x := rdn D_x b28
  replace X_x := rb2 X_x b28
  replace D_y := rdn D_y b28
  replace X_y := rb2 X_y b28
  replace D_and := rdn D_and b28
  replace X_and := rb2 X_and b28
  replace D_or := rdn D_or b28
  replace X_or := rb2 X_or b28
  replace D_xor := rdn D_xor b28
  replace X_xor := rb2 X_xor b28
  replace D_not := rdn D_not b28
  replace X_not := rb2 X_not b28
  replace D_high := rdn D_high b28
  replace X_high := rb2 X_high b28
  replace D_low := rdn D_low b28
  replace X_low := rb2 X_low b28
  replace D_some := rdn D_some b28
  replace X_some := rb2 X_some b28
  replace Z_two := rz Z_two b28
  replace Z_three := rz Z_three b28
  have B28 := btr B27 b28 B27.out.size
  clear B27 b28
  go_wp2_with fail
  go_ret
  exact ⟨rfl, B28.out⟩
end Go.Proofs.YtefepaackdhiiaaDoor
