/-
  The examples of the chapter hold: sanity answers true.
-/
import Derived.Test.YtogmgomcdhfolaaDiv1
import Derived.Test.YtogmgomcdhfolaaText
namespace Go.Proofs.Ytogmgomcdhfolaa
open Go.RowKit Nt

theorem div_one' (a b c d : Nat) (A A' : Option Addr) (w : World) (ha : Rd w w.heap.size A (dg a)) (hb : Rd w w.heap.size A' (dg b)) (la : (dg a).length ≤ 1024) (lb : (dg b).length = 1) (hab : b ≤ a) :
    Calls Try.prog 22 #[.slice A (dg a).length c, .slice A' (dg b).length d] w (Gives3 w (a / b) (a % b) 0) := by
  have := div_one a b c d A A' w ha hb la lb hab
  rwa [← lb] at this

/-- the chapter's numbers -/
def kL : Nat := 4294967295
def kSq : Nat := 18446744065119617025
def kLarge : Nat := 100000000000000000000
def kQuo : Nat := 14285714285714285714
def sLarge : ByteArray := { data := #[49, 48, 48, 48, 48, 48, 48, 48, 48, 48, 48, 48, 48, 48, 48, 48, 48, 48, 48, 48, 48] }
def sTwo : ByteArray := { data := #[48, 48] }
def sSq : ByteArray := { data := #[49, 56, 52, 52, 54, 55, 52, 52, 48, 54, 53, 49, 49, 57, 54, 49, 55, 48, 50, 53] }
def sQuo : ByteArray := { data := #[49, 52, 50, 56, 53, 55, 49, 52, 50, 56, 53, 55, 49, 52, 50, 56, 53, 55, 49, 52] }

theorem wf_lit {l : List Nat} (h : l.all (fun x => decide (x < 4294967296)) = true) : Wf l := fun x hx => of_decide_eq_true (List.all_eq_true.1 h x hx)
theorem wfd_lit {l : List Nat} (h : l.all (fun x => decide (x < 10)) = true) : Nd.Wf l := fun x hx => of_decide_eq_true (List.all_eq_true.1 h x hx)
theorem dg_lit {n : Nat} {l : List Nat} (h : l.all (fun x => decide (x < 4294967296)) = true) (hl : l.getLast? ≠ some 0) (hv : val l = n) : dg n = l := by
  rw [← hv]; exact dg_val (wf_lit h) (.inr hl)
theorem dgd_lit {n : Nat} {l : List Nat} (h : l.all (fun x => decide (x < 10)) = true) (hl : l.getLast? ≠ some 0) (hv : Nd.val l = n) : Nd.dg n = l := by
  rw [← hv]; exact Nd.dg_val (wfd_lit h) (.inr hl)

theorem dg_kL : dg kL = [4294967295] := dg_lit (by decide) (by decide) (by rfl)
theorem dg_kSq : dg kSq = [1, 4294967294] := dg_lit (by decide) (by decide) (by rfl)
theorem dg_kLarge : dg kLarge = [1661992960, 1808227885, 5] := dg_lit (by decide) (by decide) (by rfl)
theorem dg_kQuo : dg kQuo = [850994322, 3326152052] := dg_lit (by decide) (by decide) (by rfl)
theorem mul_kL : kL * kL = kSq := by rfl
theorem div_7 : kLarge / 7 = kQuo := by rfl
theorem mod_7 : kLarge % 7 = 2 := by rfl
theorem txt_kSq : txt kSq = sSq := by
  have h : Nd.dg kSq = [5, 2, 0, 7, 1, 6, 9, 1, 1, 5, 6, 0, 4, 4, 7, 6, 4, 4, 8, 1] := dgd_lit (by decide) (by decide) (by rfl)
  unfold txt digs
  rw [if_neg (by decide), h]
  rfl
theorem txt_kQuo : txt kQuo = sQuo := by
  have h : Nd.dg kQuo = [4, 1, 7, 5, 8, 2, 4, 1, 7, 5, 8, 2, 4, 1, 7, 5, 8, 2, 4, 1] := dgd_lit (by decide) (by decide) (by rfl)
  unfold txt digs
  rw [if_neg (by decide), h]
  rfl
theorem dec_sLarge : DecS sLarge := ⟨by decide, .inr (by decide), by decide +kernel⟩
theorem decU_sLarge : decU sLarge sLarge.size = kLarge := by decide +kernel
theorem dec_sTwo : ¬ DecS sTwo := fun h => h.lead.elim (by decide) (fun h => h (by decide))

theorem len_kL : (dg kL).length = 1 := by rw [dg_kL]; rfl
theorem len_kSq : (dg kSq).length = 2 := by rw [dg_kSq]; rfl
theorem len_kLarge : (dg kLarge).length = 3 := by rw [dg_kLarge]; rfl
theorem len_kQuo : (dg kQuo).length = 2 := by rw [dg_kQuo]; rfl
theorem dg_7 : dg 7 = [7] := dg_one (by omega) (by omega)
theorem dg_2 : dg 2 = [2] := dg_one (by omega) (by omega)
theorem len_7 : (dg 7).length = 1 := by rw [dg_7]; rfl
theorem len_2 : (dg 2).length = 1 := by rw [dg_2]; rfl

theorem mul_small (a b c d : Nat) (A A' : Option Addr) (w : World) (ha : Rd w w.heap.size A (dg a)) (hb : Rd w w.heap.size A' (dg b)) (la : (dg a).length ≤ 1024) (lb : (dg b).length ≤ 1024) (lc : (dg (a * b)).length ≤ 1024) :
    Calls Try.prog 20 #[.slice A (dg a).length c, .slice A' (dg b).length d] w (Gives w (a * b) 0) := by
  have := mul_ok a b c d A A' w ha hb la lb
  rwa [lim_of lc, limE_of lc] at this
theorem parse_small (s : ByteArray) (w : World) (hs : s.size ≤ 9865) (hd : DecS s) (lc : (dg (decU s s.size)).length ≤ 1024) :
    Calls Try.prog 32 #[.string s] w (Gives w (decU s s.size) 0) := by
  have := parse_ok s w hs hd
  rwa [lim_of lc, limE_of lc] at this

theorem of_kL (w : World) : Calls Try.prog 30 #[.int .u64 4294967295] w (Gives1 w kL) := of_any 4294967295 0 w (by rfl) (by omega)
theorem of_7 (w : World) : Calls Try.prog 30 #[.int .u64 7] w (Gives1 w 7) := of_any 7 0 w (by rfl) (by omega)
theorem of_0 (w : World) : Calls Try.prog 30 #[.int .u64 0] w (Gives1 w 0) := of_any 0 0 w (by rfl) (by omega)
theorem parse_large (w : World) : Calls Try.prog 32 #[.string sLarge] w (Gives w kLarge 0) := by
  have := parse_small sLarge w (by decide) dec_sLarge (by rw [decU_sLarge, len_kLarge]; omega)
  rwa [decU_sLarge] at this
theorem parse_two (w : World) : Calls Try.prog 32 #[.string sTwo] w (Gives w 0 12) := parse_bad sTwo w (by decide) dec_sTwo

theorem same_sq {a x y c : Nat} {A : Option Addr} (h : dg a = [x, y]) (w : World) (hr : Rd w w.heap.size A (dg a)) :
    Calls Try.prog 17 #[.slice A (dg a).length c, .slice (some ⟨w.heap.size, 0, none⟩) 2 2] (w.alloc (.cells #[.int .u32 (x : Int), .int .u32 (y : Int)] 41)) fun e w' => e = .returned (.bool true) ∧ Below w.heap.size w w' := by
  have hb := (Below.refl w.heap.size w).alloc (Nat.le_refl _) (.cells #[.int .u32 (x : Int), .int .u32 (y : Int)] 41)
  have hl : (dg a).length = 2 := by rw [h]; rfl
  refine (same_any (l := dg a) (m := [x, y]) c 2 _ 2 ((hr.below hb).mono hb.size) ((bk_two w rfl rfl).rd (bk_two w (x := x) (y := y) rfl rfl).lt) rfl rfl (by omega) (by omega)).mono ?_
  rintro e w' ⟨rfl, hq⟩
  exact ⟨by rw [h]; exact ret_bool (decide_eq_true rfl), hb.trans (hq.below _)⟩
theorem same_one {a x c : Nat} {A : Option Addr} (h : dg a = [x]) (w : World) (hr : Rd w w.heap.size A (dg a)) :
    Calls Try.prog 17 #[.slice A (dg a).length c, .slice (some ⟨w.heap.size, 0, none⟩) 1 1] (w.alloc (.cells #[.int .u32 (x : Int)] 41)) fun e w' => e = .returned (.bool true) ∧ Below w.heap.size w w' := by
  have hb := (Below.refl w.heap.size w).alloc (Nat.le_refl _) (.cells #[.int .u32 (x : Int)] 41)
  have hl : (dg a).length = 1 := by rw [h]; rfl
  refine (same_any (l := dg a) (m := [x]) c 1 _ 1 ((hr.below hb).mono hb.size) ((bk_one w rfl).rd (bk_one w (x := x) rfl).lt) rfl rfl (by omega) (by omega)).mono ?_
  rintro e w' ⟨rfl, hq⟩
  exact ⟨by rw [h]; exact ret_bool (decide_eq_true rfl), hb.trans (hq.below _)⟩

set_option maxHeartbeats 2000000 in
theorem sanity_ok (w : World) : Calls Try.prog 14 #[] w fun e w' => e = .returned (.bool true) ∧ Below w.heap.size w w' := by
  go_enter Try.func14, Try.ntmps14
  go_wp2_with fail
  refine (of_kL _).mono ?_
  rintro e w1 ⟨v1, rfl, n1, b1⟩
  obtain ⟨A1, c1, rfl, _, r1⟩ := n1
  have R1 := Lib.hid r1
  clear r1
  go_wp2_with fail
  refine (of_kL _).mono ?_
  rintro e w2 ⟨v2, rfl, n2, b2⟩
  obtain ⟨A2, c2, rfl, _, r2⟩ := n2
  have R2 := Lib.hid r2
  have R12 := Lib.hid ((R1.out.below b2).mono b2.size)
  have b02 := b1.trans (b2.mono b1.size)
  clear r2
  go_wp2_with fail
  refine (mul_small kL kL _ _ _ _ _ R12.out R2.out (by rw [len_kL]; omega) (by rw [len_kL]; omega) (by rw [mul_kL, len_kSq]; omega)).mono ?_
  rintro e w3 ⟨v3, rfl, n3, b3⟩
  rw [mul_kL] at n3
  obtain ⟨A3, c3, rfl, _, r3⟩ := n3
  have R3 := Lib.hid r3
  have b03 := b02.trans (b3.mono b02.size)
  clear r3
  go_wp2_with fail
  refine (parse_large _).mono ?_
  rintro e w4 ⟨v4, rfl, n4, b4⟩
  obtain ⟨A4, c4, rfl, _, r4⟩ := n4
  have R4 := Lib.hid r4
  have b04 := b03.trans (b4.mono b03.size)
  clear r4
  go_wp2_with fail
  refine (of_7 _).mono ?_
  rintro e w5 ⟨v5, rfl, n5, b5⟩
  obtain ⟨A5, c5, rfl, _, r5⟩ := n5
  have R5 := Lib.hid r5
  have b05 := b04.trans (b5.mono b04.size)
  have R45 := Lib.hid ((R4.out.below b5).mono b5.size)
  clear r5
  go_wp2_with fail
  refine (div_one' kLarge 7 _ _ _ _ _ R45.out R5.out (by rw [len_kLarge]; omega) len_7 (by decide)).mono ?_
  rintro e w6 ⟨v6, u6, rfl, n6, m6, b6⟩
  rw [div_7] at n6
  rw [mod_7] at m6
  obtain ⟨A6, c6, rfl, _, r6⟩ := n6
  obtain ⟨A7, c7, rfl, _, r7⟩ := m6
  have R6 := Lib.hid r6
  have R7 := Lib.hid r7
  have b06 := b05.trans (b6.mono b05.size)
  clear r6 r7
  go_wp2_with fail
  refine (parse_two _).mono ?_
  rintro e w7 ⟨v8, rfl, n8, b7⟩
  have b07 := b06.trans (b7.mono b06.size)
  clear n8
  have Q3 := Lib.hid ((((R3.out.below b4).mono b4.size).below b5).mono b5.size)
  have Q37 := Lib.hid ((((Q3.out.below b6).mono b6.size).below b7).mono b7.size)
  have Q67 := Lib.hid ((R6.out.below b7).mono b7.size)
  have Q77 := Lib.hid ((R7.out.below b7).mono b7.size)
  clear R1 R2 R12 R3 R4 R5 R45 R6 R7 Q3 b1 b2 b3 b4 b5 b6 b7 b02 b03 b04 b05 b06
  go_wp2_with fail
  refine (same_sq (a := kSq) dg_kSq w7 Q37.out).mono ?_
  rintro e w8 ⟨rfl, b8⟩
  have b08 := b07.trans (b8.mono b07.size)
  have Q38 := Lib.hid ((Q37.out.below b8).mono b8.size)
  have Q68 := Lib.hid ((Q67.out.below b8).mono b8.size)
  have Q78 := Lib.hid ((Q77.out.below b8).mono b8.size)
  clear Q37 Q67 Q77 b07 b8
  go_wp2_with fail
  refine (text_ok kSq _ _ _ Q38.out (by rw [len_kSq]; omega)).mono ?_
  rintro e w9 ⟨rfl, b9⟩
  rw [txt_kSq]
  have b09 := b08.trans (b9.mono b08.size)
  have Q69 := Lib.hid ((Q68.out.below b9).mono b9.size)
  have Q79 := Lib.hid ((Q78.out.below b9).mono b9.size)
  clear Q38 Q68 Q78 b08 b9
  unfold sSq
  go_wp2_with fail
  refine (text_ok kQuo _ _ _ Q69.out (by rw [len_kQuo]; omega)).mono ?_
  rintro e w10 ⟨rfl, b10⟩
  rw [txt_kQuo]
  have b010 := b09.trans (b10.mono b09.size)
  have Q710 := Lib.hid ((Q79.out.below b10).mono b10.size)
  clear Q69 Q79 b09 b10
  unfold sQuo
  go_wp2_with fail
  refine (same_one (a := 2) dg_2 w10 Q710.out).mono ?_
  rintro e w11 ⟨rfl, b11⟩
  have b011 := b010.trans (b11.mono b010.size)
  clear Q710 b010 b11
  go_wp2_with fail
  refine (of_0 _).mono ?_
  rintro e w12 ⟨v12, rfl, n12, b12⟩
  obtain ⟨A12, c12, rfl, _, _⟩ := n12
  rw [dg_zero]
  have b012 := b011.trans (b12.mono b011.size)
  clear b011 b12
  go_wp2_with fail
  refine (text_zero none 0 _).mono ?_
  rintro e w13 ⟨rfl, b13⟩
  have b013 := b012.trans (b13.mono b012.size)
  clear b012 b13
  go_wp2_with fail
  refine (valid_no (l := [5, 0]) 2 2 ((bk_two w13 (X := 5) (Y := 0) (x := 5) (y := 0) rfl rfl).rd (bk_two w13 (X := 5) (Y := 0) (x := 5) (y := 0) rfl rfl).lt) rfl (by omega) rfl).mono ?_
  rintro e w14 ⟨rfl, rfl⟩
  go_wp2_with fail
  go_ret
  exact ⟨rfl, b013.trans (((Below.refl w13.heap.size w13).alloc (Nat.le_refl _) _).mono b013.size)⟩

end Go.Proofs.Ytogmgomcdhfolaa
