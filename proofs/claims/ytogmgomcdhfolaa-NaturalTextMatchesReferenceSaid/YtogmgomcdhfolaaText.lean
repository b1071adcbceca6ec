/-
  natural.Text: the decimal digits of a number.
-/
import Derived.Test.YtogmgomcdhfolaaByt
import Derived.Test.YtogmgomcdhfolaaDivBy
namespace Go.Proofs.Ytogmgomcdhfolaa
open Go.RowKit Nt

/-- the text of a number -/
def digs (N : Nat) : List Nat := if N = 0 then [0] else (Nd.dg N).reverse
def txt (N : Nat) : ByteArray := strOfNums ((digs N).map (fun d => ((d + 48 : Nat) : Int)))

theorem pow_le_10 (k : Nat) : 4294967296 ^ k ≤ 10 ^ (10 * k) := by
  rw [Nat.pow_mul]; exact Nat.pow_le_pow_left (by omega) k
theorem digits_bound {a n R v : Nat} (ha : (dg a).length ≤ 1024) (hR : 0 < R) (h : v + 10 ^ n * R = a) : n ≤ 10240 := by
  have h1 : 10 ^ n ≤ a := by
    have : 10 ^ n * 1 ≤ 10 ^ n * R := Nat.mul_le_mul_left _ hR
    omega
  have h2 : a < 10 ^ (10 * 1024) := Nat.lt_of_lt_of_le (lt_pow_dg a) (Nat.le_trans (Nat.pow_le_pow_right (by omega) ha) (pow_le_10 1024))
  have h3 := Nat.lt_of_le_of_lt h1 h2
  have := (Nat.pow_lt_pow_iff_right (by omega : 1 < 10)).1 h3
  omega

/-- the outer loop's state -/
structure TxSt (w wr : World) (a gb n c gr R : Nat) (D L : List Nat) : Prop where
  ob : Ob wr w.heap.size gb n c D
  bk : Bk wr gr L
  wf : Wf L
  len : (dg R).length ≤ L.length
  take : L.take (dg R).length = dg R
  dig : Nd.Wf D
  eq : Nd.val D + 10 ^ n * R = a
  bel : Below w.heap.size w wr
  gr : w.heap.size ≤ gr
/-- the inner loop's -/
structure InSt (w wi : World) (gb c gr n G j grp : Nat) (D E L : List Nat) : Prop where
  ob : Ob wi w.heap.size gb (n + j) c E
  bk : Bk wi gr L
  dig : Nd.Wf E
  eq : Nd.val E + 10 ^ (n + j) * grp = Nd.val D + 10 ^ n * G
  lt : grp < 10 ^ (9 - j)
  bel : Below w.heap.size w wi

theorem in_eq {vE P grp q r : Nat} (h : grp = 10 * q + r) : (vE + P * r) + P * 10 * q = vE + P * grp := by
  subst h; rw [Nat.mul_add, Nat.mul_assoc]; omega
theorem InSt.step {w wi w1 w2 : World} {gb c gr n G j grp g2 c2 : Nat} {D E L : List Nat} (h : InSt w wi gb c gr n G j grp D E L) (hj : j < 9) (ho : Ob w2 w.heap.size g2 (n + j + 1) c2 (E ++ [grp % 10]))
    (hw1 : w1 = wi.alloc (.cells #[.int .u8 (48 + (grp : Int) % 10)] 5)) (hg : w1.grownBy w2 (some gb)) : InSt w w2 g2 c2 gr n G (j + 1) (grp / 10) D (E ++ [grp % 10]) L := by
  subst hw1
  refine ⟨ho, ?_, Nd.wf_append.2 ⟨h.dig, Nd.wf_cons.2 ⟨Nat.mod_lt _ (by omega), Nd.wf_nil⟩⟩, ?_, ?_, ?_⟩
  · have hne := h.ob.ne_bk h.bk
    have hlt := h.bk.lt
    refine h.bk.keep ?_
    rw [hg.block gr (by simp; omega) (fun e => hne (by injection e with e; exact e.symm)), Below.heap_alloc _ _ _ hlt]
  · rw [Nd.val_snoc, h.ob.len, show n + (j + 1) = n + j + 1 by omega, Nat.pow_succ, ← h.eq]
    exact in_eq (by have := Nat.div_add_mod grp 10; omega)
  · have hl := h.lt
    rw [show 9 - j = (9 - (j + 1)) + 1 by omega, Nat.pow_succ] at hl
    exact Nat.div_lt_of_lt_mul (by rw [Nat.mul_comm]; exact hl)
  · have hb := h.bel.alloc h.bel.size (.cells #[.int .u8 (48 + (grp : Int) % 10)] 5)
    exact hb.grown hg hb.size (fun q hq => by injection hq with hq; rw [← hq]; exact h.ob.lt.1)

theorem tx_eq {vD P R q G a : Nat} (h : vD + P * R = a) (hR : R = q * 1000000000 + G) : (vD + P * G) + P * 1000000000 * q = a := by
  subst hR; rw [Nat.mul_add, Nat.mul_comm q, ← Nat.mul_assoc] at h; omega

/-- the end of an outer round -/
theorem TxSt.next {w wr w2 w3 : World} {a gb n c gr R G : Nat} {D E L Q : List Nat} {g2 c2 : Nat} (h : TxSt w wr a gb n c gr R D L) (hQl : Q.length = (dg R).length) (hQ : Wf Q) (hv : val (L.take (dg R).length) = val Q * 1000000000 + G)
    (hi : InSt w w2 g2 c2 gr n G 9 0 D E (splice L 0 Q)) (_h3 : w3 = w2) : TxSt w w2 a g2 (n + 9) c2 gr (val Q) E (splice L 0 Q) := by
  have hle := h.len
  have hq : (dg (val Q)).length ≤ Q.length := by
    have h2 := congrArg List.length (dg_val_take hQ)
    rw [List.length_take] at h2; omega
  have hls : (splice L 0 Q).length = L.length := length_spl (by omega)
  have htk : (splice L 0 Q).take (dg (val Q)).length = dg (val Q) := by
    unfold splice
    rw [List.take_zero, List.nil_append, List.take_append_of_le_length hq, ← dg_val_take hQ]
  refine ⟨hi.ob, hi.bk, wf_splice 0 h.wf hQ, by omega, htk, hi.dig, ?_, hi.bel, h.gr⟩
  have e1 := h.eq
  have e2 := hi.eq
  rw [h.take, val_dg] at hv
  rw [Nat.mul_zero, Nat.add_zero] at e2
  rw [e2, Nat.pow_add]
  exact tx_eq e1 hv

theorem cut_take {L Q : List Nat} {m : Nat} (hQ : Q.length = m) : (splice L 0 Q).take m = Q := by
  unfold splice
  rw [List.take_zero, List.nil_append, List.take_append_of_le_length (by omega), List.take_of_length_le (by omega)]

/-- the length in a slot -/
def lenOf' : Value → Nat | .slice _ n _ => n | _ => 0

theorem conv_txt {a gb k c base : Nat} {D : List Nat} {w : World} (he : Nd.dg a = D.take k) (ha : a ≠ 0) (ho : Ob w base gb k c (D.take k).reverse) :
    (convert 69 9 (.slice (some ⟨gb, 0, none⟩) k c)).run Try.prog w = .ok (.string (txt a)) w := by
  have hd : digs a = (D.take k).reverse := by unfold digs; rw [if_neg ha, he]
  unfold txt
  rw [hd]
  generalize (D.take k).reverse = E at ho
  have hl := ho.len
  refine run_convert_bytes_arg w 69 5 Try.underlying69 Try.underlying5 gb 0 k c _ (by rw [List.length_map]; exact hl) (fun i hi => ?_) 9 Try.underlying9
  rw [Nat.zero_add, ho.cell hi]
  simp [nth, show i < E.length by omega]

set_option maxHeartbeats 4000000 in
set_option maxRecDepth 100000 in
theorem text_pos (a c0 : Nat) (A : Option Addr) (w : World) (ha : Hid (Rd w w.heap.size A (dg a))) (la : (dg a).length ≤ 1024) (hpos : 0 < (dg a).length) :
    Calls Try.prog 34 #[.slice A (dg a).length c0] w fun e w' => e = .returned (.string (txt a)) ∧ Below w.heap.size w w' := by
  have VA := Lib.hid (vldB_dg la)
  have ea : (((dg a).length : Int) == 0) = false := beq_eq_false_iff_ne.2 (by omega)
  have hb0 := (Below.refl w.heap.size w).alloc (Nat.le_refl _) (.cells #[] 5)
  have O0 : Hid (Ob (w.alloc (.cells #[] 5)) w.heap.size w.heap.size 0 0 []) := ob_empty w
  go_enter Try.func34, Try.ntmps34
  go_wp2_with (first
    | (go_at_call 26; ((with_reducible refine (valid_yes c0 _ ha.out rfl (by omega) VA.out).mono ?_); rintro e w' ⟨rfl, rfl⟩))
    | (go_at_call 45; refine (duplicate_any c0 _ ((ha.out.below hb0).mono hb0.size) (Nat.le_refl _) rfl (by omega)).mono ?_; rintro e w1 ⟨rfl, h1, h2, h3⟩; have hb1 := hb0.trans (h3.mono hb0.size); have T0 : Hid (TxSt w w1 a w.heap.size 0 0 (w.alloc (.cells #[] 5)).heap.size a [] (dg a)) := ⟨O0.out.keep (h3.block _ (by simp)), h1, wf_dg a, Nat.le_refl _, List.take_of_length_le (Nat.le_refl _), Nd.wf_nil, by simp [Nd.val], hb1, by simp⟩; clear h1 h2 h3 hb1))
  go_loopg [3, 4] a (fun R v rest wr => ∃ (gb n c gr cr : Nat) (D L : List Nat), v = .slice (some ⟨gb, 0, none⟩) n c ∧ rest = .slice (some ⟨gr, 0, none⟩) (dg R).length cr ∧ (dg R).length ≤ cr ∧ (dg R).length ≤ 1024 ∧ n ≤ 20000 ∧ Hid (TxSt w wr a gb n c gr R D L))
  case atStart => exact ⟨w.heap.size, 0, 0, _, _, [], dg a, rfl, rfl, Nat.le_refl _, la, Nat.zero_le _, by have h := T0.out; rw [World.size_alloc] at h; exact h⟩
  case round =>
    obtain ⟨gb, n, c, gr, cr, D, L, rfl, rfl, hcr, hl, hn2, hst⟩ := hrel
    by_cases hR : gk = 0
    · subst hR
      have hD0 := hst.out.eq
      rw [Nat.mul_zero, Nat.add_zero] at hD0
      have HD0 := Lib.hid hD0
      have hlen := hst.out.ob.len
      have HLEN := Lib.hid hlen
      have ha0 : Hid (a ≠ 0) := fun e => by rw [e, dg_zero] at hpos; simp at hpos
      have hz : (dg 0).length = 0 := by rw [dg_zero]; rfl
      clear hD0 hlen
      go_wp2
      go_loop [3] (fun v => ∃ k : Nat, k ≤ n ∧ v = .slice (some ⟨gb, 0, none⟩) k c ∧ Hid (Cut D k)) (fun v => lenOf' v)
      case atStart => exact ⟨n, Nat.le_refl _, rfl, by have := Cut.all D; rw [HLEN.out] at this; exact this⟩
      case round =>
        obtain ⟨k, hk, rfl, hcut⟩ := hrel
        have hk0 : 0 < k := by
          rcases Nat.eq_zero_or_pos k with h0 | h0
          · subst h0
            have e := Nd.dg_cut (l := D) (n := 0) hst.out.dig (Nat.zero_le _) hcut.out.zero (.inl rfl)
            rw [HD0.out] at e
            exact absurd (Nd.dg_eq_nil.1 e) ha0.out
          · exact h0
        have hnc : n ≤ c := hst.out.ob.le
        obtain ⟨x, hx⟩ : ∃ x, x = nth D (k - 1) + 48 := ⟨_, rfl⟩
        have c1 : wr.cell? ⟨gb, k - 1, none⟩ = some (.int .u8 ((x : Nat) : Int)) := by rw [hx]; exact hst.out.ob.cell (by omega)
        by_cases hz0 : nth D (k - 1) = 0
        · have HZ := Lib.hid hz0
          have hb : ((x : Int) == 48) = true := by rw [hx, hz0]; rfl
          clear hz0 hx
          go_wp2
          go_round
          case rel => exact ⟨k - 1, by omega, rfl, hcut.out.step hk0 HZ.out⟩
          case measure => simp [lenOf']; omega
        · have HZ := Lib.hid hz0
          have hb : ((x : Int) == 48) = false := beq_eq_false_iff_ne.2 (by omega)
          clear hz0 hx
          have e := Nd.dg_cut hst.out.dig hcut.out.le hcut.out.zero (.inr HZ.out)
          rw [HD0.out] at e
          have HE := Lib.hid e
          clear e
          go_wp2_with (go_at_call 57; refine (reverse_any w.heap.size gb k c (D.take k) _ (show _ = _ by rw [List.length_take, HLEN.out]; omega) hk0 (by omega) (hst.out.ob.take (by omega))).mono ?_; rintro e w5 ⟨rfl, ho5, hu5⟩; have hcv := conv_txt HE.out ha0.out ho5; clear ho5)
          go_ret
          exact ⟨rfl, hst.out.bel.trans (hu5.below hst.out.ob.lt.1)⟩
    · have hlp : 0 < (dg gk).length := by
        rcases Nat.eq_zero_or_pos (dg gk).length with h | h
        · exact absurd (dg_eq_nil.1 (List.eq_nil_of_length_eq_zero h)) hR
        · exact h
      have hn : n ≤ 10240 := digits_bound la (by omega) hst.out.eq
      go_wp2_with (go_at_call 49; refine (divideBy_any gr (dg gk).length cr 1000000000 L _ hst.out.wf hst.out.len (by omega) hst.out.bk (by omega) (by omega)).mono ?_; rintro e w2 ⟨Q, G, rfl, hQl, hQ, hG, hv, hbk, hu⟩)
      have I0 : Hid (InSt w w2 gb c gr n G 0 G D D (splice L 0 Q)) := ⟨hst.out.ob.keep (hu.block _ (hst.out.ob.ne_bk hst.out.bk)), hbk, hst.out.dig, rfl, by simpa using hG, hst.out.bel.trans (hu.below hst.out.gr)⟩
      have HV := Lib.hid hv
      have HQL := Lib.hid hQl
      clear hv hQl hbk hu
      go_loopw [3, 5, 22] (fun v grp i wi => ∃ (g2 c2 j gv : Nat) (E : List Nat), j ≤ 9 ∧ i = .int .i64 j ∧ v = .slice (some ⟨g2, 0, none⟩) (n + j) c2 ∧ grp = .int .u32 gv ∧ gv < 4294967296 ∧ Hid (InSt w wi g2 c2 gr n G j gv D E (splice L 0 Q))) (fun _ _ i _ => 9 - (intOf i).toNat)
      case atStart => exact ⟨gb, c, 0, G, D, by omega, rfl, rfl, rfl, by omega, I0⟩
      case round =>
        rename_i wi
        obtain ⟨g2, c2, j, gv, E, hj, rfl, rfl, rfl, hgv, hin⟩ := hrel
        by_cases hj9 : j < 9
        · have hX : (48 : Int) + (gv : Int) % 10 = ((gv % 10 + 48 : Nat) : Int) := by omega
          have HX := Lib.hid hX
          clear hX
          go_wp2_with (first
            | (at_builtin; refine wpList_append_digit _ rfl _ _ 69 rfl Try.underlying69 w.heap.size g2 (n + j) c2 E rfl _ (gv % 10) HX.out _ hin.out.ob rfl rfl (by omega) hin.out.bel.size ?_; intro g3 c3 w3 ho3 hg3; have hin3 := hin.out.step hj9 ho3 rfl hg3; have HI3 := Lib.hid hin3; clear ho3 hg3 hin3))
          go_roundw
          case rel => exact ⟨g3, c3, j + 1, gv / 10, E ++ [gv % 10], by omega, by go_num, rfl, by go_num, by omega, HI3⟩
          case measure => simp [intOf]; omega
        · obtain rfl : j = 9 := by omega
          have hg0 := hin.out.lt
          rw [Nat.sub_self, Nat.pow_zero] at hg0
          obtain rfl : gv = 0 := by omega
          have hQlen : (dg (val Q)).length ≤ (dg gk).length := by
            have h2 := congrArg List.length (dg_val_take hQ)
            rw [List.length_take, HQL.out] at h2; omega
          have hRQ := hin.out.bk.rd_take hin.out.bk.lt (dg gk).length
          rw [cut_take HQL.out] at hRQ
          have HRQ := Lib.hid hRQ
          have hlt : val Q < gk := by
            have h1 := HV.out
            rw [hst.out.take, val_dg] at h1; omega
          clear hRQ
          go_wp2_with (go_at_call 56; refine (trimmed_any cr _ HRQ.out hQ HQL.out (by omega) hcr).mono ?_; rintro e w5 ⟨rfl, rfl⟩)
          go_roundg (val Q)
          case measure => exact hlt
          case rel => exact ⟨g2, n + 9, c2, gr, cr, E, splice L 0 Q, rfl, rfl, by omega, by omega, by omega, hst.out.next HQL.out hQ HV.out hin.out rfl⟩

theorem text_zero (A : Option Addr) (c0 : Nat) (w : World) :
    Calls Try.prog 34 #[.slice A 0 c0] w fun e w' => e = .returned (.string ⟨#[48]⟩) ∧ Below w.heap.size w w' := by
  have VA : Hid (vldB [] = true) := rfl
  have HA : Hid (Rd w w.heap.size A []) := Rd.nil
  go_enter Try.func34, Try.ntmps34
  go_wp2_with (first
    | (go_at_call 26; ((with_reducible refine (valid_yes (l := []) c0 0 HA.out rfl (by omega) VA.out).mono ?_); rintro e w' ⟨rfl, rfl⟩)))
  go_ret
  exact ⟨rfl, Below.refl _ _⟩

theorem txt_zero : txt 0 = ⟨#[48]⟩ := rfl

theorem text_ok (a c0 : Nat) (A : Option Addr) (w : World) (ha : Rd w w.heap.size A (dg a)) (la : (dg a).length ≤ 1024) :
    Calls Try.prog 34 #[.slice A (dg a).length c0] w fun e w' => e = .returned (.string (txt a)) ∧ Below w.heap.size w w' := by
  rcases Nat.eq_zero_or_pos (dg a).length with h0 | h0
  · have e : a = 0 := dg_eq_nil.1 (List.eq_nil_of_length_eq_zero h0)
    subst e
    rw [h0, txt_zero]
    exact text_zero A c0 w
  · exact text_pos a c0 A w ha la h0

set_option maxHeartbeats 400000 in
theorem text_bad {B : Nat} {A : Option Addr} {l : List Nat} {w : World} (c : Nat) (ha : Rd w B A l) (hl : l.length ≤ 1000000) (hv : Hid (vldB l = false)) :
    Calls Try.prog 34 #[.slice A l.length c] w fun e w' => e = .returned (.string ⟨#[]⟩) ∧ Below w.heap.size w w' := by
  have HA := Lib.hid ha
  clear ha
  go_enter Try.func34, Try.ntmps34
  go_wp2_with (first
    | (go_at_call 26; ((with_reducible refine (valid_no c _ HA.out rfl (by omega) hv.out).mono ?_); rintro e w' ⟨rfl, rfl⟩)))
  go_ret
  exact ⟨rfl, Below.refl _ _⟩

end Go.Proofs.Ytogmgomcdhfolaa
