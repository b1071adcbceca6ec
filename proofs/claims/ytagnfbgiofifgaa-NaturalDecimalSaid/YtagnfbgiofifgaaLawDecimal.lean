/-
  NaturalDecimal: Parse of the text is the number; its digits have the value of the number; texts are ordered as numbers.
-/
import Derived.Test.YtagnfbgiofifgaaLawPowers
namespace Go.Proofs.Ytagnfbgiofifgaa
open Go.RowKit Nt

/-- digits of equal number, the greatest first, are ordered as their numbers -/
theorem lex_val {D E : List Nat} (hl : D.length = E.length) (hD : Nd.Wf D) (hE : Nd.Wf E) :
    Op.bytesLess (D.map (fun d => UInt8.ofNat (d + 48))) (E.map (fun d => UInt8.ofNat (d + 48))) = decide (Nd.val D.reverse < Nd.val E.reverse) := by
  induction D generalizing E with
  | nil =>
    have e : E = [] := List.eq_nil_of_length_eq_zero (by simpa using hl.symm)
    subst e
    rfl
  | cons d D ih =>
    rcases E with _ | ⟨e, E⟩
    · simp at hl
    · obtain ⟨hd, hD'⟩ := Nd.wf_cons.1 hD
      obtain ⟨he, hE'⟩ := Nd.wf_cons.1 hE
      have hl' : D.length = E.length := by simpa using hl
      have b1 := Nd.val_lt (l := D.reverse) (fun x hx => hD' x (List.mem_reverse.1 hx))
      have b2 := Nd.val_lt (l := E.reverse) (fun x hx => hE' x (List.mem_reverse.1 hx))
      rw [List.length_reverse] at b1 b2
      rw [List.reverse_cons, List.reverse_cons, Nd.val_snoc, Nd.val_snoc, List.length_reverse, List.length_reverse]
      rw [List.map_cons, List.map_cons]
      show (decide (UInt8.ofNat (d + 48) < UInt8.ofNat (e + 48)) || (UInt8.ofNat (d + 48) == UInt8.ofNat (e + 48) && Op.bytesLess _ _)) = _
      rw [ih hl' hD' hE', ← hl'] 
      rw [← hl'] at b2
      have h1 : (UInt8.ofNat (d + 48) < UInt8.ofNat (e + 48)) ↔ d < e := by
        rw [UInt8.lt_iff_toNat_lt, UInt8.toNat_ofNat', UInt8.toNat_ofNat']; omega
      have h2 : (UInt8.ofNat (d + 48) = UInt8.ofNat (e + 48)) ↔ d = e := by
        rw [← UInt8.toNat_inj, UInt8.toNat_ofNat', UInt8.toNat_ofNat']; omega
      generalize 10 ^ D.length = P at b1 b2
      generalize Nd.val D.reverse = x at b1
      generalize Nd.val E.reverse = y at b2
      rcases Nat.lt_trichotomy d e with h | h | h
      · have e1 : P * (d + 1) ≤ P * e := Nat.mul_le_mul_left _ h
        rw [Nat.mul_add] at e1
        rw [decide_eq_true (h1.2 h), Bool.true_or]
        exact (decide_eq_true (by omega)).symm
      · subst h
        rw [decide_eq_false (fun h => Nat.lt_irrefl _ (h1.1 h)), Bool.false_or, beq_self_eq_true, Bool.true_and]
        congr 1
        exact propext ⟨fun h => by omega, fun h => by omega⟩
      · have e1 : P * (e + 1) ≤ P * d := Nat.mul_le_mul_left _ h
        rw [Nat.mul_add] at e1
        have h3 : ¬ UInt8.ofNat (d + 48) = UInt8.ofNat (e + 48) := fun q => by have := h2.1 q; omega
        rw [decide_eq_false (fun q => by have := h1.1 q; omega), Bool.false_or, beq_eq_false_iff_ne.2 h3, Bool.false_and]
        exact (decide_eq_false (by omega)).symm

theorem txt_less {a b : Nat} (h : (txt a).size = (txt b).size) : Op.bytesLess (txt a).toList (txt b).toList = decide (a < b) := by
  rw [ByteArray.toList_eq, ByteArray.toList_eq, txt_data, txt_data, lex_val (by rw [← txt_size, ← txt_size, h]) (wf_digs a) (wf_digs b), digs_val, digs_val]
theorem digs_mono {a b : Nat} (h : a ≤ b) : (digs a).length ≤ (digs b).length := by
  by_cases ha : a = 0
  · subst ha; exact digs_pos b
  · unfold digs
    rw [if_neg ha, if_neg (by omega), List.length_reverse, List.length_reverse]
    exact Nd.dg_length_mono h
theorem txt_inj {a b : Nat} (h : txt a = txt b) : a = b := by rw [← decU_txt a, h, decU_txt]

/-- how the texts of two numbers stand to one another -/
theorem txt_order {a b : Nat} {s t : ByteArray} (hs : txt a = s) (ht : txt b = t) :
    (s.size < t.size ∧ cmpN a b = -1) ∨ (s.size ≤ t.size ∧ t.size ≤ s.size ∧ Op.bytesLess s.toList t.toList = true ∧ cmpN a b = -1) ∨
    (s.size ≤ t.size ∧ t.size ≤ s.size ∧ Op.bytesLess s.toList t.toList = false ∧ (s.toList == t.toList) = true ∧ cmpN a b = 0) ∨
    (t.size < s.size ∧ (s.toList == t.toList) = false ∧ cmpN a b = 1) ∨
    (s.size ≤ t.size ∧ t.size ≤ s.size ∧ Op.bytesLess s.toList t.toList = false ∧ (s.toList == t.toList) = false ∧ cmpN a b = 1) := by
  subst hs
  subst ht
  have hne : a ≠ b → ((txt a).toList == (txt b).toList) = false := fun h => beq_eq_false_iff_ne.2 (fun e => h (txt_inj (by
    rw [ByteArray.toList_eq, ByteArray.toList_eq] at e
    have : (txt a).data = (txt b).data := Array.ext' e
    cases h1 : txt a; cases h2 : txt b; rw [h1, h2] at this; simp at this; rw [this])))
  rcases Nat.lt_trichotomy a b with h | h | h
  · have hm := digs_mono (Nat.le_of_lt h)
    rw [← txt_size, ← txt_size] at hm
    rcases Nat.lt_or_ge (txt a).size (txt b).size with h1 | h1
    · exact .inl ⟨h1, cmpN_lt h⟩
    · exact .inr (.inl ⟨hm, h1, by rw [txt_less (by omega)]; exact decide_eq_true h, cmpN_lt h⟩)
  · subst h
    exact .inr (.inr (.inl ⟨Nat.le_refl _, Nat.le_refl _, by rw [txt_less rfl]; exact decide_eq_false (Nat.lt_irrefl _), beq_self_eq_true _, cmpN_eq a⟩))
  · have hm := digs_mono (Nat.le_of_lt h)
    rw [← txt_size, ← txt_size] at hm
    rcases Nat.lt_or_ge (txt b).size (txt a).size with h1 | h1
    · exact .inr (.inr (.inr (.inl ⟨h1, hne (by omega), cmpN_gt h⟩)))
    · exact .inr (.inr (.inr (.inr ⟨h1, hm, by rw [txt_less (by omega)]; exact decide_eq_false (by omega), hne (by omega), cmpN_gt h⟩)))

theorem k_of {d : Nat} {w : World} (hd : d < 4294967296) : Calls Try.prog 30 #[.int .u64 (d : Int)] w (Back w d) := (of_any d 0 w (show d / 4294967296 = 0 by omega) (by omega)).mono fun _ _ h => h.back
theorem fit_small {d : Nat} (h : d < 4294967296) : Fit 1 d := dg_length_le (by rw [Nat.pow_one]; exact h)

theorem k_mul10 {v c d k : Nat} {A A' : Option Addr} {w : World} (ha : Hid (Rd w w.heap.size A (dg v))) (hb : Hid (Rd w w.heap.size A' (dg 10))) (fv : Hid (Fit k v)) (hk : k ≤ 500) :
    Calls Try.prog 39 #[.slice A (dg v).length c, .slice A' (dg 10).length d] w (Back w (v * 10)) :=
  k_mul k 1 ha hb fv (fit_small (by omega)) (by omega)
theorem k_add_d {x d c c' k z : Nat} {A A' : Option Addr} {w : World} (ha : Hid (Rd w w.heap.size A (dg x))) (hb : Hid (Rd w w.heap.size A' (dg d))) (fx : Hid (Fit k x)) (fd : Hid (Fit k d)) (hk : k ≤ 1000) (hz : Hid (x + d = z)) :
    Calls Try.prog 38 #[.slice A (dg x).length c, .slice A' (dg d).length c'] w (Back w z) := by
  have := k_add (c := c) (d := c') k ha hb fx fd (by omega)
  rwa [hz.out] at this

theorem rdb' {w w' : World} {A : Option Addr} {l : List Nat} (h : Hid (Rd w w.heap.size A l)) (hb : Below w.drew.heap.size w.drew w') : Hid (Rd w' w'.heap.size A l) := (h.out.keep hb.block).mono hb.size
theorem below_undrew {B : Nat} {w0 w w' : World} (h : Below B w0 w) (hb : Below w.drew.heap.size w.drew w') (hB : B ≤ w.heap.size) : Below B w0 w' := h.trans ⟨hb.os, hb.tape, hb.output, hb.size, fun k hk => hb.block k (Nat.lt_of_lt_of_le hk hB)⟩

/-- the state at the head of the loop over the digits -/
def DecSt (w wr : World) (s : ByteArray) (k v : Nat) (Av : Option Addr) : Prop := Rd wr wr.heap.size Av (dg v) ∧ decU s k = v ∧ Below w.heap.size w wr

set_option maxHeartbeats 4000000 in
set_option maxRecDepth 100000 in
theorem decimal_core (n0 c0 : Nat) (L0 : Option Addr) (l0 : List Nat) (n1 c1 : Nat) (L1 : Option Addr) (l1 : List Nat) (a : Nat) (H_a : Hid (val (l0.take 20) = a)) (F_a : Fit 20 a) (b : Nat) (H_b : Hid (val (l1.take 20) = b)) (F_b : Fit 20 b)
    (s t : ByteArray) (hs : Hid (txt a = s)) (ht : Hid (txt b = t)) (hlead : s.size ≤ 1 ∨ (1 < s.size ∧ ((byt s 0 : Int) == 48) = false))
    (w : World) (R_l0 : Hid (Rd w w.heap.size L0 l0)) (W0 : Hid (Wf l0 ∧ l0.length = n0 ∧ n0 ≤ 9223372036854775807 ∧ n0 ≤ c0)) (R_l1 : Hid (Rd w w.heap.size L1 l1)) (W1 : Hid (Wf l1 ∧ l1.length = n1 ∧ n1 ≤ 9223372036854775807 ∧ n1 ≤ c1)) :
    Calls Try.prog 10 #[.slice L0 n0 c0, .slice L1 n1 c1] w (BackB w true) := by
  have hget := get_byt s
  have la : Hid ((dg a).length ≤ 1024) := F_a.out (by omega)
  have lb : Hid ((dg b).length ≤ 1024) := F_b.out (by omega)
  have hd : Hid (DecS s) := by rw [← hs.out]; exact dec_txt a
  have hv : Hid (decU s s.size = a) := by rw [← hs.out]; exact decU_txt a
  have hsz : s.size ≤ 200 := by rw [← hs.out]; exact txt_short F_a
  have htz : t.size ≤ 200 := by rw [← ht.out]; exact txt_short F_b
  have hp : 0 < s.size := hd.out.pos
  have he : ¬ s.toList = [] := fun h => by have := (empty_iff s).1 h; omega
  have hei : s.toList.isEmpty = false := by
    rcases hc : s.toList.isEmpty with _ | _
    · rfl
    · exact absurd (List.isEmpty_iff.1 hc) he
  have key := Lib.hid (txt_order hs.out ht.out)
  rcases hlead with h1 | ⟨h1, h2⟩
  all_goals
    go_enter Try.func10, Try.ntmps10
    go_wp2_with fail
    refine k_sanity.mono ?_
    rintro e w1 ⟨rfl, b1⟩
    replace R_l0 := rdb R_l0 b1
    replace R_l1 := rdb R_l1 b1
    go_wp2_with fail
    refine (k_made 20 R_l0 W0 H_a (by omega)).mono ?_
    rintro e w2 ⟨A2, d2, rfl, _, R_a, b2⟩
    replace R_l1 := rdb R_l1 b2
    have B2 := b1.trans (b2.mono b1.size)
    go_wp2_with fail
    refine (k_made 20 R_l1 W1 H_b (by omega)).mono ?_
    rintro e w3 ⟨A3, d3, rfl, _, R_b, b3⟩
    replace R_a := rdb R_a b3
    have B3 := B2.trans (b3.mono B2.size)
    go_wp2_with fail
    refine (k_text R_a la.out).mono ?_
    rintro e w4 ⟨rfl, b4⟩
    rw [hs.out]
    replace R_a := rdb R_a b4
    replace R_b := rdb R_b b4
    have B4 := B3.trans (b4.mono B3.size)
    go_wp2_with fail
    refine (k_text R_b lb.out).mono ?_
    rintro e w5 ⟨rfl, b5⟩
    rw [ht.out]
    replace R_a := rdb R_a b5
    replace R_b := rdb R_b b5
    have B5 := B4.trans (b5.mono B4.size)
    go_wp2_with fail
    refine (k_parse (by omega) hd hv).mono ?_
    rintro e w6 ⟨A6, d6, rfl, _, R_p, b6⟩
    replace R_a := rdb R_a b6
    replace R_b := rdb R_b b6
    have B6 := B5.trans (b6.mono B5.size)
    go_wp2_with fail
    refine (k_same true R_p R_a la.out la.out (by simp)).mono ?_
    rintro e w7 ⟨rfl, b7⟩
    replace R_a := rdb R_a b7
    replace R_b := rdb R_b b7
    have B7 := B6.trans (b7.mono B6.size)
    clear R_l0 R_l1 R_p b1 b2 b3 b4 b5 b6 b7 B2 B3 B4 B5 B6
    have hA := (Below.refl w7.heap.size w7).alloc (Nat.le_refl _) (.cells #[] 41)
    have R_a8 := rdb R_a hA
    have R_b8 := rdb R_b hA
    have B8 := B7.trans (hA.mono B7.size)
    have S0 : Hid (DecSt w (w7.alloc (.cells #[] 41)) s 0 0 (some ⟨w7.heap.size, 0, none⟩)) := ⟨by rw [dg_zero]; exact Rd.nil, rfl, B8⟩
    have z0 : (dg 0).length = 0 := by rw [dg_zero]; rfl
    have Z0 := Lib.hid z0
    clear hA B7 B8 R_a R_b z0
    go_wp2_with fail
    go_loopw [12, 13] (fun v i wr => ∃ (k x c n : Nat) (Av : Option Addr), k ≤ s.size ∧ i = .int .i64 k ∧ v = .slice Av n c ∧ Hid ((dg x).length = n) ∧ Hid (Rd wr wr.heap.size A2 (dg a)) ∧ Hid (Rd wr wr.heap.size A3 (dg b)) ∧ Hid (DecSt w wr s k x Av)) (fun _ i _ => s.size - (intOf i).toNat)
    case atStart => exact ⟨0, 0, 0, 0, _, Nat.zero_le _, rfl, rfl, Z0, R_a8, R_b8, S0⟩
    case round =>
      obtain ⟨k, x, c, n, Av, hk, rfl, rfl, hn, Ra, Rb, hst⟩ := hrel
      have hn' := hn.out
      subst hn'
      have Rv : Hid (Rd wr wr.heap.size Av (dg x)) := hst.out.1
      have Bw := hst.out.2.2
      by_cases hlt : k < s.size
      · have q1 := (hd.out.all k hlt).1
        have q2 := (hd.out.all k hlt).2
        obtain ⟨d, hdd⟩ : ∃ d : Nat, d = byt s k - 48 := ⟨_, rfl⟩
        have hdi : (byt s k : Int) - 48 = (d : Int) := by omega
        have hd9 : d ≤ 9 := by omega
        obtain ⟨z, hz⟩ : ∃ z, Hid (x * 10 + d = z) := ⟨_, rfl⟩
        have hzz : Hid (decU s (k + 1) = z) := by
          show decU s k * 10 + (byt s k - 48) = z
          rw [hst.out.2.1, ← hdd]; exact hz.out
        have fx : Hid (Fit 300 x) := by
          have h := decU_lt (s := s) (k := k) (fun j hj => (hd.out.all j (by omega)).2)
          rw [hst.out.2.1] at h
          exact Fit.mono (dg_length_le (Nat.lt_of_lt_of_le h (Nat.pow_le_pow_left (by omega) k))) (by omega)
        have fm : Hid (Fit 301 (x * 10)) := Fit.mul fx.out (fit_small (d := 10) (by omega))
        have fd : Hid (Fit 301 d) := Fit.mono (fit_small (by omega)) (by omega)
        have i1 : (0 : Int) ≤ (k : Int) := by omega
        have i2 : (k : Int) < (s.size : Int) := by omega
        clear hdd
        have e1 : IntKind.u8.wrap (d : Int) = (d : Int) := IntWalk.u8_in _ (by omega)
        have e2 : IntKind.u64.wrap (d : Int) = (d : Int) := IntWalk.u64_in _ (by omega)
        go_wp2_with fail
        go_region_law ((first
            | (go_simp; go_at_call 30; (with_reducible refine (of_10 _).mono ?_); rintro e w8 ⟨A8, d8, rfl, _, R10, b8⟩; (try (first | replace Ra := rdb Ra b8 | replace Ra := rdb' Ra b8)); (try (first | replace Rb := rdb Rb b8 | replace Rb := rdb' Rb b8)); (try (first | replace Rv := rdb Rv b8 | replace Rv := rdb' Rv b8)); (try (first | replace Rdg := rdb Rdg b8 | replace Rdg := rdb' Rdg b8)); (first | replace Bw := Bw.trans (b8.mono Bw.size) | replace Bw := below_undrew Bw b8 Bw.size); clear b8)
            | (go_simp; go_at_call 30; (with_reducible refine (k_of (d := d) (by omega)).mono ?_); rintro e w8 ⟨A9, d9, rfl, _, Rdg, b8⟩; (try (first | replace Ra := rdb Ra b8 | replace Ra := rdb' Ra b8)); (try (first | replace Rb := rdb Rb b8 | replace Rb := rdb' Rb b8)); (try (first | replace Rv := rdb Rv b8 | replace Rv := rdb' Rv b8)); (try (first | replace R10 := rdb R10 b8 | replace R10 := rdb' R10 b8)); (try (first | replace Rm := rdb Rm b8 | replace Rm := rdb' Rm b8)); (first | replace Bw := Bw.trans (b8.mono Bw.size) | replace Bw := below_undrew Bw b8 Bw.size); clear b8)
            | (go_simp; go_at_call 39; refine (k_mul10 Rv R10 fx (by omega)).mono ?_; rintro e w8 ⟨Am, dm, rfl, _, Rm, b8⟩; (try (first | replace Ra := rdb Ra b8 | replace Ra := rdb' Ra b8)); (try (first | replace Rb := rdb Rb b8 | replace Rb := rdb' Rb b8)); (try (first | replace Rdg := rdb Rdg b8 | replace Rdg := rdb' Rdg b8)); (first | replace Bw := Bw.trans (b8.mono Bw.size) | replace Bw := below_undrew Bw b8 Bw.size); clear b8)
            | (go_simp; go_at_call 38; refine (k_add_d Rm Rdg fm fd (by omega) hz).mono ?_; rintro e w8 ⟨Az, dz, rfl, _, Rz, b8⟩; (try (first | replace Ra := rdb Ra b8 | replace Ra := rdb' Ra b8)); (try (first | replace Rb := rdb Rb b8 | replace Rb := rdb' Rb b8)); (first | replace Bw := Bw.trans (b8.mono Bw.size) | replace Bw := below_undrew Bw b8 Bw.size); clear b8)))
        all_goals
          clear e1 e2 Rv R10 Rm Rdg
          go_wp2_with fail
          go_roundw
          case rel => exact ⟨k + 1, z, dz, _, Az, by omega, by go_num, rfl, rfl, Ra, Rb, Rz.out, hzz.out, Bw⟩
          case measure => simp [intOf]; omega
      · obtain rfl : k = s.size := by omega
        have hxa : x = a := by rw [← hst.out.2.1, hv.out]
        subst hxa
        clear hst hn hv hlt hk
        rcases key.out with ⟨o1, oz⟩ | ⟨o1, o2, o3, oz⟩ | ⟨o1, o2, o3, o4, oz⟩ | ⟨o1, o2, oz⟩ | ⟨o1, o2, o3, o4, oz⟩
        all_goals
          have HOZ := Lib.hid oz
          clear oz key
          go_wp2_with fail
          refine (k_same true Rv Ra la.out la.out (by simp)).mono ?_
          rintro e w8 ⟨rfl, b8⟩
          have Ra9 := rdb Ra b8
          have Rb9 := rdb Rb b8
          have B9 := Bw.trans (b8.mono Bw.size)
          go_wp2_with fail
          refine (k_cmp _ Ra9 Rb9 la.out lb.out HOZ.out).mono ?_
          rintro e w9 ⟨rfl, b9⟩
          have B10 := B9.trans (b9.mono B9.size)
          go_wp2_with fail
          go_ret
          exact ⟨rfl, B10⟩

theorem naturalDecimal_walk (n0 c0 : Nat) (L0 : Option Addr) (l0 : List Nat) (n1 c1 : Nat) (L1 : Option Addr) (l1 : List Nat)
    (w : World) (R_l0 : Hid (Rd w w.heap.size L0 l0)) (W0 : Hid (Wf l0 ∧ l0.length = n0 ∧ n0 ≤ 9223372036854775807 ∧ n0 ≤ c0)) (R_l1 : Hid (Rd w w.heap.size L1 l1)) (W1 : Hid (Wf l1 ∧ l1.length = n1 ∧ n1 ≤ 9223372036854775807 ∧ n1 ≤ c1)) :
    Calls Try.prog 10 #[.slice L0 n0 c0, .slice L1 n1 c1] w (BackB w true) := by
  obtain ⟨a, H_a⟩ : ∃ v, Hid (val (l0.take 20) = v) := ⟨_, rfl⟩
  have F_a : Fit 20 a := by have h := Fit.list W0.out.1 20; rwa [H_a.out] at h
  obtain ⟨b, H_b⟩ : ∃ v, Hid (val (l1.take 20) = v) := ⟨_, rfl⟩
  have F_b : Fit 20 b := by have h := Fit.list W1.out.1 20; rwa [H_b.out] at h
  refine decimal_core n0 c0 L0 l0 n1 c1 L1 l1 a H_a F_a b H_b F_b _ _ rfl rfl ?_ w R_l0 W0 R_l1 W1
  have hd := dec_txt a
  rcases Nat.lt_or_ge 1 (txt a).size with h | h
  · right
    have hl := hd.lead.resolve_left (by omega)
    exact ⟨h, beq_eq_false_iff_ne.2 (by omega)⟩
  · exact .inl h

end Go.Proofs.Ytagnfbgiofifgaa
