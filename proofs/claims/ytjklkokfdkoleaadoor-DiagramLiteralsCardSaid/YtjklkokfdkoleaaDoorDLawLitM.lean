/-
  DiagramLiterals: a conjunction of literals has exactly the configurations that agree with all of them.
-/
import Derived.Test.YtjklkokfdkoleaaDoorMh
import Derived.Test.YtjklkokfdkoleaaDoorMi
import Derived.Test.YtjklkokfdkoleaaDoorMg
import Derived.Laws.BitsAllLaws
import Derived.Deep.DeepCutAuto
import Derived.Deep.LoopGhost
namespace Go.Proofs.YtjklkokfdkoleaaDoor
open Go.RowKit Dg St

/-- a slice of bytes reads as a list -/
structure R8 (w : World) (A : Option Addr) (n : Nat) (l : List Nat) : Prop where
  len : l.length = n
  lt : ∀ x ∈ l, x < 256
  rd : 0 < n → ∃ b o, A = some ⟨b, o, none⟩ ∧ b < w.heap.size ∧ ∀ j, j < n → w.cell? ⟨b, o + j, none⟩ = some (.int .u8 ((l.getD j 0 : Nat) : Int))
theorem R8.below {w w' : World} {A : Option Addr} {n : Nat} {l : List Nat} (h : R8 w A n l) (hb : Below w.heap.size w w') : R8 w' A n l :=
  ⟨h.len, h.lt, fun h0 => by
    obtain ⟨b, o, e, hlt, hc⟩ := h.rd h0
    exact ⟨b, o, e, Nat.lt_of_lt_of_le hlt hb.size, fun j hj => (hb.cell (p := ⟨b, o + j, none⟩) hlt).trans (hc j hj)⟩⟩
theorem row_r8 {w : World} {a : Option Addr} {len cap : Nat} {zs : List Int}
    (h : (a = none ∧ len = 0 ∧ cap = 0 ∧ zs = []) ∨ ∃ x, a = some x ∧ len ≤ cap ∧ cap ≤ maxLen ∧ zs.length = cap ∧ (∀ i, i < zs.length → w.cell? (x.add i) = some (.int .u8 (zs.getD i 0))) ∧ ∀ n ∈ zs, (Lit.int .u8 n).wf = true) :
    ∃ l : List Nat, Hid (R8 w a len l) ∧ Hid (len ≤ 9223372036854775807) := by
  rcases h with ⟨rfl, rfl, rfl, rfl⟩ | ⟨x, rfl, h1, h2, h3, h4, h5⟩
  · exact ⟨[], ⟨rfl, fun x hx => by simp at hx, fun h => by omega⟩, Lib.hid (by omega)⟩
  · refine ⟨(zs.take len).map Int.toNat, ⟨by simp; omega, fun x hx => ?_, fun h0 => ?_⟩, Lib.hid (by unfold maxLen at h2; omega)⟩
    · obtain ⟨n, hn, rfl⟩ := List.mem_map.1 hx
      have := Go.bounds_u8 (h5 n (List.mem_of_mem_take hn))
      omega
    · obtain ⟨b, o, rfl, hc⟩ := Go.ints_at h4 (by omega)
      refine ⟨b, o, rfl, block_lt_of_cell (hc 0 (by omega)), fun j hj => ?_⟩
      rw [hc j (by omega)]
      have hz := (Go.bounds_u8 (h5 (zs.getD j 0) (by rw [List.getD_eq_getElem?_getD, List.getElem?_eq_getElem (by omega)]; exact List.getElem_mem _))).1
      have e : ((zs.take len).map Int.toNat).getD j 0 = (zs.getD j 0).toNat := by
        rw [List.getD_eq_getElem?_getD, List.getD_eq_getElem?_getD, List.getElem?_map, List.getElem?_take, if_pos (by omega)]
        rw [List.getElem?_eq_getElem (by omega)]; rfl
      rw [e, Int.toNat_of_nonneg hz]

/-- the literals of the first k bytes, the last one first -/
def lits (l : List Nat) (k : Nat) : List (Nat × Bool) := ((l.take k).map fun b => (b % 64, decide (128 ≤ b))).reverse
theorem lits_zero (l : List Nat) : lits l 0 = [] := rfl
theorem lits_succ {l : List Nat} {k : Nat} (h : k < l.length) : lits l (k + 1) = (l.getD k 0 % 64, decide (128 ≤ l.getD k 0)) :: lits l k := by
  unfold lits
  rw [List.take_succ_eq_append_getElem h, List.map_append, List.reverse_append, List.getD_eq_getElem?_getD, List.getElem?_eq_getElem h]
  rfl
theorem lits_64 (l : List Nat) (k : Nat) : ∀ p ∈ lits l k, p.1 < 64 := fun p hp => by
  unfold lits at hp
  rw [List.mem_reverse, List.mem_map] at hp
  obtain ⟨b, _, rfl⟩ := hp
  show b % 64 < 64; omega
theorem lits_len {l : List Nat} {k : Nat} (h : k ≤ l.length) : (lits l k).length = k := by
  unfold lits; simp; omega
theorem clash_cons (p : Nat × Bool) (L : List (Nat × Bool)) (h : clash L = true) : clash (p :: L) = true := by
  obtain ⟨v, h1, h2⟩ := clash_iff.1 h
  exact clash_iff.2 ⟨v, List.mem_cons_of_mem _ h1, List.mem_cons_of_mem _ h2⟩

/-- the state of the law's loop: the diagram's box is block g -/
structure LiS (w wr : World) (g : Nat) (A8 : Option Addr) (n : Nat) (l : List Nat) (A : Option Addr) (m c r : Nat) (L : List (Nat × Bool)) : Prop where
  bel : Below w.heap.size w wr
  ins0 : Ins w 0
  rd0 : R8 w A8 n l
  box : B2 wr g (.slice A m c) (.int .i64 (r : Int))
  dn : Dn wr A m c r (cube L)
  gb : w.heap.size ≤ g
theorem LiS.ins {w wr : World} {g n m c r : Nat} {A8 A : Option Addr} {l : List Nat} {L : List (Nat × Bool)} (h : LiS w wr g A8 n l A m c r L) : Ins wr 0 := h.ins0.below h.bel
theorem LiS.rd {w wr : World} {g n m c r : Nat} {A8 A : Option Addr} {l : List Nat} {L : List (Nat × Bool)} (h : LiS w wr g A8 n l A m c r L) : R8 wr A8 n l := h.rd0.below h.bel
theorem LiS.below {w wr w' : World} {g n m c r : Nat} {A8 A : Option Addr} {l : List Nat} {L : List (Nat × Bool)} (h : LiS w wr g A8 n l A m c r L) (hb : Below wr.heap.size wr w') : LiS w w' g A8 n l A m c r L :=
  ⟨h.bel.trans (hb.mono h.bel.size), h.ins0, h.rd0, h.box.below (by omega) hb, h.dn.below hb, h.gb⟩

theorem LiS.below' {w wr w' : World} {g n m c r : Nat} {A8 A : Option Addr} {l : List Nat} {L : List (Nat × Bool)} (h : LiS w wr g A8 n l A m c r L) (hb : Below wr.drew.heap.size wr.drew w') : LiS w w' g A8 n l A m c r L :=
  (h.below (Below.refl wr.heap.size wr).drew).below hb
theorem rdnd {w : World} {A : Option Addr} {m c r : Nat} {f : Cfg → Bool} (h : Hid (Dn w A m c r f)) : Hid (Dn w.drew A m c r f) := rdn h (Below.refl _ _).drew
theorem rinD {w : World} (h : Hid (Ins w 0)) : Hid (Ins w.drew 0) := rin h (Below.refl _ _).drew
theorem and_cube (p : Nat × Bool) (L : List (Nat × Bool)) : (fun x : Cfg => and (cube [p] x) (cube L x)) = cube (p :: L) := by
  funext x; simp [cube]
theorem and_len {L : List (Nat × Bool)} {k V : Nat} {b : Bool} (h64 : ∀ p ∈ L, p.1 < 64) (hl : L.length = k) (hv : V < 64) (hk : k < 12) : (cn (fun x => and (cube [(V, b)] x) (cube L x))).1.length ≤ 4096 := by
  rw [and_cube]
  have := cube_size (L := (V, b) :: L) (fun p hp => by
    rcases List.mem_cons.1 hp with rfl | h
    · exact hv
    · exact h64 p h)
  rw [List.length_cons] at this; omega
theorem and_pr {w : World} {A : Option Addr} {m1 c1 r1 m V : Nat} {b : Bool} (h : Dn w A m1 c1 r1 (cube [(V, b)])) (hm : m ≤ 12) (hv : V < 64) : (m1 + 2) * (m + 2) ≤ 4096 := by
  have h1 := cube_size (L := [(V, b)]) (fun p hp => by simp at hp; subst hp; exact hv)
  have h2 := h.len
  have h3 : m1 + 2 ≤ 3 := by rw [← h2]; simpa using h1
  exact Nat.le_trans (Nat.mul_le_mul h3 (show m + 2 ≤ 14 by omega)) (by omega)

/-- behind the round's And: its diagram lies in block h, the old one still in block g -/
def LCut (w wx : World) (g : Nat) (A8 : Option Addr) (n : Nat) (l : List Nat) (A : Option Addr) (m c r : Nat) (L : List (Nat × Bool)) (p : Nat × Bool) (s14 s15 : Value) : Prop :=
  ∃ (h : Nat) (A9 : Option Addr) (m9 c9 r9 : Nat), s14 = .pointer (some ⟨h, 0, none⟩) ∧ s15 = .int .i64 0 ∧ LiS w wx g A8 n l A m c r L ∧ B2 wx h (.slice A9 m9 c9) (.int .i64 (r9 : Int)) ∧ Dn wx A9 m9 c9 r9 (cube (p :: L)) ∧ Fr A9 (g + 1) ∧ h ≠ g
theorem lcut_late {w wr w9 wx : World} {g n m c r m9 c9 r9 : Nat} {A8 A A9 : Option Addr} {l : List Nat} {L : List (Nat × Bool)} {p : Nat × Bool} (h : LiS w wr g A8 n l A m c r L) (hb : Below wr.heap.size wr w9) (d : Dn w9 A9 m9 c9 r9 (fun x => and (cube [p] x) (cube L x))) (f : Fr A9 (g + 1))
    (hx : wx = (w9.alloc (.cells #[.slice A9 m9 c9, .int .i64 (r9 : Int)] 24))) : LCut w wx g A8 n l A m c r L p (.pointer (some ⟨w9.heap.size, 0, none⟩)) (.int .i64 0) := by
  subst hx
  have ha := ab2 w9 (.cells #[.slice A9 m9 c9, .int .i64 (r9 : Int)] 24)
  refine ⟨_, A9, m9, c9, r9, rfl, rfl, h.below (hb.trans (ha.mono hb.size)), (nb2 w9 _ _ _).out, (d.congr (and_cube p L)).below ha, f, ?_⟩
  have := (h.below hb).box.lt (by omega); omega
theorem lcut_early {w wr w9 wx : World} {g H n m c r m9 c9 r9 : Nat} {A8 A A9 : Option Addr} {l : List Nat} {L : List (Nat × Bool)} {p : Nat × Bool} (h : LiS w wr g A8 n l A m c r L) (hb : Below wr.heap.size wr w9) (h8 : wr.heap.size ≤ H) (d : Dn w9 A9 m9 c9 r9 (fun x => and (cube [p] x) (cube L x))) (f : Fr A9 (H + 1)) (x14 : B2 w9 H (.slice none 0 0) (.int .i64 0))
    (hx : wx = ((w9.setCell ⟨H, 0, none⟩ (.slice A9 m9 c9)).setCell ⟨H, 1, none⟩ (.int .i64 (r9 : Int)))) : LCut w wx g A8 n l A m c r L p (.pointer (some ⟨H, 0, none⟩)) (.int .i64 0) := by
  subst hx
  have hg := h.box.lt (by omega)
  refine ⟨_, A9, m9, c9, r9, rfl, rfl, h.below ((hb.setCell (by simpa using h8) _).setCell (by simpa using h8) _), ?_, (d.put f _ _).congr (and_cube p L), f.mono (by omega), by omega⟩
  refine ((x14.set (i := 0) (by omega) _).set (i := 1) (by omega) _).congr (fun i hi => ?_)
  obtain rfl | rfl : i = 0 ∨ i = 1 := by omega
  · rfl
  · rfl
theorem LCut.drew {w wx : World} {g n m c r : Nat} {A8 A : Option Addr} {l : List Nat} {L : List (Nat × Bool)} {p : Nat × Bool} {s14 s15 : Value} (h : LCut w wx g A8 n l A m c r L p s14 s15) : LCut w wx.drew g A8 n l A m c r L p s14 s15 := by
  obtain ⟨h', A9, m9, c9, r9, e1, e2, a, b, d, f, ne⟩ := h
  have hd := (Below.refl wx.heap.size wx).drew
  exact ⟨h', A9, m9, c9, r9, e1, e2, a.below hd, b.below (by omega) hd, d.below hd, f, ne⟩

theorem lis_next {w wx : World} {g n m c r m9 c9 r9 : Nat} {A8 A A9 : Option Addr} {l : List Nat} {L L1 : List (Nat × Bool)} {p : Nat × Bool} (h : LiS w wx g A8 n l A m c r L) (d : Dn wx A9 m9 c9 r9 (cube (p :: L))) (f : Fr A9 (g + 1)) (hL : L1 = p :: L) :
    LiS w ((wx.setCell ⟨g, 0, none⟩ (.slice A9 m9 c9)).setCell ⟨g, 1, none⟩ (.int .i64 (r9 : Int))) g A8 n l A9 m9 c9 r9 L1 := by
  subst hL
  refine ⟨(h.bel.setCell h.gb _).setCell h.gb _, h.ins0, h.rd0, ?_, d.put f _ _, h.gb⟩
  refine ((h.box.set (i := 0) (by omega) _).set (i := 1) (by omega) _).congr (fun i hi => ?_)
  obtain rfl | rfl : i = 0 ∨ i = 1 := by omega
  · rfl
  · rfl
theorem bit_odd {x V : Nat} : (((x : Int) / 2 ^ V).tmod 2 == 1) = cf x V := by
  have e : ((x : Int) / 2 ^ V) = ((x / 2 ^ V : Nat) : Int) := by simp
  rw [e, Int.tmod_eq_emod_of_nonneg (Int.natCast_nonneg _)]
  show _ = x.testBit V
  rw [Nat.testBit_eq_decide_div_mod_eq, Bool.eq_iff_iff, beq_iff_eq, decide_eq_true_iff]
  omega

theorem mix_bits {x Z O : Nat} (hx : x < 2 ^ 64) (hZ : Z < 2 ^ 64) (i : Nat) : ((x &&& (18446744073709551615 - Z)) ||| O).testBit i = ((x.testBit i && !Z.testBit i) || O.testBit i) := by
  rw [Nat.testBit_or, Nat.testBit_and, show 18446744073709551615 - Z = 2 ^ 64 - (Z + 1) by omega, Nat.testBit_two_pow_sub_succ hZ]
  by_cases h : i < 64
  · simp [h]
  · have : x.testBit i = false := Nat.testBit_lt_two_pow (Nat.lt_of_lt_of_le hx (Nat.pow_le_pow_right (by omega) (by omega)))
    simp [this]
theorem mix_lt {x Z O : Nat} (hx : x < 18446744073709551616) (hO : O < 18446744073709551616) : ((x &&& (18446744073709551615 - Z)) ||| O) < 18446744073709551616 :=
  Nat.or_lt_two_pow (n := 64) (Nat.lt_of_le_of_lt Nat.and_le_left hx) hO

theorem lid {p : Prop} (h : p) : Hid p := Lib.hid h

theorem constant_one (w : World) : Calls Tryd.prog 52 #[.bool true] w fun e w' => e = .returned (.agg #[.slice none 0 0, .int .i64 1]) ∧ Below w.heap.size w w' := constant_any true w
theorem constant_nil (w : World) : Calls Tryd.prog 52 #[.bool false] w fun e w' => e = .returned (.agg #[.slice none 0 0, .int .i64 0]) ∧ Below w.heap.size w w' := constant_any false w
theorem dn_true (w : World) : Dn w none 0 0 1 (fun _ => true) := ⟨by rw [cn_const]; exact Rd.nil, by rw [cn_const]; rfl, by rw [cn_const]; rfl, Nat.le_refl _, by omega, d64_const _⟩
theorem dn_false (w : World) : Dn w none 0 0 0 (fun _ => false) := ⟨by rw [cn_const]; exact Rd.nil, by rw [cn_const]; rfl, by rw [cn_const]; rfl, Nat.le_refl _, by omega, d64_const _⟩

set_option maxHeartbeats 16000000 in
set_option maxRecDepth 100000 in
theorem lawLit_walk (n c0 x : Nat) (A8 : Option Addr) (l : List Nat) (w : World) (hx : x < 18446744073709551616) (H8 : Hid (R8 w A8 n l)) (hn : Hid (n ≤ 9223372036854775807)) (HIN : Hid (Ins w 0)) :
    Calls Tryd.prog 13 #[.slice A8 n c0, .int .u64 (x : Int)] w fun e w' => e = .returned (.bool true) ∧ Below w.heap.size w w' := by
  have hn' := hn.out
  go_enter Tryd.func13, Tryd.ntmps13
  go_wp2_with fail
  refine (sanity_ok w HIN).mono ?_
  rintro e w1 ⟨rfl, b1⟩
  have HB1 := Lib.hid b1
  clear b1
  go_wp2_with fail
  refine (constant_one _).mono ?_
  rintro e w2 ⟨rfl, b2⟩
  have HB2 := btr HB1 b2 HB1.out.size
  clear b2
  go_wp2
  have HS : Hid (LiS w (w2.alloc (.cells #[.slice none 0 0, .int .i64 1] 24)) w2.heap.size A8 n l none 0 0 1 (lits l 0)) := by
    have hb := HB2.out.trans ((ab2 w2 (.cells #[.slice none 0 0, .int .i64 1] 24)).mono HB2.out.size)
    exact ⟨hb, HIN.out, H8.out, (nb2 w2 _ _ _).out, dn_true _, HB2.out.size⟩
  generalize w2.alloc (.cells #[.slice none 0 0, .int .i64 1] 24) = w3 at *
  generalize w2.heap.size = g at *
  clear HB1 HB2
  go_loopg [7, 8, 9, 10, 11] 12 (fun gh ag cl on ze i wr => ∃ (k : Nat) (A : Option Addr) (m c r : Nat), k ≤ n ∧ k ≤ 12 ∧ gh = 12 - k ∧ ag = .bool (cube (lits l k) (cf x)) ∧ cl = .bool (clash (lits l k)) ∧ on = .int .u64 ((lm true (lits l k) : Nat) : Int) ∧ ze = .int .u64 ((lm false (lits l k) : Nat) : Int) ∧ i = .int .i64 (k : Int) ∧ Hid (LiS w wr g A8 n l A m c r (lits l k)))
  case atStart => exact ⟨0, none, 0, 0, 1, Nat.zero_le _, Nat.zero_le _, rfl, rfl, congrArg Value.bool (show false = clash [] by decide), rfl, rfl, rfl, HS.out⟩
  case round =>
    obtain ⟨k, A, m, c, r, hk, hk12, rfl, rfl, rfl, rfl, rfl, rfl, hst⟩ := hrel
    have i0 : (0 : Int) ≤ (k : Int) := by omega
    by_cases hlt : k < n ∧ k < 12
    · obtain ⟨hkn, hk1⟩ := hlt
      have i2 : (k : Int) < (n : Int) := by omega
      have i3 : (k : Int) < 12 := by omega
      obtain ⟨b8, o8, e8, hb8, hc8⟩ := hst.out.rd.rd (by omega)
      subst e8
      have d8 := hc8 k hkn
      have h256 : l.getD k 0 < 256 := hst.out.rd.lt _ (by rw [List.getD_eq_getElem?_getD, List.getElem?_eq_getElem (by rw [hst.out.rd.len]; exact hkn)]; exact List.getElem_mem _)
      have HSUCC := Lib.hid (lits_succ (l := l) (k := k) (by rw [hst.out.rd.len]; exact hkn))
      have HLEN := Lib.hid (lits_len (l := l) (k := k) (by rw [hst.out.rd.len]; omega))
      have H64 := Lib.hid (lits_64 l k)
      clear hc8
      generalize l.getD k 0 = B at *
      generalize hV : B % 64 = V at *
      have hV64 : V < 64 := by omega
      have hVi : (B : Int) % 64 = (V : Int) := by omega
      have HVV := Lib.hid hV
      clear hV
      obtain ⟨bx0, bx1, bg⟩ := xb2 (Lib.hid hst.out.box)
      have HM : Hid (m ≤ 12) := by
        have h1 := cube_size H64.out
        rw [HLEN.out] at h1
        have h2 := hst.out.dn.len
        show m ≤ 12; omega
      rcases hq : decide (128 ≤ B) with _ | _
      · have hval : decide ((128 : Int) ≤ (B : Int)) = decide (128 ≤ B) := by
          rw [decide_eq_decide]; omega
        rw [hq] at hval
        rw [hq] at HSUCC
        generalize hLL : lits l (k + 1) = L1 at *
        have HLL := Lib.hid hLL
        clear hLL
        generalize lits l k = L at *
        have hO := lm_lt true H64.out
        have hZ := lm_lt false H64.out
        clear hq
        go_wp2
        go_cut [14, 15] (fun s14 s15 wx => LCut w wx g (some ⟨b8, o8, none⟩) n l A m c r L (V, false) s14 s15)
        case first =>
          go_region_law ((first
            | (go_simp; go_at_call 54; (with_reducible refine (literal_ok V _ wr.drew hV64).mono ?_); rintro e w8 ⟨⟨A1, m1, c1, r1, rfl, d1, f1⟩, b8'⟩; have BB8 : Hid (Below wr.heap.size wr w8) := Lib.hid ((Below.refl wr.heap.size wr).drew.trans b8'); have HS8 := Lib.hid (hst.out.below BB8.out); have D1 := Lib.hid d1; have G8 : g < w8.heap.size := HS8.out.box.lt (by omega); obtain ⟨cx0, cx1, _⟩ := xb2 (Lib.hid HS8.out.box); clear b8' d1 f1)
            | (go_simp; go_at_call 54; (with_reducible refine (literal_ok V _ (wr.alloc (.cells #[.slice none 0 0, .int .i64 0] 24)).drew hV64).mono ?_); rintro e w8 ⟨⟨A1, m1, c1, r1, rfl, d1, f1⟩, b8'⟩; have BB8 : Hid (Below wr.heap.size wr w8) := Lib.hid ((ab2 wr (.cells #[.slice none 0 0, .int .i64 0] 24)).drew.trans (b8'.mono (by simp))); have X14 := rb2 (rb2 (nb2 wr (.slice none 0 0) (.int .i64 0) 24) (Below.refl _ _).drew) b8'; have W8 : Hid (wr.heap.size < w8.heap.size) := X14.out.lt (by omega); have HS8 := Lib.hid (hst.out.below BB8.out); have D1 := Lib.hid d1; have G8 : g < w8.heap.size := HS8.out.box.lt (by omega); obtain ⟨cx0, cx1, _⟩ := xb2 (Lib.hid HS8.out.box); clear b8' d1 f1)
            | (go_simp; go_at_call 17; (with_reducible refine (and_ok m1 c1 m c r1 r A1 A _ _ w8 D1 (Lib.hid HS8.out.dn) (Lib.hid HS8.out.ins) (Lib.hid (and_len H64.out HLEN.out hV64 hk1)) (Lib.hid (and_pr D1.out HM.out hV64))).mono ?_); rintro e w9 ⟨⟨A9, m9, c9, r9, rfl, d9, f9⟩, b9⟩; have BB9 : Hid (Below wr.heap.size wr w9) := Lib.hid (BB8.out.trans (b9.mono BB8.out.size)); have D9 := Lib.hid d9; have F9 : Hid (Fr A9 w8.heap.size) := Lib.hid f9; (try (replace X14 := rb2 X14 b9; obtain ⟨p14, q14, n14⟩ := xb2 X14; obtain ⟨_, z14⟩ := X14.out 0 (by omega); obtain ⟨_, z15⟩ := X14.out 1 (by omega); have g14 : ¬ wr.heap.size = g := (by have := hst.out.box.lt (by omega); omega))); clear d9 f9 b9)
            | (go_simp; go_at_call 17; (with_reducible refine (and_ok m1 c1 m c r1 r A1 A _ _ (w8.alloc (.cells #[.slice none 0 0, .int .i64 0] 24)) (rdn D1 (ab2 _ _)) (rdn (Lib.hid HS8.out.dn) (ab2 _ _)) (rin (Lib.hid HS8.out.ins) (ab2 _ _)) (Lib.hid (and_len H64.out HLEN.out hV64 hk1)) (Lib.hid (and_pr D1.out HM.out hV64))).mono ?_); rintro e w9 ⟨⟨A9, m9, c9, r9, rfl, d9, f9⟩, b9⟩; have BB9 : Hid (Below wr.heap.size wr w9) := Lib.hid (BB8.out.trans (((ab2 _ _).trans (b9.mono (ab2 _ _).size)).mono BB8.out.size)); have D9 := Lib.hid d9; have F9 : Hid (Fr A9 (w8.heap.size + 1)) := Lib.hid (f9.mono (by simp)); have X14 := rb2 (nb2 w8 (.slice none 0 0) (.int .i64 0) 24) b9; obtain ⟨p14, q14, n14⟩ := xb2 X14; obtain ⟨_, z14⟩ := X14.out 0 (by omega); obtain ⟨_, z15⟩ := X14.out 1 (by omega); have g14 : ¬ w8.heap.size = g := (by omega); clear d9 f9 b9)))
          all_goals (go_wp2_with fail; go_meet)
          all_goals first
            | exact lcut_late hst.out BB9.out D9.out (F9.out.mono (by omega)) rfl
            | exact (lcut_late hst.out BB9.out D9.out (F9.out.mono (by omega)) rfl).drew
            | exact lcut_early hst.out BB9.out BB8.out.size D9.out F9.out X14.out rfl
            | exact (lcut_early hst.out BB9.out BB8.out.size D9.out F9.out X14.out rfl).drew
            | exact lcut_early hst.out BB9.out (Nat.le_refl _) D9.out (F9.out.mono W8.out) X14.out rfl
            | exact (lcut_early hst.out BB9.out (Nat.le_refl _) D9.out (F9.out.mono W8.out) X14.out rfl).drew
        case rest =>
          obtain ⟨h, A9, m9, c9, r9, rfl, rfl, hs9, hx9, hd9, hf9, hne⟩ := hcut
          have HS9 := Lib.hid hs9
          have HX9 := Lib.hid hx9
          have HD9 := Lib.hid hd9
          have HF9 := Lib.hid hf9
          obtain ⟨y0, y1, yh⟩ := xb2 HX9
          obtain ⟨g0, g1, gg⟩ := xb2 (Lib.hid HS9.out.box)
          obtain ⟨_, z0⟩ := HS9.out.box 0 (by omega)
          obtain ⟨_, z1⟩ := HS9.out.box 1 (by omega)
          have hng : ¬ g = h := fun e => hne e.symm
          have HNG := Lib.hid hng
          clear hs9 hx9 hd9 hf9 hne bx0 bx1 hval d8
          have HST : Hid (LiS w ((wc.setCell ⟨g, 0, none⟩ (.slice A9 m9 c9)).setCell ⟨g, 1, none⟩ (.int .i64 (r9 : Int))) g (some ⟨b8, o8, none⟩) n l A9 m9 c9 r9 L1) := lis_next HS9.out HD9.out HF9.out HSUCC.out
          have hcb : cube L1 (cf x) = ((cf x V == false) && cube L (cf x)) := by rw [HSUCC.out]; rfl
          have hl1 : lm true L1 = lm true L := by rw [HSUCC.out, lm_cons]; rfl
          have hl2 : lm false L1 = lm false L ||| 2 ^ V := by rw [HSUCC.out, lm_cons]; rfl
          have hcc : clash L = true → clash L1 = true := fun e => by rw [HSUCC.out]; exact clash_cons _ _ e
          have hdc : clash L1 = decide (lm true L1 &&& lm false L1 ≠ 0) := rfl
          have h641 : lm false L1 < 18446744073709551616 := by
            have := lm_lt false (L := L1) (fun p hp => by
              rw [HSUCC.out] at hp
              rcases List.mem_cons.1 hp with rfl | hp
              · exact hV64
              · exact H64.out p hp)
            exact this
          rw [hl1, hl2] at hdc
          rw [hl2] at h641
          have hbt := bit_odd (x := x) (V := V)
          have hP64 : 2 ^ V < 18446744073709551616 := Nat.pow_lt_pow_right (by omega) hV64
          have hp := shl_one hV64
          have hor := u64_or_nat (lm false L) (2 ^ V) hZ hP64
          rw [← hp] at hor
          have i7 : (0 : Int) ≤ (V : Int) := by omega
          have HLM := Lib.hid (And.intro hl1 hl2)
          have HCB := Lib.hid hcb
          have hO' : lm true L < 18446744073709551616 := hO
          have hZ' : lm false L < 18446744073709551616 := hZ
          have hand := u64_and_nat (lm true L) (lm false L ||| 2 ^ V) hO' h641
          have hcl : (bits .and .u64 ((lm true L : Nat) : Int) ((lm false L ||| 2 ^ V : Nat) : Int) != 0) = clash L1 := by
            rw [hand, hdc, Bool.eq_iff_iff, bne_iff_ne, decide_eq_true_iff]
            simp
          have HSU2 := Lib.hid HSUCC.out
          clear hO hZ hP64 hp hl1 hl2 hdc hand h641 hcb HSUCC
          generalize (lm false L ||| 2 ^ V) = N1 at *
          generalize lm true L = O at *
          generalize lm false L = Z at *
          generalize hQ1 : clash L1 = q1 at *
          have HQ1 := Lib.hid hQ1
          clear hQ1
          generalize clash L = q0 at *
          have HCC := Lib.hid hcc
          clear hcc
          generalize cube L (cf x) = a0 at *
          generalize cf x V = bt at *
          rcases a0 with _ | _
          all_goals rcases q0 with _ | _
          all_goals rcases bt with _ | _
          all_goals rcases q1 with _ | _
          all_goals try (exfalso; have := HCC.out rfl; cases this; done)
          all_goals
            go_wp2
            go_roundg (12 - (k + 1))
            case measure => omega
            case rel => exact ⟨k + 1, A9, m9, c9, r9, by omega, by omega, rfl, by rw [HLL.out, HCB.out]; rfl, by rw [HLL.out, HQ1.out], by rw [HLL.out, HLM.out.1], by rw [HLL.out, HLM.out.2], by go_num, by rw [HLL.out]; first | exact HST.out | exact HST.out.below (ab2 _ _)⟩
      · have hval : decide ((128 : Int) ≤ (B : Int)) = decide (128 ≤ B) := by
          rw [decide_eq_decide]; omega
        rw [hq] at hval
        rw [hq] at HSUCC
        generalize hLL : lits l (k + 1) = L1 at *
        have HLL := Lib.hid hLL
        clear hLL
        generalize lits l k = L at *
        have hO := lm_lt true H64.out
        have hZ := lm_lt false H64.out
        clear hq
        go_wp2
        go_cut [14, 15] (fun s14 s15 wx => LCut w wx g (some ⟨b8, o8, none⟩) n l A m c r L (V, true) s14 s15)
        case first =>
          go_region_law ((first
            | (go_simp; go_at_call 54; (with_reducible refine (literal_ok V _ wr.drew hV64).mono ?_); rintro e w8 ⟨⟨A1, m1, c1, r1, rfl, d1, f1⟩, b8'⟩; have BB8 : Hid (Below wr.heap.size wr w8) := Lib.hid ((Below.refl wr.heap.size wr).drew.trans b8'); have HS8 := Lib.hid (hst.out.below BB8.out); have D1 := Lib.hid d1; have G8 : g < w8.heap.size := HS8.out.box.lt (by omega); obtain ⟨cx0, cx1, _⟩ := xb2 (Lib.hid HS8.out.box); clear b8' d1 f1)
            | (go_simp; go_at_call 54; (with_reducible refine (literal_ok V _ (wr.alloc (.cells #[.slice none 0 0, .int .i64 0] 24)).drew hV64).mono ?_); rintro e w8 ⟨⟨A1, m1, c1, r1, rfl, d1, f1⟩, b8'⟩; have BB8 : Hid (Below wr.heap.size wr w8) := Lib.hid ((ab2 wr (.cells #[.slice none 0 0, .int .i64 0] 24)).drew.trans (b8'.mono (by simp))); have X14 := rb2 (rb2 (nb2 wr (.slice none 0 0) (.int .i64 0) 24) (Below.refl _ _).drew) b8'; have W8 : Hid (wr.heap.size < w8.heap.size) := X14.out.lt (by omega); have HS8 := Lib.hid (hst.out.below BB8.out); have D1 := Lib.hid d1; have G8 : g < w8.heap.size := HS8.out.box.lt (by omega); obtain ⟨cx0, cx1, _⟩ := xb2 (Lib.hid HS8.out.box); clear b8' d1 f1)
            | (go_simp; go_at_call 17; (with_reducible refine (and_ok m1 c1 m c r1 r A1 A _ _ w8 D1 (Lib.hid HS8.out.dn) (Lib.hid HS8.out.ins) (Lib.hid (and_len H64.out HLEN.out hV64 hk1)) (Lib.hid (and_pr D1.out HM.out hV64))).mono ?_); rintro e w9 ⟨⟨A9, m9, c9, r9, rfl, d9, f9⟩, b9⟩; have BB9 : Hid (Below wr.heap.size wr w9) := Lib.hid (BB8.out.trans (b9.mono BB8.out.size)); have D9 := Lib.hid d9; have F9 : Hid (Fr A9 w8.heap.size) := Lib.hid f9; (try (replace X14 := rb2 X14 b9; obtain ⟨p14, q14, n14⟩ := xb2 X14; obtain ⟨_, z14⟩ := X14.out 0 (by omega); obtain ⟨_, z15⟩ := X14.out 1 (by omega); have g14 : ¬ wr.heap.size = g := (by have := hst.out.box.lt (by omega); omega))); clear d9 f9 b9)
            | (go_simp; go_at_call 17; (with_reducible refine (and_ok m1 c1 m c r1 r A1 A _ _ (w8.alloc (.cells #[.slice none 0 0, .int .i64 0] 24)) (rdn D1 (ab2 _ _)) (rdn (Lib.hid HS8.out.dn) (ab2 _ _)) (rin (Lib.hid HS8.out.ins) (ab2 _ _)) (Lib.hid (and_len H64.out HLEN.out hV64 hk1)) (Lib.hid (and_pr D1.out HM.out hV64))).mono ?_); rintro e w9 ⟨⟨A9, m9, c9, r9, rfl, d9, f9⟩, b9⟩; have BB9 : Hid (Below wr.heap.size wr w9) := Lib.hid (BB8.out.trans (((ab2 _ _).trans (b9.mono (ab2 _ _).size)).mono BB8.out.size)); have D9 := Lib.hid d9; have F9 : Hid (Fr A9 (w8.heap.size + 1)) := Lib.hid (f9.mono (by simp)); have X14 := rb2 (nb2 w8 (.slice none 0 0) (.int .i64 0) 24) b9; obtain ⟨p14, q14, n14⟩ := xb2 X14; obtain ⟨_, z14⟩ := X14.out 0 (by omega); obtain ⟨_, z15⟩ := X14.out 1 (by omega); have g14 : ¬ w8.heap.size = g := (by omega); clear d9 f9 b9)))
          all_goals (go_wp2_with fail; go_meet)
          all_goals first
            | exact lcut_late hst.out BB9.out D9.out (F9.out.mono (by omega)) rfl
            | exact (lcut_late hst.out BB9.out D9.out (F9.out.mono (by omega)) rfl).drew
            | exact lcut_early hst.out BB9.out BB8.out.size D9.out F9.out X14.out rfl
            | exact (lcut_early hst.out BB9.out BB8.out.size D9.out F9.out X14.out rfl).drew
            | exact lcut_early hst.out BB9.out (Nat.le_refl _) D9.out (F9.out.mono W8.out) X14.out rfl
            | exact (lcut_early hst.out BB9.out (Nat.le_refl _) D9.out (F9.out.mono W8.out) X14.out rfl).drew
        case rest =>
          obtain ⟨h, A9, m9, c9, r9, rfl, rfl, hs9, hx9, hd9, hf9, hne⟩ := hcut
          have HS9 := Lib.hid hs9
          have HX9 := Lib.hid hx9
          have HD9 := Lib.hid hd9
          have HF9 := Lib.hid hf9
          obtain ⟨y0, y1, yh⟩ := xb2 HX9
          obtain ⟨g0, g1, gg⟩ := xb2 (Lib.hid HS9.out.box)
          obtain ⟨_, z0⟩ := HS9.out.box 0 (by omega)
          obtain ⟨_, z1⟩ := HS9.out.box 1 (by omega)
          have hng : ¬ g = h := fun e => hne e.symm
          have HNG := Lib.hid hng
          clear hs9 hx9 hd9 hf9 hne bx0 bx1 hval d8
          have HST : Hid (LiS w ((wc.setCell ⟨g, 0, none⟩ (.slice A9 m9 c9)).setCell ⟨g, 1, none⟩ (.int .i64 (r9 : Int))) g (some ⟨b8, o8, none⟩) n l A9 m9 c9 r9 L1) := lis_next HS9.out HD9.out HF9.out HSUCC.out
          have hcb : cube L1 (cf x) = ((cf x V == true) && cube L (cf x)) := by rw [HSUCC.out]; rfl
          have hl1 : lm true L1 = lm true L ||| 2 ^ V := by rw [HSUCC.out, lm_cons]; rfl
          have hl2 : lm false L1 = lm false L := by rw [HSUCC.out, lm_cons]; rfl
          have hcc : clash L = true → clash L1 = true := fun e => by rw [HSUCC.out]; exact clash_cons _ _ e
          have hdc : clash L1 = decide (lm true L1 &&& lm false L1 ≠ 0) := rfl
          have h641 : lm true L1 < 18446744073709551616 := by
            have := lm_lt true (L := L1) (fun p hp => by
              rw [HSUCC.out] at hp
              rcases List.mem_cons.1 hp with rfl | hp
              · exact hV64
              · exact H64.out p hp)
            exact this
          rw [hl1, hl2] at hdc
          rw [hl1] at h641
          have hbt := bit_odd (x := x) (V := V)
          have hP64 : 2 ^ V < 18446744073709551616 := Nat.pow_lt_pow_right (by omega) hV64
          have hp := shl_one hV64
          have hor := u64_or_nat (lm true L) (2 ^ V) hO hP64
          rw [← hp] at hor
          have i7 : (0 : Int) ≤ (V : Int) := by omega
          have HLM := Lib.hid (And.intro hl1 hl2)
          have HCB := Lib.hid hcb
          have hO' : lm true L < 18446744073709551616 := hO
          have hZ' : lm false L < 18446744073709551616 := hZ
          have hand := u64_and_nat (lm true L ||| 2 ^ V) (lm false L) h641 hZ'
          have hcl : (bits .and .u64 ((lm true L ||| 2 ^ V : Nat) : Int) ((lm false L : Nat) : Int) != 0) = clash L1 := by
            rw [hand, hdc, Bool.eq_iff_iff, bne_iff_ne, decide_eq_true_iff]
            simp
          have HSU2 := Lib.hid HSUCC.out
          clear hO hZ hP64 hp hl1 hl2 hdc hand h641 hcb HSUCC
          generalize (lm true L ||| 2 ^ V) = N1 at *
          generalize lm true L = O at *
          generalize lm false L = Z at *
          generalize hQ1 : clash L1 = q1 at *
          have HQ1 := Lib.hid hQ1
          clear hQ1
          generalize clash L = q0 at *
          have HCC := Lib.hid hcc
          clear hcc
          generalize cube L (cf x) = a0 at *
          generalize cf x V = bt at *
          rcases a0 with _ | _
          all_goals rcases q0 with _ | _
          all_goals rcases bt with _ | _
          all_goals rcases q1 with _ | _
          all_goals try (exfalso; have := HCC.out rfl; cases this; done)
          all_goals
            go_wp2
            go_roundg (12 - (k + 1))
            case measure => omega
            case rel => exact ⟨k + 1, A9, m9, c9, r9, by omega, by omega, rfl, by rw [HLL.out, HCB.out]; rfl, by rw [HLL.out, HQ1.out], by rw [HLL.out, HLM.out.1], by rw [HLL.out, HLM.out.2], by go_num, by rw [HLL.out]; first | exact HST.out | exact HST.out.below (ab2 _ _)⟩
    · have hkx : k = n ∨ k = 12 := by omega
      have H64 := Lib.hid (lits_64 l k)
      generalize lits l k = L at *
      obtain ⟨bx0, bx1, bg⟩ := xb2 (Lib.hid hst.out.box)
      have hlt0 : decide ((k : Int) < (n : Int)) = true ∨ decide ((k : Int) < (n : Int)) = false := by cases decide ((k : Int) < (n : Int)) <;> simp
      have hO := lm_lt true H64.out
      have hZ := lm_lt false H64.out
      have HLT := Lib.hid hlt
      clear hlt hlt0
      rcases hcl : clash L with _ | _
      · have hr0 : Hid (r ≠ 0) := fun e => by
          have h1 := hst.out.dn.rt
          rw [e, cn_zero hst.out.dn.d] at h1
          have h2 := (cube_least hcl).1
          rw [h1] at h2; cases h2
        have HIL := Lib.hid (cube_least hcl)
        have HMIX := Lib.hid (cube_mix hcl x _ (mix_bits (O := lm true L) hx hZ))
        have hO' : lm true L < 18446744073709551616 := hO
        have hZ' : lm false L < 18446744073709551616 := hZ
        have hML := mix_lt (Z := lm false L) hx hO'
        have hor := u64_or_nat (x &&& (18446744073709551615 - lm false L)) (lm true L) (Nat.lt_of_le_of_lt Nat.and_le_left hx) hO'
        rw [← u64_andNot_nat x (lm false L) hx hZ'] at hor
        have HA : Hid (cube L (cf x) = cube L (cf x)) := rfl
        clear hcl hO hZ
        generalize (x &&& (18446744073709551615 - lm false L)) ||| lm true L = Y at *
        generalize lm true L = O at *
        generalize lm false L = Z at *
        generalize hag : cube L (cf x) = ag at *
        have HAG := Lib.hid hag
        clear hag HA hO' hZ'
        have HML := Lib.hid hML
        have HX := Lib.hid hx
        clear hML hx
        by_cases hkn : k < n
        · obtain rfl : k = 12 := by omega
          have i5 : ((12 : Nat) : Int) < (n : Int) := by omega
          go_wp2_with fail
          with_reducible refine (s_least (lid hst.out.dn) rfl hr0.out HIL.out).mono ?_
          rintro e w5 ⟨rfl, b5⟩
          have HS5 := Lib.hid (hst.out.below b5)
          obtain ⟨cx0, cx1, cg⟩ := xb2 (Lib.hid HS5.out.box)
          clear b5 bx0 bx1
          go_wp2_with fail
          with_reducible refine (s_holds (lid HS5.out.dn) rfl rfl HX.out ag HAG.out).mono ?_
          rintro e w6 ⟨rfl, b6⟩
          have HS6 := Lib.hid (HS5.out.below b6)
          obtain ⟨dx0, dx1, dg⟩ := xb2 (Lib.hid HS6.out.box)
          clear b6 cx0 cx1
          have hagg : (ag == ag) = true := by cases ag <;> rfl
          go_wp2_with fail
          with_reducible refine (s_holds (lid HS6.out.dn) rfl rfl HML.out true HMIX.out).mono ?_
          rintro e w7 ⟨rfl, b7⟩
          have HS7 := Lib.hid (HS6.out.below b7)
          clear b7 dx0 dx1
          go_wp2_with fail
          go_ret
          exact ⟨rfl, HS7.out.bel⟩
        · obtain rfl : k = n := by omega
          go_wp2_with fail
          with_reducible refine (s_least (lid hst.out.dn) rfl hr0.out HIL.out).mono ?_
          rintro e w5 ⟨rfl, b5⟩
          have HS5 := Lib.hid (hst.out.below b5)
          obtain ⟨cx0, cx1, cg⟩ := xb2 (Lib.hid HS5.out.box)
          clear b5 bx0 bx1
          go_wp2_with fail
          with_reducible refine (s_holds (lid HS5.out.dn) rfl rfl HX.out ag HAG.out).mono ?_
          rintro e w6 ⟨rfl, b6⟩
          have HS6 := Lib.hid (HS5.out.below b6)
          obtain ⟨dx0, dx1, dg⟩ := xb2 (Lib.hid HS6.out.box)
          clear b6 cx0 cx1
          have hagg : (ag == ag) = true := by cases ag <;> rfl
          go_wp2_with fail
          with_reducible refine (s_holds (lid HS6.out.dn) rfl rfl HML.out true HMIX.out).mono ?_
          rintro e w7 ⟨rfl, b7⟩
          have HS7 := Lib.hid (HS6.out.below b7)
          clear b7 dx0 dx1
          go_wp2_with fail
          go_ret
          exact ⟨rfl, HS7.out.bel⟩
      · have hr0 : r = 0 := by
          have h1 := hst.out.dn.rt
          have h2 := clash_cube hcl
          rw [← h1, cn_zero hst.out.dn.d]; exact h2
        subst hr0
        have HCF := Lib.hid (clash_cube hcl)
        clear hO hZ
        by_cases hkn : k < n
        · obtain rfl : k = 12 := by omega
          have i5 : ((12 : Nat) : Int) < (n : Int) := by omega
          go_wp2_with fail
          with_reducible refine (least_zero m c A _ _ (lid hst.out.dn)).mono ?_
          rintro e w5 ⟨rfl, b5⟩
          have HS5 := Lib.hid (hst.out.below b5)
          obtain ⟨cx0, cx1, cg⟩ := xb2 (Lib.hid HS5.out.box)
          clear b5 bx0 bx1
          go_wp2_with fail
          go_region_law ((first
            | (go_simp; go_at_call 52; (with_reducible refine (constant_nil w5.drew).mono ?_); rintro e w6 ⟨rfl, b6'⟩; have HS6 := lid (HS5.out.below' b6'); obtain ⟨dx0, dx1, dg⟩ := xb2 (lid HS6.out.box); clear b6')
            | (go_simp; go_at_call 24; (with_reducible refine (same_dn (w := w6) (R := 0) (R' := 0) (lid HS6.out.dn) (lid (dn_false w6)) rfl rfl true (lid ⟨fun _ => HCF.out, fun _ => rfl⟩)).mono ?_); rintro e w7 ⟨rfl, b7⟩; have HS7 := lid (HS6.out.below b7); clear b7)))
          all_goals
            go_wp2
            go_ret
            refine ⟨?_, HS7.out.bel⟩
            go_simp
        · obtain rfl : k = n := by omega
          go_wp2_with fail
          with_reducible refine (least_zero m c A _ _ (lid hst.out.dn)).mono ?_
          rintro e w5 ⟨rfl, b5⟩
          have HS5 := Lib.hid (hst.out.below b5)
          obtain ⟨cx0, cx1, cg⟩ := xb2 (Lib.hid HS5.out.box)
          clear b5 bx0 bx1
          go_wp2_with fail
          go_region_law ((first
            | (go_simp; go_at_call 52; (with_reducible refine (constant_nil w5.drew).mono ?_); rintro e w6 ⟨rfl, b6'⟩; have HS6 := lid (HS5.out.below' b6'); obtain ⟨dx0, dx1, dg⟩ := xb2 (lid HS6.out.box); clear b6')
            | (go_simp; go_at_call 24; (with_reducible refine (same_dn (w := w6) (R := 0) (R' := 0) (lid HS6.out.dn) (lid (dn_false w6)) rfl rfl true (lid ⟨fun _ => HCF.out, fun _ => rfl⟩)).mono ?_); rintro e w7 ⟨rfl, b7⟩; have HS7 := lid (HS6.out.below b7); clear b7)))
          all_goals
            go_wp2
            go_ret
            refine ⟨?_, HS7.out.bel⟩
            go_simp

end Go.Proofs.YtjklkokfdkoleaaDoor
