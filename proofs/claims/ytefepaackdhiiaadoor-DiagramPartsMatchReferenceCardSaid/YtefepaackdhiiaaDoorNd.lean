/-
  Plain mathematics and contracts of package diagram, several texts in one: DRFix, DROp3.
-/
import Derived.Test.YtefepaackdhiiaaDoorNa
import Derived.Test.YtefepaackdhiiaaDoorNc
import Derived.Test.YtefepaackdhiiaaDoorMs
import Derived.Test.YtefepaackdhiiaaDoorMw
import Derived.Deep.DeepCutAuto
import Derived.Laws.OwnMore
namespace Go.Proofs.YtefepaackdhiiaaDoor
open Go.RowKit Dg St
set_option linter.unusedVariables false
set_option linter.unusedSimpArgs false
attribute [local go_sem ↓] Go.wp_at_zero Go.wp_at_succ
theorem fxU_unq (O : List Br) (b : Br) : unq O b = fxU O b := rfl
structure Fst (w2 wr : World) (vN vO : Value) (M : List Br) (v : Nat) (b : Bool) (k : Nat) (O : List Br) (L : List Nat) : Prop where
  bel : Below w2.heap.size w2 wr
  ln : L.length = k + 2
  on : wr.ownsRow w2.heap.size 3 1 vN (k + 2) (ints L)
  oo : wr.ownsRow w2.heap.size 72 3 vO O.length (flat O)
  ne : ∀ q, vN.ownBlock = some q → vO.ownBlock ≠ some q
  fi : FI M v b k O (fun j => L.getD j 0)
theorem own_keep {w w' : World} {base e size n : Nat} {v u : Value} {xs : List Value} (h : w.ownsRow base e size v n xs) (hc : Chg (fun k => u.ownBlock = some k) w w') (hne : ∀ q, v.ownBlock = some q → u.ownBlock ≠ some q) : w'.ownsRow base e size v n xs := by
  refine h.kept (row := u.ownBlock) ⟨hc.os, hc.tape, hc.output, hc.size, fun k hk hn => hc.block k hk (fun e => hn e.symm)⟩ ?_
  by_cases e : v.ownBlock = none
  · exact .inl e
  · refine .inr (fun e2 => ?_)
    obtain ⟨q, hq⟩ := Option.ne_none_iff_exists'.1 e
    exact hne q hq (e2.symm.trans hq)
theorem ints_at {L : List Nat} {j : Nat} (h : j < L.length) : (ints L)[j]? = some (.int .i64 ((L.getD j 0 : Nat) : Int)) := by
  unfold ints
  rw [List.getElem?_map, List.getElem?_eq_getElem h, List.getD_eq_getElem?_getD, List.getElem?_eq_getElem h]
  rfl
theorem ints_snoc (L : List Nat) (r : Nat) : ints (L ++ [r]) = ints L ++ [.int .i64 ((r : Nat) : Int)] := by unfold ints; rw [List.map_append]; rfl
theorem fi_snoc {M O : List Br} {v k r : Nat} {b : Bool} {L : List Nat} (hL : L.length = k + 2) (h : FI M v b (k + 1) O (upd (fun j => L.getD j 0) (k + 2) r)) : FI M v b (k + 1) O (fun j => (L ++ [r]).getD j 0) := by
  have e : ∀ j, j < k + 1 + 2 → upd (fun j => L.getD j 0) (k + 2) r j = (L ++ [r]).getD j 0 := by
    intro j hj
    unfold upd
    by_cases q : j = k + 2
    · rw [if_pos q, List.getD_eq_getElem?_getD, List.getElem?_append_right (by omega), q, hL]; simp
    · rw [if_neg q]
      show L.getD j 0 = (L ++ [r]).getD j 0
      rw [List.getD_eq_getElem?_getD, List.getD_eq_getElem?_getD, List.getElem?_append_left (by omega)]
  exact ⟨h.good, fun j hj => by rw [← e j hj]; exact h.lt j hj, fun j hj => by rw [← e j hj]; exact h.den j hj, fun j hj => by rw [← e j hj]; exact h.lev j hj, h.small⟩
set_option maxHeartbeats 20000000 in
set_option maxRecDepth 100000 in
theorem rfixed_ok (m c r v : Nat) (A : Option Addr) (b : Bool) (f : Cfg → Bool) (w : World) (h0 : Hid (Dn w A m c r f)) :
    Calls Tryd.prog 89 #[.agg #[.slice A m c, .int .i64 (r : Int)], .int .i64 (v : Int), .bool b] w fun e w' => DiaOk w w' (fun x => f (Dg.set x v b)) e := by
  obtain ⟨i0, hi, hz0, hz1, hz2⟩ := info_parts Tryd.infoInt
  have hlen := h0.out.len
  have HRD := Lib.hid h0.out.rd
  have HORD := Lib.hid h0.out.valid.good.ord
  have hlm := h0.out.lm
  have hrlt := h0.out.lt
  have hden := h0.out.den
  have hd64 := h0.out.d
  clear h0
  generalize (cn f).1 = M at *
  have HLEN := Lib.hid hlen
  have HDEN := Lib.hid hden
  have HD64 := Lib.hid hd64
  clear hlen hden hd64
  have b1 := ab2 w (.cells #[.slice A m c, .int .i64 (r : Int)] 24)
  have b2 := ab2 (w.alloc (.cells #[.slice A m c, .int .i64 (r : Int)] 24)) (.cells #[.slice none 0 0, .int .i64 0] 24)
  have X0 := rb2 (nb2 w (.slice A m c) (.int .i64 (r : Int)) 24) b2
  have Z0 := nb2 (w.alloc (.cells #[.slice A m c, .int .i64 (r : Int)] 24)) (.slice none 0 0) (.int .i64 0) 24
  rw [show (w.alloc (.cells #[.slice A m c, .int .i64 (r : Int)] 24)).heap.size = w.heap.size + 1 by simp] at Z0
  have HB2 := Lib.hid (b1.trans (b2.mono b1.size))
  clear b1 b2
  go_enter Tryd.func89, Tryd.ntmps89
  go_upto_region 1 with fail
  generalize (w.alloc (.cells #[.slice A m c, .int .i64 (r : Int)] 24)).alloc (.cells #[.slice none 0 0, .int .i64 0] 24) = w2 at *
  have hx2 := X0.out.lt (by omega)
  have hz2' := Z0.out.lt (by omega)
  obtain ⟨x0, x1, xn⟩ := xb2 X0
  go_wp2_with fail
  have hrow1 : ((w2.alloc (.cells #[.int .i64 0, .int .i64 1] 3)).alloc (.cells #[] 72)).ownsRow w2.heap.size 3 1 (.slice (some ⟨w2.heap.size, 0, none⟩) 2 2) 2 (ints [0, 1]) :=
    ⟨rfl, .inr ⟨w2.heap.size, 2, #[.int .i64 0, .int .i64 1], rfl, Nat.le_refl _, (Below.heap_alloc (w2.alloc (.cells #[.int .i64 0, .int .i64 1] 3)) _ w2.heap.size (by simp)).trans (heap_alloc_new w2 _), Nat.le_refl _, by simp [maxLen], rfl, rfl⟩⟩
  have hrow2 : ((w2.alloc (.cells #[.int .i64 0, .int .i64 1] 3)).alloc (.cells #[] 72)).ownsRow w2.heap.size 72 3 (.slice (some ⟨w2.heap.size + 1, 0, none⟩) 0 0) 0 [] :=
    row_empty (by omega) (by
      have h := heap_alloc_new (w2.alloc (.cells #[.int .i64 0, .int .i64 1] 3)) (.cells #[] 72)
      rw [show (w2.alloc (.cells #[.int .i64 0, .int .i64 1] 3)).heap.size = w2.heap.size + 1 by simp] at h
      exact h)
  have F0 : Hid (Fst w2 ((w2.alloc (.cells #[.int .i64 0, .int .i64 1] 3)).alloc (.cells #[] 72)) (.slice (some ⟨w2.heap.size, 0, none⟩) 2 2) (.slice (some ⟨w2.heap.size + 1, 0, none⟩) 0 0) M v b 0 [] [0, 1]) :=
    Lib.hid ⟨(ab2 w2 _).alloc (by simp) _, rfl, hrow1, hrow2, fun q e e2 => by
      simp only [Value.ownBlock, Option.some.injEq] at e e2
      omega, by
      have h := fi_start M v b
      exact ⟨h.good, fun j hj => by obtain rfl | rfl : j = 0 ∨ j = 1 := by omega
                                    all_goals simp, fun j hj => by obtain rfl | rfl : j = 0 ∨ j = 1 := by omega
                                                                   · exact h.den 0 (by omega)
                                                                   · exact h.den 1 (by omega), fun j hj => by obtain rfl | rfl : j = 0 ∨ j = 1 := by omega
                                                                                                              · exact h.lev 0 (by omega)
                                                                                                              · exact h.lev 1 (by omega), h.small⟩⟩
  clear hrow1 hrow2 x0 x1 xn
  generalize ((w2.alloc (.cells #[.int .i64 0, .int .i64 1] 3)).alloc (.cells #[] 72)) = w4 at *
  go_loopw [7, 8, 9] (fun vN vO i wr => ∃ (k : Nat) (O : List Br) (L : List Nat), k ≤ m ∧ i = .int .i64 (k : Int) ∧ Hid (Fst w2 wr vN vO M v b k O L)) (fun _ _ i _ => m - (intOf i).toNat)
  case atStart => exact ⟨0, [], [0, 1], Nat.zero_le _, rfl, F0⟩
  case round =>
    clear F0
    obtain ⟨k, O, L, hk, rfl, hst⟩ := hrel
    have HBw := Lib.hid (HB2.out.trans (hst.out.bel.mono HB2.out.size))
    have X1 := Lib.hid (X0.out.below (by omega) hst.out.bel)
    obtain ⟨x0, x1, xn⟩ := xb2 X1
    obtain ⟨gN, capN, eN, hgN⟩ := World.ownsRow.form hst.out.on (by omega)
    subst eN
    obtain ⟨AO, cO, eO, hcO, hrdO⟩ := own_rd hst.out.oo
    subst eO
    by_cases hlt : k < m
    · have hkM : k < M.length := by rw [HLEN.out]; exact hlt
      obtain ⟨q1, q2, q3, q4, q5⟩ := HORD.out k hkM
      obtain ⟨b', o', e', hb', hc'⟩ := (HRD.out.below HBw.out) (by rw [up_len]; omega)
      subst e'
      obtain ⟨d0, d1, d2⟩ := hc' k (by rw [up_len]; exact hkM)
      rw [iv_up] at d0
      rw [il_up] at d1
      rw [ih_up] at d2
      have hln := hst.out.ln
      have c0 := (hst.out.on.cellAt (bl M k) (by omega)).trans (ints_at (by omega))
      have c1 := (hst.out.on.cellAt (bh M k) (by omega)).trans (ints_at (by omega))
      have hgNr : ¬ gN = wr.heap.size := by omega
      have hbr : ¬ b' = wr.heap.size := by have := HBw.out.size; omega
      have hwr : ¬ w.heap.size = wr.heap.size := by omega
      have i1 : (0 : Int) ≤ (k : Int) := by omega
      have i2 : (k : Int) < (m : Int) := by omega
      have hX0 : Hid (fx0 M v b (fun j => L.getD j 0) k = if bv M k = v then (if b then L.getD (bh M k) 0 else L.getD (bl M k) 0) else L.getD (bl M k) 0) := Lib.hid rfl
      have hX1 : Hid (fx1 M v b (fun j => L.getD j 0) k = if bv M k = v then (if b then L.getD (bh M k) 0 else L.getD (bl M k) 0) else L.getD (bh M k) 0) := Lib.hid rfl
      have hstep : Hid (FI M v b (k + 1) (fxU O (bv M k, fx0 M v b (fun j => L.getD j 0) k, fx1 M v b (fun j => L.getD j 0) k)).1 (upd (fun j => L.getD j 0) (k + 2) (fxU O (bv M k, fx0 M v b (fun j => L.getD j 0) k, fx1 M v b (fun j => L.getD j 0) k)).2)) := Lib.hid (hst.out.fi.step HORD.out hkM)
      have j1 : (0 : Int) ≤ (bl M k : Int) := by omega
      have j2 : (bl M k : Int) < ((k + 2 : Nat) : Int) := by omega
      have j3 : (0 : Int) ≤ (bh M k : Int) := by omega
      have j4 : (bh M k : Int) < ((k + 2 : Nat) : Int) := by omega
      clear hc' hln q1 q4 q5
      generalize L.getD (bl M k) 0 = n0 at *
      generalize L.getD (bh M k) 0 = n1 at *
      generalize fx0 M v b (fun j => L.getD j 0) k = x at *
      generalize fx1 M v b (fun j => L.getD j 0) k = y at *
      generalize bv M k = V at *
      generalize bl M k = LL at *
      generalize bh M k = UU at *
      have XB : Hid (B3 (wr.alloc (.cells #[.int .i64 (V : Int), .int .i64 (LL : Int), .int .i64 (UU : Int)] 72)) wr.heap.size (.int .i64 (V : Int)) (.int .i64 (LL : Int)) (.int .i64 (UU : Int))) := Lib.hid (Blk.new (w := wr) rfl [.int .i64 (V : Int), .int .i64 (LL : Int), .int .i64 (UU : Int)] 72)
      have bA := ab2 wr (.cells #[.int .i64 (V : Int), .int .i64 (LL : Int), .int .i64 (UU : Int)] 72)
      have BA := Lib.hid bA
      go_upto_region 9 with fail
      clear c0 c1 d0 d1 d2 x0 x1 xn bA
      have hWS : Hid (wr.heap.size < (wr.alloc (.cells #[.int .i64 (V : Int), .int .i64 (LL : Int), .int .i64 (UU : Int)] 72)).heap.size) := Lib.hid (by simp)
      generalize wr.alloc (.cells #[.int .i64 (V : Int), .int .i64 (LL : Int), .int .i64 (UU : Int)] 72) = w5 at *
      obtain ⟨y0, y1, y2⟩ := xb3 XB
      go_cut [45] (fun s45 wx => s45 = .bool (decide (V = v) && b) ∧ w5 = wx)
      case first =>
        clear hX0 hX1 hstep hst
        by_cases e : V = v
        · subst e
          have ev : ((V : Int) == (V : Int)) = true := by simp
          go_wp2_with fail
          go_meet
          exact ⟨by simp, rfl⟩
        · have ev : ((V : Int) == (v : Int)) = false := beq_eq_false_iff_ne.2 (by omega)
          go_wp2_with fail
          go_meet
          exact ⟨by simp [e], rfl⟩
      case rest =>
      obtain ⟨rfl, rfl⟩ := hcut
      go_upto_if 45 with fail
      go_cut [11] (fun s11 wx => s11 = .int .i64 (x : Int) ∧ w5 = wx)
      case first =>
        have hxv : x = if decide (V = v) && b then n1 else n0 := by
          rw [hX0.out]
          by_cases e : V = v
          · cases b <;> simp [e]
          · simp [e]
        clear hX0 hX1 hstep hst
        generalize (decide (V = v) && b) = q at *
        rcases q with _ | _
        · have ex : x = n0 := hxv
          subst ex
          go_wp2_with fail
          go_meet
          exact ⟨rfl, rfl⟩
        · have ex : x = n1 := hxv
          subst ex
          go_wp2_with fail
          go_meet
          exact ⟨rfl, rfl⟩
      case rest =>
        obtain ⟨rfl, rfl⟩ := hcut
        go_upto_region 11 with fail
        go_cut [50] (fun s50 wx => s50 = .bool (decide (V = v)) ∧ w5 = wx)
        case first =>
          clear hX0 hX1 hstep hst
          by_cases e : V = v
          · subst e
            go_wp2_with fail
            go_meet
            exact ⟨by simp, rfl⟩
          · have ev : ((V : Int) == (v : Int)) = false := beq_eq_false_iff_ne.2 (by omega)
            go_wp2_with fail
            go_meet
            exact ⟨by simp [e], rfl⟩
        case rest =>
        obtain ⟨rfl, rfl⟩ := hcut
        go_upto_if 50 with fail
        go_cut [12] (fun s12 wx => s12 = .int .i64 (y : Int) ∧ w5 = wx)
        case first =>
          have hyv : y = if decide (V = v) then x else n1 := by
            rw [hX1.out, hX0.out]
            by_cases e : V = v
            · simp [e]
            · simp [e]
          clear hX0 hX1 hstep hst
          generalize decide (V = v) = q at *
          rcases q with _ | _
          · have ex : y = n1 := hyv
            subst ex
            go_wp2_with fail
            go_meet
            exact ⟨rfl, rfl⟩
          · have ex : y = x := hyv
            subst ex
            go_wp2_with fail
            go_meet
            exact ⟨rfl, rfl⟩
        case rest =>
        obtain ⟨rfl, rfl⟩ := hcut
        have hO5 := own_below hst.out.oo BA.out
        have hN5 := own_below hst.out.on BA.out
        have hsm := hst.out.fi.small
        have hbase5 : w2.heap.size ≤ w5.heap.size := by have := hst.out.bel.size; have := BA.out.size; omega
        have hu := uni_any w2.heap.size V x y (.slice AO O.length cO) O w5 (Lib.hid hO5) (Lib.hid (by omega)) hbase5
        rw [fxU_unq] at hu
        have HU := Lib.hid hu
        have HO5 := Lib.hid hO5
        have HN5 := Lib.hid hN5
        have HNE := Lib.hid hst.out.ne
        have HLN := Lib.hid hst.out.ln
        have HBL := Lib.hid (hst.out.bel.trans (BA.out.mono hst.out.bel.size))
        have HS5 := Lib.hid hbase5
        clear hu hO5 hN5 hX0 hX1 hst
        generalize fxU O (V, x, y) = R at *
        obtain ⟨O2, r2⟩ := R
        go_wp2_with fail
        with_reducible refine HU.out.mono ?_
        rintro e w6 ⟨v6, rfl, ho6, hc6, hv6⟩
        have hN6 := own_keep HN5.out hc6 HNE.out
        have HO6 := Lib.hid ho6
        have HB6 : Hid (Below w2.heap.size w2 w6) := Lib.hid (HBL.out.trans (hc6.below HS5.out (fun q hq e => by
          have := (World.ownsRow.lt HO5.out q e).1
          omega)))
        have HN6 := Lib.hid hN6
        have HV6 := Lib.hid hv6
        have hs6 : w2.heap.size ≤ (w6.alloc (.cells #[.int .i64 (r2 : Int)] 3)).heap.size := by have := HB6.out.size; simp; omega
        have HS6 := Lib.hid hs6
        have HC6 := Lib.hid hc6
        clear ho6 hc6 hN6 hv6 hs6
        go_wp2_with (refine wpList_append_lies _ rfl _ _ _ rfl w2.heap.size 3 i0 _ 1 8 Tryd.underlying49 hi hz0 hz1 hz2 rfl (by omega) (.slice (some ⟨gN, 0, none⟩) (k + 2) capN) (k + 2) (ints L) rfl (HN6.out.alloc _) _ _ _ [.int .i64 (r2 : Int)] rfl rfl (World.news_of_block (heap_alloc_new _ _)) (by simp [Value.oneCell']) (by omega) (by simp only [maxLen]; omega) (by omega) HS6.out _ rfl ?_; intro gn cap w7 hown hgrow hat hlt7)
        have hne6 : v6.ownBlock ≠ some gN := by
          intro e
          rcases HV6.out gN e with h | h
          · exact HNE.out gN rfl h
          · have := BA.out.size; omega
        go_roundw
        case rel =>
          refine ⟨k + 1, O2, L ++ [r2], by omega, by go_num, Lib.hid ⟨?_, by rw [List.length_append, HLN.out]; rfl, ?_, ?_, ?_, ?_⟩⟩
          · have hba := HB6.out.alloc HB6.out.size (.cells #[.int .i64 (r2 : Int)] 3)
            exact hba.trans ((Chg.of_grown (S := fun q => (Value.slice (some ⟨gN, 0, none⟩) (k + 2) capN).ownBlock = some q) hgrow (fun q e => e)).below hba.size (fun q hq e => by
              have := (World.ownsRow.lt HN6.out q e).1
              omega))
          · rw [show k + 1 + 2 = k + 2 + 1 by omega, ints_snoc]
            exact hown
          · refine (HO6.out.alloc _).kept hgrow ?_
            by_cases e : v6.ownBlock = none
            · exact .inl e
            · exact .inr (fun e2 => hne6 e2)
          · intro q e
            simp only [Value.ownBlock, Option.some.injEq] at e
            subst e
            rcases hat with e | e
            · simp only [Value.ownBlock, Option.some.injEq] at e
              subst e
              exact hne6
            · intro e2
              have := (World.ownsRow.lt HO6.out _ e2).2
              have h9 : (w6.alloc (.cells #[.int .i64 (r2 : Int)] 3)).heap.size = w6.heap.size + 1 := by simp
              omega
          · exact fi_snoc HLN.out hstep.out
        case measure => simp [intOf]; omega
    · obtain rfl : k = m := by omega
      have hcell := (hst.out.on.cellAt r (by omega)).trans (ints_at (by have := hst.out.ln; omega))
      have j1 : (0 : Int) ≤ (r : Int) := by omega
      have j2 : (r : Int) < ((k + 2 : Nat) : Int) := by omega
      have HFI := Lib.hid hst.out.fi
      have HOO := Lib.hid hst.out.oo
      have Z1 := Lib.hid (Z0.out.below (by omega) hst.out.bel)
      have hnl := hst.out.fi.lt r (by omega)
      have hdn := hst.out.fi.den r (by omega)
      have hrd9 : Rd wr wr.heap.size AO (up O) := by
        obtain ⟨A', c', e, _, h⟩ := own_rd hst.out.oo
        rw [Value.slice.injEq] at e
        rw [e.1]; exact h
      have hsm := hst.out.fi.small
      generalize L.getD r 0 = n9 at *
      have hdn9 : Den O n9 = fun x => f (Dg.set x v b) := by rw [hdn, HDEN.out]
      have hsz : (cn (Den O n9)).1.length ≤ 4096 := by
        have := cn_size hst.out.fi.good (n := n9) hnl
        omega
      have HNUM := Lib.hid (numbered_ok O.length cO n9 AO O wr (Lib.hid hst.out.fi.good) (Lib.hid rfl) (by omega) hnl (Lib.hid hrd9) (Lib.hid hsz))
      have HDN9 := Lib.hid hdn9
      clear hst hdn hrd9 hsz hdn9
      go_wp2_with fail
      with_reducible refine HNUM.out.mono ?_
      rintro e w6 ⟨⟨A9, m9, c9, r9, rfl, d9, f9⟩, b9⟩
      have D9 := Lib.hid (d9.congr HDN9.out)
      have F9 := Lib.hid (f9.mono (Z1.out.lt (by omega)))
      have Z6 := rb2 Z1 b9
      have HB6 := btr HBw b9 HBw.out.size
      clear d9 f9 b9 hcell x0 x1 xn
      obtain ⟨y0, y0f⟩ := Z6.out 0 (by omega)
      obtain ⟨y1, y1f⟩ := Z6.out 1 (by omega)
      go_wp2
      refine bodyPost_ret (v := .agg #[.slice A9 m9 c9, .int .i64 (r9 : Int)]) ?_ rfl ⟨⟨A9, m9, c9, r9, rfl, D9.out.put F9.out _ _, F9.out.mono (by omega)⟩, (HB6.out.setCell (by show w.heap.size ≤ w.heap.size + 1; omega) _).setCell (by show w.heap.size ≤ w.heap.size + 1; omega) _⟩
      rw [results_cell1 rfl]
      go_simp
end Go.Proofs.YtefepaackdhiiaaDoor
namespace Go.Proofs.YtefepaackdhiiaaDoor
open Go.RowKit Dg St
set_option linter.unusedVariables false
set_option linter.unusedSimpArgs false
attribute [local go_sem ↓] Go.wp_at_zero Go.wp_at_succ
theorem with_one {w : World} {A : Option Addr} {m c : Nat} {l : List Bi} {r : Int} (v : Int) (h : Hid (DOk w ⟨A, m, c, l, r⟩)) (hc : Hid (chkWith l r v = 1)) :
    Calls Tryd.prog 85 #[.agg #[.slice A m c, .int .i64 r], .int .i64 v] w fun e w' => e = .returned (.int .i64 1) ∧ Below w.heap.size w w' := by
  have := checkWith_any l r v m c A w h
  rwa [hc.out] at this
theorem con_no {v : Int} (h : v < 0 ∨ 63 < v) : conB v = false := by
  unfold conB
  rcases h with h | h
  · rw [decide_eq_false (by omega)]; rfl
  · rw [decide_eq_false (p := v < 64) (by omega), Bool.and_false]
theorem con_yes {n : Nat} (h : n < 64) : conB (n : Int) = true := by
  unfold conB
  rw [decide_eq_true (by omega), decide_eq_true (by omega)]; rfl
theorem chkWith_out {l : List Bi} {r v : Int} (h : chk l r = 0) (hv : v < 0 ∨ 63 < v) : chkWith l r v = 1 := by
  unfold chkWith
  rw [if_pos h, con_no hv]; rfl
theorem chkWith_in {l : List Bi} {r : Int} {n : Nat} (h : chk l r = 0) (hv : n < 64) : chkWith l r (n : Int) = 0 := by
  unfold chkWith
  rw [if_pos h, con_yes hv]; rfl
theorem chkWith_bad {l : List Bi} {r v : Int} (h : chk l r = 20) : chkWith l r v = 20 := by
  unfold chkWith
  rw [h]; rfl
theorem set_small {w : World} {A : Option Addr} {m c r : Nat} {f : Cfg → Bool} (h : Dn w A m c r f) (v : Nat) (b : Bool) : (cn (fun x => f (Dg.set x v b))).1.length ≤ m := by
  have := fix_size h.d v b
  rw [h.len] at this
  exact this
set_option maxHeartbeats 1000000 in
set_option maxRecDepth 100000 in
theorem out_restrict {w : World} {A : Option Addr} {m c : Nat} {l : List Bi} {r : Int} (v : Int) (b : Bool) (h : Hid (DOk w ⟨A, m, c, l, r⟩)) (hc : Hid (chkWith l r v = 1)) :
    Calls Tryd.prog 35 #[.agg #[.slice A m c, .int .i64 r], .int .i64 v, .bool b] w fun e w' => e = .returned (.tuple #[.agg #[.slice none 0 0, .int .i64 0], .int .i64 1]) ∧ Below w.heap.size w w' := by
  have b1 := ab2 w (.cells #[.slice A m c, .int .i64 r] 24)
  have b2 := ab2 (w.alloc (.cells #[.slice A m c, .int .i64 r] 24)) (.cells #[.slice none 0 0, .int .i64 0] 24)
  have X0 := rb2 (nb2 w (.slice A m c) (.int .i64 r) 24) b2
  have Y0 := nb2 (w.alloc (.cells #[.slice A m c, .int .i64 r] 24)) (.slice none 0 0) (.int .i64 0) 24
  rw [show (w.alloc (.cells #[.slice A m c, .int .i64 r] 24)).heap.size = w.heap.size + 1 by simp] at Y0
  have HC := Lib.hid (with_one v (dkh (dkh h b1) b2) hc)
  have HB1 := Lib.hid (b1.trans (b2.mono b1.size))
  clear b1 b2
  obtain ⟨p0, q0, n0⟩ := xb2 X0
  go_enter Tryd.func35, Tryd.ntmps35
  go_wp2_with fail
  with_reducible refine HC.out.mono ?_
  rintro e w3 ⟨rfl, b3⟩
  have Y3 := rb2 Y0 b3
  have HB3 := btr HB1 b3 HB1.out.size
  clear b3 p0 q0 n0
  obtain ⟨y0, y0f⟩ := Y3.out 0 (by omega)
  obtain ⟨y1, y1f⟩ := Y3.out 1 (by omega)
  go_wp2
  refine bodyPost_ret (v := .tuple #[.agg #[.slice none 0 0, .int .i64 0], .int .i64 1]) ?_ rfl ⟨rfl, ?_⟩
  · rw [results_cell_tmp rfl]
    go_simp
  · exact (HB3.out.setCell (by simp) _).setCell (by simp) _
set_option maxHeartbeats 1000000 in
set_option maxRecDepth 100000 in
theorem out_exists {w : World} {A : Option Addr} {m c : Nat} {l : List Bi} {r : Int} (v : Int) (h : Hid (DOk w ⟨A, m, c, l, r⟩)) (hc : Hid (chkWith l r v = 1)) :
    Calls Tryd.prog 37 #[.agg #[.slice A m c, .int .i64 r], .int .i64 v] w fun e w' => e = .returned (.tuple #[.agg #[.slice none 0 0, .int .i64 0], .int .i64 1]) ∧ Below w.heap.size w w' := by
  have b1 := ab2 w (.cells #[.slice A m c, .int .i64 r] 24)
  have b2 := ab2 (w.alloc (.cells #[.slice A m c, .int .i64 r] 24)) (.cells #[.slice none 0 0, .int .i64 0] 24)
  have X0 := rb2 (nb2 w (.slice A m c) (.int .i64 r) 24) b2
  have Y0 := nb2 (w.alloc (.cells #[.slice A m c, .int .i64 r] 24)) (.slice none 0 0) (.int .i64 0) 24
  rw [show (w.alloc (.cells #[.slice A m c, .int .i64 r] 24)).heap.size = w.heap.size + 1 by simp] at Y0
  have HC := Lib.hid (with_one v (dkh (dkh h b1) b2) hc)
  have HB1 := Lib.hid (b1.trans (b2.mono b1.size))
  clear b1 b2
  obtain ⟨p0, q0, n0⟩ := xb2 X0
  go_enter Tryd.func37, Tryd.ntmps37
  go_wp2_with fail
  with_reducible refine HC.out.mono ?_
  rintro e w3 ⟨rfl, b3⟩
  have Y3 := rb2 Y0 b3
  have HB3 := btr HB1 b3 HB1.out.size
  clear b3 p0 q0 n0
  obtain ⟨y0, y0f⟩ := Y3.out 0 (by omega)
  obtain ⟨y1, y1f⟩ := Y3.out 1 (by omega)
  go_wp2
  refine bodyPost_ret (v := .tuple #[.agg #[.slice none 0 0, .int .i64 0], .int .i64 1]) ?_ rfl ⟨rfl, ?_⟩
  · rw [results_cell_tmp rfl]
    go_simp
  · exact (HB3.out.setCell (by simp) _).setCell (by simp) _
set_option maxHeartbeats 8000000 in
set_option maxRecDepth 100000 in
theorem rrestrict_any {w : World} {A0 : Option Addr} {m0 c0 : Nat} {l0 : List Bi} {r0 : Int} (h0 : Hid (DOk w (⟨A0, m0, c0, l0, r0⟩ : DA))) (q0 : m0 ≤ 40) (v : Int) (b : Bool) :
    Calls Tryd.prog 36 #[.agg #[.slice A0 m0 c0, .int .i64 r0], .int .i64 v, .bool b] w fun e w' => RR w w' (chkWith l0 r0 v) (fun x => dset l0 r0 (Dg.set x v.toNat b)) e := by
  have b0 := ab2 w (.cells #[.slice A0 m0 c0, .int .i64 r0] 24)
  have b1 := ab2 (w.alloc (.cells #[.slice A0 m0 c0, .int .i64 r0] 24)) (.cells #[.slice none 0 0, .int .i64 0] 24)
  have X0 : Hid (Blk (w.alloc (.cells #[.slice A0 m0 c0, .int .i64 r0] 24)) (w.heap.size) 2 (fun i => ([.slice A0 m0 c0, .int .i64 r0] : List Value).getD i undef)) := Lib.hid (Blk.new (w := w) (H := w.heap.size) (by simp) [.slice A0 m0 c0, .int .i64 r0] 24)
  replace X0 : Hid (Blk ((w.alloc (.cells #[.slice A0 m0 c0, .int .i64 r0] 24)).alloc (.cells #[.slice none 0 0, .int .i64 0] 24)) (w.heap.size) 2 (fun i => ([.slice A0 m0 c0, .int .i64 r0] : List Value).getD i undef)) := Lib.hid (X0.out.below (by omega) b1)
  have X1 : Hid (Blk ((w.alloc (.cells #[.slice A0 m0 c0, .int .i64 r0] 24)).alloc (.cells #[.slice none 0 0, .int .i64 0] 24)) (w.heap.size + 1) 2 (fun i => ([.slice none 0 0, .int .i64 0] : List Value).getD i undef)) := Lib.hid (Blk.new (w := (w.alloc (.cells #[.slice A0 m0 c0, .int .i64 r0] 24))) (H := w.heap.size + 1) (by simp) [.slice none 0 0, .int .i64 0] 24)
  have HB0 : Hid (Below w.heap.size w ((w.alloc (.cells #[.slice A0 m0 c0, .int .i64 r0] 24)).alloc (.cells #[.slice none 0 0, .int .i64 0] 24))) := Lib.hid (b0.trans (b1.mono b0.size))
  have HW0 : Hid (((w.alloc (.cells #[.slice A0 m0 c0, .int .i64 r0] 24)).alloc (.cells #[.slice none 0 0, .int .i64 0] 24)).heap.size = w.heap.size + 1 + 1) := Lib.hid (by simp)
  clear b0 b1
  have HF : Hid (∀ W, Below w.heap.size w W → Calls Tryd.prog 23 #[.agg #[.slice A0 m0 c0, .int .i64 r0]] W fun e w' => e = .returned (.int .i64 (chk l0 r0)) ∧ Below W.heap.size W w') := Lib.hid (fun W hW => rcheck_any l0 r0 m0 c0 A0 W (dkh h0 hW) (by omega))
  rcases chk_or (l := l0) (r := r0) (by have := h0.out.len; simp only at this; omega) with hk | hk
  rotate_left
  · rw [hk] at HF
    rw [chkWith_bad hk]
    clear h0 hk
    go_enter Tryd.func36, Tryd.ntmps36
    go_wp2_with fail
    generalize ((w.alloc (.cells #[.slice A0 m0 c0, .int .i64 r0] 24)).alloc (.cells #[.slice none 0 0, .int .i64 0] 24)) = w1 at *
    with_reducible refine (HF.out w1 HB0.out).mono ?_
    rintro e w3 ⟨rfl, b3⟩
    replace X0 := rb2 X0 b3
    replace X1 := rb2 X1 b3
    have HW3 : Hid (w.heap.size + 1 + 1 ≤ w3.heap.size) := Lib.hid (by have := HW0.out; have := b3.size; omega)
    have HB3 := btr HB0 b3 HB0.out.size
    clear b3 HB0 HF HW0
    obtain ⟨y0, y0f⟩ := X1.out 0 (by omega)
    obtain ⟨y1, y1f⟩ := X1.out 1 (by omega)
    go_wp2
    refine bodyPost_ret (v := .tuple #[.agg #[.slice none 0 0, .int .i64 0], .int .i64 20]) ?_ rfl ?_
    · rw [results_cell_tmp rfl]
      go_simp
    · exact rr_bad (by decide) ((HB3.out.setCell (by show w.heap.size ≤ w.heap.size + 1; omega) _).setCell (by show w.heap.size ≤ w.heap.size + 1; omega) _)
  by_cases hv0 : v < 0
  · rw [hk] at HF
    rw [chkWith_out hk (.inl hv0)]
    clear h0 hk
    go_enter Tryd.func36, Tryd.ntmps36
    go_wp2_with fail
    generalize ((w.alloc (.cells #[.slice A0 m0 c0, .int .i64 r0] 24)).alloc (.cells #[.slice none 0 0, .int .i64 0] 24)) = w1 at *
    with_reducible refine (HF.out w1 HB0.out).mono ?_
    rintro e w3 ⟨rfl, b3⟩
    replace X0 := rb2 X0 b3
    replace X1 := rb2 X1 b3
    have HW3 : Hid (w.heap.size + 1 + 1 ≤ w3.heap.size) := Lib.hid (by have := HW0.out; have := b3.size; omega)
    have HB3 := btr HB0 b3 HB0.out.size
    clear b3 HB0 HF HW0
    obtain ⟨y0, y0f⟩ := X1.out 0 (by omega)
    obtain ⟨y1, y1f⟩ := X1.out 1 (by omega)
    go_wp2
    refine bodyPost_ret (v := .tuple #[.agg #[.slice none 0 0, .int .i64 0], .int .i64 1]) ?_ rfl ?_
    · rw [results_cell_tmp rfl]
      go_simp
    · exact rr_bad (by decide) ((HB3.out.setCell (by show w.heap.size ≤ w.heap.size + 1; omega) _).setCell (by show w.heap.size ≤ w.heap.size + 1; omega) _)
  by_cases hv1 : v > 63
  · rw [hk] at HF
    rw [chkWith_out hk (.inr hv1)]
    clear h0 hk
    go_enter Tryd.func36, Tryd.ntmps36
    go_wp2_with fail
    generalize ((w.alloc (.cells #[.slice A0 m0 c0, .int .i64 r0] 24)).alloc (.cells #[.slice none 0 0, .int .i64 0] 24)) = w1 at *
    with_reducible refine (HF.out w1 HB0.out).mono ?_
    rintro e w3 ⟨rfl, b3⟩
    replace X0 := rb2 X0 b3
    replace X1 := rb2 X1 b3
    have HW3 : Hid (w.heap.size + 1 + 1 ≤ w3.heap.size) := Lib.hid (by have := HW0.out; have := b3.size; omega)
    have HB3 := btr HB0 b3 HB0.out.size
    clear b3 HB0 HF HW0
    obtain ⟨y0, y0f⟩ := X1.out 0 (by omega)
    obtain ⟨y1, y1f⟩ := X1.out 1 (by omega)
    go_wp2
    refine bodyPost_ret (v := .tuple #[.agg #[.slice none 0 0, .int .i64 0], .int .i64 1]) ?_ rfl ?_
    · rw [results_cell_tmp rfl]
      go_simp
    · exact rr_bad (by decide) ((HB3.out.setCell (by show w.heap.size ≤ w.heap.size + 1; omega) _).setCell (by show w.heap.size ≤ w.heap.size + 1; omega) _)
  have hvn : v = ((v.toNat : Nat) : Int) := by omega
  have hv64 : v.toNat < 64 := by omega
  rw [hk] at HF
  rw [show chkWith l0 r0 v = 0 by rw [hvn]; exact chkWith_in hk (by omega)]
  have hd0 : decide (v < 0) = false := decide_eq_false hv0
  have hd1 : decide (63 < v) = false := decide_eq_false (by omega)
  clear hv0 hv1
  generalize v.toNat = n at *
  have HVN := Lib.hid hvn
  clear hvn
  have D0 := Lib.hid (dn_dset h0.out hk)
  have e0 := chk_nat hk
  clear h0 hk
  generalize dset l0 r0 = f0 at *
  generalize r0.toNat = n0 at *
  subst e0
  have HC : Hid (∀ b W, Below w.heap.size w W → Calls Tryd.prog 89 #[.agg #[.slice A0 m0 c0, .int .i64 (n0 : Int)], .int .i64 v, .bool b] W fun e w' => DiaOk W w' (fun x => f0 (Dg.set x n b)) e) :=
    Lib.hid (fun b W hW => by rw [HVN.out]; exact rfixed_ok m0 c0 n0 n A0 b f0 W (rdn D0 hW))
  have HL0 := Lib.hid (Nat.le_trans (set_small D0.out n false) q0)
  have HL1 := Lib.hid (Nat.le_trans (set_small D0.out n true) q0)
  clear D0
  go_enter Tryd.func36, Tryd.ntmps36
  go_wp2_with fail
  generalize ((w.alloc (.cells #[.slice A0 m0 c0, .int .i64 (n0 : Int)] 24)).alloc (.cells #[.slice none 0 0, .int .i64 0] 24)) = w1 at *
  with_reducible refine (HF.out w1 HB0.out).mono ?_
  rintro e w3 ⟨rfl, b3⟩
  replace X0 := rb2 X0 b3
  replace X1 := rb2 X1 b3
  have HW3 : Hid (w.heap.size + 1 + 1 ≤ w3.heap.size) := Lib.hid (by have := HW0.out; have := b3.size; omega)
  have HB3 := btr HB0 b3 HB0.out.size
  clear b3 HB0 HF HW0
  obtain ⟨x0, x1, xn⟩ := xb2 X0
  go_wp2_with fail
  with_reducible refine (HC.out b w3 HB3.out).mono ?_
  rintro e w6 ⟨⟨A9, m9, c9, r9, rfl, d9, f9⟩, b9⟩
  replace X1 := rb2 X1 b9
  have D9 := Lib.hid d9
  have F9 := Lib.hid (f9.mono (show w.heap.size + 1 + 1 ≤ _ from HW3.out))
  have HB6 := btr HB3 b9 HB3.out.size
  clear d9 f9 b9 HC x0 x1 xn
  go_wp2_with fail
  with_reducible refine (rlimited_ok D9).mono ?_
  rintro e w7 ⟨rfl, d7, b7⟩
  replace X1 := rb2 X1 b7
  have D7 := Lib.hid d7
  have HB7 := btr HB6 b7 HB6.out.size
  clear d7 b7 D9
  obtain ⟨y0, y0f⟩ := X1.out 0 (by omega)
  obtain ⟨y1, y1f⟩ := X1.out 1 (by omega)
  go_wp2
  refine bodyPost_ret (v := .tuple #[.agg #[.slice A9 m9 c9, .int .i64 (r9 : Int)], .int .i64 0]) ?_ rfl ?_
  · rw [results_cell_tmp rfl]
    go_simp
  · exact rr_done HB7.out (by omega) D7.out (F9.out.mono (by omega))
theorem drestrict_any {w : World} {A0 : Option Addr} {m0 c0 : Nat} {l0 : List Bi} {r0 : Int} (h0 : Hid (DOk w (⟨A0, m0, c0, l0, r0⟩ : DA))) (q0 : m0 ≤ 40) (hin : Hid (Ins w 0)) (v : Int) (b : Bool) :
    Calls Tryd.prog 35 #[.agg #[.slice A0 m0 c0, .int .i64 r0], .int .i64 v, .bool b] w fun e w' => RR w w' (chkWith l0 r0 v) (fun x => dset l0 r0 (Dg.set x v.toNat b)) e := by
  rcases chk_or (l := l0) (r := r0) (by have := h0.out.len; simp only at this; omega) with hk | hk
  rotate_left
  · rw [chkWith_bad hk]
    refine (bad_restrict v b (Lib.hid ⟨h0.out, hk⟩)).mono ?_
    rintro e w' ⟨rfl, hb⟩
    exact rr_bad (by decide) hb
  by_cases hv : v < 0 ∨ 63 < v
  · rw [chkWith_out hk hv]
    refine (out_restrict v b h0 (Lib.hid (chkWith_out hk hv))).mono ?_
    rintro e w' ⟨rfl, hb⟩
    exact rr_bad (by decide) hb
  obtain ⟨n, rfl⟩ : ∃ n : Nat, v = (n : Int) := ⟨v.toNat, by omega⟩
  rw [chkWith_in hk (by omega), show ((n : Int)).toNat = n by omega]
  have D0 := Lib.hid (dn_dset h0.out hk)
  have e0 := chk_nat hk
  generalize dset l0 r0 = f0 at *
  generalize r0.toNat = n0 at *
  subst e0
  exact (restrict_ok m0 c0 n0 n A0 b f0 w D0 (Lib.hid (con_yes (by omega))) hin (Lib.hid (by have := set_small D0.out n b; omega)) (Lib.hid (by omega))).mono fun e w' h => rr_ok h
set_option maxHeartbeats 8000000 in
set_option maxRecDepth 100000 in
theorem rexists_any {w : World} {A0 : Option Addr} {m0 c0 : Nat} {l0 : List Bi} {r0 : Int} (h0 : Hid (DOk w (⟨A0, m0, c0, l0, r0⟩ : DA))) (q0 : m0 ≤ 40) (v : Int) :
    Calls Tryd.prog 38 #[.agg #[.slice A0 m0 c0, .int .i64 r0], .int .i64 v] w fun e w' => RR w w' (chkWith l0 r0 v) (fun x => dset l0 r0 (Dg.set x v.toNat false) || dset l0 r0 (Dg.set x v.toNat true)) e := by
  have b0 := ab2 w (.cells #[.slice A0 m0 c0, .int .i64 r0] 24)
  have b1 := ab2 (w.alloc (.cells #[.slice A0 m0 c0, .int .i64 r0] 24)) (.cells #[.slice none 0 0, .int .i64 0] 24)
  have X0 : Hid (Blk (w.alloc (.cells #[.slice A0 m0 c0, .int .i64 r0] 24)) (w.heap.size) 2 (fun i => ([.slice A0 m0 c0, .int .i64 r0] : List Value).getD i undef)) := Lib.hid (Blk.new (w := w) (H := w.heap.size) (by simp) [.slice A0 m0 c0, .int .i64 r0] 24)
  replace X0 : Hid (Blk ((w.alloc (.cells #[.slice A0 m0 c0, .int .i64 r0] 24)).alloc (.cells #[.slice none 0 0, .int .i64 0] 24)) (w.heap.size) 2 (fun i => ([.slice A0 m0 c0, .int .i64 r0] : List Value).getD i undef)) := Lib.hid (X0.out.below (by omega) b1)
  have X1 : Hid (Blk ((w.alloc (.cells #[.slice A0 m0 c0, .int .i64 r0] 24)).alloc (.cells #[.slice none 0 0, .int .i64 0] 24)) (w.heap.size + 1) 2 (fun i => ([.slice none 0 0, .int .i64 0] : List Value).getD i undef)) := Lib.hid (Blk.new (w := (w.alloc (.cells #[.slice A0 m0 c0, .int .i64 r0] 24))) (H := w.heap.size + 1) (by simp) [.slice none 0 0, .int .i64 0] 24)
  have HB0 : Hid (Below w.heap.size w ((w.alloc (.cells #[.slice A0 m0 c0, .int .i64 r0] 24)).alloc (.cells #[.slice none 0 0, .int .i64 0] 24))) := Lib.hid (b0.trans (b1.mono b0.size))
  have HW0 : Hid (((w.alloc (.cells #[.slice A0 m0 c0, .int .i64 r0] 24)).alloc (.cells #[.slice none 0 0, .int .i64 0] 24)).heap.size = w.heap.size + 1 + 1) := Lib.hid (by simp)
  clear b0 b1
  have HF : Hid (∀ W, Below w.heap.size w W → Calls Tryd.prog 23 #[.agg #[.slice A0 m0 c0, .int .i64 r0]] W fun e w' => e = .returned (.int .i64 (chk l0 r0)) ∧ Below W.heap.size W w') := Lib.hid (fun W hW => rcheck_any l0 r0 m0 c0 A0 W (dkh h0 hW) (by omega))
  rcases chk_or (l := l0) (r := r0) (by have := h0.out.len; simp only at this; omega) with hk | hk
  rotate_left
  · rw [hk] at HF
    rw [chkWith_bad hk]
    clear h0 hk
    go_enter Tryd.func38, Tryd.ntmps38
    go_wp2_with fail
    generalize ((w.alloc (.cells #[.slice A0 m0 c0, .int .i64 r0] 24)).alloc (.cells #[.slice none 0 0, .int .i64 0] 24)) = w1 at *
    with_reducible refine (HF.out w1 HB0.out).mono ?_
    rintro e w3 ⟨rfl, b3⟩
    replace X0 := rb2 X0 b3
    replace X1 := rb2 X1 b3
    have HW3 : Hid (w.heap.size + 1 + 1 ≤ w3.heap.size) := Lib.hid (by have := HW0.out; have := b3.size; omega)
    have HB3 := btr HB0 b3 HB0.out.size
    clear b3 HB0 HF HW0
    obtain ⟨y0, y0f⟩ := X1.out 0 (by omega)
    obtain ⟨y1, y1f⟩ := X1.out 1 (by omega)
    go_wp2
    refine bodyPost_ret (v := .tuple #[.agg #[.slice none 0 0, .int .i64 0], .int .i64 20]) ?_ rfl ?_
    · rw [results_cell_tmp rfl]
      go_simp
    · exact rr_bad (by decide) ((HB3.out.setCell (by show w.heap.size ≤ w.heap.size + 1; omega) _).setCell (by show w.heap.size ≤ w.heap.size + 1; omega) _)
  by_cases hv0 : v < 0
  · rw [hk] at HF
    rw [chkWith_out hk (.inl hv0)]
    clear h0 hk
    go_enter Tryd.func38, Tryd.ntmps38
    go_wp2_with fail
    generalize ((w.alloc (.cells #[.slice A0 m0 c0, .int .i64 r0] 24)).alloc (.cells #[.slice none 0 0, .int .i64 0] 24)) = w1 at *
    with_reducible refine (HF.out w1 HB0.out).mono ?_
    rintro e w3 ⟨rfl, b3⟩
    replace X0 := rb2 X0 b3
    replace X1 := rb2 X1 b3
    have HW3 : Hid (w.heap.size + 1 + 1 ≤ w3.heap.size) := Lib.hid (by have := HW0.out; have := b3.size; omega)
    have HB3 := btr HB0 b3 HB0.out.size
    clear b3 HB0 HF HW0
    obtain ⟨y0, y0f⟩ := X1.out 0 (by omega)
    obtain ⟨y1, y1f⟩ := X1.out 1 (by omega)
    go_wp2
    refine bodyPost_ret (v := .tuple #[.agg #[.slice none 0 0, .int .i64 0], .int .i64 1]) ?_ rfl ?_
    · rw [results_cell_tmp rfl]
      go_simp
    · exact rr_bad (by decide) ((HB3.out.setCell (by show w.heap.size ≤ w.heap.size + 1; omega) _).setCell (by show w.heap.size ≤ w.heap.size + 1; omega) _)
  by_cases hv1 : v > 63
  · rw [hk] at HF
    rw [chkWith_out hk (.inr hv1)]
    clear h0 hk
    go_enter Tryd.func38, Tryd.ntmps38
    go_wp2_with fail
    generalize ((w.alloc (.cells #[.slice A0 m0 c0, .int .i64 r0] 24)).alloc (.cells #[.slice none 0 0, .int .i64 0] 24)) = w1 at *
    with_reducible refine (HF.out w1 HB0.out).mono ?_
    rintro e w3 ⟨rfl, b3⟩
    replace X0 := rb2 X0 b3
    replace X1 := rb2 X1 b3
    have HW3 : Hid (w.heap.size + 1 + 1 ≤ w3.heap.size) := Lib.hid (by have := HW0.out; have := b3.size; omega)
    have HB3 := btr HB0 b3 HB0.out.size
    clear b3 HB0 HF HW0
    obtain ⟨y0, y0f⟩ := X1.out 0 (by omega)
    obtain ⟨y1, y1f⟩ := X1.out 1 (by omega)
    go_wp2
    refine bodyPost_ret (v := .tuple #[.agg #[.slice none 0 0, .int .i64 0], .int .i64 1]) ?_ rfl ?_
    · rw [results_cell_tmp rfl]
      go_simp
    · exact rr_bad (by decide) ((HB3.out.setCell (by show w.heap.size ≤ w.heap.size + 1; omega) _).setCell (by show w.heap.size ≤ w.heap.size + 1; omega) _)
  have hvn : v = ((v.toNat : Nat) : Int) := by omega
  have hv64 : v.toNat < 64 := by omega
  rw [hk] at HF
  rw [show chkWith l0 r0 v = 0 by rw [hvn]; exact chkWith_in hk (by omega)]
  have hd0 : decide (v < 0) = false := decide_eq_false hv0
  have hd1 : decide (63 < v) = false := decide_eq_false (by omega)
  clear hv0 hv1
  generalize v.toNat = n at *
  have HVN := Lib.hid hvn
  clear hvn
  have D0 := Lib.hid (dn_dset h0.out hk)
  have e0 := chk_nat hk
  clear h0 hk
  generalize dset l0 r0 = f0 at *
  generalize r0.toNat = n0 at *
  subst e0
  have HC : Hid (∀ b W, Below w.heap.size w W → Calls Tryd.prog 89 #[.agg #[.slice A0 m0 c0, .int .i64 (n0 : Int)], .int .i64 v, .bool b] W fun e w' => DiaOk W w' (fun x => f0 (Dg.set x n b)) e) :=
    Lib.hid (fun b W hW => by rw [HVN.out]; exact rfixed_ok m0 c0 n0 n A0 b f0 W (rdn D0 hW))
  have HL0 := Lib.hid (Nat.le_trans (set_small D0.out n false) q0)
  have HL1 := Lib.hid (Nat.le_trans (set_small D0.out n true) q0)
  clear D0
  have HU : Hid (∀ A5 A6 m5 c5 r5 m6 c6 r6 W, Dn W A5 m5 c5 r5 (fun x => f0 (Dg.set x n false)) → Dn W A6 m6 c6 r6 (fun x => f0 (Dg.set x n true)) → Calls Tryd.prog 76 #[.agg #[.slice A5 m5 c5, .int .i64 (r5 : Int)], .agg #[.slice A6 m6 c6, .int .i64 (r6 : Int)]] W fun e w' => DiaOk W w' (fun x => f0 (Dg.set x n false) || f0 (Dg.set x n true)) e) :=
    Lib.hid (fun A5 A6 m5 c5 r5 m6 c6 r6 W d5 d6 => union_ok m5 c5 r5 m6 c6 r6 A5 A6 (fun x => f0 (Dg.set x n false)) (fun x => f0 (Dg.set x n true)) W (Lib.hid d5) (Lib.hid d6) (Lib.hid (by have := pr42 (by have := d5.len; have := HL0.out; omega : m5 ≤ 40) (by have := d6.len; have := HL1.out; omega : m6 ≤ 40); omega)) (Lib.hid (bin_small d5 d6 (by have := d5.len; have := HL0.out; omega) (by have := d6.len; have := HL1.out; omega) (fun p q => p || q))))
  go_enter Tryd.func38, Tryd.ntmps38
  go_wp2_with fail
  generalize ((w.alloc (.cells #[.slice A0 m0 c0, .int .i64 (n0 : Int)] 24)).alloc (.cells #[.slice none 0 0, .int .i64 0] 24)) = w1 at *
  with_reducible refine (HF.out w1 HB0.out).mono ?_
  rintro e w3 ⟨rfl, b3⟩
  replace X0 := rb2 X0 b3
  replace X1 := rb2 X1 b3
  have HW3 : Hid (w.heap.size + 1 + 1 ≤ w3.heap.size) := Lib.hid (by have := HW0.out; have := b3.size; omega)
  have HB3 := btr HB0 b3 HB0.out.size
  clear b3 HB0 HF HW0
  have hdr : Below w3.heap.size w3 w3.drew := (Below.refl _ _).drew
  replace X0 := rb2 X0 hdr
  replace X1 := rb2 X1 hdr
  replace HB3 := btr HB3 hdr HB3.out.size
  clear hdr
  generalize hGZ : w.heap.size + 1 = GZ at *
  have hn0 : ¬ GZ = w.heap.size := by omega
  go_upto_region 6 with fail
  obtain ⟨x0, x1, xn⟩ := xb2 X0
  go_region_held3 (fun w' => w'.cell? ⟨w.heap.size, 0, none⟩ = some (.slice A0 m0 c0) ∧ w'.cell? ⟨w.heap.size, 1, none⟩ = some (.int .i64 (n0 : Int))) (first | (refine ⟨?_, ?_⟩ <;> (with_reducible assumption)) | go_keep) ((first
    | (go_at_call 89; (with_reducible refine (HC.out false _ HB3.out).mono ?_); rintro e w5 ⟨⟨A5, m5, c5, r5, rfl, d5, _⟩, b5⟩; have DI := Lib.hid d5; replace X0 := rb2 X0 b5; replace X1 := rb2 X1 b5; replace HB3 := btr HB3 b5 HB3.out.size; obtain ⟨x0, x1, xn⟩ := xb2 X0; clear b5; clear d5)
    | (go_at_call 89; (with_reducible refine (HC.out true _ HB3.out).mono ?_); rintro e w6 ⟨⟨A6, m6, c6, r6, rfl, d6, _⟩, b6⟩; have DM := Lib.hid d6; replace DI := rdn DI b6; replace X0 := rb2 X0 b6; replace X1 := rb2 X1 b6; replace HB3 := btr HB3 b6 HB3.out.size; obtain ⟨x0, x1, xn⟩ := xb2 X0; clear b6; clear d6)
    | (go_at_call 76; (with_reducible refine (HU.out A5 A6 m5 c5 r5 m6 c6 r6 _ DI.out DM.out).mono ?_); rintro e w8 ⟨⟨A8, m8, c8, r8, rfl, d8, f8⟩, b8⟩; have D8 := Lib.hid d8; have F8 := Lib.hid (f8.mono (X1.out.lt (by omega))); replace X0 := rb2 X0 b8; replace X1 := rb2 X1 b8; replace HB3 := btr HB3 b8 HB3.out.size; obtain ⟨x0, x1, xn⟩ := xb2 X0; clear b8; clear d8 f8)
    | (go_at_call 75; (with_reducible refine (rlimited_ok D8).mono ?_); rintro e w9 ⟨rfl, d9, b9⟩; have D9 := Lib.hid d9; replace X0 := rb2 X0 b9; replace X1 := rb2 X1 b9; replace HB3 := btr HB3 b9 HB3.out.size; obtain ⟨x0, x1, xn⟩ := xb2 X0; clear b9; obtain ⟨z0, z0f⟩ := X1.out 0 (by omega); obtain ⟨z1, z1f⟩ := X1.out 1 (by omega); clear d9)))
  all_goals
    go_wp2
    refine bodyPost_ret (v := .tuple #[.agg #[.slice A8 m8 c8, .int .i64 (r8 : Int)], .int .i64 0]) ?_ rfl ?_
    · rw [results_cell_tmp rfl]
      go_simp
    · exact rr_done HB3.out (by omega) D9.out F8.out
theorem or_small {f : Cfg → Bool} (hf : D64 f) (n : Nat) (h0 : (cn (fun x => f (Dg.set x n false))).1.length ≤ 40) (h1 : (cn (fun x => f (Dg.set x n true))).1.length ≤ 40) : (cn (fun x => f (Dg.set x n false) || f (Dg.set x n true))).1.length ≤ 4096 := by
  have d0 := d64_set hf n false
  have d1 := d64_set hf n true
  have v0 := cn_valid d0
  have v1 := cn_valid d1
  have e0 := cn_den d0
  have e1 := cn_den d1
  have s : (cn (fun x => f (Dg.set x n false) || f (Dg.set x n true))).1.length ≤ (((cn (fun x => f (Dg.set x n false))).1.length + 2) * ((cn (fun x => f (Dg.set x n true))).1.length + 2)) * 2 := by
    have s := bin_size v0.good.ord v1.good.ord (fun p q => p || q) v0.lt v1.lt
    rw [e0, e1] at s
    exact s
  have := pr42 h0 h1
  omega
theorem dexists_any {w : World} {A0 : Option Addr} {m0 c0 : Nat} {l0 : List Bi} {r0 : Int} (h0 : Hid (DOk w (⟨A0, m0, c0, l0, r0⟩ : DA))) (q0 : m0 ≤ 40) (hin : Hid (Ins w 0)) (v : Int) :
    Calls Tryd.prog 37 #[.agg #[.slice A0 m0 c0, .int .i64 r0], .int .i64 v] w fun e w' => RR w w' (chkWith l0 r0 v) (fun x => dset l0 r0 (Dg.set x v.toNat false) || dset l0 r0 (Dg.set x v.toNat true)) e := by
  rcases chk_or (l := l0) (r := r0) (by have := h0.out.len; simp only at this; omega) with hk | hk
  rotate_left
  · rw [chkWith_bad hk]
    refine (bad_exists v (Lib.hid ⟨h0.out, hk⟩)).mono ?_
    rintro e w' ⟨rfl, hb⟩
    exact rr_bad (by decide) hb
  by_cases hv : v < 0 ∨ 63 < v
  · rw [chkWith_out hk hv]
    refine (out_exists v h0 (Lib.hid (chkWith_out hk hv))).mono ?_
    rintro e w' ⟨rfl, hb⟩
    exact rr_bad (by decide) hb
  obtain ⟨n, rfl⟩ : ∃ n : Nat, v = (n : Int) := ⟨v.toNat, by omega⟩
  rw [chkWith_in hk (by omega), show ((n : Int)).toNat = n by omega]
  have D0 := Lib.hid (dn_dset h0.out hk)
  have e0 := chk_nat hk
  generalize dset l0 r0 = f0 at *
  generalize r0.toNat = n0 at *
  subst e0
  have hl0 : (cn (fun x => f0 (Dg.set x n false))).1.length ≤ 40 := Nat.le_trans (set_small D0.out n false) q0
  have hl1 : (cn (fun x => f0 (Dg.set x n true))).1.length ≤ 40 := Nat.le_trans (set_small D0.out n true) q0
  have HEX : Hid ((cn (fun x => f0 (Dg.set x n false) || f0 (Dg.set x n true))).1.length ≤ 4096) := Lib.hid (or_small (D0.out.d) n hl0 hl1)
  exact (exists_ok m0 c0 n0 n A0 f0 w D0 (Lib.hid (con_yes (by omega))) hin HEX (Lib.hid (by have := pr42 q0 q0; omega))).mono fun e w' h => rr_ok h
end Go.Proofs.YtefepaackdhiiaaDoor
