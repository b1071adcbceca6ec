/-
  DiagramSupport: a condition is in the support exactly if the two restrictions by it differ; the support is ascending.
-/
import Derived.Test.YtpeahjfkiehniaaDoorMk
import Derived.Test.YtpeahjfkiehniaaDoorMi
import Derived.Test.YtpeahjfkiehniaaDoorMq
import Derived.Test.YtpeahjfkiehniaaDoorMs
namespace Go.Proofs.YtpeahjfkiehniaaDoor
open Go.RowKit Dg St

/-- a slice of ints reads as a list -/
structure RI (w : World) (A : Option Addr) (n : Nat) (l : List Nat) : Prop where
  len : l.length = n
  rd : 0 < n → ∃ b, A = some ⟨b, 0, none⟩ ∧ b < w.heap.size ∧ ∀ j, j < n → w.cell? ⟨b, j, none⟩ = some (.int .i64 ((l.getD j 0 : Nat) : Int))
theorem RI.below {w w' : World} {A : Option Addr} {n : Nat} {l : List Nat} (h : RI w A n l) (hb : Below w.heap.size w w') : RI w' A n l :=
  ⟨h.len, fun h0 => by
    obtain ⟨b, e, hlt, hc⟩ := h.rd h0
    exact ⟨b, e, Nat.lt_of_lt_of_le hlt hb.size, fun j hj => (hb.cell (p := ⟨b, j, none⟩) hlt).trans (hc j hj)⟩⟩
theorem RI.cell {w : World} {b n : Nat} {l : List Nat} (h : RI w (some ⟨b, 0, none⟩) n l) {j : Nat} (hj : j < n) : w.cell? ⟨b, j, none⟩ = some (.int .i64 ((l.getD j 0 : Nat) : Int)) := by
  obtain ⟨b', e, _, hc⟩ := h.rd (by omega)
  simp only [Option.some.injEq, Addr.mk.injEq] at e
  rw [e.1]; exact hc j hj
theorem own_ri {w : World} {base : Nat} {v : Value} {l : List Nat} (h : w.ownsRow base 3 1 v l.length (ints l)) : ∃ A c, v = .slice A l.length c ∧ RI w A l.length l ∧ ((A = none ∧ l.length = 0) ∨ ∃ b, A = some ⟨b, 0, none⟩) := by
  rcases h.2 with ⟨rfl, h0⟩ | ⟨g, cap, cur, rfl, _, hh, hnc, _⟩
  · exact ⟨none, 0, by rw [h0], ⟨rfl, fun hp => by omega⟩, .inl ⟨rfl, h0⟩⟩
  · have hown : w.ownsRow base 3 1 (.slice (some ⟨g, 0, none⟩) l.length cap) l.length (ints l) := h
    refine ⟨_, cap, rfl, ⟨rfl, fun _ => ⟨g, rfl, (World.ownsRow.lt hown g rfl).2, fun j hj => ?_⟩⟩, .inr ⟨g, rfl⟩⟩
    rw [hown.cellAt j (by omega)]
    unfold ints
    rw [List.getElem?_map, List.getD_eq_getElem?_getD, List.getElem?_eq_getElem hj]
    rfl
/-- the state of the law: the diagram's box is block g -/
structure SuS (w wr : World) (g : Nat) (A : Option Addr) (m c r : Nat) (f : Cfg → Bool) (A' : Option Addr) (n : Nat) (S : List Nat) : Prop where
  bel : Below w.heap.size w wr
  ins : Ins wr 0
  box : B2 wr g (.slice A m c) (.int .i64 (r : Int))
  dn : Dn wr A m c r f
  ri : RI wr A' n S
theorem SuS.below {w wr w' : World} {g m c r n : Nat} {A A' : Option Addr} {f : Cfg → Bool} {S : List Nat} (h : SuS w wr g A m c r f A' n S) (hb : Below wr.heap.size wr w') : SuS w w' g A m c r f A' n S :=
  ⟨h.bel.trans (hb.mono h.bel.size), h.ins.below hb, h.box.below (by omega) hb, h.dn.below hb, h.ri.below hb⟩
theorem constant_nil2 (w : World) : Calls Tryd.prog 52 #[.bool false] w fun e w' => e = .returned (.agg #[.slice none 0 0, .int .i64 0]) ∧ Below w.heap.size w w' := constant_any false w

set_option maxHeartbeats 4000000 in
set_option maxRecDepth 100000 in
theorem lawSup_walk (N nn cc : Nat) (A8 : Option Addr) (l : List Nat) (w : World) (hN : N < 256) (h8 : Hid (R8 w A8 nn l)) (hnn : nn ≤ 9223372036854775807) (HIN : Hid (Ins w 0)) :
    Calls Tryd.prog 12 #[.agg #[.slice A8 nn cc, .int .u8 (N : Int)]] w fun e w' => e = .returned (.bool true) ∧ Below w.heap.size w w' := by
  have X0 := nb2 w (.slice A8 nn cc) (.int .u8 (N : Int)) 54
  have HB0 := Lib.hid (ab2 w (.cells #[.slice A8 nn cc, .int .u8 (N : Int)] 54))
  have HIN0 := rin HIN HB0.out
  have hm : ∀ w', Below w.heap.size w w' → Calls Tryd.prog 51 #[.agg #[.slice A8 nn cc, .int .u8 (N : Int)]] w' fun e w'' => DiaOk w' w'' (sset l N) e :=
    fun w' hb => lmade_ok N nn cc A8 l w' (Lib.hid (h8.out.below hb)) hN hnn
  have HM := Lib.hid hm
  have HLOW := Lib.hid (sset_low l N)
  clear hm
  generalize sset l N = f at *
  go_enter Tryd.func12, Tryd.ntmps12
  go_wp2_with fail
  with_reducible refine (sanity_ok _ HIN0).mono ?_
  rintro e w2 ⟨rfl, b2⟩
  have X2 := rb2 X0 b2
  have HB2 := btr HB0 b2 HB0.out.size
  have HIN2 := rin HIN0 b2
  clear b2
  obtain ⟨x0, x1, xn⟩ := xb2 X2
  go_wp2_with fail
  clear x0 x1 xn
  with_reducible refine (HM.out _ HB2.out).mono ?_
  rintro e w3 ⟨⟨A, m, c, r, rfl, d3, _⟩, b3⟩
  have HB3 := btr HB2 b3 HB2.out.size
  have HIN3 := rin HIN2 b3
  have D3 := lid' d3
  clear b3 d3
  go_wp2_with fail
  have a3 := ab2 w3 (.cells #[.slice A m c, .int .i64 (r : Int)] 24)
  have X4 := nb2 w3 (.slice A m c) (.int .i64 (r : Int)) 24
  have D4 := rdn D3 a3
  have HIN4 := rin HIN3 a3
  have HB4 := btr HB3 a3 HB3.out.size
  clear a3
  with_reducible refine (support_ok m c r A f _ D4).mono ?_
  rintro e w5 ⟨v, rfl, hso⟩
  obtain ⟨A', c', rfl, hri, hA'⟩ := own_ri hso.1
  have b5 := hso.2
  have HST : Hid (SuS w w5 w3.heap.size A m c r f A' (supn (cn f).1 64).length (supn (cn f).1 64)) := ⟨HB4.out.trans (b5.mono HB4.out.size), HIN4.out.below b5, X4.out.below (by omega) b5, D4.out.below b5, hri⟩
  have HSI : Hid (∀ v, sv (cn f).1 v = true ↔ ¬ (fun x => f (Dg.set x v true)) = (fun x => f (Dg.set x v false))) := fun v => sup_iff D4.out.d v
  clear b5 hso hri D4 X4 HIN4 HB4
  generalize (cn f).1 = M at *
  generalize w3.heap.size = g at *
  have HS64 := Lib.hid (supn_len M 64)
  generalize hS : supn M 64 = S at *
  have HS := Lib.hid hS
  clear hS
  generalize hn64 : S.length = n64 at *
  have HN64 := Lib.hid hn64
  clear hn64
  rcases hA' with ⟨e, hn0⟩ | ⟨bb, e⟩
  · subst e
    subst hn0
    go_wp2
    go_loopw [6, 7] (fun i6 i7 wr => ∃ k : Nat, k ≤ 64 ∧ i7 = .int .i64 (k : Int) ∧ i6 = .int .i64 ((supn M k).length : Int) ∧ Hid (SuS w wr g A m c r f _ _ S)) (fun _ i7 _ => 64 - (intOf i7).toNat)
    case atStart => exact ⟨0, Nat.zero_le _, rfl, rfl, HST.out⟩
    case round =>
      obtain ⟨k, hk, rfl, rfl, hst⟩ := hrel
      have HL := Lib.hid (supn_len M k)
      by_cases hk64 : k < 64
      · have i1 : (k : Int) < 64 := by omega
        have bx := lid' hst.out.box
        obtain ⟨y0, y1, yn⟩ := xb2 bx
        have HSK := Lib.hid (HSI.out k)
        have HAT : Hid (sv M k = true → (supn M k).length < S.length ∧ S.getD (supn M k).length 0 = k ∧ (supn M (k + 1)).length = (supn M k).length + 1) := fun h => ⟨by rw [← HS.out]; exact (supn_at h hk64).1, by rw [← HS.out]; exact (supn_at h hk64).2, by rw [supn_yes h]; simp⟩
        have HNO : Hid (sv M k = false → (supn M (k + 1)).length = (supn M k).length) := fun h => by rw [supn_no h]
        generalize hSN : (supn M (k + 1)).length = sn at *
        generalize (supn M k).length = s0 at *
        have HSN := Lib.hid hSN
        clear hSN
        obtain ⟨fh, hfh⟩ : ∃ fh, (fun x => f (Dg.set x k true)) = fh := ⟨_, rfl⟩
        obtain ⟨fl, hfl⟩ : ∃ fl, (fun x => f (Dg.set x k false)) = fl := ⟨_, rfl⟩
        have HFH := Lib.hid hfh
        have HFL := Lib.hid hfl
        rw [hfh, hfl] at HSK
        clear hfh hfl
        generalize sv M k = sb at *
        go_wp2_with fail
        with_reducible refine (six_restrict k true (lid' hst.out.dn) HLOW hk64 (lid' hst.out.ins) HFH).mono ?_
        rintro e w6 ⟨⟨A6, m6, c6, r6, rfl, d6, _⟩, b6⟩
        have HS6 := lid' (hst.out.below b6)
        have D6 := lid' d6
        clear b6 d6 y0 y1
        have bx6 := lid' HS6.out.box
        obtain ⟨y0, y1, yn6⟩ := xb2 bx6
        go_wp2_with fail
        have a6 := ab2 w6 (.cells #[.slice A6 m6 c6, .int .i64 (r6 : Int)] 24)
        have X6 := nb2 w6 (.slice A6 m6 c6) (.int .i64 (r6 : Int)) 24
        have D6' := rdn D6 a6
        have HS6' := lid' (HS6.out.below a6)
        clear a6 y0 y1 bx6 D6 HS6
        with_reducible refine (six_restrict k false (lid' HS6'.out.dn) HLOW hk64 (lid' HS6'.out.ins) HFL).mono ?_
        rintro e w7 ⟨⟨A7, m7, c7, r7, rfl, d7, _⟩, b7⟩
        have HS7 := lid' (HS6'.out.below b7)
        have X7 := rb2 X6 b7
        have D67 := rdn D6' b7
        have D7 := lid' d7
        clear b7 d7 X6 D6' HS6'
        generalize w6.heap.size = h6 at *
        obtain ⟨z0, z1, zn⟩ := xb2 X7
        have n1 : ¬ h6 = w7.heap.size := by omega
        rcases sb with _ | _
        · have heq := lid' (Classical.byContradiction fun hn => (by cases HSK.out.2 hn) : fh = fl)
          have hsn := lid' (HNO.out rfl)
          clear HSK HNO HAT
          go_wp2_with fail
          have hx : Hid (true = true ↔ fh = fl) := ⟨fun _ => heq.out, fun _ => rfl⟩
          have a7 := ab2 w7 (.cells #[.slice A7 m7 c7, .int .i64 (r7 : Int)] 24)
          with_reducible refine (same_dn (rdn D67 a7) (rdn D7 a7) rfl rfl true hx).mono ?_
          rintro e w8 ⟨rfl, b8⟩
          have HS8 := lid' ((HS7.out.below a7).below b8)
          clear a7 b8 z0 z1
          go_wp2
          go_roundw
          case rel => exact ⟨k + 1, by omega, by go_num, by rw [HSN.out, hsn.out], HS8.out⟩
          case measure => simp [intOf]; omega
        · have hne := lid' (HSK.out.1 rfl)
          obtain ⟨hl1, hl2, hl3⟩ := HAT.out rfl
          exact absurd hl1 (by have := HN64.out; omega)
      · obtain rfl : k = 64 := by omega
        have hfin : (supn M 64).length = S.length := by rw [HS.out]
        rw [HN64.out] at hfin
        rw [hfin]
        go_wp2
        go_ret
        exact ⟨rfl, hst.out.bel⟩
  · subst e
    go_wp2
    go_loopw [6, 7] (fun i6 i7 wr => ∃ k : Nat, k ≤ 64 ∧ i7 = .int .i64 (k : Int) ∧ i6 = .int .i64 ((supn M k).length : Int) ∧ Hid (SuS w wr g A m c r f _ _ S)) (fun _ i7 _ => 64 - (intOf i7).toNat)
    case atStart => exact ⟨0, Nat.zero_le _, rfl, rfl, HST.out⟩
    case round =>
      obtain ⟨k, hk, rfl, rfl, hst⟩ := hrel
      have HL := Lib.hid (supn_len M k)
      by_cases hk64 : k < 64
      · have i1 : (k : Int) < 64 := by omega
        have bx := lid' hst.out.box
        obtain ⟨y0, y1, yn⟩ := xb2 bx
        have HSK := Lib.hid (HSI.out k)
        have HAT : Hid (sv M k = true → (supn M k).length < S.length ∧ S.getD (supn M k).length 0 = k ∧ (supn M (k + 1)).length = (supn M k).length + 1) := fun h => ⟨by rw [← HS.out]; exact (supn_at h hk64).1, by rw [← HS.out]; exact (supn_at h hk64).2, by rw [supn_yes h]; simp⟩
        have HNO : Hid (sv M k = false → (supn M (k + 1)).length = (supn M k).length) := fun h => by rw [supn_no h]
        generalize hSN : (supn M (k + 1)).length = sn at *
        generalize (supn M k).length = s0 at *
        have HSN := Lib.hid hSN
        clear hSN
        obtain ⟨fh, hfh⟩ : ∃ fh, (fun x => f (Dg.set x k true)) = fh := ⟨_, rfl⟩
        obtain ⟨fl, hfl⟩ : ∃ fl, (fun x => f (Dg.set x k false)) = fl := ⟨_, rfl⟩
        have HFH := Lib.hid hfh
        have HFL := Lib.hid hfl
        rw [hfh, hfl] at HSK
        clear hfh hfl
        generalize sv M k = sb at *
        go_wp2_with fail
        with_reducible refine (six_restrict k true (lid' hst.out.dn) HLOW hk64 (lid' hst.out.ins) HFH).mono ?_
        rintro e w6 ⟨⟨A6, m6, c6, r6, rfl, d6, _⟩, b6⟩
        have HS6 := lid' (hst.out.below b6)
        have D6 := lid' d6
        clear b6 d6 y0 y1
        have bx6 := lid' HS6.out.box
        obtain ⟨y0, y1, yn6⟩ := xb2 bx6
        go_wp2_with fail
        have a6 := ab2 w6 (.cells #[.slice A6 m6 c6, .int .i64 (r6 : Int)] 24)
        have X6 := nb2 w6 (.slice A6 m6 c6) (.int .i64 (r6 : Int)) 24
        have D6' := rdn D6 a6
        have HS6' := lid' (HS6.out.below a6)
        clear a6 y0 y1 bx6 D6 HS6
        with_reducible refine (six_restrict k false (lid' HS6'.out.dn) HLOW hk64 (lid' HS6'.out.ins) HFL).mono ?_
        rintro e w7 ⟨⟨A7, m7, c7, r7, rfl, d7, _⟩, b7⟩
        have HS7 := lid' (HS6'.out.below b7)
        have X7 := rb2 X6 b7
        have D67 := rdn D6' b7
        have D7 := lid' d7
        clear b7 d7 X6 D6' HS6'
        generalize w6.heap.size = h6 at *
        obtain ⟨z0, z1, zn⟩ := xb2 X7
        have n1 : ¬ h6 = w7.heap.size := by omega
        rcases sb with _ | _
        · have heq := lid' (Classical.byContradiction fun hn => (by cases HSK.out.2 hn) : fh = fl)
          have hsn := lid' (HNO.out rfl)
          clear HSK HNO HAT
          go_wp2_with fail
          have hx : Hid (true = true ↔ fh = fl) := ⟨fun _ => heq.out, fun _ => rfl⟩
          have a7 := ab2 w7 (.cells #[.slice A7 m7 c7, .int .i64 (r7 : Int)] 24)
          with_reducible refine (same_dn (rdn D67 a7) (rdn D7 a7) rfl rfl true hx).mono ?_
          rintro e w8 ⟨rfl, b8⟩
          have HS8 := lid' ((HS7.out.below a7).below b8)
          clear a7 b8 z0 z1
          go_wp2
          go_roundw
          case rel => exact ⟨k + 1, by omega, by go_num, by rw [HSN.out, hsn.out], HS8.out⟩
          case measure => simp [intOf]; omega
        · have hne := lid' (HSK.out.1 rfl)
          obtain ⟨hl1, hl2, hl3⟩ := HAT.out rfl
          clear HSK HNO HAT
          go_wp2_with fail
          have hx : Hid (false = true ↔ fh = fl) := ⟨fun h => (by cases h), fun h => absurd h hne.out⟩
          have a7 := ab2 w7 (.cells #[.slice A7 m7 c7, .int .i64 (r7 : Int)] 24)
          with_reducible refine (same_dn (rdn D67 a7) (rdn D7 a7) rfl rfl false hx).mono ?_
          rintro e w8 ⟨rfl, b8⟩
          have HS8 := lid' ((HS7.out.below a7).below b8)
          have hc0 := HS8.out.ri.cell (j := s0) (by rw [← HN64.out]; exact hl1)
          rw [hl2] at hc0
          clear a7 b8 z0 z1
          have i2 : (0 : Int) ≤ (s0 : Int) := by omega
          have i3 : (s0 : Int) < (n64 : Int) := by have := HN64.out; omega
          have i4 : (n64 : Int) ≤ 64 := by have := HS64.out; have := HN64.out; omega
          go_wp2
          go_roundw
          case rel => exact ⟨k + 1, by omega, by go_num, by rw [HSN.out, hl3]; go_num, HS8.out⟩
          case measure => simp [intOf]; omega
      · obtain rfl : k = 64 := by omega
        have hfin : (supn M 64).length = S.length := by rw [HS.out]
        rw [HN64.out] at hfin
        rw [hfin]
        go_wp2
        go_ret
        exact ⟨rfl, hst.out.bel⟩

end Go.Proofs.YtpeahjfkiehniaaDoor
