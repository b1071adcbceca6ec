/-
  The law PatternStrings returns true.
-/
import Derived.Test.YtgjhicahopcfcaaDoorPt
import Derived.Test.YtgjhicahopcfcaaDoorPu
import Derived.Test.YtgjhicahopcfcaaDoorPl
namespace Go.Proofs.YtgjhicahopcfcaaDoor
open Go.RowKit Go.Shelf
set_option linter.unusedVariables false
set_option linter.unusedSimpArgs false
attribute [local go_sem ↓] Go.wp_at_zero Go.wp_at_succ

theorem pnC_set : ∀ (l : List Pn) (j c : Nat) (v : Value) (x' : Pn), j < l.length → c < 5 → (c5 (l.getD j (0, 0, 0, 0, 0))).set c v = c5 x' → (pnC l).set (j * 5 + c) v = pnC (l.set j x')
  | [], j, c, v, x', h, _, _ => by cases h
  | y :: l, 0, c, v, x', _, hc, he => by
    show (c5 y ++ pnC l).set (0 * 5 + c) v = c5 x' ++ pnC l
    have he' : (c5 y).set c v = c5 x' := he
    rw [Nat.zero_mul, Nat.zero_add, List.set_append_left _ _ (by show c < 5; exact hc), he']
  | y :: l, j + 1, c, v, x', h, hc, he => by
    have ih := pnC_set l j c v x' (by simpa using h) hc (by simpa using he)
    show (c5 y ++ pnC l).set ((j + 1) * 5 + c) v = c5 y ++ pnC (l.set j x')
    rw [List.set_append_right _ _ (by show 5 ≤ _; omega), ← ih]
    congr 2
    show (j + 1) * 5 + c - 5 = _
    omega
theorem own_st1 {W : World} {B n cg g : Nat} {l : List Pn} (h : W.ownsRow B 44 5 (.slice (some ⟨g, 0, none⟩) n cg) n (pnC l)) (j c : Nat) (v : Value) (x' : Pn) (hj : j < l.length) (hc : c < 5) (he : (c5 (l.getD j (0, 0, 0, 0, 0))).set c v = c5 x') : (W.setCell ⟨g, j * 5 + c, none⟩ v).ownsRow B 44 5 (.slice (some ⟨g, 0, none⟩) n cg) n (pnC (l.set j x')) := by
  have := (World.ownsRow.stored h (j * 5 + c) v).1
  rw [pnC_set l j c v x' hj hc he] at this
  exact this
theorem getD_set (l : List Pn) (j : Nat) (x : Pn) (h : j < l.length) : (l.set j x).getD j (0, 0, 0, 0, 0) = x := by
  rw [List.getD_eq_getElem?_getD, List.getElem?_set_self h]
  rfl
/-- a whole node is stored -/
theorem own_st5 {W : World} {B n cg g : Nat} {l : List Pn} (h : W.ownsRow B 44 5 (.slice (some ⟨g, 0, none⟩) n cg) n (pnC l)) (j : Nat) (hj : j < l.length) (a0 a1 a2 a3 a4 : Int) (off : Nat) (ho : off = j * 5) :
    (((((W.setCell ⟨g, off, none⟩ (.int .i64 a0)).setCell ⟨g, off + 1, none⟩ (.int .i64 a1)).setCell ⟨g, off + 2, none⟩ (.int .i64 a2)).setCell ⟨g, off + 3, none⟩ (.int .i64 a3)).setCell ⟨g, off + 4, none⟩ (.int .i64 a4)).ownsRow B 44 5 (.slice (some ⟨g, 0, none⟩) n cg) n (pnC (l.set j (a0, a1, a2, a3, a4))) := by
  subst ho
  generalize hy : l.getD j (0, 0, 0, 0, 0) = y
  obtain ⟨q0, q1, q2, q3, q4⟩ := y
  have h1 := own_st1 h j 0 (.int .i64 a0) (a0, q1, q2, q3, q4) hj (by decide) (by rw [hy]; rfl)
  have h2 := own_st1 h1 j 1 (.int .i64 a1) (a0, a1, q2, q3, q4) (by rw [List.length_set]; exact hj) (by decide) (by rw [getD_set _ _ _ hj]; rfl)
  have h3 := own_st1 h2 j 2 (.int .i64 a2) (a0, a1, a2, q3, q4) (by rw [List.length_set, List.length_set]; exact hj) (by decide) (by rw [getD_set _ _ _ (by rw [List.length_set]; exact hj)]; rfl)
  have h4 := own_st1 h3 j 3 (.int .i64 a3) (a0, a1, a2, a3, q4) (by rw [List.length_set, List.length_set, List.length_set]; exact hj) (by decide) (by rw [getD_set _ _ _ (by rw [List.length_set, List.length_set]; exact hj)]; rfl)
  have h5 := own_st1 h4 j 4 (.int .i64 a4) (a0, a1, a2, a3, a4) (by rw [List.length_set, List.length_set, List.length_set, List.length_set]; exact hj) (by decide) (by rw [getD_set _ _ _ (by rw [List.length_set, List.length_set, List.length_set]; exact hj)]; rfl)
  rw [List.set_set, List.set_set, List.set_set, List.set_set] at h5
  exact h5
theorem bel_st5 {B : Nat} {W0 W : World} (h : Below B W0 W) {g off : Nat} (hg : B ≤ g) (a0 a1 a2 a3 a4 : Value) : Below B W0 (((((W.setCell ⟨g, off, none⟩ a0).setCell ⟨g, off + 1, none⟩ a1).setCell ⟨g, off + 2, none⟩ a2).setCell ⟨g, off + 3, none⟩ a3).setCell ⟨g, off + 4, none⟩ a4) :=
  ((((h.setCell (p := ⟨g, _, none⟩) hg a0).setCell (p := ⟨g, _, none⟩) hg a1).setCell (p := ⟨g, _, none⟩) hg a2).setCell (p := ⟨g, _, none⟩) hg a3).setCell (p := ⟨g, _, none⟩) hg a4
/-- the exchanged list while the operands behind are turned: those below kk are -/
def mkE (L : List Pn) (i kk : Nat) : List Pn := (List.range L.length).map fun j => if j < kk then swG L i j else L.getD j (0, 0, 0, 0, 0)
theorem mkE_len (L : List Pn) (i kk : Nat) : (mkE L i kk).length = L.length := by unfold mkE; simp
theorem mkE_at (L : List Pn) (i kk j : Nat) (h : j < L.length) : (mkE L i kk)[j]? = some (if j < kk then swG L i j else L.getD j (0, 0, 0, 0, 0)) := by
  unfold mkE
  rw [List.getElem?_map, List.getElem?_range h]
  rfl
theorem mkE_fin (L : List Pn) (i : Nat) : mkE L i L.length = swP L i := by
  unfold mkE swP
  refine List.map_congr_left fun j hj => ?_
  rw [if_pos (List.mem_range.1 hj)]
theorem mkE_start (L : List Pn) (i : Nat) (h : i + 1 < L.length) : (L.set i (L.getD (i + 1) (0, 0, 0, 0, 0))).set (i + 1) (L.getD i (0, 0, 0, 0, 0)) = mkE L i (i + 2) := by
  refine List.ext_getElem? fun j => ?_
  by_cases hj : j < L.length
  · rw [mkE_at L i _ j hj]
    unfold swG
    by_cases c1 : j = i + 1
    · subst c1
      rw [List.getElem?_set_self (by rw [List.length_set]; exact h), if_pos (by omega), if_neg (by omega), if_pos rfl]
    · rw [List.getElem?_set_ne (by omega)]
      by_cases c2 : j = i
      · subst c2
        rw [List.getElem?_set_self (by omega), if_pos (by omega), if_pos rfl]
      · rw [List.getElem?_set_ne (by omega), List.getElem?_eq_getElem hj]
        have e : L.getD j (0, 0, 0, 0, 0) = L[j] := by rw [List.getD_eq_getElem?_getD, List.getElem?_eq_getElem hj]; rfl
        by_cases c3 : j < i + 2
        · rw [if_pos c3, if_neg c2, if_neg c1, if_pos (by omega), e]
        · rw [if_neg c3, e]
  · rw [List.getElem?_eq_none (by rw [List.length_set, List.length_set]; omega), List.getElem?_eq_none (by rw [mkE_len]; omega)]
theorem mkE_step (L : List Pn) (i kk : Nat) (h : kk < L.length) (hi : i + 2 ≤ kk) : (mkE L i kk).set kk (swX i (L.getD kk (0, 0, 0, 0, 0))) = mkE L i (kk + 1) := by
  refine List.ext_getElem? fun j => ?_
  by_cases hj : j < L.length
  · rw [mkE_at L i (kk + 1) j hj]
    by_cases c : kk = j
    · subst c
      rw [List.getElem?_set_self (by rw [mkE_len]; exact h), if_pos (by omega)]
      unfold swG
      rw [if_neg (by omega), if_neg (by omega), if_neg (by omega)]
    · rw [List.getElem?_set_ne c, mkE_at L i kk j hj]
      by_cases c2 : j < kk
      · rw [if_pos c2, if_pos (by omega)]
      · rw [if_neg c2, if_neg (by omega)]
  · rw [List.getElem?_eq_none (by rw [List.length_set, mkE_len]; omega), List.getElem?_eq_none (by rw [mkE_len]; omega)]
theorem mkE_now (L : List Pn) (i kk : Nat) (h : kk < L.length) : (mkE L i kk).getD kk (0, 0, 0, 0, 0) = L.getD kk (0, 0, 0, 0, 0) := by
  rw [List.getD_eq_getElem?_getD, mkE_at L i kk kk h, if_neg (by omega)]
  rfl

set_option maxHeartbeats 8000000 in
set_option maxRecDepth 100000 in
theorem lawR_walk (A0 : Option Addr) (m0 c0 : Nat) (l0 : List Nat) (x : Nat) (w : World) (h0 : Hid (B8 w w.heap.size A0 m0 l0)) (hm0 : m0 ≤ 9223372036854775807) (hx : x < 256) (hz : Hid (Tz w ∧ 3 < w.heap.size)) :
    Calls Tryd.prog 7 #[.slice A0 m0 c0, .int .u8 (x : Int)] w fun e w' => e = .returned (.bool true) ∧ Below w.heap.size w w' := by
  obtain ⟨i0, hi0, hz0, hz1, hz2⟩ := info_parts Tryd.infoPn
  have HK := Ky.first hz.out.1 hz.out.2
  obtain ⟨ha, hna⟩ := madeR_ok l0 (most := 40) (by decide)
  have HMA := lid' (fun W hk => kp_made w W hk A0 c0 m0 40 l0 h0 hm0 (by decide) (by decide) 40 rfl)
  replace ha := ha.by8
  generalize madeR l0 40 = a at *
  have HPr := lid' (fun W A c hr => kp_print w W a ha (by omega) A c hr)
  have HSan := lid' (fun W hk => kp_san w W hk)
  have HPs := lid' (fun W => k_parse ⟨(a.txt 1).toArray⟩ (a.po []) 0 (prsP_txt ha (by omega)) W)
  have HSm : Hid (∀ W A A' c c', Hid (Rp W W.heap.size A (a.po [])) → Hid (Rp W W.heap.size A' (a.po [])) → Calls Tryd.prog 21 #[.slice A (a.po []).length c, .slice A' (a.po []).length c'] W fun e w' => e = .returned (.bool true) ∧ Hid (Below W.heap.size W w')) := lid' (fun W A A' c c' h1 h2 => by
    have := kp_same w W a a (by omega) A A' c c' h1 h2
    rw [decide_eq_true rfl] at this
    exact this)
  have HCL := lid' (sy_ok ha (by omega))
  have HMo : Hid (∀ M : List Pn, chP M = 0 → rxP M = rxP (a.po []) → ∀ (W : World) (B n cg g : Nat), M.length = n → W.ownsRow B 44 5 (.slice (some ⟨g, 0, none⟩) n cg) n (pnC M) → Calls Tryd.prog 13 #[.slice (some ⟨g, 0, none⟩) n cg] W fun e w' => e = .returned (.tuple #[.string ⟨(a.txt 1).toArray⟩, .int .i64 0]) ∧ Hid (Below W.heap.size W w')) := lid' (fun M h1 h2 W B n cg g hn ho => by
    obtain ⟨A9, c9, e9, hr⟩ := rp_own ho hn
    cases e9
    have e0 : prS M = ⟨(a.txt 1).toArray⟩ := by unfold prS; rw [if_pos h1, h2, rxPo]
    exact (print_any _ n _ M W (lid' hn) (lid' hr)).mono fun e w' h => ⟨h.1.trans (by rw [e0, h1]), lid' h.2⟩)
  have hlen := po_len a []
  rw [List.length_nil, Nat.zero_add] at hlen
  have hn1 := a.nn_pos
  clear h0 hz hm0
  generalize a.txt 1 = T at *
  generalize hL : a.po [] = L at *
  generalize hpn : L.length = pn at *
  obtain ⟨k, hk⟩ : ∃ k, k = x % pn := ⟨_, rfl⟩
  have hkn : k < pn := by rw [hk]; exact Nat.mod_lt x (by omega)
  have ex : (x : Int).tmod (pn : Int) = (k : Int) := by
    rw [Int.tmod_eq_emod_of_nonneg (by omega), hk]
    rfl
  have s0 : ¬ ((pn : Int) = 0) := by omega
  have hp40 : pn ≤ 40 := by omega
  have hp1 : 1 ≤ pn := by omega
  have HNN := lid' hna
  clear hlen hn1 hna
  have HLN := lid' hpn
  have HLE := lid' hL
  clear hk hpn hL
  go_enter Tryd.func7, Tryd.ntmps7
  go_wp2_with fail
  with_reducible refine (HSan.out w HK).mono ?_
  rintro e w1 ⟨rfl, b1⟩
  replace HK := Ky.later HK b1
  clear b1 HSan
  go_wp2_with fail
  with_reducible refine (HMA.out w1 HK).mono ?_
  rintro e w2 ⟨A2, c2, rfl, HP, b2⟩
  replace HK := Ky.later HK b2
  clear b2 HMA
  have hr1 := Rp.lat HP (lid' ((Below.refl w2.heap.size w2).alloc (Nat.le_refl _) (.cells #[] 44)))
  obtain ⟨b, o, e, hb, hc⟩ := HP.out (by rw [HLN.out]; omega)
  subst e
  have HO := Lib.hid (own_empty (w := w2))
  have HB := Lib.hid ((Below.refl w2.heap.size w2).alloc (Nat.le_refl _) (.cells #[] 44))
  clear hb hc
  go_upto_region 4 with (at_builtin; refine wpList_append_lies _ rfl _ _ _ rfl w2.heap.size 44 i0 _ 5 40 Tryd.underlying25 hi0 hz0 hz1 hz2 rfl (by omega) (.slice (some ⟨w2.heap.size, 0, none⟩) 0 0) 0 (pnC []) rfl HO.out ⟨b, o, none⟩ pn c2 (pnC L) rfl (by rw [pnC_len, HLN.out]) (rp_news hr1.out) (pnC_one L) (by omega) (by simp only [maxLen]; omega) (by omega) (by simp) _ rfl ?_; intro g cg w3 hown hgrow hat hlt; have HO2 := Lib.hid hown; have HB2 := Lib.hid (HB.out.grown hgrow (by simp) (fun r e => (HO.out.lt r e).1)); clear hown hgrow hat hlt)
  have HO3 : Hid (w3.ownsRow w2.heap.size 44 5 (.slice (some ⟨g, 0, none⟩) pn cg) pn (pnC L)) := lid' (by have := HO2.out; simpa [pnC] using this)
  clear HO2 HO HB hr1
  go_upto_region 5 with fail
  by_cases hfr : k + 1 < pn - 1
  · have j1 : (k : Int) + 1 < (pn : Int) - 1 := by omega
    obtain ⟨b', o', e, hb, hc⟩ := (Rp.lat HP HB2).out (by rw [HLN.out]; omega)
    injection e with e
    injection e with e1 e2
    subst e1
    subst e2
    obtain ⟨p0, p1, p2, p3, p4⟩ := hc (k + 1) (by rw [HLN.out]; omega)
    obtain ⟨q0, q1, q2, q3, q4⟩ := hc k (by rw [HLN.out]; omega)
    have r3 := Rp.lat HP HB2
    clear hc hb
    by_cases hus : usW (L.getD (k + 1) (0, 0, 0, 0, 0)) (k : Int) = true
    · have hu : usW (pk L (k + 1), plo L (k + 1), phi L (k + 1), pa L (k + 1), pb L (k + 1)) (k : Int) = true := hus
      have HUS := lid' (uses_any (pk L (k + 1)) (plo L (k + 1)) (phi L (k + 1)) (pa L (k + 1)) (pb L (k + 1)) (k : Int))
      rw [hu] at HUS
      have HMv := lid' (fun W (h : W.ownsRow w2.heap.size 44 5 (.slice (some ⟨g, 0, none⟩) pn cg) pn (pnC L)) => HMo.out L HCL.out rfl W _ pn cg g HLN.out h)
      clear hu hus HMo
      go_wp2_with fail
      with_reducible refine (HUS.out w3).mono ?_
      rintro e w4 ⟨rfl, b4⟩
      have HB4 := lid' (HB2.out.trans (b4.mono HB2.out.size))
      have HO4 := lid' (own_block (w := w3) (w' := w4) HO3.out (fun k hk => b4.block k (World.ownsRow.lt HO3.out k hk).2))
      clear p0 p1 p2 p3 p4 q0 q1 q2 q3 q4 r3 HUS HB2 HO3 b4
      go_wp2_with fail
      with_reducible refine (HPr.out w4 _ _ (Rp.lat HP HB4)).mono ?_
      rintro e x1 ⟨rfl, b1⟩
      have HBx := lid' (HB4.out.trans (b1.out.mono HB4.out.size))
      have HOx := lid' (own_block (w := w4) (w' := x1) HO4.out (fun k hk => b1.out.block k (World.ownsRow.lt HO4.out k hk).2))
      clear HB4 HO4 b1 HPr
      go_wp2_with fail
      with_reducible refine (HMv.out x1 HOx.out).mono ?_
      rintro e x2 ⟨rfl, b2⟩
      have HBy := lid' (HBx.out.trans (b2.out.mono HBx.out.size))
      clear HBx HOx b2 HMv
      go_wp2_with fail
      with_reducible refine (HPs.out x2).mono ?_
      rintro e x3 ⟨A9, c9, rfl, r9, b3⟩
      have HBz := lid' (HBy.out.trans (b3.out.mono HBy.out.size))
      clear HBy b3 HPs
      go_wp2_with fail
      with_reducible refine (HSm.out x3 _ _ _ _ r9 (Rp.lat HP HBz)).mono ?_
      rintro e x4 ⟨rfl, b4⟩
      have HBu := lid' (HBz.out.trans (b4.out.mono HBz.out.size))
      have HKu := Ky.later HK HBu
      clear HBz HBu b4 HSm
      go_wp2_with fail
      go_ret
      exact ⟨rfl, HKu.out.b⟩
    · have hu : usW (pk L (k + 1), plo L (k + 1), phi L (k + 1), pa L (k + 1), pb L (k + 1)) (k : Int) = false := by rw [Bool.eq_false_iff]; exact hus
      have hcu : cu (L.getD (k + 1) (0, 0, 0, 0, 0)) (k : Int) = 0 := by
        rw [usW_cu] at hus
        simpa using hus
      have hokL := chP_zero.1 HCL.out
      have hki : k + 1 < L.length - 1 := by rw [HLN.out]; exact hfr
      have HMv := lid' (fun W (h : W.ownsRow w2.heap.size 44 5 (.slice (some ⟨g, 0, none⟩) pn cg) pn (pnC (swP L k))) => HMo.out (swP L k) (chP_ok (sw_ok hokL hki hcu)) (sw_rx hokL hki hcu) W _ pn cg g (by rw [swP_len]; exact HLN.out) h)
      have HKd := lid' (fun j (hj : j < L.length) => hokL.2 j hj)
      have HUS := lid' (uses_any (pk L (k + 1)) (plo L (k + 1)) (phi L (k + 1)) (pa L (k + 1)) (pb L (k + 1)) (k : Int))
      rw [hu] at HUS
      clear hu hus hcu hokL hki HMo
      go_upto_region 7 with (go_at_call 19; with_reducible refine (HUS.out w3).mono ?_; rintro e w4 ⟨rfl, b4⟩)
      clear p0 p1 p2 p3 p4 q0 q1 q2 q3 q4 r3 HUS
      have HB4 := lid' (HB2.out.trans (b4.mono HB2.out.size))
      have HO4 := lid' (own_block (w := w3) (w' := w4) HO3.out (fun k hk => b4.block k (World.ownsRow.lt HO3.out k hk).2))
      clear HB2 HO3 b4
      obtain ⟨b', o', e, hb, hc⟩ := (Rp.lat HP HB4).out (by rw [HLN.out]; omega)
      injection e with e
      injection e with e1 e2
      subst e1
      subst e2
      obtain ⟨p0, p1, p2, p3, p4⟩ := hc (k + 1) (by rw [HLN.out]; omega)
      have f0 := World.ownsRow.frozenAt HO4.out (k * 5)
      have f1 := World.ownsRow.frozenAt HO4.out (k * 5 + 1)
      have f2 := World.ownsRow.frozenAt HO4.out (k * 5 + 2)
      have f3 := World.ownsRow.frozenAt HO4.out (k * 5 + 3)
      have f4 := World.ownsRow.frozenAt HO4.out (k * 5 + 4)
      have y : ∀ c, c < 5 → ∃ v, w4.cell? ⟨g, k * 5 + c, none⟩ = some v := fun c hc => ⟨_, (World.ownsRow.cellAt HO4.out (k * 5 + c) (by omega)).trans ((pnC_at L (by rw [HLN.out]; omega) hc).trans (List.getElem?_eq_getElem (by show c < 5; exact hc)))⟩
      obtain ⟨v0, y0⟩ := y 0 (by decide)
      obtain ⟨v1, y1⟩ := y 1 (by decide)
      obtain ⟨v2, y2⟩ := y 2 (by decide)
      obtain ⟨v3, y3⟩ := y 3 (by decide)
      obtain ⟨v4, y4⟩ := y 4 (by decide)
      rw [Nat.add_zero] at y0
      clear y hc hb
      go_upto_region 8 with fail
      have hgB := (World.ownsRow.lt HO4.out g rfl).1
      have HO5 := lid' (own_st5 HO4.out k (by rw [HLN.out]; omega) (pk L (k + 1)) (plo L (k + 1)) (phi L (k + 1)) (pa L (k + 1)) (pb L (k + 1)) (k * 5) rfl)
      have HB5 := lid' (bel_st5 HB4.out (off := k * 5) hgB (.int .i64 (pk L (k + 1))) (.int .i64 (plo L (k + 1))) (.int .i64 (phi L (k + 1))) (.int .i64 (pa L (k + 1))) (.int .i64 (pb L (k + 1))))
      clear p0 p1 p2 p3 p4 f0 f1 f2 f3 f4 y0 y1 y2 y3 y4 HO4 HB4
      generalize World.setCell (World.setCell (World.setCell (World.setCell (World.setCell w4 _ _) _ _) _ _) _ _) _ _ = w5 at *
      obtain ⟨b', o', e, hb, hc⟩ := (Rp.lat HP HB5).out (by rw [HLN.out]; omega)
      injection e with e
      injection e with e1 e2
      subst e1
      subst e2
      obtain ⟨p0, p1, p2, p3, p4⟩ := hc k (by rw [HLN.out]; omega)
      have f0 := World.ownsRow.frozenAt HO5.out ((k + 1) * 5)
      have f1 := World.ownsRow.frozenAt HO5.out ((k + 1) * 5 + 1)
      have f2 := World.ownsRow.frozenAt HO5.out ((k + 1) * 5 + 2)
      have f3 := World.ownsRow.frozenAt HO5.out ((k + 1) * 5 + 3)
      have f4 := World.ownsRow.frozenAt HO5.out ((k + 1) * 5 + 4)
      have y : ∀ c, c < 5 → ∃ v, w5.cell? ⟨g, (k + 1) * 5 + c, none⟩ = some v := fun c hc => ⟨_, (World.ownsRow.cellAt HO5.out ((k + 1) * 5 + c) (by omega)).trans ((pnC_at _ (by rw [List.length_set, HLN.out]; omega) hc).trans (List.getElem?_eq_getElem (by show c < 5; exact hc)))⟩
      obtain ⟨v0, y0⟩ := y 0 (by decide)
      obtain ⟨v1, y1⟩ := y 1 (by decide)
      obtain ⟨v2, y2⟩ := y 2 (by decide)
      obtain ⟨v3, y3⟩ := y 3 (by decide)
      obtain ⟨v4, y4⟩ := y 4 (by decide)
      rw [Nat.add_zero] at y0
      clear y hc hb
      go_upto_region 9 with fail
      have HO6 := lid' (own_st5 HO5.out (k + 1) (by rw [List.length_set, HLN.out]; omega) (pk L k) (plo L k) (phi L k) (pa L k) (pb L k) ((k + 1) * 5) rfl)
      have HB6 := lid' (bel_st5 HB5.out (off := (k + 1) * 5) hgB (.int .i64 (pk L k)) (.int .i64 (plo L k)) (.int .i64 (phi L k)) (.int .i64 (pa L k)) (.int .i64 (pb L k)))
      clear p0 p1 p2 p3 p4 f0 f1 f2 f3 f4 y0 y1 y2 y3 y4 HO5 HB5
      generalize World.setCell (World.setCell (World.setCell (World.setCell (World.setCell w5 _ _) _ _) _ _) _ _) _ _ = w6 at *
      have hst := mkE_start L k (by rw [HLN.out]; omega)
      have hE : (L.set k (pk L (k + 1), plo L (k + 1), phi L (k + 1), pa L (k + 1), pb L (k + 1))).set (k + 1) (pk L k, plo L k, phi L k, pa L k, pb L k) = mkE L k (k + 2) := hst
      rw [hE] at HO6
      clear hst hE
      go_wp2
      go_loopw [10] (fun v10 wr => ∃ kk : Nat, v10 = .int .i64 (kk : Int) ∧ k + 2 ≤ kk ∧ kk ≤ pn ∧ Hid (wr.ownsRow w2.heap.size 44 5 (.slice (some ⟨g, 0, none⟩) pn cg) pn (pnC (mkE L k kk))) ∧ Hid (Below w2.heap.size w2 wr)) (fun v10 wr => 50 - (intOf v10).toNat)
      case atStart => exact ⟨k + 2, by simp, Nat.le_refl _, by omega, HO6, HB6⟩
      case round =>
        clear HO6 HB6
        obtain ⟨kk, rfl, hkk, hkp, HO, HB⟩ := hrel
        by_cases hlt : kk < pn
        · have hlL : kk < L.length := by rw [HLN.out]; exact hlt
          have n1 : (kk : Int) < (pn : Int) := by omega
          have n0 : (0 : Int) ≤ (kk : Int) := by omega
          have hkI : (k : Int) ≤ 40 := by omega
          have hrg := HKd.out kk hlL
          have hst := mkE_step L k kk hlL hkk
          have hnw := mkE_now L k kk hlL
          have y : ∀ c, c < 5 → wr.cell? ⟨g, kk * 5 + c, none⟩ = (c5 (L.getD kk (0, 0, 0, 0, 0)))[c]? := fun c hc => by
            have := (World.ownsRow.cellAt HO.out (kk * 5 + c) (by omega)).trans (pnC_at _ (by rw [mkE_len]; exact hlL) hc)
            rw [hnw] at this
            exact this
          have f3 := World.ownsRow.frozenAt HO.out (kk * 5 + 3)
          have f4 := World.ownsRow.frozenAt HO.out (kk * 5 + 4)
          have hml : kk < (mkE L k kk).length := by rw [mkE_len]; exact hlL
          generalize hX : L.getD kk (0, 0, 0, 0, 0) = X at *
          obtain ⟨K, LO, HI, PA, PB⟩ := X
          have y0 : wr.cell? ⟨g, kk * 5, none⟩ = some (.int .i64 K) := y 0 (by decide)
          have y3 : wr.cell? ⟨g, kk * 5 + 3, none⟩ = some (.int .i64 PA) := y 3 (by decide)
          have y4 : wr.cell? ⟨g, kk * 5 + 4, none⟩ = some (.int .i64 PB) := y 4 (by decide)
          have hK : 0 ≤ K ∧ K ≤ 4 := by
            unfold rgP at hrg
            simp only [Bool.and_eq_true, decide_eq_true_eq] at hrg
            exact ⟨hrg.1.1.1.1.1, hrg.1.1.1.1.2⟩
          have E1 := lid' (fun W => exchanged_any PA k W (by omega))
          have E2 := lid' (fun W => exchanged_any PB k W (by omega))
          have hgB := (World.ownsRow.lt HO.out g rfl).1
          clear y hrg hX
          rcases (show K = 0 ∨ K = 1 ∨ K = 2 ∨ K = 3 ∨ K = 4 by omega) with rfl | rfl | rfl | rfl | rfl
          · have hse : (mkE L k kk).set kk (0, LO, HI, PA, PB) = mkE L k (kk + 1) := hst
            have hid : (mkE L k kk).set kk (0, LO, HI, PA, PB) = mkE L k kk := by
              rw [← hnw, List.getD_eq_getElem?_getD, List.getElem?_eq_getElem hml]
              exact List.set_getElem_self hml
            have HOn := lid' (show wr.ownsRow w2.heap.size 44 5 (.slice (some ⟨g, 0, none⟩) pn cg) pn (pnC (mkE L k (kk + 1))) by rw [← hse, hid]; exact HO.out)
            clear HO hse hid hst hnw hml hK
            go_wp2
            go_roundw
            · exact ⟨kk + 1, by simp, by omega, by omega, HOn, HB⟩
            · simp only [intOf]; omega
          · have hse : (mkE L k kk).set kk (1, LO, HI, PA, PB) = mkE L k (kk + 1) := hst
            have hid : (mkE L k kk).set kk (1, LO, HI, PA, PB) = mkE L k kk := by
              rw [← hnw, List.getD_eq_getElem?_getD, List.getElem?_eq_getElem hml]
              exact List.set_getElem_self hml
            have HOn := lid' (show wr.ownsRow w2.heap.size 44 5 (.slice (some ⟨g, 0, none⟩) pn cg) pn (pnC (mkE L k (kk + 1))) by rw [← hse, hid]; exact HO.out)
            clear HO hse hid hst hnw hml hK
            go_wp2
            go_roundw
            · exact ⟨kk + 1, by simp, by omega, by omega, HOn, HB⟩
            · simp only [intOf]; omega
          · have h1 := own_st1 HO.out kk 3 (.int .i64 (exI k PA)) (2, LO, HI, exI k PA, PB) hml (by decide) (by rw [hnw]; rfl)
            have h2 := own_st1 h1 kk 4 (.int .i64 (exI k PB)) (2, LO, HI, exI k PA, exI k PB) (by rw [List.length_set]; exact hml) (by decide) (by rw [getD_set _ _ _ hml]; rfl)
            have hse : (mkE L k kk).set kk (2, LO, HI, exI k PA, exI k PB) = mkE L k (kk + 1) := hst
            rw [List.set_set, hse] at h2
            have HOn := lid' h2
            have HBn := lid' ((HB.out.setCell (p := ⟨g, kk * 5 + 3, none⟩) hgB (.int .i64 (exI k PA))).setCell (p := ⟨g, kk * 5 + 4, none⟩) hgB (.int .i64 (exI k PB)))
            clear HO HB h1 h2 hse hst hnw hml hK
            go_wp2_with (first
              | (go_at_call 20; with_reducible refine (E1.out _).mono ?_; rintro e W1 ⟨rfl, hW1⟩; subst hW1)
              | (go_at_call 20; with_reducible refine (E2.out _).mono ?_; rintro e W1 ⟨rfl, hW1⟩; subst hW1))
            go_roundw
            · exact ⟨kk + 1, by simp, by omega, by omega, HOn, HBn⟩
            · simp only [intOf]; omega
          · have h1 := own_st1 HO.out kk 3 (.int .i64 (exI k PA)) (3, LO, HI, exI k PA, PB) hml (by decide) (by rw [hnw]; rfl)
            have h2 := own_st1 h1 kk 4 (.int .i64 (exI k PB)) (3, LO, HI, exI k PA, exI k PB) (by rw [List.length_set]; exact hml) (by decide) (by rw [getD_set _ _ _ hml]; rfl)
            have hse : (mkE L k kk).set kk (3, LO, HI, exI k PA, exI k PB) = mkE L k (kk + 1) := hst
            rw [List.set_set, hse] at h2
            have HOn := lid' h2
            have HBn := lid' ((HB.out.setCell (p := ⟨g, kk * 5 + 3, none⟩) hgB (.int .i64 (exI k PA))).setCell (p := ⟨g, kk * 5 + 4, none⟩) hgB (.int .i64 (exI k PB)))
            clear HO HB h1 h2 hse hst hnw hml hK
            go_wp2_with (first
              | (go_at_call 20; with_reducible refine (E1.out _).mono ?_; rintro e W1 ⟨rfl, hW1⟩; subst hW1)
              | (go_at_call 20; with_reducible refine (E2.out _).mono ?_; rintro e W1 ⟨rfl, hW1⟩; subst hW1))
            go_roundw
            · exact ⟨kk + 1, by simp, by omega, by omega, HOn, HBn⟩
            · simp only [intOf]; omega
          · have h1 := own_st1 HO.out kk 3 (.int .i64 (exI k PA)) (4, LO, HI, exI k PA, PB) hml (by decide) (by rw [hnw]; rfl)
            have hse : (mkE L k kk).set kk (4, LO, HI, exI k PA, PB) = mkE L k (kk + 1) := hst
            rw [hse] at h1
            have HOn := lid' h1
            have HBn := lid' (HB.out.setCell (p := ⟨g, kk * 5 + 3, none⟩) hgB (.int .i64 (exI k PA)))
            clear HO HB h1 hse hst hnw hml hK
            go_wp2_with (go_at_call 20; with_reducible refine (E1.out _).mono ?_; rintro e W1 ⟨rfl, hW1⟩; subst hW1)
            go_roundw
            · exact ⟨kk + 1, by simp, by omega, by omega, HOn, HBn⟩
            · simp only [intOf]; omega
        · obtain rfl : kk = pn := by omega
          have hfin := mkE_fin L k
          rw [HLN.out] at hfin
          rw [hfin] at HO
          clear hfin
          have n1 : ¬ ((kk : Int) < (kk : Int)) := by omega
          go_wp2_with fail
          with_reducible refine (HPr.out wr _ _ (Rp.lat HP HB)).mono ?_
          rintro e x1 ⟨rfl, b1⟩
          have HBx := lid' (HB.out.trans (b1.out.mono HB.out.size))
          have HOx := lid' (own_block (w := wr) (w' := x1) HO.out (fun k hk => b1.out.block k (World.ownsRow.lt HO.out k hk).2))
          clear HB HO b1 HPr
          go_wp2_with fail
          with_reducible refine (HMv.out x1 HOx.out).mono ?_
          rintro e x2 ⟨rfl, b2⟩
          have HBy := lid' (HBx.out.trans (b2.out.mono HBx.out.size))
          clear HBx HOx b2 HMv
          go_wp2_with fail
          with_reducible refine (HPs.out x2).mono ?_
          rintro e x3 ⟨A9, c9, rfl, r9, b3⟩
          have HBz := lid' (HBy.out.trans (b3.out.mono HBy.out.size))
          clear HBy b3 HPs
          go_wp2_with fail
          with_reducible refine (HSm.out x3 _ _ _ _ r9 (Rp.lat HP HBz)).mono ?_
          rintro e x4 ⟨rfl, b4⟩
          have HBu := lid' (HBz.out.trans (b4.out.mono HBz.out.size))
          have HKu := Ky.later HK HBu
          clear HBz HBu b4 HSm
          go_wp2_with fail
          go_ret
          exact ⟨rfl, HKu.out.b⟩
  · have j1 : ¬ ((k : Int) + 1 < (pn : Int) - 1) := by omega
    have HMv := lid' (fun W (h : W.ownsRow w2.heap.size 44 5 (.slice (some ⟨g, 0, none⟩) pn cg) pn (pnC L)) => HMo.out L HCL.out rfl W _ pn cg g HLN.out h)
    clear hfr HMo
    go_wp2_with fail
    with_reducible refine (HPr.out w3 _ _ (Rp.lat HP HB2)).mono ?_
    rintro e x1 ⟨rfl, b1⟩
    have HBx := lid' (HB2.out.trans (b1.out.mono HB2.out.size))
    have HOx := lid' (own_block (w := w3) (w' := x1) HO3.out (fun k hk => b1.out.block k (World.ownsRow.lt HO3.out k hk).2))
    clear HB2 HO3 b1 HPr
    go_wp2_with fail
    with_reducible refine (HMv.out x1 HOx.out).mono ?_
    rintro e x2 ⟨rfl, b2⟩
    have HBy := lid' (HBx.out.trans (b2.out.mono HBx.out.size))
    clear HBx HOx b2 HMv
    go_wp2_with fail
    with_reducible refine (HPs.out x2).mono ?_
    rintro e x3 ⟨A9, c9, rfl, r9, b3⟩
    have HBz := lid' (HBy.out.trans (b3.out.mono HBy.out.size))
    clear HBy b3 HPs
    go_wp2_with fail
    with_reducible refine (HSm.out x3 _ _ _ _ r9 (Rp.lat HP HBz)).mono ?_
    rintro e x4 ⟨rfl, b4⟩
    have HBu := lid' (HBz.out.trans (b4.out.mono HBz.out.size))
    have HKu := Ky.later HK HBu
    clear HBz HBu b4 HSm
    go_wp2_with fail
    go_ret
    exact ⟨rfl, HKu.out.b⟩

end Go.Proofs.YtgjhicahopcfcaaDoor
