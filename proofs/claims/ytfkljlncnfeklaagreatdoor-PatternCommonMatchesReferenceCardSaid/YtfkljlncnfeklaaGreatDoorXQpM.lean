/-
  The reference's search: Common, Shortest. (Seat of the great laws.)
-/
import Derived.Test.YtfkljlncnfeklaaGreatDoorXQoM
import Derived.Test.YtfkljlncnfeklaaGreatDoorXQcM
namespace Go.Proofs.YtfkljlncnfeklaaGreatDoor
open Go.RowKit Go.Shelf
set_option linter.unusedVariables false
set_option linter.unusedSimpArgs false
attribute [local go_sem ↓] Go.wp_at_zero Go.wp_at_succ

/-- what the search answers -/
def CmQ (l l' : List Pn) (s : List UInt8) (z : Int) : Prop := (z = 0 ∧ FirstB (rxP l) (rxP l') s) ∨ (z = 3 ∧ s = [] ∧ ∀ v, v ≠ [] → ¬ ((rxP l).mt v ∧ (rxP l').mt v))
/-- between two rounds of the outer loop -/
structure CoI (w wr : World) (A A' : Option Addr) (m m' g cp i b : Nat) (l l' : List Pn) (es : List En) : Prop where
  lo : Below w.heap.size w wr
  r1 : Rp wr w.heap.size A l
  r2 : Rp wr w.heap.size A' l'
  q : QuM wr w.heap.size m m' g cp es
  bf : BfI l l' (qP es) i b
  nd : (qS es).Nodup
theorem CoI.below {w wr W : World} {A A' : Option Addr} {m m' g cp i b : Nat} {l l' : List Pn} {es : List En} (h : CoI w wr A A' m m' g cp i b l l' es) (hb : Below wr.heap.size wr W) : CoI w W A A' m m' g cp i b l l' es :=
  ⟨h.lo.trans (hb.mono h.lo.size), h.r1.below (hb.mono h.lo.size), h.r2.below (hb.mono h.lo.size), h.q.below hb, h.bf, h.nd⟩
theorem CoI.pass {w wr : World} {A A' : Option Addr} {m m' g cp i b : Nat} {l l' : List Pn} {es : List En} (h : CoI w wr A A' m m' g cp i b l l' es) {x : Stt × Stt} {t : List UInt8} {X1 X2 : Stt} {c : UInt8} (hx : (qP es)[i]? = some (x, t)) (hc : c.toNat = b) (hX : stP2 l l' x c.toNat = (X1, X2)) (hna : ¬ (X1.1 = true ∧ X2.1 = true))
    (hd : deadR X1 = true ∨ deadR X2 = true ∨ decide (∃ y ∈ es, y.1.1 = (X1, X2)) = true) : CoI w wr A A' m m' g cp i (b + 1) l l' es :=
  ⟨h.lo, h.r1, h.r2, h.q, h.bf.pass hx hc (by rw [hX]; exact hna) (by
    rw [hX]
    rcases hd with hd | hd | hd
    · exact .inl hd
    · exact .inr (.inl hd)
    · obtain ⟨y, hy, e⟩ := of_decide_eq_true hd
      obtain ⟨j, hj, rfl⟩ := List.mem_iff_getElem.1 hy
      have := qP_get hj rfl
      rw [e] at this
      exact .inr (.inr ⟨j, _, this⟩)), h.nd⟩
theorem CoI.hit {w wr : World} {A A' : Option Addr} {m m' g cp i b : Nat} {l l' : List Pn} {es : List En} (h : CoI w wr A A' m m' g cp i b l l' es) (hl : okP l) (hl' : okP l') {x : Stt × Stt} {t T : List UInt8} {X1 X2 : Stt} {c : UInt8} (hx : (qP es)[i]? = some (x, t)) (hc : c.toNat = b) (hX : stP2 l l' x c.toNat = (X1, X2)) (hT : t ++ [c] = T) (ha : X1.1 = true ∧ X2.1 = true) : FirstB (rxP l) (rxP l') T := by
  rw [← hT]
  exact h.bf.hit hl hl' hx hc (by rw [hX]; exact ha)
theorem CoI.grow {w W W1 : World} {A A' : Option Addr} {m m' g cp g' cp' i b n : Nat} {l l' : List Pn} {es : List En} {e1 : En} (h : CoI w W A A' m m' g cp i b l l' es) (hl : okP l) (hl' : okP l') (hn : es.length = n) (h1 : EnM W w.heap.size m m' e1) (hg : W.grownBy W1 (some g)) (ho : W1.ownsRow w.heap.size 81 5 (.slice (some ⟨g', 0, none⟩) (n + 1) cp') (n + 1) (qC m m' es ++ enC2 m m' e1))
    {x : Stt × Stt} {t : List UInt8} {X1 X2 : Stt} {c : UInt8} (hx : (qP es)[i]? = some (x, t)) (hc : c.toNat = b) (hX : stP2 l l' x c.toNat = (X1, X2)) (hna : ¬ (X1.1 = true ∧ X2.1 = true)) (he : e1.1 = ((X1, X2), t ++ [c])) (hnew : decide (∃ y ∈ es, y.1.1 = (X1, X2)) = false) : CoI w W1 A A' m m' g' cp' i (b + 1) l l' (es ++ [e1]) := by
  subst hn
  obtain ⟨hgB, hgW⟩ := World.ownsRow.lt h.q.own g rfl
  have hlo : Below w.heap.size W W1 := (Below.refl _ _).grown hg (by omega) (fun k e => by cases e; exact hgB)
  have hi : 0 < es.length := by
    have := lt_of_get hx
    rw [qP_len] at this
    omega
  have hgT : ∃ cur, W.heap[g]? = some (.cells cur 81 (0, 0)) := by
    rcases h.q.own.2 with ⟨e, _⟩ | ⟨q, cap, cur, e, _, hq, _⟩
    · cases e
    · cases e
      exact ⟨cur, hq⟩
  obtain ⟨cur, hcur⟩ := hgT
  have hB : ∀ {k : Nat} {s : List Bool}, Bq W k s → Bq W1 k s := fun {k s} hk => (hg.block k hk.lt (fun e => by
    cases e
    exact bx_ne (cs' := cur) hk hcur (by decide) rfl)).trans hk
  have hE : ∀ e, EnM W w.heap.size m m' e → EnM W1 w.heap.size m m' e := fun e h => ⟨⟨h.1.1, hB h.1.2.1, h.1.2.2⟩, h.2.1, hB h.2.2.1, h.2.2.2⟩
  refine ⟨h.lo.trans hlo, h.r1.below hlo, h.r2.below hlo, ⟨?_, fun e he => ?_⟩, ?_, ?_⟩
  · rw [List.length_append, qC_app]
    exact ho
  · rcases List.mem_append.1 he with q | q
    · exact hE _ (h.q.mem _ q)
    · obtain rfl : e = e1 := by simpa using q
      exact hE _ h1
  · have := h.bf.add hl hl' hx hc (by rw [hX]; exact hna)
    rw [hX] at this
    unfold qP at this ⊢
    rw [List.map_append]
    show BfI l l' (_ ++ [e1.1]) i (b + 1)
    rw [he]
    exact this
  · have h0 := h.nd
    unfold qS at h0 ⊢
    rw [List.map_append, List.nodup_append]
    refine ⟨h0, by simp, fun x1 hx1 y1 hy1 e => ?_⟩
    obtain ⟨y, hy, rfl⟩ := List.mem_map.1 hx1
    have hy1' : y1 = e1.1.1 := by simpa using hy1
    refine of_decide_eq_false hnew ⟨y, hy, ?_⟩
    rw [e, hy1', he]
theorem infPair : (Tryz.prog.info? 81).map (fun i => (i.zero, i.size, i.bytes)) = some (some (.agg #[.bool false, .slice none 0 0, .bool false, .slice none 0 0, .string ⟨#[]⟩]), 5, 80) := by kernel_rfl
def ini7 (x0 x1 x2 x3 x4 x5 x6 : Value) : Nat → Value
  | 0 => x0
  | 1 => x1
  | 2 => x2
  | 3 => x3
  | 4 => x4
  | 5 => x5
  | _ => x6
set_option maxRecDepth 100000 in
set_option maxHeartbeats 8000000 in
theorem rcommon_any (A A' : Option Addr) (m c m' c' : Nat) (l l' : List Pn) (w : World) (h : okP l) (h' : okP l') (hl : Hid (l.length = m)) (hl' : Hid (l'.length = m')) (hm : m ≤ 12) (hm' : m' ≤ 12) (hr : Hid (Rp w w.heap.size A l)) (hr' : Hid (Rp w w.heap.size A' l')) (hz : chP l = 0) (hz' : chP l' = 0) :
    Calls Tryz.prog 22 #[.slice A m c, .slice A' m' c'] w fun e w' => ∃ (s : List UInt8) (z : Int), e = .returned (.tuple #[.string ⟨s.toArray⟩, .int .i64 z]) ∧ Hid (CmQ l l' s z) ∧ Hid (Below w.heap.size w w') := by
  have HK1 := Lib.hid (qpcheck_any A m c l w hl hr)
  rw [hz] at HK1
  have HK2 := Lib.hid (fun W (hb : Hid (Below w.heap.size w W)) => qpcheck_any A' m' c' l' W hl' (Rp.later hr' hb.out))
  rw [hz'] at HK2
  have HB1 := Lib.hid (fun W (hb : Hid (Below w.heap.size w W)) => rbegin_any A m c l W hl h (Rp.later hr hb.out))
  have HB2 := Lib.hid (fun W (hb : Hid (Below w.heap.size w W)) => rbegin_any A' m' c' l' W hl' h' (Rp.later hr' hb.out))
  have HR := Lib.hid (And.intro hr.out hr'.out)
  have HH := Lib.hid (And.intro h h')
  clear hr hr' hz hz' h h'
  obtain ⟨ip, hpi, hpz0, hpz1, hpz2⟩ := info_parts infPair
  go_enter Tryz.func22, Tryz.ntmps22
  go_wp2_with fail
  with_reducible refine HK1.out.mono ?_
  rintro e w1 ⟨rfl, b1⟩
  have HL1 : Hid (Below w.heap.size w w1) := Lib.hid b1
  clear b1 HK1
  go_wp2_with fail
  with_reducible refine (HK2.out w1 HL1).mono ?_
  rintro e w2 ⟨rfl, b2⟩
  have HL2 := Lib.hid (HL1.out.trans (b2.mono HL1.out.size))
  clear b2 HK2 HL1
  go_wp2_with fail
  with_reducible refine (HB1.out w2 HL2).mono ?_
  rintro e w3 ⟨v1, rfl, hv1, b3⟩
  obtain ⟨g1, c1, rfl, hg1, hq1, hl1⟩ := hv1.out
  have HG1 : Hid (w.heap.size ≤ g1 ∧ Bq w3 g1 (beR l).2 ∧ (beR l).2.length = m) := Lib.hid ⟨Nat.le_trans HL2.out.size hg1, hq1, hl1⟩
  have HL3 := Lib.hid (HL2.out.trans (b3.out.mono HL2.out.size))
  clear b3 HB1 HL2 hg1 hq1 hl1 hv1
  go_wp2_with fail
  with_reducible refine (HB2.out w3 HL3).mono ?_
  rintro e w4 ⟨v2, rfl, hv2, b4⟩
  obtain ⟨g2, c2, rfl, hg2, hq2, hl2⟩ := hv2.out
  have HEN : Hid (EnM w4 w.heap.size m m' (((beR l, beR l'), []), (g1, c1), (g2, c2))) := Lib.hid ⟨⟨HG1.out.1, HG1.out.2.1.below b4.out, HG1.out.2.2⟩, Nat.le_trans HL3.out.size hg2, hq2, hl2⟩
  have HL4 := Lib.hid (HL3.out.trans (b4.out.mono HL3.out.size))
  have HCO : Hid (CoI w (w4.alloc (.cells #[.bool (beR l).1, .slice (some ⟨g1, 0, none⟩) m c1, .bool (beR l').1, .slice (some ⟨g2, 0, none⟩) m' c2, .string ⟨#[]⟩] 81)) A A' m m' w4.heap.size 1 0 0 l l' [(((beR l, beR l'), []), (g1, c1), (g2, c2))]) := Lib.hid (by
    have hb := HL4.out.alloc HL4.out.size (.cells #[.bool (beR l).1, .slice (some ⟨g1, 0, none⟩) m c1, .bool (beR l').1, .slice (some ⟨g2, 0, none⟩) m' c2, .string ⟨#[]⟩] 81)
    exact ⟨hb, HR.out.1.below hb, HR.out.2.below hb, QuM.start HL4.out.size HEN.out, BfI.first HH.out.1 HH.out.2, by simp [qS]⟩)
  clear b4 HB2 HL3 HG1 hg2 hq2 hl2 hv2 HEN HL4
  have HCO' : Hid (∀ W, w4.alloc (.cells #[.bool (beR l).1, .slice (some ⟨g1, 0, none⟩) m c1, .bool (beR l').1, .slice (some ⟨g2, 0, none⟩) m' c2, .string ⟨#[]⟩] 81) = W → CoI w W A A' m m' w4.heap.size 1 0 0 l l' [(((beR l, beR l'), []), (g1, c1), (g2, c2))]) := Lib.hid (by rintro W rfl; exact HCO.out)
  clear HCO HR
  generalize hgx : w4.heap.size = gx at *
  go_upto_region 8 with fail
  generalize hwa : World.alloc w4 _ = wa
  replace HCO' := Lib.hid (HCO'.out _ hwa)
  clear hwa
  go_wp2
  go_loopw [8, 9, 10, 11] (fun v8 v9 v10 v11 wr => ∃ (i g cp n : Nat) (es : List En), v8 = .slice (some ⟨g, 0, none⟩) n cp ∧ v9 = .int .i64 (i : Int) ∧ i ≤ n ∧ Hid (es.length = n) ∧ Hid (CoI w wr A A' m m' g cp i 0 l l' es)) (fun v8 v9 v10 v11 wr => 67108865 - (intOf v9).toNat)
  case atStart => exact ⟨0, gx, 1, 1, _, rfl, rfl, by omega, Lib.hid rfl, HCO'⟩
  case round =>
    clear HCO'
    obtain ⟨i, g, cp, n, es, rfl, rfl, hi, hn, HC⟩ := hrel
    have hnB : n ≤ 67108864 := by rw [← hn.out]; exact HC.out.q.few HC.out.nd hm hm'
    by_cases hlt : i < n
    · have i1 : (i : Int) < (n : Int) := by omega
      have i0 : (0 : Int) ≤ (i : Int) := by omega
      go_wp2
      go_loopw [8, 10, 11] (fun v8 v10 v11 wr => ∃ (b g cp n : Nat) (es : List En), v8 = .slice (some ⟨g, 0, none⟩) n cp ∧ v10 = .int .i64 (b : Int) ∧ b ≤ 256 ∧ i < n ∧ Hid (es.length = n) ∧ Hid (CoI w wr A A' m m' g cp i b l l' es)) (fun v8 v10 v11 wr => 256 - (intOf v10).toNat)
      case atStart => exact ⟨0, g, cp, n, es, rfl, rfl, by omega, hlt, hn, HC⟩
      case round =>
        clear HC hn hnB hlt i1 hi
      
        obtain ⟨b, g, cp, n, es, rfl, rfl, hb, hlt, hn, HC⟩ := hrel
        have hnB : n ≤ 67108864 := by rw [← hn.out]; exact HC.out.q.few HC.out.nd hm hm'
        by_cases hbt : b < 256
        · have j1 : (b : Int) < 256 := by omega
          have j0 : (0 : Int) ≤ (b : Int) := by omega
          have i1 : (i : Int) < (n : Int) := by omega
          have bw : IntKind.u8.wrap (b : Int) = (b : Int) := by rw [IntKind.wrap_u8]; omega
          have hil : i < es.length := by rw [hn.out]; exact hlt
          obtain ⟨e, he⟩ : ∃ e, es[i]'hil = e := ⟨_, rfl⟩
          have hem : e ∈ es := he ▸ List.getElem_mem hil
          obtain ⟨c0, c1, c2, c3, c4⟩ := HC.out.q.cells hil he
          have hub : (UInt8.ofNat b).toNat = b := by rw [UInt8.toNat_ofNat']; omega
          obtain ⟨X1, hX1⟩ : ∃ X, stR l e.1.1.1 b = X := ⟨_, rfl⟩
          obtain ⟨X2, hX2⟩ : ∃ X, stR l' e.1.1.2 b = X := ⟨_, rfl⟩
          have hP2 : stP2 l l' e.1.1 (UInt8.ofNat b).toNat = (X1, X2) := by unfold stP2; rw [hub, hX1, hX2]
          have hget := qP_get hil he
          have HSW : Hid (∀ W, Below wr.drew.heap.size wr.drew W → W.cell? ⟨g, i * 5, none⟩ = some (.bool e.1.1.1.1) ∧ W.cell? ⟨g, i * 5 + 1, none⟩ = some (.slice (some ⟨e.2.1.1, 0, none⟩) m e.2.1.2) ∧ W.cell? ⟨g, i * 5 + 2, none⟩ = some (.bool e.1.1.2.1) ∧ W.cell? ⟨g, i * 5 + 3, none⟩ = some (.slice (some ⟨e.2.2.1, 0, none⟩) m' e.2.2.2) ∧ W.cell? ⟨g, i * 5 + 4, none⟩ = some (.string ⟨e.1.2.toArray⟩)) := Lib.hid (fun W hW => (HC.out.below (below_dr hW)).q.cells hil he)
          have HS1 : Hid (∀ W, Below wr.drew.heap.size wr.drew W → Calls Tryz.prog 47 #[.slice A m c, .agg #[.bool e.1.1.1.1, .slice (some ⟨e.2.1.1, 0, none⟩) m e.2.1.2], .int .i64 (b : Int)] W fun r w' => ∃ v', r = .returned v' ∧ Hid (SvM w' W.heap.size m v' X1) ∧ Hid (Below W.heap.size W w')) := Lib.hid (fun W hW => by
            rw [← hX1]
            have hC := HC.out.below (below_dr hW)
            exact rstep_any A m c l _ _ e.1.1.1 b W hl HH.out.1 (Lib.hid (hC.r1.mono hC.lo.size)) (Lib.hid (hC.q.mem e hem).s1))
          have HS2 : Hid (∀ W, Below wr.drew.heap.size wr.drew W → Calls Tryz.prog 47 #[.slice A' m' c', .agg #[.bool e.1.1.2.1, .slice (some ⟨e.2.2.1, 0, none⟩) m' e.2.2.2], .int .i64 (b : Int)] W fun r w' => ∃ v', r = .returned v' ∧ Hid (SvM w' W.heap.size m' v' X2) ∧ Hid (Below W.heap.size W w')) := Lib.hid (fun W hW => by
            rw [← hX2]
            have hC := HC.out.below (below_dr hW)
            exact rstep_any A' m' c' l' _ _ e.1.1.2 b W hl' HH.out.2 (Lib.hid (hC.r2.mono hC.lo.size)) (Lib.hid (hC.q.mem e hem).s2))
          have hln : ¬ 9223372036854775807 < e.1.2.length + 1 := by
            have := HC.out.bf.len hget
            omega
          have HP2 := Lib.hid hP2
          have HUB := Lib.hid hub
          have HGE := Lib.hid hget
          obtain ⟨T, hT⟩ : ∃ T, e.1.2 ++ [UInt8.ofNat b] = T := ⟨_, rfl⟩
          have HT := Lib.hid hT
          have HSZ := HC.out.lo.size
          clear hX1 hX2 hP2 hub hget he hem hT
          go_upto_region 14 with fail
          refine wp_region_held_drew (S := (fun w' => w'.cell? ⟨g, i * 5, none⟩ = some (.bool e.1.1.1.1) ∧ w'.cell? ⟨g, i * 5 + 1, none⟩ = some (.slice (some ⟨e.2.1.1, 0, none⟩) m e.2.1.2) ∧ w'.cell? ⟨g, i * 5 + 2, none⟩ = some (.bool e.1.1.2.1) ∧ w'.cell? ⟨g, i * 5 + 3, none⟩ = some (.slice (some ⟨e.2.2.1, 0, none⟩) m' e.2.2.2) ∧ w'.cell? ⟨g, i * 5 + 4, none⟩ = some (.string ⟨e.1.2.toArray⟩))) (by kernel_rfl) ?_ (fun hHeld => ?_)
          · (try dsimp only); first | (refine ⟨?_, ?_, ?_, ?_, ?_⟩ <;> (with_reducible assumption)) | go_keep
          refine hTake (i := 0) (v := .slice A m c) 38 rfl rfl (by kernel_rfl) (by kernel_rfl) (by kernel_rfl) (fun _ _ _ h => h) (Or.inl ⟨by rfl, ?_⟩) hHeld ?_
          · (intro wS hSw; (try dsimp only at hSw); go_simp)
          simp only [Act.put, List.setIfInBounds_toArray, List.set_cons_zero, List.set_cons_succ]
          refine hTake (i := 1) (v := .slice (some ⟨g, 0, none⟩) n cp) 39 rfl rfl (by kernel_rfl) (by kernel_rfl) (by kernel_rfl) (fun _ _ _ h => h) (Or.inl ⟨by rfl, ?_⟩) hHeld ?_
          · (intro wS hSw; (try dsimp only at hSw); go_simp)
          simp only [Act.put, List.setIfInBounds_toArray, List.set_cons_zero, List.set_cons_succ]
          refine hTake (i := 2) (v := .int .i64 (i : Int)) 40 rfl rfl (by kernel_rfl) (by kernel_rfl) (by kernel_rfl) (fun _ _ _ h => h) (Or.inl ⟨by rfl, ?_⟩) hHeld ?_
          · (intro wS hSw; (try dsimp only at hSw); go_simp)
          simp only [Act.put, List.setIfInBounds_toArray, List.set_cons_zero, List.set_cons_succ]
          refine hTake (i := 3) (v := .pointer (some ⟨g, i * 5, none⟩)) 41 rfl rfl (by kernel_rfl) (by kernel_rfl) (by kernel_rfl) (fun _ _ _ h => h) (Or.inl ⟨by rfl, ?_⟩) hHeld ?_
          · (intro wS hSw; (try dsimp only at hSw); go_simp)
          simp only [Act.put, List.setIfInBounds_toArray, List.set_cons_zero, List.set_cons_succ]
          refine hTake (i := 4) (v := .pointer (some ⟨g, i * 5, none⟩)) 42 rfl rfl (by kernel_rfl) (by kernel_rfl) (by kernel_rfl) (fun _ _ _ h => h) (Or.inl ⟨by rfl, ?_⟩) hHeld ?_
          · (intro wS hSw; (try dsimp only at hSw); go_simp)
          simp only [Act.put, List.setIfInBounds_toArray, List.set_cons_zero, List.set_cons_succ]
          refine hTake (i := 5) (v := .agg #[.bool e.1.1.1.1, .slice (some ⟨e.2.1.1, 0, none⟩) m e.2.1.2]) 43 rfl rfl (by kernel_rfl) (by kernel_rfl) (by kernel_rfl) (fun _ _ _ h => h) (Or.inl ⟨by rfl, ?_⟩) hHeld ?_
          · (intro wS hSw; (try dsimp only at hSw); go_simp)
          simp only [Act.put, List.setIfInBounds_toArray, List.set_cons_zero, List.set_cons_succ]
          refine hTake (i := 6) (v := .int .i64 (b : Int)) 44 rfl rfl (by kernel_rfl) (by kernel_rfl) (by kernel_rfl) (fun _ _ _ h => h) (Or.inl ⟨by rfl, ?_⟩) hHeld ?_
          · (intro wS hSw; (try dsimp only at hSw); go_simp)
          simp only [Act.put, List.setIfInBounds_toArray, List.set_cons_zero, List.set_cons_succ]
          refine hTake (i := 8) (v := .slice A' m' c') 46 rfl rfl (by kernel_rfl) (by kernel_rfl) (by kernel_rfl) (fun _ _ _ h => h) (Or.inl ⟨by rfl, ?_⟩) hHeld ?_
          · (intro wS hSw; (try dsimp only at hSw); go_simp)
          simp only [Act.put, List.setIfInBounds_toArray, List.set_cons_zero, List.set_cons_succ]
          refine hTake (i := 9) (v := .slice (some ⟨g, 0, none⟩) n cp) 47 rfl rfl (by kernel_rfl) (by kernel_rfl) (by kernel_rfl) (fun _ _ _ h => h) (Or.inl ⟨by rfl, ?_⟩) hHeld ?_
          · (intro wS hSw; (try dsimp only at hSw); go_simp)
          simp only [Act.put, List.setIfInBounds_toArray, List.set_cons_zero, List.set_cons_succ]
          refine hTake (i := 10) (v := .int .i64 (i : Int)) 48 rfl rfl (by kernel_rfl) (by kernel_rfl) (by kernel_rfl) (fun _ _ _ h => h) (Or.inl ⟨by rfl, ?_⟩) hHeld ?_
          · (intro wS hSw; (try dsimp only at hSw); go_simp)
          simp only [Act.put, List.setIfInBounds_toArray, List.set_cons_zero, List.set_cons_succ]
          refine hTake (i := 11) (v := .pointer (some ⟨g, i * 5, none⟩)) 49 rfl rfl (by kernel_rfl) (by kernel_rfl) (by kernel_rfl) (fun _ _ _ h => h) (Or.inl ⟨by rfl, ?_⟩) hHeld ?_
          · (intro wS hSw; (try dsimp only at hSw); go_simp)
          simp only [Act.put, List.setIfInBounds_toArray, List.set_cons_zero, List.set_cons_succ]
          refine hTake (i := 12) (v := .pointer (some ⟨g, i * 5 + 2, none⟩)) 50 rfl rfl (by kernel_rfl) (by kernel_rfl) (by kernel_rfl) (fun _ _ _ h => h) (Or.inl ⟨by rfl, ?_⟩) hHeld ?_
          · (intro wS hSw; (try dsimp only at hSw); go_simp)
          simp only [Act.put, List.setIfInBounds_toArray, List.set_cons_zero, List.set_cons_succ]
          refine hTake (i := 13) (v := .agg #[.bool e.1.1.2.1, .slice (some ⟨e.2.2.1, 0, none⟩) m' e.2.2.2]) 51 rfl rfl (by kernel_rfl) (by kernel_rfl) (by kernel_rfl) (fun _ _ _ h => h) (Or.inl ⟨by rfl, ?_⟩) hHeld ?_
          · (intro wS hSw; (try dsimp only at hSw); go_simp)
          simp only [Act.put, List.setIfInBounds_toArray, List.set_cons_zero, List.set_cons_succ]
          refine hTake (i := 14) (v := .int .i64 (b : Int)) 52 rfl rfl (by kernel_rfl) (by kernel_rfl) (by kernel_rfl) (fun _ _ _ h => h) (Or.inl ⟨by rfl, ?_⟩) hHeld ?_
          · (intro wS hSw; (try dsimp only at hSw); go_simp)
          simp only [Act.put, List.setIfInBounds_toArray, List.set_cons_zero, List.set_cons_succ]
          refine hTake (i := 16) (v := .slice (some ⟨g, 0, none⟩) n cp) 54 rfl rfl (by kernel_rfl) (by kernel_rfl) (by kernel_rfl) (fun _ _ _ h => h) (Or.inl ⟨by rfl, ?_⟩) hHeld ?_
          · (intro wS hSw; (try dsimp only at hSw); go_simp)
          simp only [Act.put, List.setIfInBounds_toArray, List.set_cons_zero, List.set_cons_succ]
          refine hTake (i := 17) (v := .int .i64 (i : Int)) 55 rfl rfl (by kernel_rfl) (by kernel_rfl) (by kernel_rfl) (fun _ _ _ h => h) (Or.inl ⟨by rfl, ?_⟩) hHeld ?_
          · (intro wS hSw; (try dsimp only at hSw); go_simp)
          simp only [Act.put, List.setIfInBounds_toArray, List.set_cons_zero, List.set_cons_succ]
          refine hTake (i := 18) (v := .pointer (some ⟨g, i * 5, none⟩)) 56 rfl rfl (by kernel_rfl) (by kernel_rfl) (by kernel_rfl) (fun _ _ _ h => h) (Or.inl ⟨by rfl, ?_⟩) hHeld ?_
          · (intro wS hSw; (try dsimp only at hSw); go_simp)
          simp only [Act.put, List.setIfInBounds_toArray, List.set_cons_zero, List.set_cons_succ]
          refine hTake (i := 19) (v := .pointer (some ⟨g, i * 5 + 4, none⟩)) 57 rfl rfl (by kernel_rfl) (by kernel_rfl) (by kernel_rfl) (fun _ _ _ h => h) (Or.inl ⟨by rfl, ?_⟩) hHeld ?_
          · (intro wS hSw; (try dsimp only at hSw); go_simp)
          simp only [Act.put, List.setIfInBounds_toArray, List.set_cons_zero, List.set_cons_succ]
          refine hTake (i := 20) (v := .string ⟨e.1.2.toArray⟩) 58 rfl rfl (by kernel_rfl) (by kernel_rfl) (by kernel_rfl) (fun _ _ _ h => h) (Or.inl ⟨by rfl, ?_⟩) hHeld ?_
          · (intro wS hSw; (try dsimp only at hSw); go_simp)
          simp only [Act.put, List.setIfInBounds_toArray, List.set_cons_zero, List.set_cons_succ]
          refine hTake (i := 21) (v := .int .i64 (b : Int)) 59 rfl rfl (by kernel_rfl) (by kernel_rfl) (by kernel_rfl) (fun _ _ _ h => h) (Or.inl ⟨by rfl, ?_⟩) hHeld ?_
          · (intro wS hSw; (try dsimp only at hSw); go_simp)
          simp only [Act.put, List.setIfInBounds_toArray, List.set_cons_zero, List.set_cons_succ]
          refine hTake (i := 22) (v := .int .u8 (b : Int)) 60 rfl rfl (by kernel_rfl) (by kernel_rfl) (by kernel_rfl) (fun _ _ _ h => h) (Or.inl ⟨by rfl, ?_⟩) hHeld ?_
          · (intro wS hSw; (try dsimp only at hSw); go_simp)
          simp only [Act.put, List.setIfInBounds_toArray, List.set_cons_zero, List.set_cons_succ]
          refine wpAnyH_named (fun a0 ha0 => ?_)
          refine wpAnyH_inv (fun la a' w' => ∃ (bb : Nat → Bool) (v : Nat → Value) (D : CwD), la = #[true, true, true, true, true, true, true, bb 0, true, true, true, true, true, true, true, bb 1, true, true, true, true, true, true, true, bb 2, bb 3, bb 4, bb 5, bb 6, bb 7] ∧ a' = (((((((a0.put (some 45) (v 0)).put (some 53) (v 1)).put (some 61) (v 2)).put (some 62) (v 3)).put (some 63) (v 4)).put (some 64) (v 5)).put (some 11) (v 6)) ∧ ((bb 0 = true → v 0 = .agg #[.bool X1.1, .slice (some ⟨D.g1, 0, none⟩) m D.c1]) ∧ (bb 1 = true → v 1 = .agg #[.bool X2.1, .slice (some ⟨D.g2, 0, none⟩) m' D.c2]) ∧ (bb 2 = true → v 2 = .slice (some ⟨D.h, 0, none⟩) 1 1) ∧ (bb 3 = true → v 3 = .string ⟨[UInt8.ofNat b].toArray⟩) ∧ (bb 4 = true → v 4 = .string ⟨T.toArray⟩) ∧ (bb 5 = true → bb 0 = true ∧ bb 1 = true ∧ v 5 = .agg #[.bool X1.1, .slice (some ⟨D.g1, 0, none⟩) m D.c1, .bool X2.1, .slice (some ⟨D.g2, 0, none⟩) m' D.c2, .string ⟨T.toArray⟩]) ∧ (bb 6 = true → v 6 = .pointer (some ⟨D.v, 0, none⟩))) ∧ Cw wr.drew m m' X1 X2 (.int .u8 (b : Int)) T (bb 0) (bb 1) (bb 2) (bb 6) (bb 7) D w') (fun la a' w' hI => ?_) ?_ ?_ _ _ _ _ ⟨fun _ => false, ini7 u45 u53 u61 u62 u63 u64 u11, ⟨0, 0, 0, 0, 0, 0⟩, rfl, by subst ha0; (simp only [Act.put, List.setIfInBounds_toArray, List.set_cons_succ, List.set_cons_zero] <;> rfl), ⟨fun h => (by cases h), fun h => (by cases h), fun h => (by cases h), fun h => (by cases h), fun h => (by cases h), fun h => (by cases h), fun h => (by cases h)⟩, Cw.start ((Below.refl _ _)) _⟩ (by rfl) (by decide)
          · obtain ⟨bb, v, D, _, _, _, hW⟩ := hI
            exact HSW.out _ hW.lo
          rotate_left
          · rintro la' a' w' ⟨bb, v, D, rfl, rfl, ⟨v0, v1, v2, v3, v4, v5, v6⟩, hW⟩ ii hi'
            have hS5 := HSW.out _ hW.lo
            obtain ⟨h0, oo, ho, hall⟩ := mem_ready.1 hi'
            have hlt' : ii < 29 := (Array.getElem?_eq_some_iff.1 ho).1
            have UB : ∀ {q : Nat} (k : Nat), bb k = true → up1 bb q true k = true := fun {q} k hk => by unfold up1; split <;> simp_all
            clear hi'
            rcases (by omega : ii = 0 ∨ ii = 1 ∨ ii = 2 ∨ ii = 3 ∨ ii = 4 ∨ ii = 5 ∨ ii = 6 ∨ ii = 7 ∨ ii = 8 ∨ ii = 9 ∨ ii = 10 ∨ ii = 11 ∨ ii = 12 ∨ ii = 13 ∨ ii = 14 ∨ ii = 15 ∨ ii = 16 ∨ ii = 17 ∨ ii = 18 ∨ ii = 19 ∨ ii = 20 ∨ ii = 21 ∨ ii = 22 ∨ ii = 23 ∨ ii = 24 ∨ ii = 25 ∨ ii = 26 ∨ ii = 27 ∨ ii = 28) with rfl | rfl | rfl | rfl | rfl | rfl | rfl | rfl | rfl | rfl | rfl | rfl | rfl | rfl | rfl | rfl | rfl | rfl | rfl | rfl | rfl | rfl | rfl | rfl | rfl | rfl | rfl | rfl | rfl
            · cases (show true = false from h0)
            · cases (show true = false from h0)
            · cases (show true = false from h0)
            · cases (show true = false from h0)
            · cases (show true = false from h0)
            · cases (show true = false from h0)
            · cases (show true = false from h0)
            · replace h0 : bb 0 = false := h0
              have ho' := (Option.some.inj ho).symm
              subst ho'
              clear hall ho
              have NO : bb 5 = true → False := fun e => by rw [h0] at v5; cases (v5 e).1
              rw [h0] at hW
              have HC9 := Lib.hid (HS1.out w' hW.lo)
              clear HS1 HS2 hHeld hS5
              subst ha0
              refine wpOp_step rfl (fun K hK => ?_)
              go_simp
              go_at_call 47
              with_reducible refine HC9.out.mono ?_
              rintro e9 w9 ⟨v9, rfl, hv9, hb9⟩
              obtain ⟨gg, cc, rfl, hW9⟩ := hW.call1 hb9.out hv9.out
              go_simp
              refine hK _ _ ⟨up1 bb 0 true, up1 v 0 (.agg #[.bool X1.1, .slice (some ⟨gg, 0, none⟩) m cc]), { D with g1 := gg, c1 := cc }, rfl, by (simp only [Act.put, List.setIfInBounds_toArray, List.set_cons_succ, List.set_cons_zero, up1] <;> rfl), ⟨fun _ => up1_at _ _ _, fun hb => (up1_ne _ _ (by decide)).trans (v1 (by rw [up1_ne _ _ (by decide)] at hb; exact hb)), fun hb => (up1_ne _ _ (by decide)).trans (v2 (by rw [up1_ne _ _ (by decide)] at hb; exact hb)), fun hb => (up1_ne _ _ (by decide)).trans (v3 (by rw [up1_ne _ _ (by decide)] at hb; exact hb)), fun hb => (up1_ne _ _ (by decide)).trans (v4 (by rw [up1_ne _ _ (by decide)] at hb; exact hb)), fun hb => (NO (by rw [up1_ne _ _ (by decide)] at hb; exact hb)).elim, fun hb => (up1_ne _ _ (by decide)).trans (v6 (by rw [up1_ne _ _ (by decide)] at hb; exact hb))⟩, ?_⟩
              exact hW9
            · cases (show true = false from h0)
            · cases (show true = false from h0)
            · cases (show true = false from h0)
            · cases (show true = false from h0)
            · cases (show true = false from h0)
            · cases (show true = false from h0)
            · cases (show true = false from h0)
            · replace h0 : bb 1 = false := h0
              have ho' := (Option.some.inj ho).symm
              subst ho'
              have k0 : bb 0 = true := hall ⟨7, .chain⟩ (by simp) rfl
              clear hall ho
              have NO : bb 5 = true → False := fun e => by rw [h0] at v5; cases (v5 e).2.1
              rw [h0, k0] at hW
              have K0 := Lib.hid k0
              clear k0
              have HC9 := Lib.hid (HS2.out w' hW.lo)
              clear HS1 HS2 hHeld hS5
              subst ha0
              refine wpOp_step rfl (fun K hK => ?_)
              go_simp
              go_at_call 47
              with_reducible refine HC9.out.mono ?_
              rintro e9 w9 ⟨v9, rfl, hv9, hb9⟩
              obtain ⟨gg, cc, rfl, hW9⟩ := hW.call2 hb9.out hv9.out
              go_simp
              refine hK _ _ ⟨up1 bb 1 true, up1 v 1 (.agg #[.bool X2.1, .slice (some ⟨gg, 0, none⟩) m' cc]), { D with g2 := gg, c2 := cc }, rfl, by (simp only [Act.put, List.setIfInBounds_toArray, List.set_cons_succ, List.set_cons_zero, up1] <;> rfl), ⟨fun hb => (up1_ne _ _ (by decide)).trans (v0 (by rw [up1_ne _ _ (by decide)] at hb; exact hb)), fun _ => up1_at _ _ _, fun hb => (up1_ne _ _ (by decide)).trans (v2 (by rw [up1_ne _ _ (by decide)] at hb; exact hb)), fun hb => (up1_ne _ _ (by decide)).trans (v3 (by rw [up1_ne _ _ (by decide)] at hb; exact hb)), fun hb => (up1_ne _ _ (by decide)).trans (v4 (by rw [up1_ne _ _ (by decide)] at hb; exact hb)), fun hb => (NO (by rw [up1_ne _ _ (by decide)] at hb; exact hb)).elim, fun hb => (up1_ne _ _ (by decide)).trans (v6 (by rw [up1_ne _ _ (by decide)] at hb; exact hb))⟩, ?_⟩
              show Cw _ _ _ _ _ _ _ (bb 0) _ _ _ _ _ _
              rw [K0.out]
              exact hW9
            · cases (show true = false from h0)
            · cases (show true = false from h0)
            · cases (show true = false from h0)
            · cases (show true = false from h0)
            · cases (show true = false from h0)
            · cases (show true = false from h0)
            · cases (show true = false from h0)
            · replace h0 : bb 2 = false := h0
              have ho' := (Option.some.inj ho).symm
              subst ho'
              clear hall ho
              rw [h0] at hW
              have hW9 := hW.byte
              subst ha0
              refine wpOp_step rfl (fun K hK => ?_)
              go_simp
              refine hK _ _ ⟨up1 bb 2 true, up1 v 2 (.slice (some ⟨w'.heap.size, 0, none⟩) 1 1), { D with h := w'.heap.size }, rfl, by (simp only [Act.put, List.setIfInBounds_toArray, List.set_cons_succ, List.set_cons_zero, up1] <;> rfl), ⟨fun hb => (up1_ne _ _ (by decide)).trans (v0 (by rw [up1_ne _ _ (by decide)] at hb; exact hb)), fun hb => (up1_ne _ _ (by decide)).trans (v1 (by rw [up1_ne _ _ (by decide)] at hb; exact hb)), fun _ => up1_at _ _ _, fun hb => (up1_ne _ _ (by decide)).trans (v3 (by rw [up1_ne _ _ (by decide)] at hb; exact hb)), fun hb => (up1_ne _ _ (by decide)).trans (v4 (by rw [up1_ne _ _ (by decide)] at hb; exact hb)), fun hb => ⟨UB 0 (v5 (by rw [up1_ne _ _ (by decide)] at hb; exact hb)).1, UB 1 (v5 (by rw [up1_ne _ _ (by decide)] at hb; exact hb)).2.1, (up1_ne _ _ (by decide)).trans (v5 (by rw [up1_ne _ _ (by decide)] at hb; exact hb)).2.2⟩, fun hb => (up1_ne _ _ (by decide)).trans (v6 (by rw [up1_ne _ _ (by decide)] at hb; exact hb))⟩, ?_⟩
              exact hW9
            · replace h0 : bb 3 = false := h0
              have ho' := (Option.some.inj ho).symm
              subst ho'
              have k2 : bb 2 = true := hall ⟨23, .data⟩ (by simp) rfl
              clear hall ho
              have e1 := v2 k2
              have hcv := one_str' hbt (hW.hb k2)
              have K2 := Lib.hid k2
              clear k2
              subst ha0
              refine wpOp_step rfl (fun K hK => ?_)
              generalize hvv : v 2 = vv at *
              subst e1
              go_simp
              exact hK _ _ ⟨up1 bb 3 true, up1 v 3 (.string ⟨[UInt8.ofNat b].toArray⟩), D, rfl, by (simp only [Act.put, List.setIfInBounds_toArray, List.set_cons_succ, List.set_cons_zero, up1, hvv] <;> rfl), ⟨fun hb => (up1_ne _ _ (by decide)).trans (v0 (by rw [up1_ne _ _ (by decide)] at hb; exact hb)), fun hb => (up1_ne _ _ (by decide)).trans (v1 (by rw [up1_ne _ _ (by decide)] at hb; exact hb)), fun _ => (up1_ne _ _ (by decide)).trans hvv, fun _ => up1_at _ _ _, fun hb => (up1_ne _ _ (by decide)).trans (v4 (by rw [up1_ne _ _ (by decide)] at hb; exact hb)), fun hb => ⟨UB 0 (v5 (by rw [up1_ne _ _ (by decide)] at hb; exact hb)).1, UB 1 (v5 (by rw [up1_ne _ _ (by decide)] at hb; exact hb)).2.1, (up1_ne _ _ (by decide)).trans (v5 (by rw [up1_ne _ _ (by decide)] at hb; exact hb)).2.2⟩, fun hb => (up1_ne _ _ (by decide)).trans (v6 (by rw [up1_ne _ _ (by decide)] at hb; exact hb))⟩, hW⟩
            · replace h0 : bb 4 = false := h0
              have ho' := (Option.some.inj ho).symm
              subst ho'
              have k3 : bb 3 = true := hall ⟨24, .data⟩ (by simp) rfl
              clear hall ho
              have e1 := v3 k3
              have hap := bs_app e.1.2 [UInt8.ofNat b]
              rw [HT.out] at hap
              clear k3
              subst ha0
              refine wpOp_step rfl (fun K hK => ?_)
              generalize hvv : v 3 = vv at *
              subst e1
              go_simp
              exact hK _ _ ⟨up1 bb 4 true, up1 v 4 (.string ⟨T.toArray⟩), D, rfl, by (simp only [Act.put, List.setIfInBounds_toArray, List.set_cons_succ, List.set_cons_zero, up1, hvv] <;> rfl), ⟨fun hb => (up1_ne _ _ (by decide)).trans (v0 (by rw [up1_ne _ _ (by decide)] at hb; exact hb)), fun hb => (up1_ne _ _ (by decide)).trans (v1 (by rw [up1_ne _ _ (by decide)] at hb; exact hb)), fun hb => (up1_ne _ _ (by decide)).trans (v2 (by rw [up1_ne _ _ (by decide)] at hb; exact hb)), fun _ => (up1_ne _ _ (by decide)).trans hvv, fun _ => up1_at _ _ _, fun hb => ⟨UB 0 (v5 (by rw [up1_ne _ _ (by decide)] at hb; exact hb)).1, UB 1 (v5 (by rw [up1_ne _ _ (by decide)] at hb; exact hb)).2.1, (up1_ne _ _ (by decide)).trans (v5 (by rw [up1_ne _ _ (by decide)] at hb; exact hb)).2.2⟩, fun hb => (up1_ne _ _ (by decide)).trans (v6 (by rw [up1_ne _ _ (by decide)] at hb; exact hb))⟩, hW⟩
            · replace h0 : bb 5 = false := h0
              have ho' := (Option.some.inj ho).symm
              subst ho'
              have k0 : bb 0 = true := hall ⟨7, .data⟩ (by simp) rfl
              have k1 : bb 1 = true := hall ⟨15, .data⟩ (by simp) rfl
              have k4 : bb 4 = true := hall ⟨25, .data⟩ (by simp) rfl
              clear hall ho
              have e1 := v0 k0
              have e2 := v1 k1
              have e3 := v4 k4
              have K0 := Lib.hid k0
              have K1 := Lib.hid k1
              clear k0 k1 k4
              subst ha0
              refine wpOp_step rfl (fun K hK => ?_)
              generalize hvv : v 0 = vv at *
              generalize hvw : v 1 = vw at *
              generalize hvx : v 4 = vx at *
              subst e1
              subst e2
              subst e3
              go_simp
              exact hK _ _ ⟨up1 bb 5 true, up1 v 5 (.agg #[.bool X1.1, .slice (some ⟨D.g1, 0, none⟩) m D.c1, .bool X2.1, .slice (some ⟨D.g2, 0, none⟩) m' D.c2, .string ⟨T.toArray⟩]), D, rfl, by (simp only [Act.put, List.setIfInBounds_toArray, List.set_cons_succ, List.set_cons_zero, up1, hvv, hvw, hvx] <;> rfl), ⟨fun _ => (up1_ne _ _ (by decide)).trans hvv, fun _ => (up1_ne _ _ (by decide)).trans hvw, fun hb => (up1_ne _ _ (by decide)).trans (v2 (by rw [up1_ne _ _ (by decide)] at hb; exact hb)), fun hb => (up1_ne _ _ (by decide)).trans (v3 (by rw [up1_ne _ _ (by decide)] at hb; exact hb)), fun _ => (up1_ne _ _ (by decide)).trans hvx, fun _ => ⟨UB 0 K0.out, UB 1 K1.out, up1_at _ _ _⟩, fun hb => (up1_ne _ _ (by decide)).trans (v6 (by rw [up1_ne _ _ (by decide)] at hb; exact hb))⟩, hW⟩
            · replace h0 : bb 6 = false := h0
              have ho' := (Option.some.inj ho).symm
              subst ho'
              clear hall ho
              have h7 : bb 7 = false := by
                rcases hc : bb 7 with _ | _
                · rfl
                · exact absurd (hW.c8 hc) (by rw [h0]; decide)
              rw [h0, h7] at hW
              have hW9 := hW.var
              have H7 := Lib.hid h7
              clear h7
              subst ha0
              refine wpOp_step rfl (fun K hK => ?_)
              go_simp
              refine hK _ _ ⟨up1 bb 6 true, up1 v 6 (.pointer (some ⟨w'.heap.size, 0, none⟩)), { D with v := w'.heap.size }, rfl, by (simp only [Act.put, List.setIfInBounds_toArray, List.set_cons_succ, List.set_cons_zero, up1] <;> rfl), ⟨fun hb => (up1_ne _ _ (by decide)).trans (v0 (by rw [up1_ne _ _ (by decide)] at hb; exact hb)), fun hb => (up1_ne _ _ (by decide)).trans (v1 (by rw [up1_ne _ _ (by decide)] at hb; exact hb)), fun hb => (up1_ne _ _ (by decide)).trans (v2 (by rw [up1_ne _ _ (by decide)] at hb; exact hb)), fun hb => (up1_ne _ _ (by decide)).trans (v3 (by rw [up1_ne _ _ (by decide)] at hb; exact hb)), fun hb => (up1_ne _ _ (by decide)).trans (v4 (by rw [up1_ne _ _ (by decide)] at hb; exact hb)), fun hb => ⟨UB 0 (v5 (by rw [up1_ne _ _ (by decide)] at hb; exact hb)).1, UB 1 (v5 (by rw [up1_ne _ _ (by decide)] at hb; exact hb)).2.1, (up1_ne _ _ (by decide)).trans (v5 (by rw [up1_ne _ _ (by decide)] at hb; exact hb)).2.2⟩, fun _ => up1_at _ _ _⟩, ?_⟩
              show Cw _ _ _ _ _ _ _ _ _ _ _ (bb 7) _ _
              rw [H7.out]
              exact hW9
            · replace h0 : bb 7 = false := h0
              have ho' := (Option.some.inj ho).symm
              subst ho'
              have k6 : bb 6 = true := hall ⟨27, .data⟩ (by simp) rfl
              have k5 : bb 5 = true := hall ⟨26, .data⟩ (by simp) rfl
              have k1 : bb 1 = true := hall ⟨15, .chain⟩ (by simp) rfl
              have k0 : bb 0 = true := hall ⟨7, .phase⟩ (by simp) rfl
              have k2 : bb 2 = true := hall ⟨23, .phase⟩ (by simp) rfl
              have k3 : bb 3 = true := hall ⟨24, .phase⟩ (by simp) rfl
              have k4 : bb 4 = true := hall ⟨25, .phase⟩ (by simp) rfl
              clear hall ho
              have e1 := v6 k6
              have e2 := (v5 k5).2.2
              rw [h0, k0, k1, k2, k6] at hW
              have hW9 := hW.store
              obtain ⟨t0, t1, t2, t3, t4, tf⟩ := hW.cells
              have K0 := Lib.hid k0
              have K1 := Lib.hid k1
              have K2 := Lib.hid k2
              have K6 := Lib.hid k6
              clear k0 k1 k2 k3 k4 k5 k6
              subst ha0
              refine wpOp_step rfl (fun K hK => ?_)
              generalize hvv : v 6 = vv at *
              generalize hvw : v 5 = vw at *
              subst e1
              subst e2
              go_simp
              refine hK _ _ ⟨up1 bb 7 true, v, D, rfl, by (simp only [Act.put, List.setIfInBounds_toArray, List.set_cons_succ, List.set_cons_zero, hvv, hvw] <;> rfl), ⟨fun hb => v0 (by rw [up1_ne _ _ (by decide)] at hb; exact hb), fun hb => v1 (by rw [up1_ne _ _ (by decide)] at hb; exact hb), fun hb => v2 (by rw [up1_ne _ _ (by decide)] at hb; exact hb), fun hb => v3 (by rw [up1_ne _ _ (by decide)] at hb; exact hb), fun hb => v4 (by rw [up1_ne _ _ (by decide)] at hb; exact hb), fun _ => ⟨UB 0 K0.out, UB 1 K1.out, hvw⟩, fun _ => hvv⟩, ?_⟩
              show Cw _ _ _ _ _ _ _ (bb 0) (bb 1) (bb 2) (bb 6) _ D _
              rw [K0.out, K1.out, K2.out, K6.out]
              exact hW9
          · rintro la' a' w' ⟨bb, v, D, rfl, rfl, ⟨v0, v1, v2, v3, v4, v5, v6⟩, hW⟩ hr'
            have t0 : bb 0 = true := must_run (i := 7) hr' rfl (by simp [Region.binds])
            have t1 : bb 1 = true := must_run (i := 15) hr' rfl (by simp [Region.binds, t0])
            have t2 : bb 2 = true := must_run (i := 23) hr' rfl (by simp [Region.binds, t0, t1])
            have t3 : bb 3 = true := must_run (i := 24) hr' rfl (by simp [Region.binds, t0, t1, t2])
            have t4 : bb 4 = true := must_run (i := 25) hr' rfl (by simp [Region.binds, t0, t1, t2, t3])
            have t5 : bb 5 = true := must_run (i := 26) hr' rfl (by simp [Region.binds, t0, t1, t2, t3, t4])
            have t6 : bb 6 = true := must_run (i := 27) hr' rfl (by simp [Region.binds, t0, t1, t2, t3, t4, t5])
            have t7 : bb 7 = true := must_run (i := 28) hr' rfl (by simp [Region.binds, t0, t1, t2, t3, t4, t5, t6])
            rw [t0, t1, t2, t6, t7] at hW
            have e6 := v6 t6
            clear v0 v1 v2 v3 v4 v5 v6 hr' t0 t1 t2 t3 t4 t5 t6 t7
            subst ha0
            clear hHeld HS1 HS2 HSW c0 c1 c2 c3 c4
            generalize v 0 = z0 at *
            generalize v 1 = z1 at *
            generalize v 2 = z2 at *
            generalize v 3 = z3 at *
            generalize v 4 = z4 at *
            generalize v 5 = z5 at *
            generalize v 6 = z6 at *
            subst e6
            have HWW := Lib.hid hW
            clear hW
            have HC2 := Lib.hid (HC.out.below (below_dr HWW.out.lo))
            have HE1 : Hid (EnM w' w.heap.size m m' (nxE X1 X2 T D)) := Lib.hid (HWW.out.en HSZ)
            have HVB : Hid (w.heap.size ≤ D.v ∧ Bx w' D.v (pF m m' X1 X2 T D) 81) := Lib.hid ⟨Nat.le_trans HSZ (HWW.out.vb rfl).1, (HWW.out.vb rfl).2⟩
            clear HWW HC
            generalize hd1 : deadR X1 = d1
            generalize hd2 : deadR X2 = d2
            have hm6 : m ≤ 1000000 := by omega
            have hm6' : m' ≤ 1000000 := by omega
            have HD1 : Hid (∀ W, Below w'.heap.size w' W → Calls Tryz.prog 48 #[.agg #[.bool X1.1, .slice (some ⟨D.g1, 0, none⟩) m D.c1]] W fun r W' => r = .returned (.bool d1) ∧ Hid (Below W.heap.size W W')) := Lib.hid (fun W hW => by
              rw [← hd1]
              exact rdead_any _ w.heap.size m X1 W (Lib.hid (HE1.out.below hW).s1) hm6)
            have HD2 : Hid (∀ W, Below w'.heap.size w' W → Calls Tryz.prog 48 #[.agg #[.bool X2.1, .slice (some ⟨D.g2, 0, none⟩) m' D.c2]] W fun r W' => r = .returned (.bool d2) ∧ Hid (Below W.heap.size W W')) := Lib.hid (fun W hW => by
              rw [← hd2]
              exact rdead_any _ w.heap.size m' X2 W (Lib.hid (HE1.out.below hW).s2) hm6')
            generalize hd3 : decide (∃ y ∈ es, y.1.1 = (X1, X2)) = d3
            have HD3 : Hid (∀ W, Below w'.heap.size w' W → Calls Tryz.prog 49 #[.slice (some ⟨g, 0, none⟩) n cp, .agg #[.bool X1.1, .slice (some ⟨D.g1, 0, none⟩) m D.c1, .bool X2.1, .slice (some ⟨D.g2, 0, none⟩) m' D.c2, .string ⟨T.toArray⟩]] W fun r W' => r = .returned (.bool d3) ∧ Hid (Below W.heap.size W W')) := Lib.hid (fun W hW => by
              rw [← hd3]
              exact rmet_any w.heap.size m m' g cp es (nxE X1 X2 T D) n W hn (Lib.hid (HC2.out.below hW).q) (Lib.hid (HE1.out.below hW)) hm6 hm6' (by omega))
            have HCL : Hid (∀ W, Below w'.heap.size w' W → W.cell? ⟨D.v, 0, none⟩ = some (.bool X1.1) ∧ W.cell? ⟨D.v, 1, none⟩ = some (.slice (some ⟨D.g1, 0, none⟩) m D.c1) ∧ W.cell? ⟨D.v, 2, none⟩ = some (.bool X2.1) ∧ W.cell? ⟨D.v, 3, none⟩ = some (.slice (some ⟨D.g2, 0, none⟩) m' D.c2) ∧ W.cell? ⟨D.v, 4, none⟩ = some (.string ⟨T.toArray⟩)) := Lib.hid (fun W hW => bx5 (HVB.out.2.below hW))
            have HPASS : Hid (∀ W, Below w'.heap.size w' W → ¬ (X1.1 = true ∧ X2.1 = true) → (d1 = true ∨ d2 = true ∨ d3 = true) → CoI w W A A' m m' g cp i (b + 1) l l' es) := Lib.hid (fun W hW hna hd => (HC2.out.below hW).pass HGE.out HUB.out HP2.out hna (by rw [hd1, hd2, hd3]; exact hd))
            have HHIT : Hid ((X1.1 = true ∧ X2.1 = true) → FirstB (rxP l) (rxP l') T) := Lib.hid (fun ha => HC2.out.hit HH.out.1 HH.out.2 HGE.out HUB.out HP2.out HT.out ha)
            have HGROW : Hid (∀ W W1 g' cp', Below w'.heap.size w' W → ¬ (X1.1 = true ∧ X2.1 = true) → d3 = false → W.grownBy W1 (some g) → W1.ownsRow w.heap.size 81 5 (.slice (some ⟨g', 0, none⟩) (n + 1) cp') (n + 1) (qC m m' es ++ [.bool X1.1, .slice (some ⟨D.g1, 0, none⟩) m D.c1, .bool X2.1, .slice (some ⟨D.g2, 0, none⟩) m' D.c2, .string ⟨T.toArray⟩]) → CoI w W1 A A' m m' g' cp' i (b + 1) l l' (es ++ [nxE X1 X2 T D])) := Lib.hid (fun W W1 g' cp' hW hna h3 hg ho => (HC2.out.below hW).grow HH.out.1 HH.out.2 hn.out (HE1.out.below hW) hg ho HGE.out HUB.out HP2.out hna (by rw [HT.out]; rfl) (by rw [hd3]; exact h3))
            have HOWN : Hid (∀ W, Below w'.heap.size w' W → W.ownsRow w.heap.size 81 5 (.slice (some ⟨g, 0, none⟩) n cp) n (qC m m' es)) := Lib.hid (fun W hW => by
              have := (HC2.out.below hW).q.own
              rw [hn.out] at this
              exact this)
            have HLO := Lib.hid HC2.out.lo
            have hgv : g ≠ D.v ∨ True := .inr trivial
            clear HP2 HGE HUB HT HC2 HE1 HVB hd1 hd2 hd3
            obtain ⟨x0, x1, x2, x3, x4⟩ := HCL.out w' (Below.refl _ _)
            generalize hX1f : X1.1 = f1 at *
            generalize hX2f : X2.1 = f2 at *
            generalize D.v = dv at *
            generalize D.g1 = dg1 at *
            generalize D.c1 = dc1 at *
            generalize D.g2 = dg2 at *
            generalize D.c2 = dc2 at *
            clear hX1f hX2f
            rcases f1 with _ | _
            · rcases f2 with _ | _
              · have NA : ¬ (false = true ∧ false = true) := by decide
                go_wp2_with fail
                with_reducible refine (HD1.out w' (Below.refl _ _)).mono ?_
                rintro er w5 ⟨rfl, bb1⟩
                have B1 := Lib.hid (bb1.out)
                clear bb1 x0 x1 x2 x3 x4
                obtain ⟨x0, x1, x2, x3, x4⟩ := HCL.out _ B1.out
                rcases d1 with _ | _
                · skip
                  go_wp2_with fail
                  with_reducible refine (HD2.out w5 B1.out).mono ?_
                  rintro er w6 ⟨rfl, bb2⟩
                  have B2 := Lib.hid (B1.out.trans (bb2.out.mono B1.out.size))
                  clear bb2 x0 x1 x2 x3 x4
                  obtain ⟨x0, x1, x2, x3, x4⟩ := HCL.out _ B2.out
                  rcases d2 with _ | _
                  · skip
                    go_wp2_with fail
                    with_reducible refine (HD3.out w6 B2.out).mono ?_
                    rintro er w7 ⟨rfl, bb3⟩
                    have B3 := Lib.hid (B2.out.trans (bb3.out.mono B2.out.size))
                    clear bb3 x0 x1 x2 x3 x4
                    obtain ⟨x0, x1, x2, x3, x4⟩ := HCL.out _ B3.out
                    rcases d3 with _ | _
                    · skip
                      have HO7 := Lib.hid (HOWN.out w7 B3.out)
                      have hsz7 : w.heap.size ≤ w7.heap.size := by have := HLO.out.size; have := B3.out.size; omega
                      go_wp2_with (at_builtin; refine wpList_append_lies _ rfl _ _ _ rfl w.heap.size 81 ip _ 5 80 Tryz.underlying82 hpi hpz0 hpz1 hpz2 rfl (by omega) (.slice (some ⟨g, 0, none⟩) n cp) n (qC m m' es) rfl (HO7.out.alloc _) _ _ _ [.bool false, .slice (some ⟨dg1, 0, none⟩) m dc1, .bool false, .slice (some ⟨dg2, 0, none⟩) m' dc2, .string ⟨T.toArray⟩] rfl rfl (World.news_of_block (heap_alloc_new _ _)) (by simp [Value.oneCell']) (by omega) (by simp only [maxLen]; omega) (by omega) (by simp; omega) _ rfl ?_; intro g9 c9 w9 hown9 hgrow9 hat9 hlt9; have HF9 := Lib.hid (HGROW.out _ _ _ _ B3.out NA (by trivial) (grown_one ((Below.refl _ _).alloc (Nat.le_refl _) _) hgrow9) hown9); clear hown9 hgrow9 hat9 hlt9)
                      go_roundw
                      case rel => exact ⟨b + 1, g9, c9, n + 1, _, rfl, by go_num, by omega, by omega, Lib.hid (by rw [List.length_append, hn.out]; rfl), HF9⟩
                      case measure => simp only [intOf]; omega
                    · skip
                      go_wp2
                      go_roundw
                      case rel => exact ⟨b + 1, g, cp, n, es, rfl, by go_num, by omega, hlt, hn, Lib.hid (HPASS.out _ B3.out NA (.inr (.inr (by trivial))))⟩
                      case measure => simp only [intOf]; omega
                  · skip
                    go_wp2
                    go_roundw
                    case rel => exact ⟨b + 1, g, cp, n, es, rfl, by go_num, by omega, hlt, hn, Lib.hid (HPASS.out _ B2.out NA (.inr (.inl (by trivial))))⟩
                    case measure => simp only [intOf]; omega
                · skip
                  go_wp2
                  go_roundw
                  case rel => exact ⟨b + 1, g, cp, n, es, rfl, by go_num, by omega, hlt, hn, Lib.hid (HPASS.out _ B1.out NA (.inl (by trivial)))⟩
                  case measure => simp only [intOf]; omega
              · have NA : ¬ (false = true ∧ true = true) := by decide
                go_wp2_with fail
                with_reducible refine (HD1.out w' (Below.refl _ _)).mono ?_
                rintro er w5 ⟨rfl, bb1⟩
                have B1 := Lib.hid (bb1.out)
                clear bb1 x0 x1 x2 x3 x4
                obtain ⟨x0, x1, x2, x3, x4⟩ := HCL.out _ B1.out
                rcases d1 with _ | _
                · skip
                  go_wp2_with fail
                  with_reducible refine (HD2.out w5 B1.out).mono ?_
                  rintro er w6 ⟨rfl, bb2⟩
                  have B2 := Lib.hid (B1.out.trans (bb2.out.mono B1.out.size))
                  clear bb2 x0 x1 x2 x3 x4
                  obtain ⟨x0, x1, x2, x3, x4⟩ := HCL.out _ B2.out
                  rcases d2 with _ | _
                  · skip
                    go_wp2_with fail
                    with_reducible refine (HD3.out w6 B2.out).mono ?_
                    rintro er w7 ⟨rfl, bb3⟩
                    have B3 := Lib.hid (B2.out.trans (bb3.out.mono B2.out.size))
                    clear bb3 x0 x1 x2 x3 x4
                    obtain ⟨x0, x1, x2, x3, x4⟩ := HCL.out _ B3.out
                    rcases d3 with _ | _
                    · skip
                      have HO7 := Lib.hid (HOWN.out w7 B3.out)
                      have hsz7 : w.heap.size ≤ w7.heap.size := by have := HLO.out.size; have := B3.out.size; omega
                      go_wp2_with (at_builtin; refine wpList_append_lies _ rfl _ _ _ rfl w.heap.size 81 ip _ 5 80 Tryz.underlying82 hpi hpz0 hpz1 hpz2 rfl (by omega) (.slice (some ⟨g, 0, none⟩) n cp) n (qC m m' es) rfl (HO7.out.alloc _) _ _ _ [.bool false, .slice (some ⟨dg1, 0, none⟩) m dc1, .bool true, .slice (some ⟨dg2, 0, none⟩) m' dc2, .string ⟨T.toArray⟩] rfl rfl (World.news_of_block (heap_alloc_new _ _)) (by simp [Value.oneCell']) (by omega) (by simp only [maxLen]; omega) (by omega) (by simp; omega) _ rfl ?_; intro g9 c9 w9 hown9 hgrow9 hat9 hlt9; have HF9 := Lib.hid (HGROW.out _ _ _ _ B3.out NA (by trivial) (grown_one ((Below.refl _ _).alloc (Nat.le_refl _) _) hgrow9) hown9); clear hown9 hgrow9 hat9 hlt9)
                      go_roundw
                      case rel => exact ⟨b + 1, g9, c9, n + 1, _, rfl, by go_num, by omega, by omega, Lib.hid (by rw [List.length_append, hn.out]; rfl), HF9⟩
                      case measure => simp only [intOf]; omega
                    · skip
                      go_wp2
                      go_roundw
                      case rel => exact ⟨b + 1, g, cp, n, es, rfl, by go_num, by omega, hlt, hn, Lib.hid (HPASS.out _ B3.out NA (.inr (.inr (by trivial))))⟩
                      case measure => simp only [intOf]; omega
                  · skip
                    go_wp2
                    go_roundw
                    case rel => exact ⟨b + 1, g, cp, n, es, rfl, by go_num, by omega, hlt, hn, Lib.hid (HPASS.out _ B2.out NA (.inr (.inl (by trivial))))⟩
                    case measure => simp only [intOf]; omega
                · skip
                  go_wp2
                  go_roundw
                  case rel => exact ⟨b + 1, g, cp, n, es, rfl, by go_num, by omega, hlt, hn, Lib.hid (HPASS.out _ B1.out NA (.inl (by trivial)))⟩
                  case measure => simp only [intOf]; omega
            · rcases f2 with _ | _
              · have NA : ¬ (true = true ∧ false = true) := by decide
                go_wp2_with fail
                with_reducible refine (HD1.out w' (Below.refl _ _)).mono ?_
                rintro er w5 ⟨rfl, bb1⟩
                have B1 := Lib.hid (bb1.out)
                clear bb1 x0 x1 x2 x3 x4
                obtain ⟨x0, x1, x2, x3, x4⟩ := HCL.out _ B1.out
                rcases d1 with _ | _
                · skip
                  go_wp2_with fail
                  with_reducible refine (HD2.out w5 B1.out).mono ?_
                  rintro er w6 ⟨rfl, bb2⟩
                  have B2 := Lib.hid (B1.out.trans (bb2.out.mono B1.out.size))
                  clear bb2 x0 x1 x2 x3 x4
                  obtain ⟨x0, x1, x2, x3, x4⟩ := HCL.out _ B2.out
                  rcases d2 with _ | _
                  · skip
                    go_wp2_with fail
                    with_reducible refine (HD3.out w6 B2.out).mono ?_
                    rintro er w7 ⟨rfl, bb3⟩
                    have B3 := Lib.hid (B2.out.trans (bb3.out.mono B2.out.size))
                    clear bb3 x0 x1 x2 x3 x4
                    obtain ⟨x0, x1, x2, x3, x4⟩ := HCL.out _ B3.out
                    rcases d3 with _ | _
                    · skip
                      have HO7 := Lib.hid (HOWN.out w7 B3.out)
                      have hsz7 : w.heap.size ≤ w7.heap.size := by have := HLO.out.size; have := B3.out.size; omega
                      go_wp2_with (at_builtin; refine wpList_append_lies _ rfl _ _ _ rfl w.heap.size 81 ip _ 5 80 Tryz.underlying82 hpi hpz0 hpz1 hpz2 rfl (by omega) (.slice (some ⟨g, 0, none⟩) n cp) n (qC m m' es) rfl (HO7.out.alloc _) _ _ _ [.bool true, .slice (some ⟨dg1, 0, none⟩) m dc1, .bool false, .slice (some ⟨dg2, 0, none⟩) m' dc2, .string ⟨T.toArray⟩] rfl rfl (World.news_of_block (heap_alloc_new _ _)) (by simp [Value.oneCell']) (by omega) (by simp only [maxLen]; omega) (by omega) (by simp; omega) _ rfl ?_; intro g9 c9 w9 hown9 hgrow9 hat9 hlt9; have HF9 := Lib.hid (HGROW.out _ _ _ _ B3.out NA (by trivial) (grown_one ((Below.refl _ _).alloc (Nat.le_refl _) _) hgrow9) hown9); clear hown9 hgrow9 hat9 hlt9)
                      go_roundw
                      case rel => exact ⟨b + 1, g9, c9, n + 1, _, rfl, by go_num, by omega, by omega, Lib.hid (by rw [List.length_append, hn.out]; rfl), HF9⟩
                      case measure => simp only [intOf]; omega
                    · skip
                      go_wp2
                      go_roundw
                      case rel => exact ⟨b + 1, g, cp, n, es, rfl, by go_num, by omega, hlt, hn, Lib.hid (HPASS.out _ B3.out NA (.inr (.inr (by trivial))))⟩
                      case measure => simp only [intOf]; omega
                  · skip
                    go_wp2
                    go_roundw
                    case rel => exact ⟨b + 1, g, cp, n, es, rfl, by go_num, by omega, hlt, hn, Lib.hid (HPASS.out _ B2.out NA (.inr (.inl (by trivial))))⟩
                    case measure => simp only [intOf]; omega
                · skip
                  go_wp2
                  go_roundw
                  case rel => exact ⟨b + 1, g, cp, n, es, rfl, by go_num, by omega, hlt, hn, Lib.hid (HPASS.out _ B1.out NA (.inl (by trivial)))⟩
                  case measure => simp only [intOf]; omega
              · go_wp2
                go_ret2
                exact ⟨T, 0, rfl, Lib.hid (.inl ⟨rfl, HHIT.out (by trivial)⟩), HLO⟩
        · obtain rfl : b = 256 := by omega
          have j1 : ¬ ((256 : Nat) : Int) < 256 := by decide
          have HN : Hid (CoI w wr A A' m m' g cp (i + 1) 0 l l' es) := Lib.hid ⟨HC.out.lo, HC.out.r1, HC.out.r2, HC.out.q, HC.out.bf.next, HC.out.nd⟩
          go_wp2
          go_roundw
          case rel => exact ⟨i + 1, g, cp, n, es, rfl, by go_num, by omega, hn, HN⟩
          case measure => simp only [intOf]; omega
    · obtain rfl : i = n := by omega
      have i1 : ¬ (i : Int) < (i : Int) := by omega
      go_wp2
      go_ret2
      exact ⟨[], 3, rfl, Lib.hid (.inr ⟨rfl, rfl, fun v hv => HC.out.bf.out HH.out.1 HH.out.2 (by rw [qP_len, hn.out]) hv⟩), Lib.hid HC.out.lo⟩

end Go.Proofs.YtfkljlncnfeklaaGreatDoor
