/-
  Plain mathematics and contracts of package diagram, several texts in one: XRv, XTx, XCp.
-/
import Derived.Test.YtfkljlncnfeklaaGreatDoorPl
import Derived.Shelf.SlicesE.Reverse

/-! slices.Reverse at []byte: the shelf's contract at this translation. -/
namespace Go.Proofs.YtfkljlncnfeklaaGreatDoor
open Go.RowKit Go.Shelf Go.Sort
set_option linter.unusedVariables false
set_option linter.unusedSimpArgs false

def revBy_ren : Go.Shelf.Ren := ⟨fun | 35 => 101 | n => n, fun | 22 => 22 | 23 => 5 | 3 => 3 | 4 => 4 | 0 => 0 | n => n, fun | n => n⟩
theorem revBy : Go.Proofs.SlLaysE.n35 Tryz.prog revBy_ren := {
  mixed := by kernel_rfl
  f35 := ⟨"slices.Reverse[[]byte,byte]", by decide, Tryz.func101.trans (congrArg some (by kernel_rfl))⟩
  t0 := Tryz.underlying0
  a0 := Tryz.isAgg0
  z0 := Tryz.sizeOf0
  v0 := Tryz.zeroValue0
  t3 := Tryz.underlying3
  a3 := Tryz.isAgg3
  z3 := Tryz.sizeOf3
  v3 := Tryz.zeroValue3
  t4 := Tryz.underlying4
  a4 := Tryz.isAgg4
  z4 := Tryz.sizeOf4
  v4 := Tryz.zeroValue4
  t22 := Tryz.underlying22
  a22 := Tryz.isAgg22
  z22 := Tryz.sizeOf22
  v22 := Tryz.zeroValue22
  a23 := Tryz.isAgg5
  z23 := Tryz.sizeOf5 }
def encB (b : UInt8) : Value := .int .u8 ((b.toNat : Nat) : Int)
theorem rev_any (B g n cap : Nat) (l : List UInt8) (w : World) (h : w.ownsRow B 5 1 (.slice (some ⟨g, 0, none⟩) n cap) n (bc l)) (hn : l.length = n) (h63 : n ≤ 9223372036854775807) :
    Calls Tryz.prog 101 #[.slice (some ⟨g, 0, none⟩) n cap] w fun e w' => e = .returned (.tuple #[]) ∧ (∀ j, ∀ hj : j < l.reverse.length, w'.cell? ⟨g, j, none⟩ = some (.int .u8 (((l.reverse[j]'hj).toNat : Nat) : Int))) ∧ Below B w w' := by
  subst hn
  have hH : Holds encB w g 0 l.toArray := fun j hj => by
    have hj' : j < l.length := by simpa using hj
    rw [Nat.zero_add]
    refine ⟨?_, World.ownsRow.frozenAt h _⟩
    rw [World.ownsRow.cellAt h j (by omega)]
    simp [bc, hj', encB]
  have hB := World.ownsRow.lt h g rfl
  refine (AnyE.slices_Reverse revBy encB (fun x => rfl) g 0 cap l w hH h63).mono ?_
  rintro e w' ⟨he, k, hw⟩
  subst hw
  refine ⟨he, fun j hj => ?_, ?_⟩
  · have h1 := cell?_putRow encB (Sort.ahead w k) g 0 l.toArray l.reverse.toArray (holds_ahead encB w k g 0 l.toArray hH) (by simp) j (by simpa using hj)
    rw [Nat.zero_add] at h1
    rw [h1]
    simp only [encB]
    rw [getElem!_pos _ j (by simpa using hj)]
    simp
  · refine ⟨rfl, rfl, rfl, by simp, fun i hi => ?_⟩
    have hne : g ≠ i := by omega
    simp [putRow, mapBlock, Array.getElem?_modify, hne]

end Go.Proofs.YtfkljlncnfeklaaGreatDoor

/-! search.text. -/
namespace Go.Proofs.YtfkljlncnfeklaaGreatDoor
open Go.RowKit Go.Shelf
set_option linter.unusedVariables false
set_option linter.unusedSimpArgs false
attribute [local go_sem ↓] Go.wp_at_zero Go.wp_at_succ

theorem own_one8 {w : World} (b : UInt8) : (w.alloc (.cells #[.int .u8 ((b.toNat : Nat) : Int)] 5)).ownsRow w.heap.size 5 1 (.slice (some ⟨w.heap.size, 0, none⟩) 1 1) 1 (bc [b]) :=
  ⟨rfl, .inr ⟨w.heap.size, 1, _, rfl, Nat.le_refl _, heap_alloc_new w _, Nat.le_refl _, by simp [maxLen], rfl, rfl⟩⟩
/-- the fronts in memory, as text reads them: their texts tx -/
structure FrV (w : World) (xb fb n cap : Nat) (be : Nat → Int) (la : Nat → UInt8) (tx : Nat → List UInt8) : Prop where
  x : w.cell? ⟨xb, 4, none⟩ = some (.slice (some ⟨fb, 0, none⟩) n cap)
  c : ∀ i, i < n → w.cell? ⟨fb, i * 3, none⟩ = some (.int .i64 (be i)) ∧ w.cell? ⟨fb, i * 3 + 1, none⟩ = some (.int .u8 (((la i).toNat : Nat) : Int))
  t : ∀ i, i < n → (be i = -1 ∧ tx i = []) ∨ (∃ p : Nat, p < i ∧ be i = (p : Int) ∧ tx i = tx p ++ [la i])
  xl : xb < w.heap.size
  fl : fb < w.heap.size
theorem FrV.below {w w' : World} {xb fb n cap : Nat} {be : Nat → Int} {la : Nat → UInt8} {tx : Nat → List UInt8} (h : FrV w xb fb n cap be la tx) (hb : Below w.heap.size w w') : FrV w' xb fb n cap be la tx :=
  ⟨(hb.cell (p := ⟨xb, _, none⟩) h.xl).trans h.x, fun i hi => ⟨(hb.cell (p := ⟨fb, _, none⟩) h.fl).trans (h.c i hi).1, (hb.cell (p := ⟨fb, _, none⟩) h.fl).trans (h.c i hi).2⟩, h.t, Nat.lt_of_lt_of_le h.xl hb.size, Nat.lt_of_lt_of_le h.fl hb.size⟩
set_option maxRecDepth 100000 in
set_option maxHeartbeats 4000000 in
theorem text_any (xb fb n cap a : Nat) (be : Nat → Int) (la : Nat → UInt8) (tx : Nat → List UInt8) (b : UInt8) (w : World) (hF : Hid (FrV w xb fb n cap be la tx)) (ha : a < n) (hn : n ≤ 1000000) :
    Calls Tryz.prog 90 #[.pointer (some ⟨xb, 0, none⟩), .int .i64 (a : Int), .int .u8 ((b.toNat : Nat) : Int)] w fun e w' => e = .returned (.string ⟨(tx a ++ [b]).toArray⟩) ∧ Below w.heap.size w w' := by
  obtain ⟨i0, hi, hz0, hz1, hz2⟩ := info_parts infU8
  have HO := Lib.hid (own_one8 (w := w) b)
  have HB := Lib.hid ((Below.refl w.heap.size w).alloc (Nat.le_refl _) (.cells #[.int .u8 ((b.toNat : Nat) : Int)] 5))
  go_enter Tryz.func90, Tryz.ntmps90
  go_upto_region 2 with fail
  generalize World.alloc w _ = w1 at *
  go_wp2
  go_loopw [1, 7] (fun v1 v7 wr => ∃ (k m g cp : Nat) (acc : List UInt8), k < n ∧ k ≤ a ∧ acc.length = m ∧ m + k ≤ a + 1 ∧ v1 = .int .i64 (k : Int) ∧ v7 = .slice (some ⟨g, 0, none⟩) m cp ∧ Hid (wr.ownsRow w.heap.size 5 1 (.slice (some ⟨g, 0, none⟩) m cp) m (bc acc)) ∧ Hid (tx a ++ [b] = tx k ++ acc.reverse) ∧ Hid (Below w.heap.size w wr)) (fun v1 v7 wr => (intOf v1).toNat)
  case atStart => exact ⟨a, 1, _, _, [b], ha, Nat.le_refl _, rfl, by omega, rfl, rfl, HO, Lib.hid rfl, HB⟩
  case round =>
    clear HO HB
    obtain ⟨k, m, g, cp, acc, hk, hka, hm, hma, rfl, rfl, HOW, HTX, HBW⟩ := hrel
    have hFr := hF.out.below HBW.out
    have x4 := hFr.x
    obtain ⟨c0, c1⟩ := hFr.c k hk
    have ht := hFr.t k hk
    clear hFr
    have k0 : (0 : Int) ≤ (k : Int) := by omega
    have k1 : (k : Int) < (n : Int) := by omega
    have hBw : w.heap.size ≤ wr.heap.size := HBW.out.size
    generalize hbk : be k = bk at *
    generalize la k = lk at *
    have HBK := Lib.hid hbk
    clear hbk
    rcases ht with ⟨rfl, htx⟩ | ⟨p, hp, rfl, htx⟩
    · have HE := Lib.hid (show tx a ++ [b] = acc.reverse by rw [HTX.out, htx]; rfl)
      have RV := Lib.hid (rev_any w.heap.size g m cp acc wr HOW.out hm (by omega))
      clear htx
      go_upto_region 6 with (go_at_call 101; with_reducible refine RV.out.mono ?_; rintro e w2 ⟨rfl, hc, hb⟩; have C2 := Lib.hid hc; have B2 := Lib.hid (HBW.out.trans hb); clear hc hb)
      have hcv : (convert 22 9 (.slice (some ⟨g, 0, none⟩) m cp)).run Tryz.prog w2 = .ok (.string ⟨acc.reverse.toArray⟩) w2 := by
        have := run_convert_bytes_back (P := Tryz.prog) w2 22 9 5 ⟨g, 0, none⟩ cp acc.reverse Tryz.underlying22 Tryz.underlying5 Tryz.underlying9 (fun j hj => by rw [addr_add', Nat.zero_add]; exact C2.out j hj)
        rw [List.length_reverse, hm] at this
        exact this
      go_wp2
      go_ret
      exact ⟨by rw [HE.out]; rfl, B2.out⟩
    · have hp0 : (0 : Int) ≤ (p : Int) := by omega
      have HE := Lib.hid (show tx a ++ [b] = tx p ++ (acc ++ [lk]).reverse by rw [HTX.out, htx]; simp)
      clear htx
      go_wp2_with (at_builtin; refine wpList_append_lies _ rfl _ _ _ rfl w.heap.size 5 i0 _ 1 1 Tryz.underlying22 hi hz0 hz1 hz2 rfl (by omega) (.slice (some ⟨g, 0, none⟩) m cp) m (bc acc) rfl (HOW.out.alloc _) _ _ _ [.int .u8 ((lk.toNat : Nat) : Int)] rfl rfl (World.news_of_block (heap_alloc_new _ _)) (by simp [Value.oneCell']) (by omega) (by simp only [maxLen]; omega) (by omega) (by simp; omega) _ rfl ?_)
      intro g2 c2 w4 hown hgrow hat hlt2
      have HO4 := Lib.hid (show w4.ownsRow w.heap.size 5 1 (.slice (some ⟨g2, 0, none⟩) (m + 1) c2) (m + 1) (bc (acc ++ [lk])) by rw [bc_app]; exact hown)
      have HB4 := Lib.hid ((HBW.out.alloc hBw _).grown hgrow (by simp; omega) (fun r e => (HOW.out.lt r e).1))
      clear hown hgrow hat hlt2 x4 c0 c1
      have hFr := hF.out.below HB4.out
      have x4 := hFr.x
      have c0 := (hFr.c k hk).1
      rw [HBK.out] at c0
      clear hFr
      go_wp2
      go_roundw
      case rel => exact ⟨p, m + 1, _, _, acc ++ [lk], by omega, by omega, by rw [List.length_append, hm]; rfl, by omega, rfl, rfl, HO4, HE, HB4⟩
      case measure => simp only [intOf]; omega

end Go.Proofs.YtfkljlncnfeklaaGreatDoor

/-! cmp.Compare at int, and the closure that advance gives to slices.SortFunc. -/
namespace Go.Proofs.YtfkljlncnfeklaaGreatDoor
open Go.RowKit Go.Shelf
set_option linter.unusedVariables false
set_option linter.unusedSimpArgs false
attribute [local go_sem ↓] Go.wp_at_zero Go.wp_at_succ

/-- what Compare answers -/
def cpI (a b : Int) : Int := if a < b then -1 else if b < a then 1 else 0
set_option maxRecDepth 100000 in
set_option maxHeartbeats 1000000 in
theorem isnan_any (a : Int) (w : World) : Calls Tryz.prog 100 #[.int .i64 a] w fun e w' => e = .returned (.bool false) ∧ w' = w := by
  go_enter Tryz.func100, Tryz.ntmps100
  go_wp2
  go_ret
  exact ⟨by simp, rfl⟩
set_option maxRecDepth 100000 in
set_option maxHeartbeats 1000000 in
theorem compare_any (a b : Int) (w : World) : Calls Tryz.prog 89 #[.int .i64 a, .int .i64 b] w fun e w' => e = .returned (.int .i64 (cpI a b)) ∧ w' = w := by
  have N1 := Lib.hid (isnan_any a w)
  have N2 := Lib.hid (isnan_any b w)
  by_cases h1 : a < b
  · have hc : cpI a b = -1 := if_pos h1
    rw [hc]
    clear hc
    go_enter Tryz.func89, Tryz.ntmps89
    go_wp2_with (first
      | (go_at_call 100; with_reducible refine N1.out.mono ?_; rintro e w1 ⟨rfl, hw⟩; cases hw)
      | (go_at_call 100; with_reducible refine N2.out.mono ?_; rintro e w1 ⟨rfl, hw⟩; cases hw))
    go_ret
    exact ⟨rfl, rfl⟩
  · by_cases h2 : b < a
    · have hc : cpI a b = 1 := by unfold cpI; rw [if_neg h1, if_pos h2]
      rw [hc]
      clear hc
      go_enter Tryz.func89, Tryz.ntmps89
      go_wp2_with (first
        | (go_at_call 100; with_reducible refine N1.out.mono ?_; rintro e w1 ⟨rfl, hw⟩; cases hw)
        | (go_at_call 100; with_reducible refine N2.out.mono ?_; rintro e w1 ⟨rfl, hw⟩; cases hw))
      go_ret
      exact ⟨rfl, rfl⟩
    · have hc : cpI a b = 0 := by unfold cpI; rw [if_neg h1, if_neg h2]
      rw [hc]
      clear hc
      go_enter Tryz.func89, Tryz.ntmps89
      go_wp2_with (first
        | (go_at_call 100; with_reducible refine N1.out.mono ?_; rintro e w1 ⟨rfl, hw⟩; cases hw)
        | (go_at_call 100; with_reducible refine N2.out.mono ?_; rintro e w1 ⟨rfl, hw⟩; cases hw))
      go_ret
      exact ⟨rfl, rfl⟩
/-- two pairs by their least bytes -/
theorem bylow_any (a0 a1 a2 b0 b1 b2 : Int) (w : World) : Calls Tryz.prog 88 #[.agg #[.int .i64 a0, .int .i64 a1, .int .i64 a2], .agg #[.int .i64 b0, .int .i64 b1, .int .i64 b2]] w fun e w' => e = .returned (.int .i64 (cpI a2 b2)) ∧ w' = (w.alloc (.cells #[.int .i64 a0, .int .i64 a1, .int .i64 a2] 148)).alloc (.cells #[.int .i64 b0, .int .i64 b1, .int .i64 b2] 148) := by
  have C := Lib.hid (fun W => compare_any a2 b2 W)
  go_enter Tryz.func88, Tryz.ntmps88
  go_wp2_with (go_at_call 89; with_reducible refine (C.out _).mono ?_; rintro e w1 ⟨rfl, hw⟩; subst hw)
  go_ret
  exact ⟨rfl, rfl⟩

end Go.Proofs.YtfkljlncnfeklaaGreatDoor
