/-
  Plain mathematics and contracts of package diagram, several texts in one: DRHol, DRSup, DSmI.
-/
import Derived.Test.YtefepaackdhiiaaDoorNd
import Derived.Test.YtefepaackdhiiaaDoorMs
namespace Go.Proofs.YtefepaackdhiiaaDoor
open Go.RowKit Dg St
set_option linter.unusedVariables false
set_option linter.unusedSimpArgs false
attribute [local go_sem ↓] Go.wp_at_zero Go.wp_at_succ
theorem bit_test1 {x V : Nat} (hx : x < 18446744073709551616) : (bits .and .u64 ((x : Int) / 2 ^ V) 1 == 1) = cfg x V := by
  have e : ((x : Int) / 2 ^ V) = ((x / 2 ^ V : Nat) : Int) := by simp
  have hlt : x / 2 ^ V < 18446744073709551616 := Nat.lt_of_le_of_lt (Nat.div_le_self _ _) hx
  rw [e]
  unfold cfg
  rw [Nat.testBit_eq_decide_div_mod_eq]
  clear e
  generalize x / 2 ^ V = y at *
  rw [and_one_u64 _ (by omega) (by omega)]
  rcases Nat.mod_two_eq_zero_or_one y with h | h
  · rw [decide_eq_false (by omega)]
    have : ((y : Int) % 2) = 0 := by omega
    rw [this]; rfl
  · rw [decide_eq_true h]
    have : ((y : Int) % 2) = 1 := by omega
    rw [this]; rfl
set_option maxHeartbeats 4000000 in
set_option maxRecDepth 100000 in
theorem rinn_ok (m c n x : Nat) (A : Option Addr) (f : Cfg → Bool) (w : World) (h0 : Hid (Dn w A m c n f)) (hx : x < 18446744073709551616) :
    Calls Tryd.prog 95 #[.agg #[.slice A m c, .int .i64 (n : Int)], .int .u64 (x : Int)] w fun e w' => e = .returned (.bool (f (cfg x))) ∧ Below w.heap.size w w' := by
  have HOR := Lib.hid h0.out.valid.good.ord
  have hrd := Lib.hid h0.out.rd
  have hm := Lib.hid h0.out.len
  have hm2 := h0.out.lm
  have hnl := h0.out.lt
  have hde := h0.out.den
  clear h0
  generalize (cn f).1 = M at *
  subst hde
  have X0 := nb2 w (.slice A m c) (.int .i64 (n : Int)) 24
  have HB2 := Lib.hid (ab2 w (.cells #[.slice A m c, .int .i64 (n : Int)] 24))
  obtain ⟨x0, x1, xn⟩ := xb2 X0
  go_enter Tryd.func95, Tryd.ntmps95
  go_upto_region 1 with fail
  generalize w.alloc (.cells #[.slice A m c, .int .i64 (n : Int)] 24) = w2 at *
  have HW0 := Lib.hid (Below.refl w2.heap.size w2)
  go_wp2_with fail
  go_loopw [5] (fun nn wr => ∃ k : Nat, k < m + 2 ∧ nn = .int .i64 k ∧ Hid (Den M k (cfg x) = Den M n (cfg x)) ∧ Hid (Below w2.heap.size w2 wr)) (fun nn _ => (intOf nn).toNat)
  case atStart => exact ⟨n, hnl, rfl, rfl, HW0.out⟩
  case round =>
    clear x0 x1
    obtain ⟨k, hk, rfl, hden, hbl⟩ := hrel
    have hbb := HB2.out.trans (hbl.out.mono HB2.out.size)
    obtain ⟨e1, _, hsr⟩ := xb2 (rb2 X0 hbl.out)
    by_cases h2 : 2 ≤ k
    · obtain ⟨kk, rfl⟩ : ∃ kk, k = kk + 2 := ⟨k - 2, by omega⟩
      have hkm : kk < m := by omega
      obtain ⟨b', o', e, hb, hc⟩ := (hrd.out.below hbb) (by rw [up_len, hm.out]; omega)
      subst e
      obtain ⟨g1, g2, g3⟩ := hc kk (by rw [up_len, hm.out]; exact hkm)
      rw [iv_up] at g1
      rw [il_up] at g2
      rw [ih_up] at g3
      obtain ⟨q1, q2, q3, _, _⟩ := HOR.out kk (by rw [hm.out]; exact hkm)
      have HST := Lib.hid (Den_br HOR.out (k := kk) (by rw [hm.out]; exact hkm) (cfg x))
      have hbx := hbl.out.alloc hbl.out.size (.cells #[.int .i64 ((bv M kk : Nat) : Int), .int .i64 ((bl M kk : Nat) : Int), .int .i64 ((bh M kk : Nat) : Int)] 72)
      clear hc h2
      generalize bv M kk = V at *
      generalize bl M kk = L at *
      generalize bh M kk = H at *
      have hbne : ¬ b' = wr.heap.size := by have := hbb.size; omega
      have i1 : (0 : Int) ≤ (V : Int) := by omega
      have hwu : IntKind.u64.wrap (V : Int) = (V : Int) := by rw [IntKind.wrap_u64]; omega
      have i3 : (1 : Int) < (kk : Int) + 2 := by omega
      have HQ2 : Hid (L < kk + 2 ∧ H < kk + 2) := ⟨q2, q3⟩
      rcases qb : cfg x V with _ | _
      · have hbt : (bits .and .u64 ((x : Int) / 2 ^ V) 1 == 1) = false := by rw [bit_test1 hx, qb]
        have HD : Hid (Den M L (cfg x) = Den M n (cfg x)) := by show _ = _; rw [← hden.out, HST.out, qb]; rfl
        clear qb
        go_wp2
        go_roundw
        case rel => exact ⟨L, by omega, rfl, HD, hbx⟩
        case measure => simp [intOf]; omega
      · have hbt : (bits .and .u64 ((x : Int) / 2 ^ V) 1 == 1) = true := by rw [bit_test1 hx, qb]
        have HD : Hid (Den M H (cfg x) = Den M n (cfg x)) := by show _ = _; rw [← hden.out, HST.out, qb]; rfl
        clear qb
        go_wp2
        go_roundw
        case rel => exact ⟨H, by omega, rfl, HD, hbx⟩
        case measure => simp [intOf]; omega
    · have HK : Hid (Den M k (cfg x) = ((k : Int) == 1)) := by
        show _ = _
        rcases Nat.lt_or_ge k 1 with h | h
        · obtain rfl : k = 0 := by omega
          rw [Den_zero]; rfl
        · obtain rfl : k = 1 := by omega
          rw [Den_one]; rfl
      have HBB := Lib.hid hbb
      clear hbb
      go_wp2
      go_ret
      exact ⟨ret_bool (by rw [← hden.out, HK.out]), HBB.out⟩
def hB (k : Int) (b : Bool) : Bool := if k = 0 then b else false
set_option maxHeartbeats 4000000 in
set_option maxRecDepth 100000 in
theorem rholds_any {w : World} {A0 : Option Addr} {m0 c0 : Nat} {l0 : List Bi} {r0 : Int} (h0 : Hid (DOk w (⟨A0, m0, c0, l0, r0⟩ : DA))) (q0 : m0 ≤ 40) (x : Nat) (hx : x < 18446744073709551616) :
    Calls Tryd.prog 47 #[.agg #[.slice A0 m0 c0, .int .i64 r0], .int .u64 (x : Int)] w fun e w' => e = .returned (.bool (hB (chk l0 r0) (dset l0 r0 (cfg x)))) ∧ Below w.heap.size w w' := by
  have X0 := nb2 w (.slice A0 m0 c0) (.int .i64 r0) 24
  have HB0 := Lib.hid (ab2 w (.cells #[.slice A0 m0 c0, .int .i64 r0] 24))
  have HF : Hid (∀ W, Below w.heap.size w W → Calls Tryd.prog 23 #[.agg #[.slice A0 m0 c0, .int .i64 r0]] W fun e w' => e = .returned (.int .i64 (chk l0 r0)) ∧ Below W.heap.size W w') := Lib.hid (fun W hW => rcheck_any l0 r0 m0 c0 A0 W (dkh h0 hW) (by omega))
  rcases chk_or (l := l0) (r := r0) (by have := h0.out.len; simp only at this; omega) with hk | hk
  rotate_left
  · rw [hk] at HF
    rw [hk, show hB 20 (dset l0 r0 (cfg x)) = false from if_neg (by decide)]
    clear h0 hk
    go_enter Tryd.func47, Tryd.ntmps47
    obtain ⟨x0, x1, xn⟩ := xb2 X0
    go_wp2_with fail
    generalize w.alloc (.cells #[.slice A0 m0 c0, .int .i64 r0] 24) = w1 at *
    with_reducible refine (HF.out w1 HB0.out).mono ?_
    rintro e w3 ⟨rfl, b3⟩
    have HB3 := btr HB0 b3 HB0.out.size
    clear b3
    go_wp2
    go_ret
    exact ⟨rfl, HB3.out⟩
  · rw [hk] at HF
    rw [hk, show hB 0 (dset l0 r0 (cfg x)) = dset l0 r0 (cfg x) from if_pos rfl]
    have D0 := Lib.hid (dn_dset h0.out hk)
    have e0 := chk_nat hk
    clear h0 hk
    generalize dset l0 r0 = f0 at *
    generalize r0.toNat = n0 at *
    subst e0
    have HC : Hid (∀ W, Below w.heap.size w W → Calls Tryd.prog 95 #[.agg #[.slice A0 m0 c0, .int .i64 (n0 : Int)], .int .u64 (x : Int)] W fun e w' => e = .returned (.bool (f0 (cfg x))) ∧ Below W.heap.size W w') := Lib.hid (fun W hW => rinn_ok m0 c0 n0 x A0 f0 W (rdn D0 hW) hx)
    clear D0
    generalize f0 (cfg x) = bb at *
    go_enter Tryd.func47, Tryd.ntmps47
    obtain ⟨x0, x1, xn⟩ := xb2 X0
    go_wp2_with fail
    generalize w.alloc (.cells #[.slice A0 m0 c0, .int .i64 (n0 : Int)] 24) = w1 at *
    with_reducible refine (HF.out w1 HB0.out).mono ?_
    rintro e w3 ⟨rfl, b3⟩
    replace X0 := rb2 X0 b3
    have HB3 := btr HB0 b3 HB0.out.size
    clear b3 x0 x1 xn
    obtain ⟨x0, x1, xn⟩ := xb2 X0
    go_wp2_with fail
    with_reducible refine (HC.out w3 HB3.out).mono ?_
    rintro e w4 ⟨rfl, b4⟩
    have HB4 := btr HB3 b4 HB3.out.size
    clear b4
    go_wp2
    go_ret
    exact ⟨rfl, HB4.out⟩
theorem dholds_any {w : World} {A0 : Option Addr} {m0 c0 : Nat} {l0 : List Bi} {r0 : Int} (h0 : Hid (DOk w (⟨A0, m0, c0, l0, r0⟩ : DA))) (q0 : m0 ≤ 40) (x : Nat) (hx : x < 18446744073709551616) :
    Calls Tryd.prog 46 #[.agg #[.slice A0 m0 c0, .int .i64 r0], .int .u64 (x : Int)] w fun e w' => e = .returned (.bool (hB (chk l0 r0) (dset l0 r0 (cfg x)))) ∧ Below w.heap.size w w' := by
  rcases chk_or (l := l0) (r := r0) (by have := h0.out.len; simp only at this; omega) with hk | hk
  rotate_left
  · rw [hk, show hB 20 (dset l0 r0 (cfg x)) = false from if_neg (by decide)]
    exact bad_holds (x : Int) (Lib.hid ⟨h0.out, hk⟩)
  · rw [hk, show hB 0 (dset l0 r0 (cfg x)) = dset l0 r0 (cfg x) from if_pos rfl]
    have D0 := Lib.hid (dn_dset h0.out hk)
    have e0 := chk_nat hk
    generalize dset l0 r0 = f0 at *
    generalize r0.toNat = n0 at *
    subst e0
    have k := holds_ok A0 c0 m0 n0 x (cn f0).1 w (Lib.hid D0.out.rd) (Lib.hid D0.out.valid) (Lib.hid D0.out.len) D0.out.lm D0.out.mc hx
    rw [D0.out.den] at k
    exact k
end Go.Proofs.YtefepaackdhiiaaDoor
namespace Go.Proofs.YtefepaackdhiiaaDoor
open Go.RowKit Dg St
set_option linter.unusedVariables false
set_option linter.unusedSimpArgs false
attribute [local go_sem ↓] Go.wp_at_zero Go.wp_at_succ
def supL (k : Int) (f : Cfg → Bool) : List Nat := if k = 0 then supn (cn f).1 64 else []
theorem supO_nil (w : World) {w' : World} (h : Below w.heap.size w w') : SupO w w' (.slice none 0 0) [] := ⟨⟨rfl, .inl ⟨rfl, rfl⟩⟩, h⟩
theorem dsup_any {w : World} {A0 : Option Addr} {m0 c0 : Nat} {l0 : List Bi} {r0 : Int} (h0 : Hid (DOk w (⟨A0, m0, c0, l0, r0⟩ : DA))) (q0 : m0 ≤ 40) :
    Calls Tryd.prog 49 #[.agg #[.slice A0 m0 c0, .int .i64 r0]] w fun e w' => ∃ v, e = .returned v ∧ SupO w w' v (supL (chk l0 r0) (dset l0 r0)) := by
  rcases chk_or (l := l0) (r := r0) (by have := h0.out.len; simp only at this; omega) with hk | hk
  rotate_left
  · rw [hk, show supL 20 (dset l0 r0) = [] from if_neg (by decide)]
    exact (bad_support (Lib.hid ⟨h0.out, hk⟩)).mono fun e w' ⟨he, hb⟩ => ⟨_, he, supO_nil w hb⟩
  · rw [hk, show supL 0 (dset l0 r0) = supn (cn (dset l0 r0)).1 64 from if_pos rfl]
    have D0 := Lib.hid (dn_dset h0.out hk)
    have e0 := chk_nat hk
    generalize dset l0 r0 = f0 at *
    generalize r0.toNat = n0 at *
    subst e0
    exact support_ok m0 c0 n0 A0 f0 w D0
set_option maxHeartbeats 8000000 in
set_option maxRecDepth 100000 in
theorem rsup_any {w : World} {A0 : Option Addr} {m0 c0 : Nat} {l0 : List Bi} {r0 : Int} (h0 : Hid (DOk w (⟨A0, m0, c0, l0, r0⟩ : DA))) (q0 : m0 ≤ 40) :
    Calls Tryd.prog 50 #[.agg #[.slice A0 m0 c0, .int .i64 r0]] w fun e w' => ∃ v, e = .returned v ∧ SupO w w' v (supL (chk l0 r0) (dset l0 r0)) := by
  obtain ⟨i0, hi, hz0, hz1, hz2⟩ := info_parts Tryd.infoInt
  have X0 := rb2 (nb2 w (.slice A0 m0 c0) (.int .i64 r0) 24) (ab2 _ (.cells #[] 3))
  have b1 := ab2 w (.cells #[.slice A0 m0 c0, .int .i64 r0] 24)
  have HB0 : Hid (Below w.heap.size w ((w.alloc (.cells #[.slice A0 m0 c0, .int .i64 r0] 24)).alloc (.cells #[] 3))) := Lib.hid (b1.trans ((ab2 _ _).mono b1.size))
  have hrow : ((w.alloc (.cells #[.slice A0 m0 c0, .int .i64 r0] 24)).alloc (.cells #[] 3)).ownsRow w.heap.size 3 1 (.slice (some ⟨w.heap.size + 1, 0, none⟩) 0 0) 0 [] :=
    ⟨rfl, .inr ⟨w.heap.size + 1, 0, #[], rfl, by omega, by
      have h := heap_alloc_new (w.alloc (.cells #[.slice A0 m0 c0, .int .i64 r0] 24)) (.cells #[] 3)
      rw [show (w.alloc (.cells #[.slice A0 m0 c0, .int .i64 r0] 24)).heap.size = w.heap.size + 1 by simp] at h
      exact h, Nat.le_refl _, Nat.zero_le _, rfl, rfl⟩⟩
  have HRW := Lib.hid hrow
  have HF : Hid (∀ W, Below w.heap.size w W → Calls Tryd.prog 23 #[.agg #[.slice A0 m0 c0, .int .i64 r0]] W fun e w' => e = .returned (.int .i64 (chk l0 r0)) ∧ Below W.heap.size W w') := Lib.hid (fun W hW => rcheck_any l0 r0 m0 c0 A0 W (dkh h0 hW) (by omega))
  clear b1 hrow
  rcases chk_or (l := l0) (r := r0) (by have := h0.out.len; simp only at this; omega) with hk | hk
  rotate_left
  · rw [hk] at HF
    rw [hk, show supL 20 (dset l0 r0) = [] from if_neg (by decide)]
    clear h0 hk
    go_enter Tryd.func50, Tryd.ntmps50
    obtain ⟨x0, x1, xn⟩ := xb2 X0
    go_wp2_with fail
    generalize (w.alloc (.cells #[.slice A0 m0 c0, .int .i64 r0] 24)).alloc (.cells #[] 3) = w1 at *
    with_reducible refine (HF.out w1 HB0.out).mono ?_
    rintro e w3 ⟨rfl, b3⟩
    have HR3 := Lib.hid (own_below HRW.out b3)
    have HB3 := btr HB0 b3 HB0.out.size
    clear b3
    go_wp2
    go_ret
    exact ⟨_, rfl, HR3.out, HB3.out⟩
  · rw [hk] at HF
    rw [hk, show supL 0 (dset l0 r0) = supn (cn (dset l0 r0)).1 64 from if_pos rfl]
    have D0 := Lib.hid (dn_dset h0.out hk)
    have e0 := chk_nat hk
    clear h0 hk
    generalize dset l0 r0 = f0 at *
    generalize r0.toNat = n0 at *
    subst e0
    have HRD := Lib.hid D0.out.rd
    have HORD := Lib.hid D0.out.valid.good.ord
    have HLEN := Lib.hid D0.out.len
    clear D0
    generalize (cn f0).1 = M at *
    go_enter Tryd.func50, Tryd.ntmps50
    obtain ⟨x0, x1, xn⟩ := xb2 X0
    go_wp2_with fail
    generalize (w.alloc (.cells #[.slice A0 m0 c0, .int .i64 (n0 : Int)] 24)).alloc (.cells #[] 3) = w1 at *
    with_reducible refine (HF.out w1 HB0.out).mono ?_
    rintro e w3 ⟨rfl, b3⟩
    have HR3 := Lib.hid (own_below HRW.out b3)
    have X3 := rb2 X0 b3
    have HB3 := btr HB0 b3 HB0.out.size
    clear b3 x0 x1 xn X0 HB0 HRW HF
    have hx3 := X3.out.lt (by omega)
    go_wp2_with fail
    go_loopw [3, 4] (fun u i wr => ∃ j : Nat, j ≤ 64 ∧ i = .int .i64 (j : Int) ∧ Hid (SupO w wr u (supn M j)) ∧ Hid (B2 wr w.heap.size (.slice A0 m0 c0) (.int .i64 (n0 : Int))) ∧ Hid (∀ q, u.ownBlock = some q → w.heap.size < q)) (fun _ i _ => 64 - (intOf i).toNat)
    case atStart => exact ⟨0, Nat.zero_le _, rfl, Lib.hid ⟨HR3.out, HB3.out⟩, X3, Lib.hid (fun q e => by simp only [Value.ownBlock, Option.some.injEq] at e; omega)⟩
    case round =>
      obtain ⟨j, hj, rfl, hsu, hX, hU⟩ := hrel
      have hsb := hsu.out.2.size
      by_cases hlt : j < 64
      · have hj2 : (j : Int) < 64 := by omega
        obtain ⟨x0, x1, xn⟩ := xb2 hX
        go_wp2_with fail
        go_loopw [5, 6] (fun f i wr' => ∃ k : Nat, k ≤ m0 ∧ i = .int .i64 (k : Int) ∧ f = .bool (sv (M.take k) j) ∧ wr' = wr) (fun _ i _ => m0 - (intOf i).toNat)
        case atStart => exact ⟨0, Nat.zero_le _, rfl, rfl, rfl⟩
        case round =>
          obtain ⟨k, hk, rfl, rfl, rfl⟩ := hrel
          by_cases hk2 : k < m0
          · have hkM : k < M.length := by rw [HLEN.out]; exact hk2
            obtain ⟨b', o', e', hb', hc'⟩ := (HRD.out.below hsu.out.2) (by rw [up_len]; omega)
            subst e'
            obtain ⟨d0, _, _⟩ := hc' k (by rw [up_len]; exact hkM)
            rw [iv_up] at d0
            have hsv := Lib.hid (sv_succ hkM j)
            have i1 : (0 : Int) ≤ (k : Int) := by omega
            have i2 : (k : Int) < (m0 : Int) := by omega
            clear hc'
            generalize bv M k = V at *
            rcases hq : sv (M.take k) j with _ | _
            · by_cases e : V = j
              · have e1 : ((V : Int) == (j : Int)) = true := by rw [e]; simp
                have HV : Hid (sv (M.take (k + 1)) j = true) := Lib.hid (by rw [hsv.out, e]; simp)
                clear hq
                go_wp2
                go_roundw
                case rel => exact ⟨k + 1, by omega, by go_num, by rw [HV.out], by first | trivial | rfl⟩
                case measure => simp [intOf]; omega
              · have e1 : ((V : Int) == (j : Int)) = false := beq_eq_false_iff_ne.2 (by omega)
                have HV : Hid (sv (M.take (k + 1)) j = false) := Lib.hid (by rw [hsv.out, hq, beq_eq_false_iff_ne.2 e]; rfl)
                clear hq
                go_wp2
                go_roundw
                case rel => exact ⟨k + 1, by omega, by go_num, by rw [HV.out], by first | trivial | rfl⟩
                case measure => simp [intOf]; omega
            · have HV : Hid (sv (M.take (k + 1)) j = true) := Lib.hid (by rw [hsv.out, hq]; rfl)
              clear hq
              go_wp2
              go_roundw
              case rel => exact ⟨k + 1, by omega, by go_num, by rw [HV.out], by first | trivial | rfl⟩
              case measure => simp [intOf]; omega
          · obtain rfl : k = m0 := by omega
            have ht : M.take k = M := by rw [← HLEN.out, List.take_length]
            rw [ht]
            rcases hq : sv M j with _ | _
            · have HY := Lib.hid (supn_no hq)
              clear hq
              go_wp2
              go_roundw
              case rel => exact ⟨j + 1, by omega, by go_num, by rw [HY.out]; exact hsu, hX, hU⟩
              case measure => simp [intOf]; omega
            · have HY := Lib.hid (supn_yes hq)
              have HL := Lib.hid (supn_len M j)
              have HO := Lib.hid hsu.out.1
              have HBS := Lib.hid hsu.out.2
              clear hsu hq
              generalize supn M j = S at *
              go_wp2_with (refine wpList_append_lies _ rfl _ _ _ rfl w.heap.size 3 i0 _ 1 8 Tryd.underlying49 hi hz0 hz1 hz2 rfl (by omega) u3 S.length (ints S) rfl (HO.out.alloc _) _ _ _ [.int .i64 (j : Int)] rfl rfl (World.news_of_block (heap_alloc_new _ _)) (by simp [Value.oneCell']) (by omega) (by have := HL.out; simp only [maxLen]; omega) (by have := HL.out; omega) (by have := HBS.out.size; simp; omega) _ rfl ?_; intro gn cap w7 hown hgrow hat hlt7)
              go_roundw
              case rel =>
                have hba := HBS.out.alloc HBS.out.size (.cells #[.int .i64 (j : Int)] 3)
                have hx7 : B2 w7 w.heap.size (.slice A0 k c0) (.int .i64 (n0 : Int)) := by
                  have h1 := hX.out.alloc (by omega) (.cells #[.int .i64 (j : Int)] 3)
                  refine h1.keep (w' := w7) (hgrow.block w.heap.size (by simp; omega) (fun e => ?_))
                  have := hU.out w.heap.size e.symm
                  omega
                refine ⟨j + 1, by omega, by go_num, ?_, Lib.hid hx7, Lib.hid (fun q e => ?_)⟩
                · rw [HY.out]
                  refine Lib.hid ⟨?_, hba.trans ((Chg.of_grown (S := fun q => u3.ownBlock = some q) hgrow (fun q e => e)).below hba.size (fun q hq e => ?_))⟩
                  · rw [List.length_append, List.length_singleton]
                    have e : ints (S ++ [j]) = ints S ++ [.int .i64 (j : Int)] := by unfold ints; rw [List.map_append]; rfl
                    rw [e]
                    exact hown
                  · have := (World.ownsRow.lt HO.out q e).1
                    omega
                · simp only [Value.ownBlock, Option.some.injEq] at e
                  subst e
                  rcases hat with e | e
                  · exact hU.out _ e
                  · rw [e]; simp; omega
              case measure => simp [intOf]; omega
      · obtain rfl : j = 64 := by omega
        go_wp2
        go_ret
        exact ⟨_, rfl, hsu.out⟩
end Go.Proofs.YtefepaackdhiiaaDoor
namespace Go.Proofs.YtefepaackdhiiaaDoor
open Go.RowKit Dg St
set_option linter.unusedVariables false
set_option linter.unusedSimpArgs false
attribute [local go_sem ↓] Go.wp_at_zero Go.wp_at_succ
theorem own_shape {w : World} {base e size n : Nat} {v : Value} {xs : List Value} (h : w.ownsRow base e size v n xs) : ∃ A c, v = .slice A n c ∧ (0 < n → ∃ g, A = some ⟨g, 0, none⟩) := by
  rcases h.2 with ⟨rfl, rfl⟩ | ⟨g, cap, cur, rfl, _⟩
  · exact ⟨none, 0, rfl, fun h => absurd h (by omega)⟩
  · exact ⟨_, cap, rfl, fun _ => ⟨g, rfl⟩⟩
set_option maxHeartbeats 4000000 in
set_option maxRecDepth 100000 in
theorem lsame_ints {w : World} {b1 b2 : Nat} {u v : Value} {L : List Nat} (hu : Hid (w.ownsRow b1 3 1 u L.length (ints L))) (hv : Hid (w.ownsRow b2 3 1 v L.length (ints L))) (hl : L.length ≤ 1000) :
    Calls Tryd.prog 48 #[u, v] w fun e w' => e = .returned (.bool true) ∧ Below w.heap.size w w' := by
  obtain ⟨A, c, rfl, hA⟩ := own_shape hu.out
  obtain ⟨A', c', rfl, hA'⟩ := own_shape hv.out
  obtain ⟨n, hn⟩ : ∃ n, L.length = n := ⟨_, rfl⟩
  rw [hn] at hu hv hA hA' hl ⊢
  have HN := Lib.hid hn
  clear hn
  have R0 := Below.refl w.heap.size w
  have hnn : ((n : Int) != (n : Int)) = false := by simp
  go_enter Tryd.func48, Tryd.ntmps48
  go_wp2
  go_loopw [5] (fun i wr => ∃ (k q : Nat), k ≤ n ∧ i = .int .i64 (k : Int) ∧ wr = w.drewN q) (fun i _ => n - (intOf i).toNat)
  case atStart => exact ⟨0, 0, Nat.zero_le _, rfl, rfl⟩
  case round =>
    obtain ⟨k, q, hk, rfl, rfl⟩ := hrel
    by_cases hlt : k < n
    · obtain ⟨g, rfl⟩ := hA (by omega)
      obtain ⟨g', rfl⟩ := hA' (by omega)
      have c0 := (hu.out.cellAt k (by omega)).trans (ints_at (by rw [HN.out]; exact hlt))
      have c1 := (hv.out.cellAt k (by omega)).trans (ints_at (by rw [HN.out]; exact hlt))
      generalize L.getD k 0 = z at *
      have i1 : (0 : Int) ≤ (k : Int) := by omega
      have i2 : (k : Int) < (n : Int) := by omega
      have hzz : ((z : Int) != (z : Int)) = false := by simp
      go_wp2
      go_quiet (fail)
      go_wp2
      go_roundw
      case rel => exact ⟨k + 1, _, by omega, by go_num, by first | rfl | exact World.drewN_drewN _ _ _⟩
      case measure => simp [intOf]; omega
    · obtain rfl : k = n := by omega
      go_wp2
      go_ret
      exact ⟨rfl, below_drewN R0 _⟩
def VarO (w w' : World) (v : Int) (e : Ending) : Prop := (∃ (A : Option Addr) (m c : Nat), e = .returned (.tuple #[.agg #[.slice A m c, .int .i64 ((if conB v then 2 else 0 : Nat) : Int)], .int .i64 (if conB v then 0 else 1)]) ∧ (if conB v then [(v.toNat, 0, 1)] else ([] : List Br)).length = m ∧ Rd w' w'.heap.size A (up (if conB v then [(v.toNat, 0, 1)] else []))) ∧ Below w.heap.size w w'
theorem dvar_any (v : Int) (w : World) : Calls Tryd.prog 43 #[.int .i64 v] w fun e w' => VarO w w' v e := by
  rcases h : conB v with _ | _
  · refine (var_bad v w h).mono ?_
    rintro e w' ⟨rfl, hb⟩
    unfold VarO
    rw [h]
    exact ⟨⟨none, 0, 0, rfl, rfl, Rd.nil⟩, hb⟩
  · obtain ⟨n, rfl⟩ : ∃ n : Nat, v = (n : Int) := ⟨v.toNat, by unfold conB at h; simp at h; omega⟩
    refine (var_ok n w h).mono ?_
    rintro e w' ⟨A, rfl, hr, hb⟩
    unfold VarO
    rw [h]
    exact ⟨⟨A, 1, 1, rfl, rfl, hr⟩, hb⟩
set_option maxHeartbeats 2000000 in
set_option maxRecDepth 100000 in
theorem rvar_bad (v : Int) (w : World) (h : v < 0 ∨ 63 < v) : Calls Tryd.prog 44 #[.int .i64 v] w fun e w' => e = .returned (.tuple #[.agg #[.slice none 0 0, .int .i64 0], .int .i64 1]) ∧ Below w.heap.size w w' := by
  have X0 := nb2 w (.slice none 0 0) (.int .i64 0) 24
  have HB := Lib.hid (ab2 w (.cells #[.slice none 0 0, .int .i64 0] 24))
  have hlt := X0.out.lt (by omega)
  have fin : ∀ W, Below w.heap.size w W → W.cell? ⟨w.heap.size, 0, none⟩ = W.cell? ⟨w.heap.size, 0, none⟩ := fun _ _ => rfl
  by_cases h0 : v < 0
  · go_enter Tryd.func44, Tryd.ntmps44
    go_upto_region 1 with fail
    generalize w.alloc (.cells #[.slice none 0 0, .int .i64 0] 24) = w1 at *
    obtain ⟨y0, y0f⟩ := X0.out 0 (by omega)
    obtain ⟨y1, y1f⟩ := X0.out 1 (by omega)
    go_wp2
    refine bodyPost_ret (v := .tuple #[.agg #[.slice none 0 0, .int .i64 0], .int .i64 1]) ?_ rfl ⟨rfl, ?_⟩
    · rw [results_cell_tmp rfl]
      go_simp
    · exact (HB.out.setCell (Nat.le_refl _) _).setCell (Nat.le_refl _) _
  · have h1 : v > 63 := by omega
    go_enter Tryd.func44, Tryd.ntmps44
    go_upto_region 1 with fail
    generalize w.alloc (.cells #[.slice none 0 0, .int .i64 0] 24) = w1 at *
    obtain ⟨y0, y0f⟩ := X0.out 0 (by omega)
    obtain ⟨y1, y1f⟩ := X0.out 1 (by omega)
    go_wp2
    refine bodyPost_ret (v := .tuple #[.agg #[.slice none 0 0, .int .i64 0], .int .i64 1]) ?_ rfl ⟨rfl, ?_⟩
    · rw [results_cell_tmp rfl]
      go_simp
    · exact (HB.out.setCell (Nat.le_refl _) _).setCell (Nat.le_refl _) _
theorem rvar_any (v : Int) (w : World) : Calls Tryd.prog 44 #[.int .i64 v] w fun e w' => VarO w w' v e := by
  by_cases h : v < 0 ∨ 63 < v
  · refine (rvar_bad v w h).mono ?_
    rintro e w' ⟨rfl, hb⟩
    unfold VarO
    rw [con_no h]
    exact ⟨⟨none, 0, 0, rfl, rfl, Rd.nil⟩, hb⟩
  · obtain ⟨n, rfl⟩ : ∃ n : Nat, v = (n : Int) := ⟨v.toNat, by omega⟩
    have hc : conB (n : Int) = true := con_yes (by omega)
    refine (rvar_ok n w (by omega)).mono ?_
    rintro e w' ⟨A, rfl, hr, hb⟩
    unfold VarO
    rw [hc]
    exact ⟨⟨A, 1, 1, rfl, rfl, hr⟩, hb⟩
end Go.Proofs.YtefepaackdhiiaaDoor
