/-
  DiagramRejectsInvalid: the walk.
-/
import Derived.Test.YtmfinkaphglmjaaDoorMw
import Derived.Deep.RegionHeld3
namespace Go.Proofs.YtmfinkaphglmjaaDoor
open Go.RowKit Dg St
set_option linter.unusedVariables false
set_option linter.unusedSimpArgs false
attribute [local go_sem ↓] Go.wp_at_zero Go.wp_at_succ

theorem constant_nilR (w : World) : Calls Tryd.prog 52 #[.bool false] w fun e w' => e = .returned (.agg #[.slice none 0 0, .int .i64 0]) ∧ Below w.heap.size w w' := constant_any false w
theorem constant_oneR (w : World) : Calls Tryd.prog 52 #[.bool true] w fun e w' => e = .returned (.agg #[.slice none 0 0, .int .i64 1]) ∧ Below w.heap.size w w' := constant_any true w
theorem dn_trueR (w : World) : Dn w none 0 0 1 (fun _ => true) := ⟨by rw [cn_const]; exact Rd.nil, by rw [cn_const]; rfl, by rw [cn_const]; rfl, Nat.le_refl _, by omega, d64_const _⟩
theorem ok_check {w : World} {A : Option Addr} {m c : Nat} {l : List Bi} {r : Int} (h : Hid (DOk w ⟨A, m, c, l, r⟩)) (hc : chk l r = 0) :
    Calls Tryd.prog 22 #[.agg #[.slice A m c, .int .i64 r]] w fun e w' => e = .returned (.int .i64 0) ∧ Below w.heap.size w w' := by
  have h1 := h.out
  have := check_any l r m c A w (Lib.hid h1.rd) (Lib.hid h1.wi) (Lib.hid h1.len) h1.lm h1.mc (Lib.hid h1.ri)
  rwa [hc] at this
/-- behind the last operation: its box -/
structure An (wv wz : World) (g12 : Nat) (A9 : Option Addr) (m9 c9 r9 : Nat) (fb : Cfg → Bool) : Prop where
  bel : Below wv.heap.size wv wz
  box : B2 wz g12 (.slice A9 m9 c9) (.int .i64 (r9 : Int))
  dn : Dn wz A9 m9 c9 r9 fb
theorem an_z {wv wa w9 : World} (_h : Below wv.heap.size wv wa) (b : Below (wa.alloc ZB).heap.size (wa.alloc ZB) w9) : B2 w9 wa.heap.size (.slice none 0 0) (.int .i64 0) := (nb2 wa (.slice none 0 0) (.int .i64 0) 24).out.below (by omega) b
theorem an_y {wv wa : World} (b : Below (wv.alloc ZB).drew.heap.size (wv.alloc ZB).drew wa) : Hid (B2 wa wv.heap.size (.slice none 0 0) (.int .i64 0)) := Lib.hid ((((nb2 wv (.slice none 0 0) (.int .i64 0) 24).out.keep (w' := (wv.alloc ZB).drew) rfl)).below (by omega) b)
theorem An.drew {wv wz : World} {g12 m9 c9 r9 : Nat} {A9 : Option Addr} {fb : Cfg → Bool} (h : An wv wz g12 A9 m9 c9 r9 fb) : An wv wz.drew g12 A9 m9 c9 r9 fb := ⟨h.bel.drew, h.box, h.dn.below (Below.refl _ _).drew⟩
theorem an_new {wv w9 : World} {m9 c9 r9 : Nat} {A9 : Option Addr} {fb : Cfg → Bool} (K : Below wv.heap.size wv w9) (D : Dn w9 A9 m9 c9 r9 fb) : An wv (w9.alloc (.cells #[.slice A9 m9 c9, .int .i64 (r9 : Int)] 24)) w9.heap.size A9 m9 c9 r9 fb :=
  ⟨K.alloc K.size _, (nb2 w9 _ _ _).out, D.below (ab2 w9 _)⟩
theorem an_set {wv w9 : World} {g12 m9 c9 r9 : Nat} {A9 : Option Addr} {fb : Cfg → Bool} {a b : Value} (K : Below wv.heap.size wv w9) (D : Dn w9 A9 m9 c9 r9 fb) (hz : B2 w9 g12 a b) (h12 : wv.heap.size ≤ g12) (hf : Fr A9 (g12 + 1)) :
    An wv ((w9.setCell ⟨g12, 0, none⟩ (.slice A9 m9 c9)).setCell ⟨g12, 1, none⟩ (.int .i64 (r9 : Int))) g12 A9 m9 c9 r9 fb :=
  ⟨(K.setCell h12 _).setCell h12 _, ((hz.set (i := 0) (by omega) _).set (i := 1) (by omega) _).congr (fun i hi => by
    obtain rfl | rfl : i = 0 ∨ i = 1 := by omega
    all_goals rfl), D.put hf _ _⟩
theorem hsameR {f : Cfg → Bool} : Hid (true = true ↔ f = f) := Lib.hid ⟨fun _ => rfl, fun _ => rfl⟩
theorem dok_nil (w : World) : DOk w ⟨none, 0, 0, [], 0⟩ := ⟨Rd.nil, fun k hk => absurd hk (by simp), rfl, by decide, by decide, ⟨by decide, by decide⟩⟩

set_option maxHeartbeats 40000000 in
set_option maxRecDepth 100000 in
def rejHalf (N nn cc : Nat) (A8 : Option Addr) (l : List Nat) (x : Nat) (v : Int) (w : World) (hN : N < 256) (h8 : Hid (R8 w A8 nn l)) (hnn : nn ≤ 9223372036854775807) (hx : x < 256) (hv : -9223372036854775808 ≤ v ∧ v ≤ 9223372036854775807) (HIN : Hid (Ins w 0)) : (R : Prop) ×' (Hid R → Calls Tryd.prog 14 #[.agg #[.slice A8 nn cc, .int .u8 (N : Int)], .int .u8 (x : Int), .int .i64 v] w fun e w' => e = .returned (.bool true) ∧ Below w.heap.size w w') := by
  refine ⟨?R, fun hR => ?g⟩
  case g =>
    have X0 := nb2 w (.slice A8 nn cc) (.int .u8 (N : Int)) 54
    have HB0 := Lib.hid (ab2 w (.cells #[.slice A8 nn cc, .int .u8 (N : Int)] 54))
    have HIN0 := rin HIN HB0.out
    have hm : ∀ w', Below w.heap.size w w' → Calls Tryd.prog 51 #[.agg #[.slice A8 nn cc, .int .u8 (N : Int)]] w' fun e w'' => DiaOk w' w'' (sset l N) e :=
      fun w' hb => lmade_ok N nn cc A8 l w' (Lib.hid (h8.out.below hb)) hN hnn
    have HM := Lib.hid hm
    have HLOW := Lib.hid (sset_low l N)
    clear hm
    generalize sset l N = f at *
    go_enter Tryd.func14, Tryd.ntmps14
    go_wp2_with fail
    with_reducible refine (sanity_ok _ HIN0).mono ?_
    rintro e w2 ⟨rfl, b2⟩
    have X2 := rb2 X0 b2
    have HB2 := btr HB0 b2 HB0.out.size
    have HIN2 := rin HIN0 b2
    clear b2 X0 HB0 HIN0
    obtain ⟨x0, x1, xn⟩ := xb2 X2
    go_wp2_with fail
    clear x0 x1 xn X2
    with_reducible refine (HM.out _ HB2.out).mono ?_
    rintro e w3 ⟨⟨A, m, c, r, rfl, d3, f3⟩, b3⟩
    have HB3 := btr HB2 b3 HB2.out.size
    have HIN3 := rin HIN2 b3
    have Da := lid' d3
    clear b3 d3 HM HB2 HIN2
    go_wp2
    have ab := ab2 w3 (.cells #[.slice A m c, .int .i64 (r : Int)] 24)
    replace HIN3 := rin HIN3 ab
    replace Da := rdn Da ab
    have Xa := nb2 w3 (.slice A m c) (.int .i64 (r : Int)) 24
    have HB4 := btr HB3 ab HB3.out.size
    clear ab HB3
    generalize w3.alloc (.cells #[.slice A m c, .int .i64 (r : Int)] 24) = w4 at *
    generalize w3.heap.size = ga at *
    have hm33 : m ≤ 33 := Da.out.s33 HLOW.out
    go_cut [9] (fun s9 wx => ∃ gb Ab cb, s9 = .pointer (some ⟨gb, 0, none⟩) ∧ Cp w wx ga gb A m c r f Ab cb)
    case first =>
      obtain ⟨p0, q0, n0⟩ := xb2 Xa
      have hne0 : ¬ w4.heap.size = ga := by omega
      have hne1 : ¬ w4.heap.size + 1 = ga := by omega
      by_cases h0 : 0 < m
      · obtain ⟨b, o, e, hb, _⟩ := (Da.out.rd.below (Below.refl _ _)) (by rw [up_len, Da.out.len]; exact h0)
        subst e
        obtain ⟨i0, hi, hz0, hz1, hz2⟩ := info_parts Tryd.infoBr
        have hfl : Hid ((flat (cn f).1).length = m * 3) := Lib.hid (by rw [flat_len, Da.out.len])
        have hnews : Hid (∀ W, Below w4.heap.size w4 W → ∀ j u, (flat (cn f).1)[j]? = some u → W.cell? ((⟨b, o, none⟩ : Addr).add j) = some u) := fun W hW => rd_news (Da.out.rd.below hW)
        have hone := flat_one (cn f).1
        have hw1 := hnews.out _ (blw1 w4)
        have hw2 := hnews.out _ (blw2 w4)
        have hw3 := hnews.out _ (blw3 w4)
        have HW1 := Lib.hid hw1
        have HW2 := Lib.hid hw2
        have HW3 := Lib.hid hw3
        clear hw1 hw2 hw3 hnews
        have hM := Da.out.len
        generalize hFL : flat (cn f).1 = FL at *
        have HFL := Lib.hid hFL
        clear hFL
        have XA : Hid (∀ w5, Below w4.heap.size w4 w5 → w5.cell? ⟨ga, 0, none⟩ = some (.slice (some ⟨b, o, none⟩) m c) ∧ w5.cell? ⟨ga, 1, none⟩ = some (.int .i64 (r : Int)) ∧ ga < w5.heap.size ∧ ¬ ga = w5.heap.size) := fun w5 h5 => by
          obtain ⟨k0, k1, k2⟩ := xb2 (rb2 Xa h5)
          exact ⟨k0, k1, k2, by omega⟩
        go_region_held3 (fun w' => w'.cell? ⟨ga, 0, none⟩ = some (.slice (some ⟨b, o, none⟩) m c) ∧ w'.cell? ⟨ga, 1, none⟩ = some (.int .i64 (r : Int))) (first | (refine ⟨?_, ?_⟩ <;> (with_reducible assumption)) | go_keep) ((first
          | (refine step_append_lies _ (by rfl) _ _ _ (by rfl) w4.heap.size 72 i0 _ 3 24 Tryd.underlying22 hi hz0 hz1 hz2 rfl (by omega) (.slice (some ⟨w4.heap.size, 0, none⟩) 0 0) 0 [] (by rfl) (emp1 w4) ⟨b, o, none⟩ m c FL (by rfl) hfl.out HW1.out hone h0 (by simp only [maxLen]; omega) (by omega) (blw1 w4).size _ rfl ?_; intro g cap w5 hown hgrow hat hlt; have hb5 := grow_below (blw1 w4) hgrow (Nat.le_refl _); have AP : Hid (Ap w4 w5 g cap m (cn f).1) := ⟨hb5, by rw [HFL.out]; simpa using hown⟩; obtain ⟨k0, k1, k2, k3⟩ := XA.out w5 hb5; have hgg : Hid (g < w5.heap.size) := hlt; rw [Nat.zero_add]; clear hown hgrow hat hb5)
          | (refine step_append_lies _ (by rfl) _ _ _ (by rfl) w4.heap.size 72 i0 _ 3 24 Tryd.underlying22 hi hz0 hz1 hz2 rfl (by omega) (.slice (some ⟨w4.heap.size, 0, none⟩) 0 0) 0 [] (by rfl) (emp2 w4) ⟨b, o, none⟩ m c FL (by rfl) hfl.out HW2.out hone h0 (by simp only [maxLen]; omega) (by omega) (blw2 w4).size _ rfl ?_; intro g cap w5 hown hgrow hat hlt; have hb5 := grow_below (blw2 w4) hgrow (Nat.le_refl _); have AP : Hid (Ap w4 w5 g cap m (cn f).1) := ⟨hb5, by rw [HFL.out]; simpa using hown⟩; obtain ⟨k0, k1, k2, k3⟩ := XA.out w5 hb5; have ZB5 := Lib.hid (grow_z2 hgrow); have hgz : Hid (g ≠ w4.heap.size + 1) := lid' (grow_n2 hat); obtain ⟨z0, z0f⟩ := ZB5.out 0 (by omega); obtain ⟨z1, z1f⟩ := ZB5.out 1 (by omega); rw [Nat.zero_add]; clear hown hgrow hat hb5)
          | (refine step_append_lies _ (by rfl) _ _ _ (by rfl) w4.heap.size 72 i0 _ 3 24 Tryd.underlying22 hi hz0 hz1 hz2 rfl (by omega) (.slice (some ⟨w4.heap.size + 1, 0, none⟩) 0 0) 0 [] (by rfl) (emp3 w4) ⟨b, o, none⟩ m c FL (by rfl) hfl.out HW3.out hone h0 (by simp only [maxLen]; omega) (by omega) (blw3 w4).size _ rfl ?_; intro g cap w5 hown hgrow hat hlt; have hb5 := grow_below (blw3 w4) hgrow (Nat.le_succ _); have AP : Hid (Ap w4 w5 g cap m (cn f).1) := ⟨hb5, by rw [HFL.out]; simpa using hown⟩; obtain ⟨k0, k1, k2, k3⟩ := XA.out w5 hb5; have ZB5 := Lib.hid (grow_z3 hgrow); have hgz : Hid (g ≠ w4.heap.size) := lid' (grow_n3 hat); obtain ⟨z0, z0f⟩ := ZB5.out 0 (by omega); obtain ⟨z1, z1f⟩ := ZB5.out 1 (by omega); rw [Nat.zero_add]; clear hown hgrow hat hb5)))
        all_goals go_wp2_with fail
        all_goals go_meet
        · exact ⟨_, _, _, rfl, cp_new AP.out HB4.out HIN3.out Xa.out Da.out h0 hgg.out⟩
        · exact ⟨_, _, _, rfl, cp_set AP.out HB4.out HIN3.out Xa.out Da.out h0 ZB5.out (Nat.le_succ _) hgz.out⟩
        · exact ⟨_, _, _, rfl, cp_set AP.out HB4.out HIN3.out Xa.out Da.out h0 ZB5.out (Nat.le_refl _) hgz.out⟩
      · obtain rfl : m = 0 := by omega
        obtain ⟨i0, hi, _, _, _⟩ := info_parts Tryd.infoBr
        go_region_held3 (fun w' => w'.cell? ⟨ga, 0, none⟩ = some (.slice A 0 c) ∧ w'.cell? ⟨ga, 1, none⟩ = some (.int .i64 (r : Int))) (first | (refine ⟨?_, ?_⟩ <;> (with_reducible assumption)) | go_keep) ((first
          | (refine step_append_zero (by rfl) _ _ _ (by rfl) w4.heap.size 72 i0 3 Tryd.underlying22 hi (.slice (some ⟨w4.heap.size, 0, none⟩) 0 0) 0 [] (by rfl) (emp1 w4) A c (by rfl) ?_)
          | (refine step_append_zero (by rfl) _ _ _ (by rfl) w4.heap.size 72 i0 3 Tryd.underlying22 hi (.slice (some ⟨w4.heap.size, 0, none⟩) 0 0) 0 [] (by rfl) (emp2 w4) A c (by rfl) ?_)
          | (refine step_append_zero (by rfl) _ _ _ (by rfl) w4.heap.size 72 i0 3 Tryd.underlying22 hi (.slice (some ⟨w4.heap.size + 1, 0, none⟩) 0 0) 0 [] (by rfl) (emp3 w4) A c (by rfl) ?_)))
        all_goals go_wp2_with fail
        all_goals go_meet
        · exact ⟨_, _, _, rfl, (cp_nil1 HB4.out HIN3.out Xa.out Da.out rfl).drew⟩
        · exact ⟨_, _, _, rfl, (cp_nil1 HB4.out HIN3.out Xa.out Da.out rfl).drew⟩
        · exact ⟨_, _, _, rfl, (cp_nil2 HB4.out HIN3.out Xa.out Da.out).drew⟩
    case rest =>
      obtain ⟨gb, Ab, cb, rfl, hcp⟩ := hcut
      have CP := Lib.hid hcp
      clear hcp Xa Da HIN3 HB4
      obtain ⟨q, hq⟩ : ∃ q, q = x % 4 := ⟨_, rfl⟩
      have hq1 : (x : Int).tmod 4 = (q : Int) := by rw [Int.tmod_eq_emod_of_nonneg (by omega)]; omega
      have hq2 : (x : Int) % 4 = (q : Int) := by omega
      obtain ⟨t, ht⟩ : ∃ t, t = x / 4 := ⟨_, rfl⟩
      have ht1 : (x : Int).tdiv 4 = (t : Int) := by rw [Int.tdiv_eq_ediv_of_nonneg (by omega)]; omega
      have ht2 : (x : Int) / 4 = (t : Int) := by omega
      have hq4 : q < 4 := by omega
      have ht64 : t < 64 := by omega
      clear hq ht
      obtain ⟨y0, y0f⟩ := CP.out.bad 0 (by omega)
      obtain ⟨y1, y1f⟩ := CP.out.bad 1 (by omega)
      go_upto_region 4 with fail
      go_cut [45] (fun s45 wx => s45 = .bool (decide (m = 0 ∨ q = 3)) ∧ wc = wx)
      case first =>
        by_cases h0 : m = 0
        · subst h0
          go_wp2_with fail
          go_meet
          exact ⟨by simp, rfl⟩
        · have e0 : ((m : Int) == 0) = false := beq_eq_false_iff_ne.2 (by omega)
          by_cases h3 : q = 3
          · subst h3
            go_wp2_with fail
            go_meet
            exact ⟨by simp, rfl⟩
          · have e3 : ((q : Int) == 3) = false := beq_eq_false_iff_ne.2 (by omega)
            go_wp2_with fail
            go_meet
            exact ⟨by rw [decide_eq_false (by omega)], rfl⟩
      case rest =>
      obtain ⟨rfl, rfl⟩ := hcut
      go_upto_if 45 with fail
      go_cut [] (fun wx => ∃ (l : List Bi) (rr : Int), Md w wx ga gb A m c r f Ab cb l rr)
      case first =>
        by_cases h0 : m = 0
        · have hd : decide (m = 0 ∨ q = 3) = true := decide_eq_true (.inl h0)
          rw [hd]
          go_wp2_with fail
          go_meet
          exact ⟨up (cn f).1, v, md_root HIN.out CP.out hm33 hv⟩
        · by_cases h3 : q = 3
          · have hd : decide (m = 0 ∨ q = 3) = true := decide_eq_true (.inr h3)
            rw [hd]
            go_wp2_with fail
            go_meet
            exact ⟨up (cn f).1, v, md_root HIN.out CP.out hm33 hv⟩
          · have hd : decide (m = 0 ∨ q = 3) = false := decide_eq_false (by omega)
            rw [hd]
            have hm0 : 0 < m := by omega
            obtain ⟨k, hk⟩ : ∃ k, k = t % m := ⟨_, rfl⟩
            have hk1 : (t : Int).tmod (m : Int) = (k : Int) := by rw [Int.tmod_eq_emod_of_nonneg (by omega), hk]; omega
            have hkm : k < m := by rw [hk]; exact Nat.mod_lt _ hm0
            clear hk
            obtain ⟨g, rfl, _, _, _, hblk, _⟩ := CP.out.row hm0
            rcases (by omega : q = 0 ∨ q = 1 ∨ q = 2) with rfl | rfl | rfl
            · obtain ⟨s0, s0f⟩ := hblk (k * 3) (by omega)
              go_wp2_with fail
              go_meet
              exact ⟨_, _, md_set (fld := 0) HIN.out CP.out hm33 hm0 hkm (by omega) hv⟩
            · obtain ⟨s0, s0f⟩ := hblk (k * 3 + 1) (by omega)
              go_wp2_with fail
              go_meet
              exact ⟨_, _, md_set (fld := 1) HIN.out CP.out hm33 hm0 hkm (by omega) hv⟩
            · obtain ⟨s0, s0f⟩ := hblk (k * 3 + 2) (by omega)
              go_wp2_with fail
              go_meet
              exact ⟨_, _, md_set (fld := 2) HIN.out CP.out hm33 hm0 hkm (by omega) hv⟩
      case rest =>
      obtain ⟨l2, rr, hmd⟩ := hcut
      have HI := Lib.hid hmd.ins
      have Xa := Lib.hid hmd.box
      have Da := Lib.hid hmd.dn
      have Xb := Lib.hid hmd.bad
      have OK := Lib.hid hmd.ok
      have HB := Lib.hid hmd.bel
      clear hmd CP y0 y0f y1 y1f
  
      rename ∀ (a : Act) (w : World), Code.wp _ _ _ a w → _ => hKc
      refine hKc _ _ ?_
      clear hKc f3
      revert u10 u14 u16 u18 u20 u27 u28 u29 u30 u31 u32 u33 u34 u35 u36 u37 u38 u39 u40 u41 u42 u43 u44 u45 u46 u47 u48 u49 u50 u51 u52 u53 u54 u55 u56 u57 u58 u59 u60 u61 u62 u63 u64 u65 u66 u67 u68 u69 u70 u71 u72 u73 u74 u75 u76 u77 u78 u79 u80 u81 u82 u83 u84 u85 u86 u87 u88 u89 u90 u91 u92 u93 u94 u95 u96 u97 u98 u99 u100 u101 u102 u103 u104 u105 u106 u107 u108 u109 u110 u111 u112 u113 u114 u115 u116 u117 u118 u119 u120 u121 u122 u123 u124 u125 u126 u127 u128 u129 u130 u131 u132 u133 u134 u135 u136 u137 u138 u139 u140 u141 u142 u143 u144 u145 u146 u147 u148 u149 u150 u151 u152 u153 u154 u155 u156 u157 u158 u159 u160 u161 u162 u163 u164 u165 u166 u167 u168 u169 u170 u171 u172 u173 u174 u175 u176 u177 u178 u179 u180 u181 u182 u183 u184 u185 u186 u187 u188 u189
      revert wc
      revert gb Ab cb l2 rr q t ga A m c r f
      exact hR.out

set_option maxHeartbeats 40000000 in
set_option maxRecDepth 100000 in
theorem rejRest (N nn cc : Nat) (A8 : Option Addr) (l : List Nat) (x : Nat) (v : Int) (w : World) (hN : N < 256) (h8 : Hid (R8 w A8 nn l)) (hnn : nn ≤ 9223372036854775807) (hx : x < 256) (hv : -9223372036854775808 ≤ v ∧ v ≤ 9223372036854775807) (HIN : Hid (Ins w 0)) : (rejHalf N nn cc A8 l x v w hN h8 hnn hx hv HIN).1 := by
  intro f HLOW A m c r ga hm33 gb Ab cb q hq1 hq2 t ht1 ht2 hq4 ht64 l2 rr wc HI Xa Da Xb OK HB u10 u14 u16 u18 u20 u27 u28 u29 u30 u31 u32 u33 u34 u35 u36 u37 u38 u39 u40 u41 u42 u43 u44 u45 u46 u47 u48 u49 u50 u51 u52 u53 u54 u55 u56 u57 u58 u59 u60 u61 u62 u63 u64 u65 u66 u67 u68 u69 u70 u71 u72 u73 u74 u75 u76 u77 u78 u79 u80 u81 u82 u83 u84 u85 u86 u87 u88 u89 u90 u91 u92 u93 u94 u95 u96 u97 u98 u99 u100 u101 u102 u103 u104 u105 u106 u107 u108 u109 u110 u111 u112 u113 u114 u115 u116 u117 u118 u119 u120 u121 u122 u123 u124 u125 u126 u127 u128 u129 u130 u131 u132 u133 u134 u135 u136 u137 u138 u139 u140 u141 u142 u143 u144 u145 u146 u147 u148 u149 u150 u151 u152 u153 u154 u155 u156 u157 u158 u159 u160 u161 u162 u163 u164 u165 u166 u167 u168 u169 u170 u171 u172 u173 u174 u175 u176 u177 u178 u179 u180 u181 u182 u183 u184 u185 u186 u187 u188 u189
  by_cases hc : chk l2 rr = 0
  · have HCK := Lib.hid (ok_check OK hc)
    obtain ⟨M2, n2, rfl, rfl, hval, _⟩ := chk_ok.1 hc
    have hl2 : M2.length = m := by have := OK.out.len; rw [up_len] at this; exact this
    have Db : Hid (Dn wc Ab m cb n2 (Den M2 n2)) := Lib.hid ⟨by rw [cn_of hval]; exact OK.out.rd, by rw [cn_of hval]; exact hl2, by rw [cn_of hval], OK.out.mc, by omega, den_dep64 hval.good.ord hval.lt⟩
    clear hc hval hl2 OK Xa Da
    generalize Den M2 n2 = fb at *
    obtain ⟨p0, q0, n0⟩ := xb2 Xb
    go_wp2_with fail
    clear p0 q0 n0
    with_reducible refine HCK.out.mono ?_
    rintro e wv ⟨rfl, bv⟩
    replace HI := rin HI bv
    replace Xb := rb2 Xb bv
    replace Db := rdn Db bv
    have HBv := btr HB bv HB.out.size
    clear bv HB HCK
    have hcl : Hid ((cn fb).1.length = m) := Lib.hid Db.out.len
    have hand : ∀ W, Below wv.heap.size wv W → Calls Tryd.prog 17 #[.agg #[.slice Ab m cb, .int .i64 (n2 : Int)], .agg #[.slice none 0 0, .int .i64 1]] W fun e w' => BinOk W w' fb e := fun W hW => by
      have e1 : (fun x => and (fb x) ((fun _ : Cfg => true) x)) = fb := by funext x; cases fb x <;> rfl
      exact (and_ok m cb 0 0 n2 1 Ab none fb (fun _ => true) W (rdn Db hW) (Lib.hid (dn_trueR W)) (rin HI hW) (Lib.hid (by rw [e1, hcl.out]; omega)) (Lib.hid (by omega))).mono fun _ _ h => h.congr e1
    have HAND := Lib.hid hand
    clear hand
    have hS := Xb.out.lt (by omega)
    go_wp2_with fail
    go_upto_region 15 with fail
    go_cut [12, 13] (fun s12 s13 wx => ∃ (g12 : Nat) (A9 : Option Addr) (m9 c9 r9 : Nat), s12 = .pointer (some ⟨g12, 0, none⟩) ∧ s13 = .int .i64 0 ∧ An wv wx g12 A9 m9 c9 r9 fb)
    case first =>
      obtain ⟨p0, q0, n0⟩ := xb2 Xb
      have hnb0 : ¬ wv.heap.size = gb := by omega
      go_region_held3 (fun w' => w'.cell? ⟨gb, 0, none⟩ = some (.slice Ab m cb) ∧ w'.cell? ⟨gb, 1, none⟩ = some (.int .i64 (n2 : Int))) (first | (refine ⟨?_, ?_⟩ <;> (with_reducible assumption)) | go_keep) ((first
        | (have _k := KA; go_at_call 17; (with_reducible refine (HAND.out _ (by first | exact KA.out | exact KA.out.alloc KA.out.size _)).mono ?_); rintro e w9 ⟨⟨A9, m9, c9, r9, rfl, d9, f9⟩, b9⟩; (first | (have KZ9 := lid' (an_z KA.out b9)) | (have KZ9 := rb2 KZ b9)); have K9 : Hid (Below wv.heap.size wv w9) := lid' (by first | exact KA.out.trans (b9.mono KA.out.size) | exact (KA.out.alloc KA.out.size _).trans (b9.mono (KA.out.alloc KA.out.size _).size)); have D9 := lid' d9; have F9 := lid' f9; obtain ⟨p0', q0', n0'⟩ := xb2 (Lib.hid (Xb.out.below (by omega) K9.out)); obtain ⟨z0, z0f⟩ := KZ9.out 0 (by omega); obtain ⟨z1, z1f⟩ := KZ9.out 1 (by omega); clear d9 f9 b9)
        | (have _k := KA; go_at_call 17; (with_reducible refine (HAND.out _ KA.out).mono ?_); rintro e w9 ⟨⟨A9, m9, c9, r9, rfl, d9, f9⟩, b9⟩; have K9 : Hid (Below wv.heap.size wv w9) := lid' (KA.out.trans (b9.mono KA.out.size)); have D9 := lid' d9; have F9 := lid' f9; obtain ⟨p0', q0', n0'⟩ := xb2 (Lib.hid (Xb.out.below (by omega) K9.out)); clear d9 f9 b9)
        | (go_at_call 52; (with_reducible refine (constant_oneR _).mono ?_); rintro e wa ⟨rfl, ba⟩; have KA : Hid (Below wv.heap.size wv wa) := lid' (by first | exact (Below.refl wv.heap.size wv).drew.trans ba | exact (ab2 wv _).drew.trans (ba.mono (ab2 wv _).drew.size)); have hna : ¬ wa.heap.size = gb := (by have := KA.out.size; omega); (try have KZ := an_y ba); obtain ⟨p0, q0, n0⟩ := xb2 (Lib.hid (Xb.out.below (by omega) KA.out)); clear ba)))
      all_goals go_wp2_with fail
      all_goals go_meet
      all_goals first
        | exact ⟨_, _, _, _, _, rfl, rfl, an_new K9.out D9.out⟩
        | exact ⟨_, _, _, _, _, rfl, rfl, an_set K9.out D9.out KZ9.out (Nat.le_refl _) (F9.out.mono (KZ.out.lt (by omega)))⟩
        | exact ⟨_, _, _, _, _, rfl, rfl, an_set K9.out D9.out KZ9.out KA.out.size (F9.out.mono (by simp))⟩
        | exact ⟨_, _, _, _, _, rfl, rfl, (an_new K9.out D9.out).drew⟩
    case rest =>
      obtain ⟨g12, A9, m9, c9, r9, rfl, rfl, han⟩ := hcut
      have X9 := Lib.hid han.box
      have D9 := Lib.hid han.dn
      replace Xb := rb2 Xb han.bel
      replace Db := rdn Db han.bel
      have HBc := btr HBv han.bel HBv.out.size
      clear han
      obtain ⟨p0, q0, n0⟩ := xb2 Xb
      obtain ⟨p1, q1, n1⟩ := xb2 X9
      go_wp2_with fail
      clear p0 q0 n0 p1 q1 n1
      with_reducible refine (same_dn D9 Db rfl rfl true hsameR).mono ?_
      rintro e wz ⟨rfl, bz⟩
      have HBz := btr HBc bz HBc.out.size
      clear bz
      go_wp2
      go_ret
      exact ⟨rfl, HBz.out⟩
  · have HBD : Hid (Bad wc Ab m cb l2 rr) := Lib.hid ⟨OK.out, by
      have hl := OK.out.len
      simp only at hl
      unfold chk at hc ⊢
      rw [if_neg (by omega)] at hc ⊢
      split at hc
      · exact absurd rfl hc
      · next h => rw [if_neg h]⟩
    clear hc
    obtain ⟨pXb, qXb, nXb⟩ := xb2 Xb
    go_wp2_with fail
    clear pXb qXb nXb
    with_reducible refine (bad_check HBD).mono ?_
    rintro e w1_ ⟨rfl, b1⟩
    replace HI := rin HI b1
    replace Xa := rb2 Xa b1
    replace Da := rdn Da b1
    replace Xb := rb2 Xb b1
    replace HBD := rbad HBD b1
    replace OK := rdok OK b1
    have Bl1 := btr HB b1 HB.out.size
    clear HB
    clear b1
    obtain ⟨pXb, qXb, nXb⟩ := xb2 Xb
    go_wp2_with fail
    clear pXb qXb nXb
    with_reducible refine (bad_not HBD).mono ?_
    rintro e w2_ ⟨rfl, b2⟩
    replace HI := rin HI b2
    replace Xa := rb2 Xa b2
    replace Da := rdn Da b2
    replace Xb := rb2 Xb b2
    replace HBD := rbad HBD b2
    replace OK := rdok OK b2
    have Bl2 := btr Bl1 b2 Bl1.out.size
    clear Bl1
    clear b2
    have ha0 := Da.out.ok
    have ha1 := Da.out.chk
    unfold Dn.da at ha0
    generalize up (cn f).1 = la at *
    have HA := lid' ha0
    clear ha0
    have hc2 : Hid (chkAll [(⟨A, m, c, la, (r : Int)⟩ : DA), ⟨Ab, m, cb, l2, rr⟩] = 20) := Lib.hid (by unfold chkAll; rw [if_pos ha1]; unfold chkAll; rw [HBD.out.2]; rfl)
    have hc3 : Hid (chkAll [(⟨A, m, c, la, (r : Int)⟩ : DA), ⟨A, m, c, la, (r : Int)⟩, ⟨Ab, m, cb, l2, rr⟩] = 20) := Lib.hid (by unfold chkAll; rw [if_pos ha1]; exact hc2.out)
    have hc4 : Hid (chkAll [(⟨Ab, m, cb, l2, rr⟩ : DA), ⟨Ab, m, cb, l2, rr⟩] = 20) := Lib.hid (by unfold chkAll; rw [HBD.out.2]; rfl)
    have hc5 : Hid (chkAll [(⟨Ab, m, cb, l2, rr⟩ : DA), ⟨none, 0, 0, [], 0⟩] = 20) := Lib.hid (by unfold chkAll; rw [HBD.out.2]; rfl)
    clear ha1
    obtain ⟨pXa, qXa, nXa⟩ := xb2 Xa
    obtain ⟨pXb, qXb, nXb⟩ := xb2 Xb
    go_wp2_with fail
    clear pXa qXa nXa pXb qXb nXb
    have ab := ab2 w2_ (.cells #[.slice none 0 0, .int .i64 0] 24)
    replace HI := rin HI ab
    replace Xa := rb2 Xa ab
    replace Da := rdn Da ab
    replace Xb := rb2 Xb ab
    replace HBD := rbad HBD ab
    replace OK := rdok OK ab
    replace HA := rdok HA ab
    have Xn := nb2 w2_ (.slice none 0 0) (.int .i64 0) 24
    have Bl3 := btr Bl2 ab Bl2.out.size
    clear Bl2
    clear ab
    generalize w2_.alloc (.cells #[.slice none 0 0, .int .i64 0] 24) = x3 at *
    generalize w2_.heap.size = g3 at *
    with_reducible refine (bad_and HA OK hc2).mono ?_
    rintro e w4_ ⟨rfl, b4⟩
    replace HI := rin HI b4
    replace Xa := rb2 Xa b4
    replace Da := rdn Da b4
    replace Xb := rb2 Xb b4
    replace HBD := rbad HBD b4
    replace OK := rdok OK b4
    replace HA := rdok HA b4
    replace Xn := rb2 Xn b4
    have Bl4 := btr Bl3 b4 Bl3.out.size
    clear Bl3
    clear b4
    obtain ⟨pXa, qXa, nXa⟩ := xb2 Xa
    obtain ⟨pXb, qXb, nXb⟩ := xb2 Xb
    go_wp2_with fail
    clear pXa qXa nXa pXb qXb nXb
    have ab := ab2 w4_ (.cells #[.slice none 0 0, .int .i64 0] 24)
    replace HI := rin HI ab
    replace Xa := rb2 Xa ab
    replace Da := rdn Da ab
    replace Xb := rb2 Xb ab
    replace HBD := rbad HBD ab
    replace OK := rdok OK ab
    replace HA := rdok HA ab
    replace Xn := rb2 Xn ab
    have Xm := nb2 w4_ (.slice none 0 0) (.int .i64 0) 24
    have Bl5 := btr Bl4 ab Bl4.out.size
    clear Bl4
    clear ab
    generalize w4_.alloc (.cells #[.slice none 0 0, .int .i64 0] 24) = x5 at *
    generalize w4_.heap.size = g5 at *
    with_reducible refine (bad_choose HA HA OK hc3).mono ?_
    rintro e w6_ ⟨rfl, b6⟩
    replace HI := rin HI b6
    replace Xa := rb2 Xa b6
    replace Da := rdn Da b6
    replace Xb := rb2 Xb b6
    replace HBD := rbad HBD b6
    replace OK := rdok OK b6
    replace HA := rdok HA b6
    replace Xn := rb2 Xn b6
    replace Xm := rb2 Xm b6
    have Bl6 := btr Bl5 b6 Bl5.out.size
    clear Bl5
    clear b6
    obtain ⟨pXb, qXb, nXb⟩ := xb2 Xb
    go_wp2_with fail
    clear pXb qXb nXb
    have ab := ab2 w6_ (.cells #[.slice none 0 0, .int .i64 0] 24)
    replace HI := rin HI ab
    replace Xa := rb2 Xa ab
    replace Da := rdn Da ab
    replace Xb := rb2 Xb ab
    replace HBD := rbad HBD ab
    replace OK := rdok OK ab
    replace HA := rdok HA ab
    replace Xn := rb2 Xn ab
    replace Xm := rb2 Xm ab
    have Xo := nb2 w6_ (.slice none 0 0) (.int .i64 0) 24
    have Bl7 := btr Bl6 ab Bl6.out.size
    clear Bl6
    clear ab
    generalize w6_.alloc (.cells #[.slice none 0 0, .int .i64 0] 24) = x7 at *
    generalize w6_.heap.size = g7 at *
    with_reducible refine (bad_restrict 64 true HBD).mono ?_
    rintro e w8_ ⟨rfl, b8⟩
    replace HI := rin HI b8
    replace Xa := rb2 Xa b8
    replace Da := rdn Da b8
    replace Xb := rb2 Xb b8
    replace HBD := rbad HBD b8
    replace OK := rdok OK b8
    replace HA := rdok HA b8
    replace Xn := rb2 Xn b8
    replace Xm := rb2 Xm b8
    replace Xo := rb2 Xo b8
    have Bl8 := btr Bl7 b8 Bl7.out.size
    clear Bl7
    clear b8
    obtain ⟨pXb, qXb, nXb⟩ := xb2 Xb
    go_wp2_with fail
    clear pXb qXb nXb
    have ab := ab2 w8_ (.cells #[.slice none 0 0, .int .i64 0] 24)
    replace HI := rin HI ab
    replace Xa := rb2 Xa ab
    replace Da := rdn Da ab
    replace Xb := rb2 Xb ab
    replace HBD := rbad HBD ab
    replace OK := rdok OK ab
    replace HA := rdok HA ab
    replace Xn := rb2 Xn ab
    replace Xm := rb2 Xm ab
    replace Xo := rb2 Xo ab
    have Xp := nb2 w8_ (.slice none 0 0) (.int .i64 0) 24
    have Bl9 := btr Bl8 ab Bl8.out.size
    clear Bl8
    clear ab
    generalize w8_.alloc (.cells #[.slice none 0 0, .int .i64 0] 24) = x9 at *
    generalize w8_.heap.size = g9 at *
    with_reducible refine (bad_count (-1) HBD).mono ?_
    rintro e w10_ ⟨rfl, b10⟩
    replace HI := rin HI b10
    replace Xa := rb2 Xa b10
    replace Da := rdn Da b10
    replace Xb := rb2 Xb b10
    replace HBD := rbad HBD b10
    replace OK := rdok OK b10
    replace HA := rdok HA b10
    replace Xn := rb2 Xn b10
    replace Xm := rb2 Xm b10
    replace Xo := rb2 Xo b10
    replace Xp := rb2 Xp b10
    have Bl10 := btr Bl9 b10 Bl9.out.size
    clear Bl9
    clear b10
    obtain ⟨pXb, qXb, nXb⟩ := xb2 Xb
    go_wp2_with fail
    clear pXb qXb nXb
    with_reducible refine (bad_least HBD).mono ?_
    rintro e w11_ ⟨rfl, b11⟩
    replace HI := rin HI b11
    replace Xa := rb2 Xa b11
    replace Da := rdn Da b11
    replace Xb := rb2 Xb b11
    replace HBD := rbad HBD b11
    replace OK := rdok OK b11
    replace HA := rdok HA b11
    replace Xn := rb2 Xn b11
    replace Xm := rb2 Xm b11
    replace Xo := rb2 Xo b11
    replace Xp := rb2 Xp b11
    have Bl11 := btr Bl10 b11 Bl10.out.size
    clear Bl10
    clear b11
    go_wp2_with fail
    have dr := (Below.refl w11_.heap.size w11_).drew
    replace HI := rin HI dr
    replace Xa := rb2 Xa dr
    replace Da := rdn Da dr
    replace Xb := rb2 Xb dr
    replace HBD := rbad HBD dr
    replace OK := rdok OK dr
    replace HA := rdok HA dr
    replace Xn := rb2 Xn dr
    replace Xm := rb2 Xm dr
    replace Xo := rb2 Xo dr
    replace Xp := rb2 Xp dr
    have Bl12 := btr Bl11 dr Bl11.out.size
    clear Bl11
    clear dr
    obtain ⟨pXb, qXb, nXb⟩ := xb2 Xb
    go_region_held3 (fun w' => w'.cell? ⟨gb, 0, none⟩ = some (.slice Ab m cb) ∧ w'.cell? ⟨gb, 1, none⟩ = some (.int .i64 rr)) (first | (refine ⟨?_, ?_⟩ <;> (with_reducible assumption)) | go_keep) ((first
        | (have _kq := Bl16; go_at_call 33; (with_reducible refine (bad_disjoint (w := w16_) OK (lid' (dok_nil w16_)) hc5).mono ?_); rintro e w17_ ⟨rfl, b17⟩; replace HI := rin HI b17; replace Xa := rb2 Xa b17; replace Da := rdn Da b17; replace Xb := rb2 Xb b17; replace HBD := rbad HBD b17; replace OK := rdok OK b17; replace HA := rdok HA b17; replace Xn := rb2 Xn b17; replace Xm := rb2 Xm b17; replace Xo := rb2 Xo b17; replace Xp := rb2 Xp b17; have Bl17 := btr Bl16 b17 Bl16.out.size; obtain ⟨pXb, qXb, nXb⟩ := xb2 Xb; clear b17)
        | (have _kq := Bl15; go_at_call 52; (with_reducible refine (constant_nilR w15_).mono ?_); rintro e w16_ ⟨rfl, b16⟩; replace HI := rin HI b16; replace Xa := rb2 Xa b16; replace Da := rdn Da b16; replace Xb := rb2 Xb b16; replace HBD := rbad HBD b16; replace OK := rdok OK b16; replace HA := rdok HA b16; replace Xn := rb2 Xn b16; replace Xm := rb2 Xm b16; replace Xo := rb2 Xo b16; replace Xp := rb2 Xp b16; have Bl16 := btr Bl15 b16 Bl15.out.size; obtain ⟨pXb, qXb, nXb⟩ := xb2 Xb; clear b16)
        | (have _kq := Bl14; go_at_call 31; (with_reducible refine (bad_within OK OK hc4).mono ?_); rintro e w15_ ⟨rfl, b15⟩; replace HI := rin HI b15; replace Xa := rb2 Xa b15; replace Da := rdn Da b15; replace Xb := rb2 Xb b15; replace HBD := rbad HBD b15; replace OK := rdok OK b15; replace HA := rdok HA b15; replace Xn := rb2 Xn b15; replace Xm := rb2 Xm b15; replace Xo := rb2 Xo b15; replace Xp := rb2 Xp b15; have Bl15 := btr Bl14 b15 Bl14.out.size; obtain ⟨pXb, qXb, nXb⟩ := xb2 Xb; clear b15)
        | (have _kq := Bl13; go_at_call 46; (with_reducible refine (bad_holds 0 HBD).mono ?_); rintro e w14_ ⟨rfl, b14⟩; replace HI := rin HI b14; replace Xa := rb2 Xa b14; replace Da := rdn Da b14; replace Xb := rb2 Xb b14; replace HBD := rbad HBD b14; replace OK := rdok OK b14; replace HA := rdok HA b14; replace Xn := rb2 Xn b14; replace Xm := rb2 Xm b14; replace Xo := rb2 Xo b14; replace Xp := rb2 Xp b14; have Bl14 := btr Bl13 b14 Bl13.out.size; obtain ⟨pXb, qXb, nXb⟩ := xb2 Xb; clear b14)
        | (go_at_call 49; (with_reducible refine (bad_support HBD).mono ?_); rintro e w13_ ⟨rfl, b13⟩; replace HI := rin HI b13; replace Xa := rb2 Xa b13; replace Da := rdn Da b13; replace Xb := rb2 Xb b13; replace HBD := rbad HBD b13; replace OK := rdok OK b13; replace HA := rdok HA b13; replace Xn := rb2 Xn b13; replace Xm := rb2 Xm b13; replace Xo := rb2 Xo b13; replace Xp := rb2 Xp b13; have Bl13 := btr Bl12 b13 Bl12.out.size; obtain ⟨pXb, qXb, nXb⟩ := xb2 Xb; clear b13)))
    all_goals (go_wp2; go_ret; exact ⟨rfl, Bl17.out⟩)

theorem lawRej_walk (N nn cc : Nat) (A8 : Option Addr) (l : List Nat) (x : Nat) (v : Int) (w : World) (hN : N < 256) (h8 : Hid (R8 w A8 nn l)) (hnn : nn ≤ 9223372036854775807) (hx : x < 256) (hv : -9223372036854775808 ≤ v ∧ v ≤ 9223372036854775807) (HIN : Hid (Ins w 0)) :
    Calls Tryd.prog 14 #[.agg #[.slice A8 nn cc, .int .u8 (N : Int)], .int .u8 (x : Int), .int .i64 v] w fun e w' => e = .returned (.bool true) ∧ Below w.heap.size w w' :=
  (rejHalf N nn cc A8 l x v w hN h8 hnn hx hv HIN).2 (Lib.hid (rejRest N nn cc A8 l x v w hN h8 hnn hx hv HIN))

end Go.Proofs.YtmfinkaphglmjaaDoor
