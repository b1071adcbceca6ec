/-
  The law PatternShortest returns true.
-/
import Derived.Test.YtgjhicahopcfcaaDoorPt
import Derived.Test.YtgjhicahopcfcaaDoorPu
namespace Go.Proofs.YtgjhicahopcfcaaDoor
open Go.RowKit Go.Shelf
set_option linter.unusedVariables false
set_option linter.unusedSimpArgs false
attribute [local go_sem ↓] Go.wp_at_zero Go.wp_at_succ

theorem infoStrP : (Tryd.prog.info? 9).map (fun i => (i.zero, i.size, i.bytes)) = some (some (.string ⟨#[]⟩), 1, 16) := by kernel_rfl
def sC (ws : List (List UInt8)) : List Value := ws.map fun u => .string ⟨u.toArray⟩
theorem sC_app (ws : List (List UInt8)) (u : List UInt8) : sC (ws ++ [u]) = sC ws ++ [.string ⟨u.toArray⟩] := by unfold sC; simp
theorem sC_len (ws : List (List UInt8)) : (sC ws).length = ws.length := List.length_map _
theorem sC_at (ws : List (List UInt8)) {i : Nat} (h : i < ws.length) : (sC ws)[i]? = some (.string ⟨(ws.getD i []).toArray⟩) := by
  unfold sC
  rw [List.getElem?_map, List.getElem?_eq_getElem h, List.getD_eq_getElem?_getD, List.getElem?_eq_getElem h]
  rfl
/-- words to come of a word of n bytes -/
def wt : Nat → Nat
  | 0 => 120
  | 1 => 39
  | 2 => 12
  | 3 => 3
  | _ => 0
theorem wt_step {n : Nat} (h : n + 1 < 5) : wt n = 3 + 3 * wt (n + 1) := by
  rcases (show n = 0 ∨ n = 1 ∨ n = 2 ∨ n = 3 by omega) with rfl | rfl | rfl | rfl <;> rfl
def wtS : List (List UInt8) → Nat
  | [] => 0
  | u :: l => wt u.length + wtS l
theorem wtS_app : ∀ (l : List (List UInt8)) (u : List UInt8), wtS (l ++ [u]) = wtS l + wt u.length
  | [], u => by show wt u.length + 0 = 0 + wt u.length; omega
  | v :: l, u => by show wt v.length + wtS (l ++ [u]) = wt v.length + wtS l + wt u.length; rw [wtS_app l u]; omega
/-- the words so far: i are done; of the next one b letters (its part of the count is taken out at its start) -/
structure WdI (ws : List (List UInt8)) (i : Nat) (owed : Nat) : Prop where
  le : i ≤ ws.length
  sm : ∀ u ∈ ws, u.length ≤ 4
  ct : ws.length + wtS (ws.drop i) + owed = 121
theorem WdI.few {ws : List (List UInt8)} {i o : Nat} (h : WdI ws i o) : ws.length ≤ 121 := by have := h.ct; omega
theorem WdI.open {ws : List (List UInt8)} {i : Nat} (h : WdI ws i 0) (hi : i < ws.length) : WdI ws (i + 1) (wt (ws.getD i []).length) := by
  refine ⟨hi, h.sm, ?_⟩
  have := h.ct
  rw [List.drop_eq_getElem_cons hi] at this
  rw [List.getD_eq_getElem?_getD, List.getElem?_eq_getElem hi]
  show ws.length + wtS (ws.drop (i + 1)) + wt ws[i].length = 121
  have e : wtS (ws[i] :: ws.drop (i + 1)) = wt ws[i].length + wtS (ws.drop (i + 1)) := rfl
  omega
theorem WdI.grow {ws : List (List UInt8)} {i o : Nat} {u : List UInt8} (h : WdI ws i (o + 1 + wt u.length)) (hu : u.length ≤ 4) : WdI (ws ++ [u]) i o := by
  refine ⟨by rw [List.length_append]; have := h.le; omega, fun v hv => ?_, ?_⟩
  · rcases List.mem_append.1 hv with q | q
    · exact h.sm v q
    · rw [List.mem_singleton.1 q]; exact hu
  · have := h.ct
    rw [List.length_append, List.length_singleton, List.drop_append_of_le_length h.le, wtS_app]
    omega
/-- what the letters from b on still bring -/
def ow (u : List UInt8) (b : Nat) : Nat := if u.length + 1 < 5 then (3 - b) * (1 + wt (u.length + 1)) else 0
theorem ow_0 {u : List UInt8} (h : u.length ≤ 4) : ow u 0 = wt u.length := by
  unfold ow
  by_cases c : u.length + 1 < 5
  · rw [if_pos c, wt_step c]; omega
  · rw [if_neg c, show u.length = 4 by omega]; rfl
theorem ow_3 (u : List UInt8) : ow u 3 = 0 := by unfold ow; split <;> simp
theorem ow_s {u : List UInt8} {b : Nat} (hb : b < 3) (c : u.length + 1 < 5) : ow u b = ow u (b + 1) + 1 + wt (u.length + 1) := by
  unfold ow
  rw [if_pos c, if_pos c]
  rcases (show b = 0 ∨ b = 1 ∨ b = 2 by omega) with rfl | rfl | rfl <;> omega
theorem ow_n {u : List UInt8} {b : Nat} (c : ¬ u.length + 1 < 5) : ow u (b + 1) = ow u b := by
  unfold ow
  rw [if_neg c, if_neg c]
theorem cat_sz' (u : List UInt8) {b : Nat} (hb : b < 3) : ((⟨#[97, 98, 99]⟩ : ByteArray).extract b (b + 1)).size = 1 := by
  rcases (show b = 0 ∨ b = 1 ∨ b = 2 by omega) with rfl | rfl | rfl <;> rfl
theorem abc_at (u : List UInt8) {b : Nat} (hb : b < 3) : (⟨u.toArray⟩ : ByteArray) ++ (⟨#[97, 98, 99]⟩ : ByteArray).extract b (b + 1) = ⟨(u ++ [UInt8.ofNat (97 + b)]).toArray⟩ := by
  have e : (⟨#[97, 98, 99]⟩ : ByteArray).extract b (b + 1) = ⟨#[UInt8.ofNat (97 + b)]⟩ := by
    rcases (show b = 0 ∨ b = 1 ∨ b = 2 by omega) with rfl | rfl | rfl <;> rfl
  rw [e]
  refine ByteArray.ext ?_
  rw [ByteArray.data_append]
  simp
theorem sh_none {a : Rx} {S T : List UInt8} (h : CmR a a S 3) (hT : T ≠ []) : ¬ a.mt T := by
  rcases h with ⟨h, _⟩ | ⟨_, _, h⟩
  · cases h
  · exact fun q => h T hT ⟨q, q⟩
theorem sh_before {a : Rx} {S T : List UInt8} (h : FirstB a a S) (hT : T ≠ []) (hl : ltS T S) : ¬ a.mt T := fun q => by
  rcases h.2.2.2 T hT q q with k | k
  · exact ltS_irr _ (ltS_trans k hl)
  · rw [k] at hl; exact ltS_irr _ hl
/-- how a word stands to the shortest one: 0 behind it, then what Matches says -/
theorem sh_ways {a : Rx} {S T : List UInt8} {z : Int} (h : CmR a a S z) (hT : T ≠ []) :
    (z = 3 ∧ ¬ a.mt T) ∨ (z = 0 ∧ ((S.length : Int) < (T.length : Int) ∨ (¬ (S.length : Int) < (T.length : Int) ∧ (T.length : Int) = (S.length : Int) ∧ Op.bytesLess T S = false) ∨ (¬ (S.length : Int) < (T.length : Int) ∧ (T.length : Int) = (S.length : Int) ∧ Op.bytesLess T S = true ∧ ¬ a.mt T) ∨ (¬ (S.length : Int) < (T.length : Int) ∧ ¬ ((T.length : Int) = (S.length : Int)) ∧ ¬ a.mt T))) := by
  rcases h with ⟨rfl, h, _⟩ | ⟨rfl, h0, h⟩
  · right
    refine ⟨rfl, ?_⟩
    rcases Nat.lt_trichotomy S.length T.length with c | c | c
    · exact .inl (by omega)
    · right
      cases e : Op.bytesLess T S with
      | false => exact .inl ⟨by omega, by omega, rfl⟩
      | true => exact .inr (.inl ⟨by omega, by omega, rfl, sh_before h hT (.inr ⟨c.symm, less_lx T S c.symm e⟩)⟩)
    · exact .inr (.inr (.inr ⟨by omega, by omega, sh_before h hT (.inl c)⟩))
  · exact .inl ⟨rfl, fun q => h T hT ⟨q, q⟩⟩

set_option maxHeartbeats 8000000 in
set_option maxRecDepth 100000 in
theorem lawS_walk (A0 : Option Addr) (m0 c0 : Nat) (l0 : List Nat) (w : World) (h0 : Hid (B8 w w.heap.size A0 m0 l0)) (hm0 : m0 ≤ 9223372036854775807) (hz : Hid (Tz w ∧ 3 < w.heap.size)) :
    Calls Tryd.prog 5 #[.slice A0 m0 c0] w fun e w' => e = .returned (.bool true) ∧ Below w.heap.size w w' := by
  obtain ⟨i0, hi0, hz0, hz1, hz2⟩ := info_parts infoStrP
  have HK := Ky.first hz.out.1 hz.out.2
  obtain ⟨ha, hna⟩ := madeR_ok l0 (most := 14) (by decide)
  have HMA := lid' (fun W hk => kp_made w W hk A0 c0 m0 14 l0 h0 hm0 (by decide) (by decide) 14 rfl)
  replace ha := ha.by8
  generalize madeR l0 14 = a at *
  have HSh := lid' (fun W hk A c => kp_short w W hk a ha (by omega) A c)
  have HX := lid' (fun W hk A c s hs => kp_match w W hk a A c s hs)
  have HSan := lid' (fun W hk => kp_san w W hk)
  have HY := lid' (fun s hs => (maP_iff (r := a) ha (by omega) s).2 hs)
  have HN := lid' (fun s hs => maP_not (r := a) ha (by omega) (s := s) hs)
  clear h0 hz ha hna hm0
  generalize a.po [] = p at *
  generalize p.length = pn at *
  have HM : Hid (∀ (T : List UInt8) (v : Bool), T.length ≤ 65537 → maP p T = v → ∀ (W : World) (A : Option Addr) (c : Nat), Hid (Ky w W) → Hid (Rp W W.heap.size A p) → Calls Tryd.prog 15 #[.slice A pn c, .string ⟨T.toArray⟩] W fun e w' => e = .returned (.bool v) ∧ Hid (Below W.heap.size W w')) := lid' (fun T v hT hv W A c hk hr => by
    have := HX.out W hk A c ⟨T.toArray⟩ (by show T.toArray.size ≤ _; rw [List.size_toArray]; omega) hr
    rw [show maP p (⟨T.toArray⟩ : ByteArray).data.toList = v from hv] at this
    exact this)
  clear HX
  go_enter Tryd.func5, Tryd.ntmps5
  go_wp2_with fail
  with_reducible refine (HSan.out w HK).mono ?_
  rintro e w1 ⟨rfl, b1⟩
  replace HK := Ky.later HK b1
  clear b1 HSan
  go_wp2_with fail
  with_reducible refine (HMA.out w1 HK).mono ?_
  rintro e w2 ⟨A2, c2, rfl, HP, b2⟩
  replace HK := Ky.later HK b2
  clear b2 HMA
  go_wp2_with fail
  with_reducible refine (HSh.out w2 HK _ _ HP).mono ?_
  rintro e w3 ⟨S, z, rfl, HS, b3⟩
  replace HK := Ky.later HK b3
  replace HP := Rp.lat HP b3
  clear b3 HSh
  go_upto_region 4 with fail
  by_cases hz0 : z = 0
  · subst hz0
    have hF : FirstB a a S ∧ S.length ≤ 65537 := by
      rcases HS.out with ⟨_, h⟩ | ⟨h, _⟩
      · exact h
      · cases h
    have HM1 := lid' (HM.out S true hF.2 (HY.out S hF.1.2.1) w3 A2 c2 HK HP)
    obtain ⟨y1, s1, rfl⟩ : ∃ y1 t1, S = y1 :: t1 := by
      cases S with
      | nil => exact absurd rfl hF.1.1
      | cons y1 t1 => exact ⟨y1, t1, rfl⟩
    clear hF
    go_upto_region 6 with (go_at_call 15; with_reducible refine HM1.out.mono ?_; rintro e W ⟨rfl, HW⟩)
    clear HM1
    have HOL := lid' (World.ownsRow_lit (base := w3.heap.size) (size := 1) (e := 9) W #[.string ⟨#[]⟩] 1 HW.out.size (by decide) rfl)
    have HBL := lid' (HW.out.alloc HW.out.size (.cells #[.string ⟨#[]⟩] 9))
    clear HW
    go_upto_region 7 with fail
    generalize World.alloc W _ = W2 at *
    go_wp2
    go_loopw [7, 8] (fun v7 v8 wr => ∃ (i n c : Nat) (A : Option Addr) (ws : List (List UInt8)), v7 = .slice A n c ∧ v8 = .int .i64 (i : Int) ∧ ws.length = n ∧ Hid (WdI ws i 0) ∧ Hid (wr.ownsRow w3.heap.size 9 1 (.slice A n c) n (sC ws)) ∧ Hid (Below w3.heap.size w3 wr)) (fun v7 v8 wr => 122 - (intOf v8).toNat)
    case atStart => exact ⟨0, 1, _, _, [[]], rfl, rfl, rfl, lid' ⟨by decide, fun u hu => by rw [List.mem_singleton.1 hu]; decide, rfl⟩, HOL, HBL⟩
    case round =>
      clear HOL HBL
      obtain ⟨i, n, c, A, ws, rfl, rfl, hwn, HI, HO, HB⟩ := hrel
      have hfew := HI.out.few
      have hile := HI.out.le
      by_cases hlt : i < n
      · have i1 : (i : Int) < (n : Int) := by omega
        have hil : i < ws.length := by omega
        have HI1 := lid' (HI.out.open hil)
        have hu4 : (ws.getD i []).length ≤ 4 := HI.out.sm _ (by rw [List.getD_eq_getElem?_getD, List.getElem?_eq_getElem hil]; exact List.getElem_mem hil)
        obtain ⟨u, hu⟩ : ∃ u, ws.getD i [] = u := ⟨_, rfl⟩
        rw [hu] at HI1 hu4
        rw [← ow_0 hu4] at HI1
        have HU := lid' hu
        have HWN := lid' hwn
        clear hu hwn HI hil hile hfew
        go_wp2
        go_loopw [7, 9] (fun v7 v9 wi => ∃ (b n c : Nat) (A : Option Addr) (ws : List (List UInt8)), v9 = .int .i64 (b : Int) ∧ b ≤ 3 ∧ v7 = .slice A n c ∧ i < n ∧ Hid (ws.length = n) ∧ Hid (ws.getD i [] = u) ∧ Hid (WdI ws (i + 1) (ow u b)) ∧ Hid (wi.ownsRow w3.heap.size 9 1 (.slice A n c) n (sC ws)) ∧ Hid (Below w3.heap.size w3 wi)) (fun v7 v9 wi => 3 - (intOf v9).toNat)
        case atStart => exact ⟨0, n, c, A, ws, rfl, by decide, rfl, hlt, HWN, HU, HI1, HO, HB⟩
        case round =>
          clear HI1 HO HB HU HWN hlt i1
          rename_i n0 c0 A0' ws0 wr0
          obtain ⟨b, n, c, A, ws, rfl, hb3, rfl, hin, HWN, HU, HI, HO, HB⟩ := hrel
          by_cases hb : b < 3
          · have hil : i < ws.length := by rw [HWN.out]; exact hin
            obtain ⟨g, cg, eg, _, _⟩ := World.ownsRow.form HO.out (by omega)
            injection eg with eg _ egc
            subst eg
            subst egc
            have d0 := (World.ownsRow.cellAt HO.out i (by omega)).trans (sC_at ws hil)
            rw [HU.out] at d0
            have he := abc_at u hb
            have sz := cat_sz' u hb
            obtain ⟨T, hT⟩ : ∃ T, T = u ++ [UInt8.ofNat (97 + b)] := ⟨_, rfl⟩
            have hTl : T.length = u.length + 1 := by rw [hT, List.length_append]; rfl
            have hTn : T ≠ [] := by rw [hT]; simp
            rw [← hT] at he
            have i1 : (i : Int) < (n : Int) := by omega
            have i0' : (0 : Int) ≤ (i : Int) := by omega
            have b1 : (b : Int) < 3 := by omega
            have b0 : (0 : Int) ≤ (b : Int) := by omega
            have b2 : (b : Int) + 1 ≤ 3 := by omega
            have HTL := lid' hTl
            have HTN := lid' hTn
            have hT5 : T.length ≤ 5 := by omega
            clear hT hTl hTn
            go_upto_region 13 with fail
            go_quiet (fail)
            have HOd : Hid ((wr.drewN nq).ownsRow w3.heap.size 9 1 (.slice (some ⟨g, 0, none⟩) n c) n (sC ws)) := HO
            have HBd := lid' (below_drewN HB.out nq)
            clear HO HB d0 he sz
            generalize wr.drewN nq = Wd at *
            have HKd := Ky.later HK HBd
            have HPd := Rp.lat HP HBd
            have hfw := HI.out.few
            have hn9 : n ≤ 121 := by rw [← HWN.out]; exact hfw
            clear hfw
            have hw := sh_ways HS.out HTN.out
            rw [List.length_cons] at hw
            push_cast at hw
            rcases hw with ⟨h, _⟩ | ⟨_, a1 | ⟨a1, a2, a3⟩ | ⟨a1, a2, a3, hm⟩ | ⟨a1, a2, hm⟩⟩
            · cases h
            · clear HI HOd HBd HPd
              go_wp2
              go_ret
              exact ⟨rfl, HKd.out.b⟩
            · clear HI HOd HBd HPd
              go_wp2
              go_ret
              exact ⟨rfl, HKd.out.b⟩
            · have HTL2 := HTL
              have HM2 := lid' (HM.out T false (by omega) (HN.out T hm) Wd A2 c2 HKd HPd)
              clear hm
              go_wp2_with fail
              with_reducible refine HM2.out.mono ?_
              rintro e W5 ⟨rfl, hb5⟩
              have HO5 := lid' (own_block HOd.out (fun k hk => hb5.out.block k (World.ownsRow.lt HOd.out k hk).2))
              have HB5 := lid' (HBd.out.trans (hb5.out.mono HBd.out.size))
              have hBw := HB5.out.size
              clear HOd HBd hb5 HM2 HKd HPd
              by_cases c5 : u.length + 1 < 5
              · have c6 : (T.length : Int) < 5 := by have := HTL.out; omega
                have HI5 := lid' (show WdI ws (i + 1) (ow u (b + 1) + 1 + wt T.length) by rw [HTL.out, ← ow_s hb c5]; exact HI.out)
                have hT4 : T.length ≤ 4 := by omega
                clear HI c5
                have hsl := sC_len ws
                rw [HWN.out] at hsl
                go_wp2_with (at_builtin; refine wpList_append_lies _ rfl _ _ _ rfl w3.heap.size 9 i0 _ 1 16 Tryd.underlying38 hi0 hz0 hz1 hz2 rfl (by omega) (.slice (some ⟨g, 0, none⟩) n c) n (sC ws) rfl (HO5.out.alloc _) _ _ _ [.string ⟨T.toArray⟩] rfl rfl (World.news_of_block (heap_alloc_new _ _)) (by simp [Value.oneCell']) (by omega) (by simp only [maxLen]; omega) (by omega) (by simp; omega) _ rfl ?_; intro g2 cc w5 hown hgrow hat hlt5)
                have HO6 := lid' (show w5.ownsRow w3.heap.size 9 1 (.slice (some ⟨g2, 0, none⟩) (n + 1) cc) (n + 1) (sC (ws ++ [T])) by rw [sC_app]; exact hown)
                have HB6 := lid' ((HB5.out.alloc hBw _).grown hgrow (by simp; omega) (fun r e => (HO5.out.lt r e).1))
                clear hown hgrow hat hlt5 HO5 HB5
                go_wp2
                go_roundw
                · exact ⟨b + 1, n + 1, cc, _, ws ++ [T], by simp, by omega, rfl, by omega, lid' (by rw [List.length_append, HWN.out]; rfl), lid' (by rw [List.getD_eq_getElem?_getD, List.getElem?_append_left (by rw [HWN.out]; exact hin), ← List.getD_eq_getElem?_getD]; exact HU.out), lid' (HI5.out.grow hT4), HO6, HB6⟩
                · simp only [intOf]; omega
              · have c6 : ¬ (T.length : Int) < 5 := by have := HTL.out; omega
                have HI5 := lid' (show WdI ws (i + 1) (ow u (b + 1)) by rw [ow_n c5]; exact HI.out)
                clear HI c5
                go_wp2
                go_roundw
                · exact ⟨b + 1, n, c, _, ws, by simp, by omega, rfl, hin, HWN, HU, HI5, HO5, HB5⟩
                · simp only [intOf]; omega
            · have HTL2 := HTL
              have HM2 := lid' (HM.out T false (by omega) (HN.out T hm) Wd A2 c2 HKd HPd)
              clear hm
              go_wp2_with fail
              with_reducible refine HM2.out.mono ?_
              rintro e W5 ⟨rfl, hb5⟩
              have HO5 := lid' (own_block HOd.out (fun k hk => hb5.out.block k (World.ownsRow.lt HOd.out k hk).2))
              have HB5 := lid' (HBd.out.trans (hb5.out.mono HBd.out.size))
              have hBw := HB5.out.size
              clear HOd HBd hb5 HM2 HKd HPd
              by_cases c5 : u.length + 1 < 5
              · have c6 : (T.length : Int) < 5 := by have := HTL.out; omega
                have HI5 := lid' (show WdI ws (i + 1) (ow u (b + 1) + 1 + wt T.length) by rw [HTL.out, ← ow_s hb c5]; exact HI.out)
                have hT4 : T.length ≤ 4 := by omega
                clear HI c5
                have hsl := sC_len ws
                rw [HWN.out] at hsl
                go_wp2_with (at_builtin; refine wpList_append_lies _ rfl _ _ _ rfl w3.heap.size 9 i0 _ 1 16 Tryd.underlying38 hi0 hz0 hz1 hz2 rfl (by omega) (.slice (some ⟨g, 0, none⟩) n c) n (sC ws) rfl (HO5.out.alloc _) _ _ _ [.string ⟨T.toArray⟩] rfl rfl (World.news_of_block (heap_alloc_new _ _)) (by simp [Value.oneCell']) (by omega) (by simp only [maxLen]; omega) (by omega) (by simp; omega) _ rfl ?_; intro g2 cc w5 hown hgrow hat hlt5)
                have HO6 := lid' (show w5.ownsRow w3.heap.size 9 1 (.slice (some ⟨g2, 0, none⟩) (n + 1) cc) (n + 1) (sC (ws ++ [T])) by rw [sC_app]; exact hown)
                have HB6 := lid' ((HB5.out.alloc hBw _).grown hgrow (by simp; omega) (fun r e => (HO5.out.lt r e).1))
                clear hown hgrow hat hlt5 HO5 HB5
                go_wp2
                go_roundw
                · exact ⟨b + 1, n + 1, cc, _, ws ++ [T], by simp, by omega, rfl, by omega, lid' (by rw [List.length_append, HWN.out]; rfl), lid' (by rw [List.getD_eq_getElem?_getD, List.getElem?_append_left (by rw [HWN.out]; exact hin), ← List.getD_eq_getElem?_getD]; exact HU.out), lid' (HI5.out.grow hT4), HO6, HB6⟩
                · simp only [intOf]; omega
              · have c6 : ¬ (T.length : Int) < 5 := by have := HTL.out; omega
                have HI5 := lid' (show WdI ws (i + 1) (ow u (b + 1)) by rw [ow_n c5]; exact HI.out)
                clear HI c5
                go_wp2
                go_roundw
                · exact ⟨b + 1, n, c, _, ws, by simp, by omega, rfl, hin, HWN, HU, HI5, HO5, HB5⟩
                · simp only [intOf]; omega
          · obtain rfl : b = 3 := by omega
            rw [ow_3] at HI
            have hfw := HI.out.few
            rw [HWN.out] at hfw
            have i9 : (i : Int) < 121 := by omega
            clear hfw
            go_wp2
            go_roundw
            · exact ⟨i + 1, n, c, A, ws, rfl, by simp, HWN.out, HI, HO, HB⟩
            · simp only [intOf]; omega
      · have i1 : ¬ (i : Int) < (n : Int) := by omega
        have HK2 := Ky.later HK HB
        clear HI HO HB HK
        go_wp2
        go_ret
        exact ⟨rfl, HK2.out.b⟩
  · obtain rfl : z = 3 := by
      rcases HS.out with ⟨h, _⟩ | ⟨h, _⟩
      · exact absurd h hz0
      · exact h
    clear hz0
    have HW := lid' (Below.refl w3.heap.size w3)
    go_upto_region 6 with fail
    have HOL := lid' (World.ownsRow_lit (base := w3.heap.size) (size := 1) (e := 9) w3 #[.string ⟨#[]⟩] 1 HW.out.size (by decide) rfl)
    have HBL := lid' (HW.out.alloc HW.out.size (.cells #[.string ⟨#[]⟩] 9))
    clear HW
    go_upto_region 7 with fail
    generalize World.alloc w3 _ = W2 at *
    go_wp2
    go_loopw [7, 8] (fun v7 v8 wr => ∃ (i n c : Nat) (A : Option Addr) (ws : List (List UInt8)), v7 = .slice A n c ∧ v8 = .int .i64 (i : Int) ∧ ws.length = n ∧ Hid (WdI ws i 0) ∧ Hid (wr.ownsRow w3.heap.size 9 1 (.slice A n c) n (sC ws)) ∧ Hid (Below w3.heap.size w3 wr)) (fun v7 v8 wr => 122 - (intOf v8).toNat)
    case atStart => exact ⟨0, 1, _, _, [[]], rfl, rfl, rfl, lid' ⟨by decide, fun u hu => by rw [List.mem_singleton.1 hu]; decide, rfl⟩, HOL, HBL⟩
    case round =>
      clear HOL HBL
      obtain ⟨i, n, c, A, ws, rfl, rfl, hwn, HI, HO, HB⟩ := hrel
      have hfew := HI.out.few
      have hile := HI.out.le
      by_cases hlt : i < n
      · have i1 : (i : Int) < (n : Int) := by omega
        have hil : i < ws.length := by omega
        have HI1 := lid' (HI.out.open hil)
        have hu4 : (ws.getD i []).length ≤ 4 := HI.out.sm _ (by rw [List.getD_eq_getElem?_getD, List.getElem?_eq_getElem hil]; exact List.getElem_mem hil)
        obtain ⟨u, hu⟩ : ∃ u, ws.getD i [] = u := ⟨_, rfl⟩
        rw [hu] at HI1 hu4
        rw [← ow_0 hu4] at HI1
        have HU := lid' hu
        have HWN := lid' hwn
        clear hu hwn HI hil hile hfew
        go_wp2
        go_loopw [7, 9] (fun v7 v9 wi => ∃ (b n c : Nat) (A : Option Addr) (ws : List (List UInt8)), v9 = .int .i64 (b : Int) ∧ b ≤ 3 ∧ v7 = .slice A n c ∧ i < n ∧ Hid (ws.length = n) ∧ Hid (ws.getD i [] = u) ∧ Hid (WdI ws (i + 1) (ow u b)) ∧ Hid (wi.ownsRow w3.heap.size 9 1 (.slice A n c) n (sC ws)) ∧ Hid (Below w3.heap.size w3 wi)) (fun v7 v9 wi => 3 - (intOf v9).toNat)
        case atStart => exact ⟨0, n, c, A, ws, rfl, by decide, rfl, hlt, HWN, HU, HI1, HO, HB⟩
        case round =>
          clear HI1 HO HB HU HWN hlt i1
          rename_i n0 c0 A0' ws0 wr0
          obtain ⟨b, n, c, A, ws, rfl, hb3, rfl, hin, HWN, HU, HI, HO, HB⟩ := hrel
          by_cases hb : b < 3
          · have hil : i < ws.length := by rw [HWN.out]; exact hin
            obtain ⟨g, cg, eg, _, _⟩ := World.ownsRow.form HO.out (by omega)
            injection eg with eg _ egc
            subst eg
            subst egc
            have d0 := (World.ownsRow.cellAt HO.out i (by omega)).trans (sC_at ws hil)
            rw [HU.out] at d0
            have he := abc_at u hb
            have sz := cat_sz' u hb
            obtain ⟨T, hT⟩ : ∃ T, T = u ++ [UInt8.ofNat (97 + b)] := ⟨_, rfl⟩
            have hTl : T.length = u.length + 1 := by rw [hT, List.length_append]; rfl
            have hTn : T ≠ [] := by rw [hT]; simp
            rw [← hT] at he
            have i1 : (i : Int) < (n : Int) := by omega
            have i0' : (0 : Int) ≤ (i : Int) := by omega
            have b1 : (b : Int) < 3 := by omega
            have b0 : (0 : Int) ≤ (b : Int) := by omega
            have b2 : (b : Int) + 1 ≤ 3 := by omega
            have HTL := lid' hTl
            have HTN := lid' hTn
            have hT5 : T.length ≤ 5 := by omega
            clear hT hTl hTn
            go_upto_region 13 with fail
            go_quiet (fail)
            have HOd : Hid ((wr.drewN nq).ownsRow w3.heap.size 9 1 (.slice (some ⟨g, 0, none⟩) n c) n (sC ws)) := HO
            have HBd := lid' (below_drewN HB.out nq)
            clear HO HB d0 he sz
            generalize wr.drewN nq = Wd at *
            have HKd := Ky.later HK HBd
            have HPd := Rp.lat HP HBd
            have hfw := HI.out.few
            have hn9 : n ≤ 121 := by rw [← HWN.out]; exact hfw
            clear hfw
            have hm : ¬ a.mt T := sh_none HS.out HTN.out
            have HM2 := lid' (HM.out T false (by omega) (HN.out T hm) Wd A2 c2 HKd HPd)
            clear hm
            go_wp2_with fail
            with_reducible refine HM2.out.mono ?_
            rintro e W5 ⟨rfl, hb5⟩
            have HO5 := lid' (own_block HOd.out (fun k hk => hb5.out.block k (World.ownsRow.lt HOd.out k hk).2))
            have HB5 := lid' (HBd.out.trans (hb5.out.mono HBd.out.size))
            have hBw := HB5.out.size
            clear HOd HBd hb5 HM2 HKd HPd
            by_cases c5 : u.length + 1 < 5
            · have c6 : (T.length : Int) < 5 := by have := HTL.out; omega
              have HI5 := lid' (show WdI ws (i + 1) (ow u (b + 1) + 1 + wt T.length) by rw [HTL.out, ← ow_s hb c5]; exact HI.out)
              have hT4 : T.length ≤ 4 := by omega
              clear HI c5
              have hsl := sC_len ws
              rw [HWN.out] at hsl
              go_wp2_with (at_builtin; refine wpList_append_lies _ rfl _ _ _ rfl w3.heap.size 9 i0 _ 1 16 Tryd.underlying38 hi0 hz0 hz1 hz2 rfl (by omega) (.slice (some ⟨g, 0, none⟩) n c) n (sC ws) rfl (HO5.out.alloc _) _ _ _ [.string ⟨T.toArray⟩] rfl rfl (World.news_of_block (heap_alloc_new _ _)) (by simp [Value.oneCell']) (by omega) (by simp only [maxLen]; omega) (by omega) (by simp; omega) _ rfl ?_; intro g2 cc w5 hown hgrow hat hlt5)
              have HO6 := lid' (show w5.ownsRow w3.heap.size 9 1 (.slice (some ⟨g2, 0, none⟩) (n + 1) cc) (n + 1) (sC (ws ++ [T])) by rw [sC_app]; exact hown)
              have HB6 := lid' ((HB5.out.alloc hBw _).grown hgrow (by simp; omega) (fun r e => (HO5.out.lt r e).1))
              clear hown hgrow hat hlt5 HO5 HB5
              go_wp2
              go_roundw
              · exact ⟨b + 1, n + 1, cc, _, ws ++ [T], by simp, by omega, rfl, by omega, lid' (by rw [List.length_append, HWN.out]; rfl), lid' (by rw [List.getD_eq_getElem?_getD, List.getElem?_append_left (by rw [HWN.out]; exact hin), ← List.getD_eq_getElem?_getD]; exact HU.out), lid' (HI5.out.grow hT4), HO6, HB6⟩
              · simp only [intOf]; omega
            · have c6 : ¬ (T.length : Int) < 5 := by have := HTL.out; omega
              have HI5 := lid' (show WdI ws (i + 1) (ow u (b + 1)) by rw [ow_n c5]; exact HI.out)
              clear HI c5
              go_wp2
              go_roundw
              · exact ⟨b + 1, n, c, _, ws, by simp, by omega, rfl, hin, HWN, HU, HI5, HO5, HB5⟩
              · simp only [intOf]; omega
          · obtain rfl : b = 3 := by omega
            rw [ow_3] at HI
            have hfw := HI.out.few
            rw [HWN.out] at hfw
            have i9 : (i : Int) < 121 := by omega
            clear hfw
            go_wp2
            go_roundw
            · exact ⟨i + 1, n, c, A, ws, rfl, by simp, HWN.out, HI, HO, HB⟩
            · simp only [intOf]; omega
      · have i1 : ¬ (i : Int) < (n : Int) := by omega
        have HK2 := Ky.later HK HB
        clear HI HO HB HK
        go_wp2
        go_ret
        exact ⟨rfl, HK2.out.b⟩

end Go.Proofs.YtgjhicahopcfcaaDoor
