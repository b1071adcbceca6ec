/-
  The law PatternParentheses returns true.
-/
import Derived.Test.YtgjhicahopcfcaaDoorPt
import Derived.Test.YtgjhicahopcfcaaDoorPu
namespace Go.Proofs.YtgjhicahopcfcaaDoor
open Go.RowKit Go.Shelf
set_option linter.unusedVariables false
set_option linter.unusedSimpArgs false
attribute [local go_sem ↓] Go.wp_at_zero Go.wp_at_succ

/-- the depth behind a string -/
def run : Nat → List UInt8 → Option Nat
  | d, [] => some d
  | d, b :: s => if b = 40 then run (d + 1) s else if b = 41 then (if d = 0 then none else run (d - 1) s) else run d s
theorem run_else (d : Nat) {b : UInt8} (s : List UInt8) (h1 : b ≠ 40) (h2 : b ≠ 41) : run d (b :: s) = run d s := by rw [run, if_neg h1, if_neg h2]
theorem run_open (d : Nat) (s : List UInt8) : run d (40 :: s) = run (d + 1) s := by rw [run, if_pos rfl]
theorem run_shut (d : Nat) (s : List UInt8) : run (d + 1) (41 :: s) = run d s := by rw [run, if_neg (by decide), if_pos rfl, if_neg (by omega)]; rfl
theorem plain_abc {n : Nat} (h : 97 ≤ n ∧ n ≤ 99) : chB n = [UInt8.ofNat n] ∧ UInt8.ofNat n ≠ 40 ∧ UInt8.ofNat n ≠ 41 := by
  rcases (show n = 97 ∨ n = 98 ∨ n = 99 by omega) with rfl | rfl | rfl <;> decide
theorem run_txt : ∀ (r : Rx), r.abc → ∀ (least d : Nat) (rest : List UInt8), run d (r.txt least ++ rest) = run d rest
  | .emp, _, least, d, rest => by
    show run d (40 :: 41 :: rest) = _
    rw [run_open, run_shut]
  | .rng lo hi, h, least, d, rest => by
    obtain ⟨h1, h2, h3⟩ := h
    obtain ⟨a1, a2, a3⟩ := plain_abc (n := lo) ⟨h1, by omega⟩
    obtain ⟨b1, b2, b3⟩ := plain_abc (n := hi) ⟨by omega, h3⟩
    unfold Rx.txt Rx.tks
    by_cases c : lo = hi
    · rw [if_pos c]
      show run d ((chB lo ++ []) ++ rest) = _
      rw [a1]
      exact run_else d rest a2 a3
    · rw [if_neg c]
      show run d ((91 :: (chB lo ++ (45 :: (chB hi ++ [93])))) ++ rest) = _
      rw [a1, b1]
      show run d (91 :: UInt8.ofNat lo :: 45 :: UInt8.ofNat hi :: 93 :: rest) = _
      rw [run_else _ _ (by decide) (by decide), run_else _ _ a2 a3, run_else _ _ (by decide) (by decide), run_else _ _ b2 b3, run_else _ _ (by decide) (by decide)]
  | .seq a b, h, least, d, rest => by
    have e : ∀ d rest, run d ((a.tks 2 ++ b.tks 3).flatMap tokB ++ rest) = run d rest := fun d rest => by
      rw [List.flatMap_append, List.append_assoc]
      exact (run_txt a h.1 2 d _).trans (run_txt b h.2 3 d rest)
    unfold Rx.txt Rx.tks
    by_cases c : 2 < least
    · rw [if_pos c]
      show run d (40 :: ((a.tks 2 ++ b.tks 3) ++ [(true, 41)]).flatMap tokB ++ rest) = _
      rw [List.flatMap_append, List.cons_append, run_open, List.append_assoc, e]
      exact run_shut d rest
    · rw [if_neg c]
      exact e d rest
  | .alt a b, h, least, d, rest => by
    have e : ∀ d rest, run d ((a.tks 1 ++ (true, 124) :: b.tks 2).flatMap tokB ++ rest) = run d rest := fun d rest => by
      rw [List.flatMap_append, List.append_assoc]
      refine (run_txt a h.1 1 d _).trans ?_
      show run d (124 :: ((b.tks 2).flatMap tokB ++ rest)) = _
      rw [run_else _ _ (by decide) (by decide)]
      exact run_txt b h.2 2 d rest
    unfold Rx.txt Rx.tks
    by_cases c : 1 < least
    · rw [if_pos c]
      show run d (40 :: ((a.tks 1 ++ (true, 124) :: b.tks 2) ++ [(true, 41)]).flatMap tokB ++ rest) = _
      rw [List.flatMap_append, List.cons_append, run_open, List.append_assoc, e]
      exact run_shut d rest
    · rw [if_neg c]
      exact e d rest
  | .rep a, h, least, d, rest => by
    have e : ∀ d rest, run d ((a.tks 3 ++ [(true, 42)]).flatMap tokB ++ rest) = run d rest := fun d rest => by
      rw [List.flatMap_append, List.append_assoc]
      refine (run_txt a h 3 d _).trans ?_
      exact run_else (b := 42) d rest (by decide) (by decide)
    unfold Rx.txt Rx.tks
    by_cases c : 3 < least
    · rw [if_pos c]
      show run d (40 :: ((a.tks 3 ++ [(true, 42)]) ++ [(true, 41)]).flatMap tokB ++ rest) = _
      rw [List.flatMap_append, List.cons_append, run_open, List.append_assoc, e]
      exact run_shut d rest
    · rw [if_neg c]
      exact e d rest
/-- where the walk stands: positions that are open -/
structure OpI (T : List UInt8) (st : List Nat) (i : Nat) : Prop where
  le : i ≤ T.length
  rn : run st.length (T.drop i) = some 0
  po : ∀ p ∈ st, p < i ∧ T.getD p 0 = 40
theorem OpI.start {r : Rx} (h : r.abc) : OpI (r.txt 1) [] 0 := ⟨Nat.zero_le _, by have := run_txt r h 1 0 []; rw [List.append_nil] at this; exact this, fun p hp => by cases hp⟩
theorem drop_at {T : List UInt8} {i : Nat} (h : i < T.length) : T.drop i = T.getD i 0 :: T.drop (i + 1) := by
  rw [List.drop_eq_getElem_cons h, List.getD_eq_getElem?_getD, List.getElem?_eq_getElem h]
  rfl
theorem OpI.push {T : List UInt8} {st : List Nat} {i : Nat} (h : OpI T st i) (hi : i < T.length) (hc : T.getD i 0 = 40) : OpI T (st ++ [i]) (i + 1) := by
  refine ⟨hi, ?_, fun p hp => ?_⟩
  · have := h.rn
    rw [drop_at hi, hc, run_open] at this
    rw [List.length_append]
    exact this
  · rcases List.mem_append.1 hp with q | q
    · have := h.po p q; exact ⟨by omega, this.2⟩
    · rw [List.mem_singleton.1 q]; exact ⟨by omega, hc⟩
theorem OpI.skip {T : List UInt8} {st : List Nat} {i : Nat} (h : OpI T st i) (hi : i < T.length) (h1 : T.getD i 0 ≠ 40) (h2 : T.getD i 0 ≠ 41) : OpI T st (i + 1) := by
  refine ⟨hi, ?_, fun p hp => ?_⟩
  · have := h.rn
    rw [drop_at hi, run_else _ _ h1 h2] at this
    exact this
  · have := h.po p hp; exact ⟨by omega, this.2⟩
theorem OpI.pop {T : List UInt8} {st : List Nat} {i : Nat} (h : OpI T st i) (hi : i < T.length) (hc : T.getD i 0 = 41) : ∃ st' p, st = st' ++ [p] ∧ p < i ∧ T.getD p 0 = 40 ∧ OpI T st' (i + 1) := by
  have hr := h.rn
  rw [drop_at hi, hc] at hr
  rcases List.eq_nil_or_concat st with h0 | ⟨st', p, h0⟩
  · subst h0
    rw [List.length_nil, run, if_neg (by decide), if_pos rfl, if_pos rfl] at hr
    cases hr
  · rw [List.concat_eq_append] at h0
    subst h0
    have hp := h.po p (by simp)
    rw [List.length_append, List.length_singleton, run_shut] at hr
    exact ⟨st', p, rfl, hp.1, hp.2, ⟨hi, hr, fun q hq => by have := h.po q (by simp [hq]); exact ⟨by omega, this.2⟩⟩⟩
theorem OpI.fin {T : List UInt8} {st : List Nat} (h : OpI T st T.length) : st = [] := by
  have hr := h.rn
  rw [List.drop_length] at hr
  injection hr with hr
  exact List.eq_nil_of_length_eq_zero hr
def iC (st : List Nat) : List Value := st.map fun (p : Nat) => Value.int .i64 (p : Int)
theorem iC_app (st : List Nat) (p : Nat) : iC (st ++ [p]) = iC st ++ [.int .i64 (p : Int)] := by unfold iC; simp
theorem iC_len (st : List Nat) : (iC st).length = st.length := List.length_map _
theorem iC_last (st : List Nat) (p : Nat) : (iC (st ++ [p]))[st.length]? = some (.int .i64 (p : Int)) := by
  rw [iC_app, List.getElem?_append_right (by rw [iC_len]; exact Nat.le_refl _), iC_len, Nat.sub_self]
  rfl
theorem iC_take (st : List Nat) (p : Nat) : (iC (st ++ [p])).take st.length = iC st := by
  rw [iC_app, List.take_append_of_le_length (by rw [iC_len]; exact Nat.le_refl _), List.take_of_length_le (by rw [iC_len]; exact Nat.le_refl _)]
/-- the string without the pair -/
def cutP (T : List UInt8) (p i : Nat) : List UInt8 := T.take p ++ (T.drop (p + 1)).take (i - (p + 1)) ++ T.drop (i + 1)
theorem cut_cb {T : List UInt8} {p i : Nat} (hp : p < i) (hi : i < T.length) (h1 : T.getD p 0 = 40) : cb (cutP T p i) < cb T := by
  have e1 : T = T.take p ++ T.drop p := (List.take_append_drop p T).symm
  have e2 := drop_at (T := T) (i := p) (by omega)
  have e3 : T.drop (p + 1) = (T.drop (p + 1)).take (i - (p + 1)) ++ (T.drop (p + 1)).drop (i - (p + 1)) := (List.take_append_drop _ _).symm
  have e4 : (T.drop (p + 1)).drop (i - (p + 1)) = T.drop i := by rw [List.drop_drop]; congr 1; omega
  have e5 := drop_at hi
  have c : cb T = cb (T.take p) + (1 + (cb ((T.drop (p + 1)).take (i - (p + 1))) + ((if T.getD i 0 = 40 then 1 else 0) + cb (T.drop (i + 1))))) := by
    conv => lhs; rw [e1]
    rw [cb_app, e2, h1]
    show _ + (1 + cb (T.drop (p + 1))) = _
    conv => lhs; rw [e3]
    rw [cb_app, e4, e5]
    rfl
  unfold cutP
  rw [cb_app, cb_app, c]
  omega
/-- what Parse makes of it -/
theorem cut_prs {r : Rx} (h : r.by8) {p i : Nat} (hp : p < i) (hi : i < (r.txt 1).length) (h1 : (r.txt 1).getD p 0 = 40) : (∃ z : Int, z ≠ 0 ∧ prsP (cutP (r.txt 1) p i) = ([], z)) ∨ ∃ q : Rx, q.nn ≤ 512 ∧ prsP (cutP (r.txt 1) p i) = (q.po [], 0) ∧ q.po [] ≠ r.po [] := by
  have hc := cut_cb hp hi h1
  have key : ∀ T : List UInt8, (∃ z : Int, z ≠ 0 ∧ prsP T = ([], z)) ∨ ∃ q : Rx, q.nn ≤ 512 ∧ prsP T = (q.po [], 0) := fun T => by
    unfold prsP
    split
    · exact .inl ⟨2, by decide, rfl⟩
    · split
      · exact .inl ⟨40, by decide, rfl⟩
      · split
        · split
          · exact .inl ⟨2, by decide, rfl⟩
          · rename_i q _ hq
            exact .inr ⟨q, by omega, rfl⟩
        · exact .inl ⟨40, by decide, rfl⟩
  rcases key (cutP (r.txt 1) p i) with h2 | ⟨q, h2, h3⟩
  · exact .inl h2
  · exact .inr ⟨q, h2, h3, prs_fewer h _ hc q h3⟩
theorem infoIntP : (Tryd.prog.info? 3).map (fun i => (i.zero, i.size, i.bytes)) = some (some (.int .i64 0), 1, 8) := by kernel_rfl
theorem cut_bytes (T : List UInt8) {p i : Nat} (hp : p < i) (hi : i < T.length) : ((⟨T.toArray⟩ : ByteArray).extract 0 p ++ (⟨T.toArray⟩ : ByteArray).extract (p + 1) i ++ (⟨T.toArray⟩ : ByteArray).extract (i + 1) T.length).data.toList = cutP T p i := by
  have e1 := ext_take T 0 p
  have e2 := ext_take T (p + 1) (i - (p + 1))
  have e3 := ext_take T (i + 1) (T.length - (i + 1))
  rw [Nat.zero_add] at e1
  rw [show p + 1 + (i - (p + 1)) = i by omega] at e2
  rw [show i + 1 + (T.length - (i + 1)) = T.length by omega] at e3
  have ap : ∀ a b : ByteArray, (a ++ b).data.toList = a.data.toList ++ b.data.toList := fun a b => by rw [ByteArray.data_append]; simp
  rw [ap, ap, e1, e2, e3, List.drop_zero, List.take_of_length_le (l := T.drop (i + 1)) (by rw [List.length_drop]; omega)]
  rfl

set_option maxHeartbeats 8000000 in
set_option maxRecDepth 100000 in
theorem lawP_walk (A0 : Option Addr) (m0 c0 : Nat) (l0 : List Nat) (w : World) (h0 : Hid (B8 w w.heap.size A0 m0 l0)) (hm0 : m0 ≤ 9223372036854775807) (hz : Hid (Tz w ∧ 3 < w.heap.size)) :
    Calls Tryd.prog 8 #[.slice A0 m0 c0] w fun e w' => e = .returned (.bool true) ∧ Below w.heap.size w w' := by
  obtain ⟨i0, hi0, hz0, hz1, hz2⟩ := info_parts infoIntP
  have HK := Ky.first hz.out.1 hz.out.2
  obtain ⟨ha, hna⟩ := madeR_ok l0 (most := 30) (by decide)
  have HMA := lid' (fun W hk => kp_made w W hk A0 c0 m0 30 l0 h0 hm0 (by decide) (by decide) 30 rfl)
  generalize madeR l0 30 = a at *
  have HPr := lid' (fun W A c hr => kp_print w W a ha.by8 (by omega) A c hr)
  have HSan := lid' (fun W hk => kp_san w W hk)
  have HI0 := lid' (OpI.start ha)
  have htl := txt_len a 1
  have HCut := lid' (fun p i => cut_prs (r := a) ha.by8 (p := p) (i := i))
  have HSm := lid' (fun W b hb A A' c c' => kp_same w W b a hb A A' c c')
  clear h0 hz ha hm0
  have hT3 : (a.txt 1).length ≤ 330 := by omega
  clear htl hna
  generalize a.txt 1 = T at *
  generalize a.po [] = p at *
  generalize p.length = pn at *
  go_enter Tryd.func8, Tryd.ntmps8
  go_wp2_with fail
  with_reducible refine (HSan.out w HK).mono ?_
  rintro e w1 ⟨rfl, b1⟩
  replace HK := Ky.later HK b1
  clear b1 HSan
  go_wp2_with fail
  with_reducible refine (HMA.out w1 HK).mono ?_
  rintro e w2 ⟨A2, c2, rfl, HP, b2⟩
  replace HK := Ky.later HK b2
  clear b2 HMA
  go_wp2_with fail
  with_reducible refine (HPr.out w2 _ _ HP).mono ?_
  rintro e w3 ⟨rfl, b3⟩
  replace HK := Ky.later HK b3
  replace HP := Rp.lat HP b3
  clear b3 HPr
  go_upto_region 7 with fail
  have HOL := lid' (World.ownsRow_lit (base := w3.heap.size) (size := 1) (e := 3) w3 #[] 0 (Nat.le_refl _) (by decide) rfl)
  have HBL := lid' ((Below.refl w3.heap.size w3).alloc (Nat.le_refl _) (.cells #[] 3))
  generalize World.alloc w3 _ = W2 at *
  go_wp2
  go_loopw [7, 8] (fun v7 v8 wr => ∃ (i n c : Nat) (A : Option Addr) (st : List Nat), v7 = .slice A n c ∧ v8 = .int .i64 (i : Int) ∧ st.length = n ∧ n ≤ i ∧ i ≤ T.length ∧ Hid (OpI T st i) ∧ Hid (wr.ownsRow w3.heap.size 3 1 (.slice A n c) n (iC st)) ∧ Hid (Below w3.heap.size w3 wr)) (fun v7 v8 wr => 400 - (intOf v8).toNat)
  case atStart => exact ⟨0, 0, _, _, [], rfl, rfl, rfl, Nat.le_refl _, Nat.zero_le _, HI0, HOL, HBL⟩
  case round =>
    clear HOL HBL HI0
    obtain ⟨i, n, c, A, st, rfl, rfl, hsn, hni, hiT, HI, HO, HB⟩ := hrel
    by_cases hlt : i < T.length
    · have i1 : (i : Int) < (T.length : Int) := by omega
      have ii : (0 : Int) ≤ (i : Int) := by omega
      have hpf : i < (⟨T.toArray⟩ : ByteArray).size := by show i < T.toArray.size; rw [List.size_toArray]; exact hlt
      have hx : (⟨T.toArray⟩ : ByteArray)[i]'hpf = T.getD i 0 := by
        rw [List.getD_eq_getElem?_getD, List.getElem?_eq_getElem hlt]
        rfl
      by_cases q40 : T.getD i 0 = 40
      · have HI1 := lid' (HI.out.push hlt q40)
        rw [q40] at hx
        have HSN := lid' hsn
        have hsl := iC_len st
        rw [hsn] at hsl
        clear HI q40 hsn
        go_wp2_with (at_builtin; refine wpList_append_lies _ rfl _ _ _ rfl w3.heap.size 3 i0 _ 1 8 Tryd.underlying48 hi0 hz0 hz1 hz2 rfl (by omega) (.slice A n c) n (iC st) rfl (HO.out.alloc _) _ _ _ [.int .i64 (i : Int)] rfl rfl (World.news_of_block (heap_alloc_new _ _)) (by simp [Value.oneCell']) (by omega) (by simp only [maxLen]; omega) (by omega) (by have := HB.out.size; simp; omega) _ rfl ?_; intro g2 cc w5 hown hgrow hat hlt5)
        have HO6 := lid' (show w5.ownsRow w3.heap.size 3 1 (.slice (some ⟨g2, 0, none⟩) (n + 1) cc) (n + 1) (iC (st ++ [i])) by rw [iC_app]; exact hown)
        have HB6 := lid' ((HB.out.alloc HB.out.size _).grown hgrow (by have := HB.out.size; simp; omega) (fun r e => (HO.out.lt r e).1))
        clear hown hgrow hat hlt5 HO HB
        go_wp2
        go_roundw
        · exact ⟨i + 1, n + 1, cc, _, st ++ [i], rfl, by simp, by rw [List.length_append, HSN.out]; rfl, by omega, by omega, HI1, HO6, HB6⟩
        · simp only [intOf]; omega
      · by_cases q41 : T.getD i 0 = 41
        · obtain ⟨st', pp, rfl, hpi, hp40, hI1⟩ := HI.out.pop hlt q41
          have HI1 := lid' hI1
          rw [q41] at hx
          rw [List.length_append, List.length_singleton] at hsn
          subst hsn
          have hgc : st'.length + 1 ≤ c := by
            obtain ⟨_, _, e, h, _⟩ := own_form HO.out
            injection e with _ _ e
            omega
          obtain ⟨g, cg, eg, _, _⟩ := World.ownsRow.form HO.out (by omega)
          injection eg with eg _ egc
          subst eg
          subst egc
          have d0 := (World.ownsRow.cellAt HO.out st'.length (by omega)).trans (iC_last st' pp)
          have HO1 := lid' (own_takeP HO.out (by rw [iC_len, List.length_append]; rfl) (Nat.le_succ st'.length) (by omega))
          rw [iC_take] at HO1
          have HCU := lid' (HCut.out pp i hpi hlt hp40)
          have hX := cut_bytes T hpi hlt
          generalize hj : st'.length = j at *
          have HJ := lid' hj
          have jb : (j : Int) ≤ 330 := by omega
          have jz : (0 : Int) ≤ (j : Int) := by omega
          have jc : (j : Int) ≤ (c : Int) := by omega
          clear HI hI1 HO q40 q41 hj hp40
          by_cases e1 : (pp : Int) = (i : Int) - 1
          · have e2 : ((pp : Int) == (i : Int) - 1) = true := beq_iff_eq.2 e1
            have j0 : ((j : Int) + 1 == 0) = false := by simp; omega
            clear e1 hX HCU
            go_wp2
            go_roundw
            · exact ⟨i + 1, j, c, _, st', rfl, by simp, HJ.out, by omega, by omega, HI1, HO1, HB⟩
            · simp only [intOf]; omega
          · have e2 : ((pp : Int) == (i : Int) - 1) = false := by rw [beq_eq_false_iff_ne]; exact e1
            have j0 : ((j : Int) + 1 == 0) = false := by simp; omega
            clear e1
            obtain ⟨E1, hE1⟩ : ∃ E, (⟨T.toArray⟩ : ByteArray).extract 0 pp = E := ⟨_, rfl⟩
            obtain ⟨E2, hE2⟩ : ∃ E, (⟨T.toArray⟩ : ByteArray).extract (pp + 1) i = E := ⟨_, rfl⟩
            obtain ⟨E3, hE3⟩ : ∃ E, (⟨T.toArray⟩ : ByteArray).extract (i + 1) T.length = E := ⟨_, rfl⟩
            have sT : (⟨T.toArray⟩ : ByteArray).size = T.length := List.size_toArray
            have s1 : E1.size ≤ 330 := by rw [← hE1, ByteArray.size_extract, sT]; omega
            have s2 : E2.size ≤ 330 := by rw [← hE2, ByteArray.size_extract, sT]; omega
            have s3 : E3.size ≤ 330 := by rw [← hE3, ByteArray.size_extract, sT]; omega
            rw [hE1, hE2, hE3] at hX
            have s12 : (E1 ++ E2).size = E1.size + E2.size := ByteArray.size_append
            have p0 : (0 : Int) ≤ (pp : Int) := by omega
            have p1 : (pp : Int) ≤ (T.length : Int) := by omega
            have p2 : (pp : Int) + 1 ≤ (i : Int) := by omega
            have p3 : (i : Int) + 1 ≤ (T.length : Int) := by omega
            have p4 : (i : Int) ≤ (T.length : Int) := by omega
            have p5 : (pp : Int) ≤ 330 := by omega
            have p6 : (i : Int) ≤ 330 := by omega
            have p7 : IntKind.i64.wrap ((pp : Int) + 1) = (pp : Int) + 1 := by rw [IntKind.wrap_i64]; omega
            have p8 : IntKind.i64.wrap ((i : Int) + 1) = (i : Int) + 1 := by rw [IntKind.wrap_i64]; omega
            clear sT
            rcases HCU.out with ⟨z, hz, hp⟩ | ⟨q, hq, hp, hne⟩
            · have HPX := lid' (fun W => k_parse (E1 ++ E2 ++ E3) [] z (by rw [hX]; exact hp) W)
              have hz0 : (z == 0) = false := by rw [beq_eq_false_iff_ne]; exact hz
              clear hX hp hz HCU
              go_upto_region 18 with fail
              clear d0
              go_region_with (go_at_call 14; refine (HPX.out wr.drew).mono ?_; rintro e w5 ⟨A5, c5, rfl, r5, b5⟩)
              all_goals
                have HB5 := lid' (HB.out.drew.trans (b5.out.mono HB.out.drew.size))
                have HO5 := lid' (own_block (w := wr.drew) (w' := w5) HO1.out (fun k hk => b5.out.block k (World.ownsRow.lt HO1.out k hk).2))
                clear b5 HPX HB HO1
                go_wp2
                go_roundw
                · exact ⟨i + 1, j, c, _, st', rfl, by simp, HJ.out, by omega, by omega, HI1, HO5, HB5⟩
                · simp only [intOf]; omega
            · have HPX := lid' (fun W => k_parse (E1 ++ E2 ++ E3) (q.po []) 0 (by rw [hX]; exact hp) W)
              have HS2 := lid' (fun W A A' c c' => HSm.out W q hq A A' c c')
              generalize q.po [] = lq at *
              rw [decide_eq_false hne] at HS2
              generalize lq.length = qn at *
              clear hX hp hne hq HCU
              go_upto_region 18 with fail
              clear d0
              go_region_with (go_at_call 14; refine (HPX.out wr.drew).mono ?_; rintro e w5 ⟨A5, c5, rfl, r5, b5⟩)
              all_goals
                have HB5 := lid' (HB.out.drew.trans (b5.out.mono HB.out.drew.size))
                have HO5 := lid' (own_block (w := wr.drew) (w' := w5) HO1.out (fun k hk => b5.out.block k (World.ownsRow.lt HO1.out k hk).2))
                have HP5 := Rp.lat HP HB5
                clear b5 HPX HB HO1
                go_wp2_with fail
                with_reducible refine (HS2.out w5 _ _ _ _ r5 HP5).mono ?_
                rintro e w6 ⟨rfl, b6⟩
                have HB6 := lid' (HB5.out.trans (b6.out.mono HB5.out.size))
                have HO6 := lid' (own_block (w := w5) (w' := w6) HO5.out (fun k hk => b6.out.block k (World.ownsRow.lt HO5.out k hk).2))
                clear b6 HB5 HO5 HP5 r5 HS2
                go_wp2
                go_roundw
                · exact ⟨i + 1, j, c, _, st', rfl, by simp, HJ.out, by omega, by omega, HI1, HO6, HB6⟩
                · simp only [intOf]; omega
        · have HI1 := lid' (HI.out.skip hlt q40 q41)
          obtain ⟨bt, hbt⟩ : ∃ bt, T.getD i 0 = bt := ⟨_, rfl⟩
          rw [hbt] at hx q40 q41
          have e1 : ((bt.toNat : Int) == 40) = false := by
            rw [beq_eq_false_iff_ne]
            exact fun h => q40 (UInt8.toNat_inj.1 (by show bt.toNat = 40; omega))
          have e2 : ((bt.toNat : Int) == 41) = false := by
            rw [beq_eq_false_iff_ne]
            exact fun h => q41 (UInt8.toNat_inj.1 (by show bt.toNat = 41; omega))
          clear HI q40 q41 hbt
          go_wp2
          go_roundw
          · exact ⟨i + 1, n, c, A, st, rfl, by simp, hsn, by omega, by omega, HI1, HO, HB⟩
          · simp only [intOf]; omega
    · obtain rfl : i = T.length := by omega
      have h0 := HI.out.fin
      subst h0
      have hn0 : n = 0 := hsn.symm
      subst hn0
      have HK2 := Ky.later HK HB
      clear HI HO HB HK hsn
      go_wp2
      go_ret
      exact ⟨rfl, HK2.out.b⟩

end Go.Proofs.YtgjhicahopcfcaaDoor
