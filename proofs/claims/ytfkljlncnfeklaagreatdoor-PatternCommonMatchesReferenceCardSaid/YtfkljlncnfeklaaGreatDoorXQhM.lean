/-
  The reference's lists of numbers: has, together. (Seat of the great laws.)
-/
import Derived.Test.YtfkljlncnfeklaaGreatDoorPg
import Derived.Deep.AppendLies
import Derived.Test.YtfkljlncnfeklaaGreatDoorPQsM
namespace Go.Proofs.YtfkljlncnfeklaaGreatDoor
open Go.RowKit Go.Shelf
set_option linter.unusedVariables false
set_option linter.unusedSimpArgs false
attribute [local go_sem ↓] Go.wp_at_zero Go.wp_at_succ

theorem Rp.nat {w : World} {B b o k : Nat} {l : List Pn} (h : Rp w B (some ⟨b, o, none⟩) l) (hk : k < l.length) : w.cell? ⟨b, o + k * 5, none⟩ = some (.int .i64 (pk l k)) ∧ w.cell? ⟨b, o + k * 5 + 1, none⟩ = some (.int .i64 (plo l k)) ∧ w.cell? ⟨b, o + k * 5 + 2, none⟩ = some (.int .i64 (phi l k)) ∧ w.cell? ⟨b, o + k * 5 + 3, none⟩ = some (.int .i64 (pa l k)) ∧ w.cell? ⟨b, o + k * 5 + 4, none⟩ = some (.int .i64 (pb l k)) := by
  obtain ⟨b', o', e, _, hc⟩ := h (by omega)
  cases e
  exact hc k hk
def inC (f : List Nat) : List Value := f.map fun (k : Nat) => Value.int .i64 (k : Int)
theorem inC_len (f : List Nat) : (inC f).length = f.length := List.length_map _
theorem inC_app (f : List Nat) (p : Nat) : inC (f ++ [p]) = inC f ++ [.int .i64 (p : Int)] := by unfold inC; simp
theorem inC_get {f : List Nat} {j : Nat} {u : Value} (h : (inC f)[j]? = some u) : ∃ hj : j < f.length, u = .int .i64 ((f[j]'hj : Nat) : Int) := by
  unfold inC at h
  rw [List.getElem?_map] at h
  rcases hf : f[j]? with _ | x
  · rw [hf] at h; cases h
  · rw [hf] at h
    obtain ⟨hj, e⟩ := List.getElem?_eq_some_iff.1 hf
    injection h with h
    exact ⟨hj, by rw [e]; exact h.symm⟩
theorem inC_one (f : List Nat) : ∀ u ∈ inC f, u.oneCell' = true := fun u h => by
  unfold inC at h
  rw [List.mem_map] at h
  obtain ⟨k, _, rfl⟩ := h
  rfl
/-- a slice of numbers in memory below B -/
def Ri (w : World) (B : Nat) (A : Option Addr) (f : List Nat) : Prop := ∃ b o, A = some ⟨b, o, none⟩ ∧ b < B ∧ ∀ j, ∀ h : j < f.length, w.cell? ⟨b, o + j, none⟩ = some (.int .i64 ((f[j]'h : Nat) : Int))
theorem Ri.below {w w' : World} {B : Nat} {A : Option Addr} {f : List Nat} (h : Ri w B A f) (hb : Below B w w') : Ri w' B A f := by
  obtain ⟨b, o, e, hB, hc⟩ := h
  exact ⟨b, o, e, hB, fun j hj => (hb.cell (p := ⟨b, _, none⟩) hB).trans (hc j hj)⟩
theorem Ri.mono {w : World} {B B' : Nat} {A : Option Addr} {f : List Nat} (h : Ri w B A f) (hB : B ≤ B') : Ri w B' A f := by
  obtain ⟨b, o, e, h1, hc⟩ := h
  exact ⟨b, o, e, by omega, hc⟩
theorem Ri.later {w w' : World} {A : Option Addr} {f : List Nat} (h : Hid (Ri w w.heap.size A f)) (hb : Below w.heap.size w w') : Hid (Ri w' w'.heap.size A f) := Lib.hid ((h.out.below hb).mono hb.size)
theorem adr_add (b o n : Nat) : (⟨b, o, none⟩ : Addr).add n = ⟨b, o + n, none⟩ := by
  unfold Addr.add
  split
  · next h => subst h; rfl
  · rfl
theorem Ri.own {w : World} {B g n c : Nat} {f : List Nat} (h : w.ownsRow B 3 1 (.slice (some ⟨g, 0, none⟩) n c) n (inC f)) : Ri w w.heap.size (some ⟨g, 0, none⟩) f :=
  ⟨g, 0, rfl, (World.ownsRow.lt h g rfl).2, fun j hj => by
    have := h.cells (g := g) rfl j (.int .i64 ((f[j]'hj : Nat) : Int)) (by unfold inC; simp [hj])
    rw [adr_add] at this
    exact this⟩
theorem Ri.one (w : World) (k : Nat) : Ri (w.alloc (.cells #[.int .i64 (k : Int)] 3)) (w.heap.size + 1) (some ⟨w.heap.size, 0, none⟩) [k] :=
  ⟨w.heap.size, 0, rfl, by omega, fun j hj => by
    have hj' : j < 1 := hj
    obtain rfl : j = 0 := by omega
    rw [cell_of_row _ _ 0 _ _ _ (heap_alloc_new w _)]
    rfl⟩
theorem ri_news {w : World} {B b o : Nat} {f : List Nat} (h : Ri w B (some ⟨b, o, none⟩) f) : ∀ j u, (inC f)[j]? = some u → w.cell? ((⟨b, o, none⟩ : Addr).add j) = some u := fun j u hu => by
  obtain ⟨hj, rfl⟩ := inC_get hu
  obtain ⟨b', o', e, _, hc⟩ := h
  cases e
  have e2 : (⟨b, o, none⟩ : Addr).add j = ⟨b, o + j, none⟩ := by
    unfold Addr.add
    split
    · next h => subst h; rfl
    · rfl
  rw [e2]
  exact hc j hj
theorem run_append_zero {P : Program} {w : World} (base : Nat) (t ty e : TypeId) (i : TypeInfo) (size : Nat) (ht : P.underlying t = some (.slice e)) (hi : P.info? e = some i)
    (v : Value) (n : Nat) (xs : List Value) (hown : w.ownsRow base e size v n xs) (A : Option Addr) (c : Nat) :
    (Builtin.append_ #[t, t] ty #[v, .slice A 0 c]).run P w = .ok v w := by
  rcases hown.2 with ⟨rfl, rfl⟩ | ⟨g, cap, cur, rfl, _, _, hnc, _⟩ <;> rcases A with _ | a
  · simp [Builtin.append_, run_underlying ht, sizeOf, typeInfo, hi, Builtin.lenOf, Builtin.firstCells]
  · simp [Builtin.append_, run_underlying ht, sizeOf, typeInfo, hi, Builtin.lenOf, Builtin.firstCells, loadCells, loadCellsFrom]
  · simp [Builtin.append_, run_underlying ht, sizeOf, typeInfo, hi, Builtin.lenOf, Builtin.firstCells, hnc, storeCells]
  · simp [Builtin.append_, run_underlying ht, sizeOf, typeInfo, hi, Builtin.lenOf, Builtin.firstCells, hnc, storeCells, loadCells, loadCellsFrom]
/-- append of an empty slice -/
theorem wpList_append_zero {P : Program} {w : World} {ops : Array Oper} {rest : List Oper} {o : Oper} {a : Act} {Q : Exit → Act → World → Prop} (hgd : o.guard = none) (s x : Operand) (t : TypeId)
    (ho : o.op = .call { callee := .builtin .append, args := #[s, x], argTypes := #[t, t] })
    (base : Nat) (e : TypeId) (i : TypeInfo) (size : Nat) (ht : P.underlying t = some (.slice e)) (hi : P.info? e = some i)
    (v : Value) (n : Nat) (xs : List Value) (hs : a.eval s = v) (hown : w.ownsRow base e size v n xs) (A : Option Addr) (c : Nat) (hx : a.eval x = .slice A 0 c)
    (h : wpList P ops Q rest (a.put o.dst v) w) : wpList P ops Q (o :: rest) a w := by
  refine wpList_plain hgd fun K hK => ?_
  have hrun := run_append_zero (P := P) (w := w) base t o.type e i size ht hi v n xs hown A c
  unfold Oper.wp
  simp [execOp, ho, resolve, invoke, builtin, hs, hx, hrun, Result.andThen]
  exact hK _ _ h
theorem infoIntQ : (Tryz.prog.info? 3).map (fun i => (i.zero, i.size, i.bytes)) = some (some (.int .i64 0), 1, 8) := by kernel_rfl
theorem own_emptyI {w : World} : (w.alloc (.cells #[] 3)).ownsRow w.heap.size 3 1 (.slice (some ⟨w.heap.size, 0, none⟩) 0 0) 0 (inC []) :=
  ⟨rfl, .inr ⟨w.heap.size, 0, #[], rfl, Nat.le_refl _, heap_alloc_new w _, Nat.le_refl _, by simp [maxLen], rfl, rfl⟩⟩

set_option maxRecDepth 100000 in
set_option maxHeartbeats 1000000 in
theorem rhas_any (A : Option Addr) (n c : Nat) (f : List Nat) (x : Nat) (w : World) (hf : Hid (f.length = n)) (hn : n ≤ 1000000) (hr : Hid (Ri w w.heap.size A f)) :
    Calls Tryz.prog 41 #[.slice A n c, .int .i64 (x : Int)] w fun e w' => e = .returned (.bool (decide (x ∈ f))) ∧ w' = w := by
  obtain ⟨b, o, rfl, hb, hc⟩ := hr.out
  have HC := Lib.hid hc
  clear hc hr
  go_enter Tryz.func41, Tryz.ntmps41
  go_wp2
  go_loopw [5] (fun v5 wr => wr = w ∧ ∃ i : Nat, v5 = .int .i64 (i : Int) ∧ i ≤ n ∧ Hid (∀ j, ∀ h : j < f.length, j < i → f[j]'h ≠ x)) (fun v5 wr => n - (intOf v5).toNat)
  case atStart => exact ⟨rfl, 0, rfl, Nat.zero_le _, Lib.hid (fun j h hj => absurd hj (Nat.not_lt_zero _))⟩
  case round =>
    obtain ⟨rfl, i, rfl, hi, hno⟩ := hrel
    by_cases hlt : i < n
    · have i1 : (i : Int) < (n : Int) := by omega
      have i0 : (0 : Int) ≤ (i : Int) := by omega
      have hif : i < f.length := by rw [hf.out]; exact hlt
      have d0 := HC.out i hif
      have HX := Lib.hid (show f[i]'hif = f[i]'hif from rfl)
      obtain ⟨y, hy⟩ : ∃ y, f[i]'hif = y := ⟨_, rfl⟩
      rw [hy] at d0
      have HY := Lib.hid hy
      clear hy HX
      by_cases he : y = x
      · have e1 : ((y : Int) == (x : Int)) = true := beq_iff_eq.2 (by omega)
        have HM := Lib.hid (show decide (x ∈ f) = true from decide_eq_true (by rw [← he, ← HY.out]; exact List.getElem_mem hif))
        clear he
        go_wp2
        go_ret
        exact ⟨by rw [HM.out]; rfl, rfl⟩
      · have e1 : ((y : Int) == (x : Int)) = false := beq_eq_false_iff_ne.2 (by omega)
        have HE := Lib.hid he
        clear he
        go_wp2
        go_roundw
        · exact ⟨trivial, i + 1, by simp, by omega, Lib.hid (fun j h hj => by
            rcases Nat.lt_or_ge j i with q | q
            · exact hno.out j h q
            · obtain rfl : j = i := by omega
              rw [HY.out]; exact HE.out)⟩
        · simp only [intOf]; omega
    · obtain rfl : i = n := by omega
      have HM := Lib.hid (show decide (x ∈ f) = false from decide_eq_false (fun hm => by
        obtain ⟨j, h, e⟩ := List.mem_iff_getElem.1 hm
        exact hno.out j h (by rw [← hf.out]; exact h) e))
      go_wp2
      go_ret
      exact ⟨by rw [HM.out]; rfl, rfl⟩
theorem tog_snoc (f m : List Nat) (x : Nat) : tog f (m ++ [x]) = tg1 (tog f m) x := by unfold tog; rw [List.foldl_append]; rfl
theorem tog_le (m f : List Nat) : (tog f m).length ≤ f.length + m.length := by
  induction m generalizing f with
  | nil => exact Nat.le_refl _
  | cons x m ih =>
    have h1 := ih (tg1 f x)
    have h2 : (tg1 f x).length ≤ f.length + 1 := by
      unfold tg1
      split
      · omega
      · simp
    show (tog (tg1 f x) m).length ≤ _
    rw [List.length_cons]
    omega
/-- the lists are joined up to k -/
structure TgI (w wr : World) (f m : List Nat) (k n cp g : Nat) : Prop where
  ln : (tog f (m.take k)).length = n
  own : wr.ownsRow w.heap.size 3 1 (.slice (some ⟨g, 0, none⟩) n cp) n (inC (tog f (m.take k)))
  bel : Below w.heap.size w wr
set_option maxRecDepth 100000 in
set_option maxHeartbeats 4000000 in
theorem rtog_any (A A' : Option Addr) (n c n' c' : Nat) (f m : List Nat) (w : World) (hf : Hid (f.length = n)) (hm : Hid (m.length = n')) (hn : n ≤ 100000) (hn' : n' ≤ 100000) (hr : Hid (Ri w w.heap.size A f)) (hr' : Hid (Ri w w.heap.size A' m)) :
    Calls Tryz.prog 58 #[.slice A n c, .slice A' n' c'] w fun e w' => ∃ g c2, e = .returned (.slice (some ⟨g, 0, none⟩) (tog f m).length c2) ∧ Hid (Ri w' w'.heap.size (some ⟨g, 0, none⟩) (tog f m)) ∧ Hid (Below w.heap.size w w') := by
  obtain ⟨iI, hi, hz0, hz1, hz2⟩ := info_parts infoIntQ
  obtain ⟨b, o, rfl, hb, hc⟩ := hr.out
  have hr1 := Lib.hid (hr.out.below ((Below.refl w.heap.size w).alloc (Nat.le_refl _) (.cells #[] 3)))
  have HO := Lib.hid (own_emptyI (w := w))
  have HB := Lib.hid ((Below.refl w.heap.size w).alloc (Nat.le_refl _) (.cells #[] 3))
  have hm0 : (0 : Int) ≤ (n : Int) := by omega
  have hmI : (n : Int) ≤ 100000 := by omega
  clear hc hr
  have key : ∀ W2 g1 c1, W2.ownsRow w.heap.size 3 1 (.slice (some ⟨g1, 0, none⟩) n c1) n (inC f) → Below w.heap.size w W2 → Hid (TgI w W2 f m 0 n c1 g1) := fun W2 g1 c1 h1 h2 => Lib.hid ⟨by rw [List.take_zero]; exact hf.out, by rw [List.take_zero]; exact h1, h2⟩
  have HK := Lib.hid key
  clear key
  rcases Nat.eq_zero_or_pos n with hn0 | hn0
  · subst hn0
    have hf0 := Lib.hid (show f = [] from List.eq_nil_of_length_eq_zero hf.out)
    go_enter Tryz.func58, Tryz.ntmps58
    go_upto_region 2 with (at_builtin; refine wpList_append_zero rfl _ _ _ rfl w.heap.size 3 iI 1 Tryz.underlying51 hi (.slice (some ⟨w.heap.size, 0, none⟩) 0 0) 0 (inC []) rfl HO.out (some ⟨b, o, none⟩) c rfl ?_; have HT := HK.out _ _ _ (by have := HO.out; rw [hf0.out]; exact this) HB.out; generalize World.alloc w _ = w2 at *)
    clear HK HO HB hr1
    go_wp2
    go_loopw [5, 6] (fun v5 v6 wr => ∃ k q cp g : Nat, k ≤ n' ∧ v6 = .int .i64 (k : Int) ∧ v5 = .slice (some ⟨g, 0, none⟩) q cp ∧ q ≤ 200000 ∧ Hid (TgI w wr f m k q cp g)) (fun v5 v6 wr => n' - (intOf v6).toNat)
    case atStart => exact ⟨0, _, _, _, Nat.zero_le _, rfl, rfl, by omega, HT⟩
    case round =>
      clear HT
      obtain ⟨k, q, cp, g, hk, rfl, rfl, hq, hT⟩ := hrel
      by_cases hlt : k < n'
      · have i1 : (k : Int) < (n' : Int) := by omega
        have i0 : (0 : Int) ≤ (k : Int) := by omega
        have hkm : k < m.length := by rw [hm.out]; exact hlt
        obtain ⟨b', o', e', hb', hc'⟩ := hr'.out.below hT.out.bel
        subst e'
        have d0 := hc' k hkm
        obtain ⟨x, hx⟩ : ∃ x, m[k]'hkm = x := ⟨_, rfl⟩
        rw [hx] at d0
        have HX := Lib.hid (show m.take (k + 1) = m.take k ++ [x] by rw [List.take_succ_eq_append_getElem hkm, hx])
        have HH := Lib.hid (rhas_any (some ⟨g, 0, none⟩) q cp (tog f (m.take k)) x wr (Lib.hid hT.out.ln) (by omega) (Lib.hid hT.out.own |>.out |> Ri.own |> Lib.hid))
        have HL := Lib.hid (show q ≤ 0 + k by have h1 := tog_le (m.take k) f; have h2 := hT.out.ln; have h3 := hf.out; rw [List.length_take] at h1; omega)
        clear hx hc'
        by_cases hin : x ∈ tog f (m.take k)
        · rw [decide_eq_true hin] at HH
          have HS := Lib.hid (show tog f (m.take (k + 1)) = tog f (m.take k) by rw [HX.out, tog_snoc]; unfold tg1; rw [if_pos hin])
          clear hin
          go_wp2_with (go_at_call 41; with_reducible refine HH.out.mono ?_; rintro e w4 ⟨rfl, hw⟩; subst hw)
          go_roundw
          case rel => exact ⟨k + 1, q, cp, g, hlt, by go_num, rfl, hq, Lib.hid ⟨by rw [HS.out]; exact hT.out.ln, by rw [HS.out]; exact hT.out.own, hT.out.bel⟩⟩
          case measure => simp only [intOf]; omega
        · rw [decide_eq_false hin] at HH
          have HS := Lib.hid (show tog f (m.take (k + 1)) = tog f (m.take k) ++ [x] by rw [HX.out, tog_snoc]; unfold tg1; rw [if_neg hin])
          have hln := hT.out.ln
          have hqI : (q : Int) ≤ 200000 := by omega
          have hBw : w.heap.size ≤ wr.heap.size := hT.out.bel.size
          have hql : q ≤ 0 + k := HL.out
          clear hin hln
          go_wp2_with (first
            | (go_at_call 41; with_reducible refine HH.out.mono ?_; rintro e w4 ⟨rfl, hw⟩; subst hw)
            | (at_builtin; refine wpList_append_lies _ rfl _ _ _ rfl w.heap.size 3 iI _ 1 8 Tryz.underlying51 hi hz0 hz1 hz2 rfl (by omega) (.slice (some ⟨g, 0, none⟩) q cp) q (inC (tog f (m.take k))) rfl (hT.out.own.alloc _) _ _ _ [.int .i64 (x : Int)] rfl rfl (World.news_of_block (heap_alloc_new _ _)) (by simp [Value.oneCell']) (by omega) (by simp only [maxLen]; omega) (by omega) (by simp; omega) _ rfl ?_))
          intro g2 c2 w5 hown hgrow hat hlt2
          have HT2 : Hid (TgI w w5 f m (k + 1) (q + 1) c2 g2) := Lib.hid ⟨by rw [HS.out, List.length_append, hT.out.ln]; rfl, by rw [HS.out, inC_app]; exact hown, (hT.out.bel.alloc hBw _).grown hgrow (by simp; omega) (fun r e => (hT.out.own.lt r e).1)⟩
          clear hown hgrow hat hlt2
          go_wp2
          go_roundw
          case rel => exact ⟨k + 1, q + 1, c2, g2, hlt, by go_num, rfl, by omega, HT2⟩
          case measure => simp only [intOf]; omega
      · obtain rfl : k = n' := by omega
        have hln := hT.out.ln
        have HE := Lib.hid (show m.take k = m from List.take_of_length_le (by rw [hm.out]; exact Nat.le_refl _))
        go_wp2
        go_ret
        have h1 := Ri.own hT.out.own
        rw [HE.out] at h1 hln
        exact ⟨g, cp, by rw [hln]; rfl, Lib.hid h1, Lib.hid hT.out.bel⟩

  · go_enter Tryz.func58, Tryz.ntmps58
    go_upto_region 2 with (at_builtin; refine wpList_append_lies _ rfl _ _ _ rfl w.heap.size 3 iI _ 1 8 Tryz.underlying51 hi hz0 hz1 hz2 rfl (by omega) (.slice (some ⟨w.heap.size, 0, none⟩) 0 0) 0 (inC []) rfl HO.out ⟨b, o, none⟩ n c (inC f) rfl (by rw [inC_len, hf.out, Nat.mul_one]) (ri_news hr1.out) (inC_one f) (by omega) (by simp only [maxLen]; omega) (by omega) (by simp) _ rfl ?_; intro g1 c1 w2 hown hgrow hat hlt; have HT := HK.out w2 g1 c1 (by simpa [inC] using hown) (HB.out.grown hgrow (by simp) (fun r e => (HO.out.lt r e).1)); clear hown hgrow hat hlt)
    clear HK HO HB hr1 hn0
    go_wp2
    go_loopw [5, 6] (fun v5 v6 wr => ∃ k q cp g : Nat, k ≤ n' ∧ v6 = .int .i64 (k : Int) ∧ v5 = .slice (some ⟨g, 0, none⟩) q cp ∧ q ≤ 200000 ∧ Hid (TgI w wr f m k q cp g)) (fun v5 v6 wr => n' - (intOf v6).toNat)
    case atStart => exact ⟨0, _, _, _, Nat.zero_le _, rfl, rfl, by omega, HT⟩
    case round =>
      clear HT
      obtain ⟨k, q, cp, g, hk, rfl, rfl, hq, hT⟩ := hrel
      by_cases hlt : k < n'
      · have i1 : (k : Int) < (n' : Int) := by omega
        have i0 : (0 : Int) ≤ (k : Int) := by omega
        have hkm : k < m.length := by rw [hm.out]; exact hlt
        obtain ⟨b', o', e', hb', hc'⟩ := hr'.out.below hT.out.bel
        subst e'
        have d0 := hc' k hkm
        obtain ⟨x, hx⟩ : ∃ x, m[k]'hkm = x := ⟨_, rfl⟩
        rw [hx] at d0
        have HX := Lib.hid (show m.take (k + 1) = m.take k ++ [x] by rw [List.take_succ_eq_append_getElem hkm, hx])
        have HH := Lib.hid (rhas_any (some ⟨g, 0, none⟩) q cp (tog f (m.take k)) x wr (Lib.hid hT.out.ln) (by omega) (Lib.hid hT.out.own |>.out |> Ri.own |> Lib.hid))
        have HL := Lib.hid (show q ≤ n + k by have h1 := tog_le (m.take k) f; have h2 := hT.out.ln; have h3 := hf.out; rw [List.length_take] at h1; omega)
        clear hx hc'
        by_cases hin : x ∈ tog f (m.take k)
        · rw [decide_eq_true hin] at HH
          have HS := Lib.hid (show tog f (m.take (k + 1)) = tog f (m.take k) by rw [HX.out, tog_snoc]; unfold tg1; rw [if_pos hin])
          clear hin
          go_wp2_with (go_at_call 41; with_reducible refine HH.out.mono ?_; rintro e w4 ⟨rfl, hw⟩; subst hw)
          go_roundw
          case rel => exact ⟨k + 1, q, cp, g, hlt, by go_num, rfl, hq, Lib.hid ⟨by rw [HS.out]; exact hT.out.ln, by rw [HS.out]; exact hT.out.own, hT.out.bel⟩⟩
          case measure => simp only [intOf]; omega
        · rw [decide_eq_false hin] at HH
          have HS := Lib.hid (show tog f (m.take (k + 1)) = tog f (m.take k) ++ [x] by rw [HX.out, tog_snoc]; unfold tg1; rw [if_neg hin])
          have hln := hT.out.ln
          have hqI : (q : Int) ≤ 200000 := by omega
          have hBw : w.heap.size ≤ wr.heap.size := hT.out.bel.size
          have hql : q ≤ n + k := HL.out
          clear hin hln
          go_wp2_with (first
            | (go_at_call 41; with_reducible refine HH.out.mono ?_; rintro e w4 ⟨rfl, hw⟩; subst hw)
            | (at_builtin; refine wpList_append_lies _ rfl _ _ _ rfl w.heap.size 3 iI _ 1 8 Tryz.underlying51 hi hz0 hz1 hz2 rfl (by omega) (.slice (some ⟨g, 0, none⟩) q cp) q (inC (tog f (m.take k))) rfl (hT.out.own.alloc _) _ _ _ [.int .i64 (x : Int)] rfl rfl (World.news_of_block (heap_alloc_new _ _)) (by simp [Value.oneCell']) (by omega) (by simp only [maxLen]; omega) (by omega) (by simp; omega) _ rfl ?_))
          intro g2 c2 w5 hown hgrow hat hlt2
          have HT2 : Hid (TgI w w5 f m (k + 1) (q + 1) c2 g2) := Lib.hid ⟨by rw [HS.out, List.length_append, hT.out.ln]; rfl, by rw [HS.out, inC_app]; exact hown, (hT.out.bel.alloc hBw _).grown hgrow (by simp; omega) (fun r e => (hT.out.own.lt r e).1)⟩
          clear hown hgrow hat hlt2
          go_wp2
          go_roundw
          case rel => exact ⟨k + 1, q + 1, c2, g2, hlt, by go_num, rfl, by omega, HT2⟩
          case measure => simp only [intOf]; omega
      · obtain rfl : k = n' := by omega
        have hln := hT.out.ln
        have HE := Lib.hid (show m.take k = m from List.take_of_length_le (by rw [hm.out]; exact Nat.le_refl _))
        go_wp2
        go_ret
        have h1 := Ri.own hT.out.own
        rw [HE.out] at h1 hln
        exact ⟨g, cp, by rw [hln]; rfl, Lib.hid h1, Lib.hid hT.out.bel⟩

end Go.Proofs.YtfkljlncnfeklaaGreatDoor
