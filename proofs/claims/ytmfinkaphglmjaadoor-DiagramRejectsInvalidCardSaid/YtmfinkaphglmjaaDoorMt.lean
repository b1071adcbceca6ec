/-
  Plain mathematics and contracts of package diagram, several texts in one: DLoad, DSha, DCho.
-/
import Derived.Test.YtmfinkaphglmjaaDoorMp
import Derived.Test.YtmfinkaphglmjaaDoorMe
import Derived.Test.YtmfinkaphglmjaaDoorMf
import Derived.Test.YtmfinkaphglmjaaDoorMh
import Derived.Deep.RegionHeld3
import Derived.Deep.DeepCutAuto

/-! A valid diagram is loaded into a table; two of them share one. -/
namespace Go.Proofs.YtmfinkaphglmjaaDoor
open Go.RowKit Dg St Go.Maps

theorem Tryd.infoLd : (Tryd.prog.info? 3).map (fun i => (i.zero, i.size, i.bytes)) = some (some (.int .i64 0), 1, 8) := by kernel_rfl
theorem ld_cells (n : Nat) : madeCells #[Value.int .i64 0] n = (List.replicate n (Value.int .i64 0)).toArray := by
  apply Array.ext'
  rw [toList_madeCells_one]
theorem ld_nil (w : World) (base e size : Nat) : w.ownsRow base e size (.slice none 0 0) 0 [] := ⟨by simp, .inl ⟨rfl, rfl⟩⟩
theorem ld_ab (w : World) (o : Obj) : Below w.heap.size w (w.alloc o) := (Below.refl _ _).alloc (Nat.le_refl _) o
theorem ld_lid {p : Prop} (h : p) : Hid p := Lib.hid h
theorem results_cell_cell {fn : Func} {p q : Tmp} {ty tz : TypeId} (h : fn.results = #[.cell p ty, .cell q tz]) (tmps : Array Value) (P : Program) (w : World) :
    (results fn tmps).run P w =
      ((asAddr (tmps.getD p undef)).run P w).andThen fun a w₁ => ((loadVar ty a).run P w₁).andThen fun v w₂ => ((asAddr (tmps.getD q undef)).run P w₂).andThen fun b w₃ => ((loadVar tz b).run P w₃).andThen fun u w₄ => .ok (.tuple #[v, u]) w₄ := by
  simp only [results, h]
  simp [Sem.run_bind, Result.andThen]

/-- the blocks of a table -/
def Sv (g : Nat) (v : Value) (gi : Option Nat) (k : Nat) : Prop := k = g ∨ v.ownBlock = some k ∨ gi = some k
theorem Tb.gl {w : World} {base g o : Nat} {M : List Br} {v : Value} {gi : Option Nat} (h : Tb w base g o M v gi) {k : Nat} (hk : Sv g v gi k) : base ≤ k ∧ k < w.heap.size := by
  rcases hk with e | e | e
  · subst e; exact ⟨h.gb, block_lt_of_cell h.cn⟩
  · exact World.ownsRow.lt h.own k e
  · subst e
    have hi := h.idx
    exact ⟨hi.1, hi.2.2.lt⟩
theorem ncells_at (n : Nat) : ∀ i, i < n → (List.replicate n (Value.int .i64 0)).getD i undef = .int .i64 0 := fun i hi => by
  simp only [List.getD_eq_getElem?_getD, List.getElem?_replicate, hi, if_true, Option.getD_some]

/-- the state of load behind k branches -/
structure Lo (w wr : World) (base g H m k : Nat) (A : Option Addr) (c r : Nat) (v : Value) (gi : Option Nat) (M N N' : List Br) (num : Nat → Nat) (v' : Value) (gi' : Option Nat) : Prop where
  hH : w.heap.size = H
  chg : Chg (Sv g v gi) w wr
  tb : Tb wr base g 0 N' v' gi'
  oth : ∀ j, j ≠ 0 → j ≠ 1 → wr.cell? ⟨g, j, none⟩ = w.cell? ⟨g, j, none⟩
  fro : ∀ j, wr.frozen? ⟨g, j, none⟩ = w.frozen? ⟨g, j, none⟩
  vo : ∀ k, v'.ownBlock = some k → v.ownBlock = some k ∨ H + 2 ≤ k
  io : ∀ k, gi' = some k → gi = some k ∨ H + 2 ≤ k
  x : Blk wr H 2 (fun i => [Value.slice A m c, .int .i64 (r : Int)].getD i undef)
  row : Blk wr (H + 1) (m + 2) (fun i => .int .i64 ((num i : Nat) : Int))
  ld : Ld M N N' num k
theorem Lo.off {w wr : World} {base g H m k : Nat} {A : Option Addr} {c r : Nat} {v : Value} {gi : Option Nat} {M N N' : List Br} {num : Nat → Nat} {v' : Value} {gi' : Option Nat} (h : Lo w wr base g H m k A c r v gi M N N' num v' gi') (_h0 : ∀ q, Sv g v gi q → q < H) {q : Nat} (hq : Sv g v' gi' q) : Sv g v gi q ∨ H + 2 ≤ q := by
  rcases hq with e | e | e
  · exact .inl (.inl e)
  · rcases h.vo q e with e | e
    · exact .inl (.inr (.inl e))
    · exact .inr e
  · rcases h.io q e with e | e
    · exact .inl (.inr (.inr e))
    · exact .inr e
theorem Lo.mid {w wr w4 w5 : World} {base g H m k : Nat} {A : Option Addr} {c r : Nat} {v : Value} {gi : Option Nat} {M N N' N2 : List Br} {num : Nat → Nat} {v' : Value} {gi' : Option Nat} (h : Lo w wr base g H m k A c r v gi M N N' num v' gi') (h0 : ∀ q, Sv g v gi q → q < H)
    (hb : Below wr.heap.size wr w4) (hn : Numd w4 w5 base g 0 v' gi' N2) : Blk w5 H 2 (fun i => [Value.slice A m c, .int .i64 (r : Int)].getD i undef) ∧ Blk w5 (H + 1) (m + 2) (fun i => .int .i64 ((num i : Nat) : Int)) := by
  obtain ⟨v2, gi2, htb, hc, ho, hf, hv, hi⟩ := hn
  have hs1 := h.row.lt (by omega)
  have hsz := hb.size
  have hno : ∀ j, j = H ∨ j = H + 1 → ¬ Sv g v' gi' j := fun j hj hs => by
    rcases h.off h0 hs with e | e
    · have := h0 j e; omega
    · omega
  exact ⟨(h.x.below (by omega) hb).keep (hc.block H (by omega) (hno H (.inl rfl))), (h.row.below (by omega) hb).keep (hc.block (H + 1) (by omega) (hno (H + 1) (.inr rfl)))⟩
theorem Lo.step {w wr w4 w5 : World} {base g H m k : Nat} {A : Option Addr} {c r : Nat} {v : Value} {gi : Option Nat} {M N N' N2 : List Br} {num : Nat → Nat} {v' : Value} {gi' : Option Nat} {q : Nat} (h : Lo w wr base g H m k A c r v gi M N N' num v' gi') (h0 : ∀ q, Sv g v gi q → q < H)
    (hb : Below wr.heap.size wr w4) (hn : Numd w4 w5 base g 0 v' gi' N2) (hl : Ld M N N2 (nup num (k + 2) q) (k + 1)) (hk : k < m) :
    ∃ v2 gi2, Lo w (w5.setCell ⟨H + 1, k + 2, none⟩ (.int .i64 (q : Int))) base g H m (k + 1) A c r v gi M N N2 (nup num (k + 2) q) v2 gi2 := by
  obtain ⟨v2, gi2, htb, hc, ho, hf, hv, hi⟩ := hn
  have hgl := h0 g (.inl rfl)
  have hs1 := h.row.lt (by omega)
  have hsz := hb.size
  have hs5 := hc.size
  have hx4 := h.x.below (by omega) hb
  have hr4 := h.row.below (by omega) hb
  have hno : ∀ j, j = H ∨ j = H + 1 → ¬ Sv g v' gi' j := fun j hj hs => by
    rcases h.off h0 hs with e | e
    · have := h0 j e; omega
    · omega
  have hx5 : Blk w5 H 2 _ := hx4.keep (hc.block H (by omega) (hno H (.inl rfl)))
  have hr5 : Blk w5 (H + 1) (m + 2) _ := hr4.keep (hc.block (H + 1) (by omega) (hno (H + 1) (.inr rfl)))
  have hoff : ∀ j, Sv g v2 gi2 j → Sv g v gi j ∨ H + 2 ≤ j := fun j hj => by
    rcases hj with e | e | e
    · exact .inl (.inl e)
    · rcases hv j e with e | e
      · exact h.off h0 (.inr (.inl e))
      · exact .inr (by omega)
    · rcases hi j e with e | e
      · exact h.off h0 (.inr (.inr e))
      · exact .inr (by omega)
  have hne : ∀ j, Sv g v2 gi2 j → j ≠ H + 1 := fun j hj e => by
    rcases hoff j hj with h1 | h1
    · have := h0 j h1; omega
    · omega
  have hkeep : ∀ j, Sv g v2 gi2 j → (w5.setCell ⟨H + 1, k + 2, none⟩ (.int .i64 (q : Int))).heap[j]? = w5.heap[j]? := fun j hj => Below.heap_setCell _ _ _ _ (hne j hj)
  refine ⟨v2, gi2, h.hH, ?_, htb.keepAt (hkeep g (.inl rfl)) (fun j e => hkeep j (.inr (.inl e))) (fun j e => hkeep j (.inr (.inr e))), ?_, ?_, ?_, ?_, hx5.other (by simp) _, (hr5.set (i := k + 2) (by omega) _).congr (fun i hi2 => ?_), hl⟩
  · have c1 : Chg (Sv g v gi) w w4 := h.chg.trans (Chg.of_below (S := fun _ => False) hb) (fun _ _ e => e.elim)
    have c2 : Chg (Sv g v gi) w w5 := c1.trans hc (fun j hj e => by
      rcases h.off h0 e with e | e
      · exact e
      · have := h.hH; omega)
    exact c2.trans ((Chg.refl (fun j => j = H + 1) w5).set rfl _) (fun j hj e => by have := h.hH; omega)
  · intro j j0 j1
    rw [World.cell?_of_block (hkeep g (.inl rfl)), ho j j0 j1, hb.cell (p := ⟨g, j, none⟩) (by show g < _; omega)]
    exact h.oth j j0 j1
  · intro j
    rw [World.frozen?_of_block (hkeep g (.inl rfl)), hf j, hb.frozen (p := ⟨g, j, none⟩) (by show g < _; omega)]
    exact h.fro j
  · intro j e
    rcases hoff j (.inr (.inl e)) with _ | h1
    · rcases hv j e with e | e
      · exact h.vo j e
      · exact .inr (by omega)
    · exact .inr h1
  · intro j e
    rcases hoff j (.inr (.inr e)) with _ | h1
    · rcases hi j e with e | e
      · exact h.io j e
      · exact .inr (by omega)
    · exact .inr h1
  · unfold fup nup
    split
    · rfl
    · rfl

/-- what load leaves -/
def LdOk (w w' : World) (base g : Nat) (M N : List Br) (r : Nat) (e : Ending) : Prop := ∃ (N' : List Br) (q : Nat) (v' : Value) (gi' : Option Nat), e = .returned (.int .i64 (q : Int)) ∧ Dg.Good N' ∧ (∃ X, N' = N ++ X) ∧ N'.length ≤ N.length + M.length ∧ q < N'.length + 2 ∧ Den N' q = Den M r ∧ Tb w' base g 0 N' v' gi' ∧ Below base w w'

set_option maxHeartbeats 4000000 in
set_option maxRecDepth 100000 in
theorem load_ok (base g m c r : Nat) (A : Option Addr) (M N : List Br) (v : Value) (gi : Option Nat) (w : World) (ht : Hid (Tb w base g 0 N v gi)) (hbase : base ≤ w.heap.size) (hrd : Hid (Rd w base A (up M))) (hM : Hid (Dg.Good M)) (hl : Hid (M.length = m)) (hr : r < m + 2) (hN : Hid (Dg.Good N)) (hm : m ≤ 4096) (hn : N.length ≤ 4096) :
    Calls Tryd.prog 108 #[.pointer (some ⟨g, 0, none⟩), .agg #[.slice A m c, .int .i64 (r : Int)]] w fun e w' => LdOk w w' base g M N r e := by
  obtain ⟨i0, hi, hz0, hz1, hz2⟩ := info_parts Tryd.infoLd
  have hS0 : Hid (∀ q, Sv g v gi q → q < w.heap.size) := fun q hq => (ht.out.gl hq).2
  have HSB : Hid (∀ q, q < base → ¬ Sv g v gi q) := fun q hq hs => by have := (ht.out.gl hs).1; omega
  have b1 := ld_ab w (.cells #[.slice A m c, .int .i64 (r : Int)] 24)
  have b2 := ld_ab (w.alloc (.cells #[.slice A m c, .int .i64 (r : Int)] 24)) (.cells (madeCells #[Value.int .i64 0] (m + 2)) 3)
  have hx0 : Hid (Blk ((w.alloc (.cells #[.slice A m c, .int .i64 (r : Int)] 24)).alloc (.cells (madeCells #[Value.int .i64 0] (m + 2)) 3)) w.heap.size 2 (fun i => [Value.slice A m c, .int .i64 (r : Int)].getD i undef)) := (Blk.new (w := w) rfl [.slice A m c, .int .i64 (r : Int)] 24).below (by simp) b2
  have hrow0 : Hid (Blk ((w.alloc (.cells #[.slice A m c, .int .i64 (r : Int)] 24)).alloc (.cells (madeCells #[Value.int .i64 0] (m + 2)) 3)) (w.heap.size + 1) (m + 2) (fun _ => .int .i64 0)) := by
    rw [ld_cells]
    have hn := Blk.new (w := w.alloc (.cells #[.slice A m c, .int .i64 (r : Int)] 24)) (H := w.heap.size + 1) (by simp) (List.replicate (m + 2) (Value.int .i64 0)) 3
    rw [List.length_replicate] at hn
    exact hn.congr (fun i hi => ncells_at (m + 2) i hi)
  have HB2 := Lib.hid (b1.trans (b2.mono b1.size))
  clear b1 b2
  go_enter Tryd.func108, Tryd.ntmps108
  go_wp2_with (refine wpList_make_row _ rfl _ _ _ rfl 3 i0 _ Tryd.underlying49 hi hz0 hz1 rfl .i64 .i64 (m + 2) rfl rfl (by rw [hz2]; omega) (by omega) ?_; generalize ((w.alloc (.cells #[.slice A m c, .int .i64 (r : Int)] 24)).alloc (.cells (madeCells #[Value.int .i64 0] (m + 2)) 3)) = w3 at *; obtain ⟨s1c, s1f⟩ := hrow0.out 1 (by omega); have hx00 : w3.cell? ⟨w.heap.size, 0, none⟩ = some (.slice A m c) := (hx0.out 0 (by omega)).1)
  generalize hHH : w.heap.size = H at *
  have hgH : g < H := hS0.out g (.inl rfl)
  have hw0 : Hid (Lo w (w3.setCell ⟨H + 1, 1, none⟩ (.int .i64 1)) base g H m 0 A c r v gi M N N num0 v gi) := by
    have hb4 : Below w.heap.size w (w3.setCell ⟨H + 1, 1, none⟩ (.int .i64 1)) := by rw [hHH]; exact HB2.out.setCell (by simp) _
    refine ⟨hHH, Chg.of_below hb4, ht.out.keep hb4, fun j _ _ => hb4.cell (p := ⟨g, j, none⟩) (by rw [hHH]; exact hgH), fun j => hb4.frozen (p := ⟨g, j, none⟩) (by rw [hHH]; exact hgH), fun k e => .inl e, fun k e => .inl e, hx0.out.other (by simp) _, (hrow0.out.set (i := 1) (by omega) _).congr (fun i hi => ?_), ld_zero M hN.out⟩
    unfold fup num0
    split
    · rfl
    · rfl
  clear s1c s1f hx00 hrow0 hx0 HB2
  generalize w3.setCell ⟨H + 1, 1, none⟩ (.int .i64 1) = w4 at *
  have q0 : w4.cell? ⟨H, 0, none⟩ = some (.slice A m c) := (hw0.out.x 0 (by omega)).1
  go_wp2
  clear q0
  go_loopw [18] (fun i wr => ∃ k : Nat, k ≤ m ∧ i = .int .i64 (k : Int) ∧ Hid (∃ N' num v' gi', Lo w wr base g H m k A c r v gi M N N' num v' gi')) (fun i _ => m - (intOf i).toNat)
  case atStart => exact ⟨0, Nat.zero_le _, rfl, N, num0, v, gi, hw0.out⟩
  case round =>
    obtain ⟨k, hk, rfl, hst⟩ := hrel
    obtain ⟨N', num, v', gi', hlo⟩ := hst.out
    have HLO := Lib.hid hlo
    clear hst hlo
    by_cases hlt' : k < m
    · have hbw : Hid (Below base w wr) := HLO.out.chg.below (by rw [hHH]; exact hbase) HSB.out
      have hHw := HLO.out.row.lt (by omega)
      obtain ⟨b', o', e, hb, hc⟩ := (hrd.out.below hbw.out) (by rw [up_len, hl.out]; omega)
      subst e
      obtain ⟨d0, d1, d2⟩ := hc k (by rw [up_len, hl.out]; exact hlt')
      rw [iv_up] at d0
      rw [il_up] at d1
      rw [ih_up] at d2
      have hkM : Hid (k < M.length) := show _ by rw [hl.out]; exact hlt'
      obtain ⟨q1, q2, q3, _, _⟩ := hM.out.ord k hkM.out
      have e1 : wr.cell? ⟨H + 1, bl M k, none⟩ = some (.int .i64 ((num (bl M k) : Nat) : Int)) := (HLO.out.row (bl M k) (by omega)).1
      have e2 : wr.cell? ⟨H + 1, bh M k, none⟩ = some (.int .i64 ((num (bh M k) : Nat) : Int)) := (HLO.out.row (bh M k) (by omega)).1
      have hn1 := HLO.out.ld.lt (bl M k) q2
      have hn2 := HLO.out.ld.lt (bh M k) q3
      have hnl := HLO.out.ld.len
      have HG := Lib.hid HLO.out.ld.good
      have HLD := Lib.hid (HLO.out.ld.step hM.out hkM.out)
      have hbn : ¬ b' = wr.heap.size := by omega
      have hrn : ¬ H + 1 = wr.heap.size := by omega
      have i1 : (0 : Int) ≤ (k : Int) := by omega
      have i2 : (k : Int) < (m : Int) := by omega
      have i3 : (0 : Int) ≤ (bl M k : Int) := by omega
      have i4 : (bl M k : Int) < (m : Int) + 2 := by omega
      have i5 : (0 : Int) ≤ (bh M k : Int) := by omega
      have i6 : (bh M k : Int) < (m : Int) + 2 := by omega
      have hb4 : Below wr.heap.size wr ((wr.alloc (.cells #[.int .i64 ((bv M k : Nat) : Int), .int .i64 ((num (bl M k) : Nat) : Int), .int .i64 ((num (bh M k) : Nat) : Int)] 72)).drew) := (ld_ab wr _).drew
      have HB4 := Lib.hid hb4
      have hsm : Hid (Sm (bv M k, num (bl M k), num (bh M k))) := ⟨by show bv M k < _; omega, by show num _ < _; omega, by show num _ < _; omega⟩
      have hsl : N'.length < 1000000 := by omega
      have hall : Hid (∀ b ∈ N', Sm b) := HG.out.small (by omega)
      have hnum : ∀ w4, Below wr.heap.size wr w4 → Calls Tryd.prog 124 #[.pointer (some ⟨g, 0, none⟩), .agg #[.int .i64 ((bv M k : Nat) : Int), .int .i64 ((num (bl M k) : Nat) : Int), .int .i64 ((num (bh M k) : Nat) : Int)]] w4 fun e w' => e = .returned (.int .i64 (((ins N' (bv M k, num (bl M k), num (bh M k))).2 : Nat) : Int)) ∧ Numd w4 w' base g 0 v' gi' (ins N' (bv M k, num (bl M k), num (bh M k))).1 :=
        fun w4 hb => number_any base g 0 N' v' gi' _ _ _ w4 (Lib.hid (HLO.out.tb.keep hb)) (by have := hb.size; omega) hsm (Lib.hid HG.out.nodup) hall hsl
      have HNUM := Lib.hid hnum
      have HSTEP : Hid (∀ w4 w5, Below wr.heap.size wr w4 → Numd w4 w5 base g 0 v' gi' (ins N' (bv M k, num (bl M k), num (bh M k))).1 → ∃ v2 gi2, Lo w (w5.setCell ⟨H + 1, k + 2, none⟩ (.int .i64 (((ins N' (bv M k, num (bl M k), num (bh M k))).2 : Nat) : Int))) base g H m (k + 1) (some ⟨b', o', none⟩) c r v gi M N (ins N' (bv M k, num (bl M k), num (bh M k))).1 (nup num (k + 2) (ins N' (bv M k, num (bl M k), num (bh M k))).2) v2 gi2) :=
        fun w4 w5 hb hn => HLO.out.step hS0.out hb hn HLD.out hlt'
      clear hc hb4 hnum hsm hall hsl hnl hn1 hn2 HLD HG hkM hbw
      generalize (ins N' (bv M k, num (bl M k), num (bh M k))).2 = Q at *
      generalize (ins N' (bv M k, num (bl M k), num (bh M k))).1 = N2 at *
      generalize hNN : nup num (k + 2) Q = num2 at *
      clear hNN
      generalize num (bl M k) = LN at *
      generalize num (bh M k) = UN at *
      generalize bv M k = V at *
      generalize bl M k = LL at *
      generalize bh M k = UU at *
      go_wp2
      go_region
      go_wp2_with fail
      generalize (wr.alloc (.cells #[.int .i64 (V : Int), .int .i64 (LN : Int), .int .i64 (UN : Int)] 72)).drew = w4 at *
      with_reducible refine (HNUM.out w4 HB4.out).mono ?_
      rintro e w5 ⟨rfl, hnd⟩
      obtain ⟨_, hr5⟩ := HLO.out.mid hS0.out HB4.out hnd
      obtain ⟨e3, e4⟩ := hr5 (k + 2) (by omega)
      have HST := Lib.hid (HSTEP.out w4 w5 HB4.out hnd)
      clear hnd hr5
      go_wp2
      go_roundw
      case rel => exact ⟨k + 1, by omega, by go_num, N2, num2, HST.out⟩
      case measure => simp [intOf]; omega
    · obtain rfl : k = m := by omega
      have y1 : wr.cell? ⟨H, 1, none⟩ = some (.int .i64 (r : Int)) := (HLO.out.x 1 (by omega)).1
      have e1 : wr.cell? ⟨H + 1, r, none⟩ = some (.int .i64 ((num r : Nat) : Int)) := (HLO.out.row r hr).1
      have i3 : (0 : Int) ≤ (r : Int) := by omega
      have i4 : (r : Int) < (k : Int) + 2 := by omega
      have hbw : Hid (Below base w wr) := HLO.out.chg.below (by rw [hHH]; exact hbase) HSB.out
      go_wp2
      go_ret
      exact ⟨N', num r, v', gi', rfl, HLO.out.ld.good, HLO.out.ld.pre, by rw [hl.out]; exact HLO.out.ld.len, HLO.out.ld.lt r hr, HLO.out.ld.den r hr, HLO.out.tb, hbw.out⟩

end Go.Proofs.YtmfinkaphglmjaaDoor

/-! Two valid diagrams with one list of branches. -/
namespace Go.Proofs.YtmfinkaphglmjaaDoor
open Go.RowKit Dg St Go.Maps
attribute [local go_sem ↓] Go.wp_at_zero Go.wp_at_succ

/-- what shared answers -/
def ShOk (w w' : World) (m : Nat) (fa fb : Cfg → Bool) (e : Ending) : Prop := (∃ (A : Option Addr) (n c : Nat) (N : List Br) (ra rb : Nat), e = .returned (.tuple #[.agg #[.slice A n c, .int .i64 (ra : Int)], .agg #[.slice A n c, .int .i64 (rb : Int)]]) ∧
  N.length = n ∧ n ≤ c ∧ n ≤ m ∧ Dg.Good N ∧ Rd w' w'.heap.size A (up N) ∧ ra < n + 2 ∧ rb < n + 2 ∧ Den N ra = fa ∧ Den N rb = fb ∧ Fr A w.heap.size) ∧ Below w.heap.size w w'

/-- the state of shared -/
structure Sd (w wx : World) (H m0 c0 m1 c1 : Nat) (A0 A1 : Option Addr) (N : List Br) (q0 q1 : Nat) (v : Value) (gi : Option Nat) : Prop where
  bel : Below H w wx
  sz : H + 1 + 1 + 1 + 1 < wx.heap.size
  tb : Tb wx (H + 1 + 1 + 1 + 1) (H + 1 + 1 + 1 + 1) 0 N v gi
  y0 : B2 wx H (.slice A0 m0 c0) (.int .i64 (q0 : Int))
  y1 : B2 wx (H + 1) (.slice A1 m1 c1) (.int .i64 (q1 : Int))
  z2 : B2 wx (H + 1 + 1) (.slice none 0 0) (.int .i64 0)
  z3 : B2 wx (H + 1 + 1 + 1) (.slice none 0 0) (.int .i64 0)
theorem Sd.move {w wx wy : World} {H m0 c0 m1 c1 : Nat} {A0 A1 : Option Addr} {N N' : List Br} {q0 q1 : Nat} {v v' : Value} {gi gi' : Option Nat} (h : Sd w wx H m0 c0 m1 c1 A0 A1 N q0 q1 v gi) (hb : Below (H + 1 + 1 + 1 + 1) wx wy) (ht : Tb wy (H + 1 + 1 + 1 + 1) (H + 1 + 1 + 1 + 1) 0 N' v' gi') : Sd w wy H m0 c0 m1 c1 A0 A1 N' q0 q1 v' gi' :=
  ⟨h.bel.trans (hb.mono (by omega)), Nat.lt_of_lt_of_le h.sz hb.size, ht, h.y0.keep (hb.block _ (by omega)), h.y1.keep (hb.block _ (by omega)), h.z2.keep (hb.block _ (by omega)), h.z3.keep (hb.block _ (by omega))⟩
theorem Sd.drew {w wx : World} {H m0 c0 m1 c1 : Nat} {A0 A1 : Option Addr} {N : List Br} {q0 q1 : Nat} {v : Value} {gi : Option Nat} (h : Sd w wx H m0 c0 m1 c1 A0 A1 N q0 q1 v gi) : Sd w wx.drew H m0 c0 m1 c1 A0 A1 N q0 q1 v gi :=
  h.move ((Below.refl (H + 1 + 1 + 1 + 1) wx).drew) (h.tb.keep ((Below.refl wx.heap.size wx).drew))
theorem Tb.low {w : World} {base g o : Nat} {M : List Br} {v : Value} {gi : Option Nat} (h : Tb w base g o M v gi) {q : Nat} (hq : q < base) (j : Nat) (u : Value) : Tb (w.setCell ⟨q, j, none⟩ u) base g o M v gi :=
  h.keepAt (Below.heap_setCell _ _ _ _ (by have := (h.gl (.inl rfl)).1; show g ≠ q; omega)) (fun k e => Below.heap_setCell _ _ _ _ (by have := (h.gl (.inr (.inl e))).1; show k ≠ q; omega)) (fun k e => Below.heap_setCell _ _ _ _ (by have := (h.gl (.inr (.inr e))).1; show k ≠ q; omega))
theorem b2_one {w : World} {g : Nat} {a b : Value} (h : B2 w g a b) (u : Value) : B2 (w.setCell ⟨g, 1, none⟩ u) g a u :=
  (h.set (i := 1) (by omega) u).congr (fun i hi => by
    obtain rfl | rfl : i = 0 ∨ i = 1 := by omega
    all_goals rfl)
theorem Sd.root0 {w wx : World} {H m0 c0 m1 c1 : Nat} {A0 A1 : Option Addr} {N : List Br} {q0 q1 : Nat} {v : Value} {gi : Option Nat} (h : Sd w wx H m0 c0 m1 c1 A0 A1 N q0 q1 v gi) (q : Nat) : Sd w (wx.setCell ⟨H, 1, none⟩ (.int .i64 (q : Int))) H m0 c0 m1 c1 A0 A1 N q q1 v gi :=
  ⟨h.bel.setCell (by simp) _, by have := h.sz; simpa using this, h.tb.low (by omega) _ _, b2_one h.y0 _, h.y1.other (by show H ≠ _; omega) _, h.z2.other (by show H ≠ _; omega) _, h.z3.other (by show H ≠ _; omega) _⟩
theorem Sd.root1 {w wx : World} {H m0 c0 m1 c1 : Nat} {A0 A1 : Option Addr} {N : List Br} {q0 q1 : Nat} {v : Value} {gi : Option Nat} (h : Sd w wx H m0 c0 m1 c1 A0 A1 N q0 q1 v gi) (q : Nat) : Sd w (wx.setCell ⟨H + 1, 1, none⟩ (.int .i64 (q : Int))) H m0 c0 m1 c1 A0 A1 N q0 q v gi :=
  ⟨h.bel.setCell (by simp) _, by have := h.sz; simpa using this, h.tb.low (by omega) _ _, h.y0.other (by show H + 1 ≠ _; omega) _, b2_one h.y1 _, h.z2.other (by show H + 1 ≠ _; omega) _, h.z3.other (by show H + 1 ≠ _; omega) _⟩
/-- what is known of the table's list and the two roots -/
structure Sn (N : List Br) (m q0 q1 : Nat) (fa fb : Cfg → Bool) : Prop where
  good : Dg.Good N
  len : N.length ≤ m
  l0 : q0 < N.length + 2
  l1 : q1 < N.length + 2
  d0 : Den N q0 = fa
  d1 : Den N q1 = fb

set_option maxHeartbeats 4000000 in
set_option maxRecDepth 100000 in
theorem shared_ok (m0 c0 r0 m1 c1 r1 : Nat) (A0 A1 : Option Addr) (fa fb : Cfg → Bool) (w : World) (h0 : Hid (Dn w A0 m0 c0 r0 fa)) (h1 : Hid (Dn w A1 m1 c1 r1 fb)) (hm : m0 + m1 ≤ 4096) :
    Calls Tryd.prog 71 #[.agg #[.slice A0 m0 c0, .int .i64 (r0 : Int)], .agg #[.slice A1 m1 c1, .int .i64 (r1 : Int)]] w fun e w' => ShOk w w' (m0 + m1) fa fb e := by
  obtain ⟨W0, hW0⟩ : ∃ W, W = (((w.alloc (.cells #[.slice A0 m0 c0, .int .i64 (r0 : Int)] 24)).alloc (.cells #[.slice A1 m1 c1, .int .i64 (r1 : Int)] 24)).alloc (.cells #[.slice none 0 0, .int .i64 0] 24)).alloc (.cells #[.slice none 0 0, .int .i64 0] 24) := ⟨_, rfl⟩
  have hW := hW0
  generalize hH : w.heap.size = H at *
  have hs0 : W0.heap.size = H + 1 + 1 + 1 + 1 := by rw [hW0]; simp [hH]
  have hbW : Below H w W0 := by rw [hW0, ← hH]; exact (((ab2 w _).alloc (by simp) _).alloc (by simp; omega) _).alloc (by simp; omega) _
  have bT := ab2 W0 (.cells #[.slice none 0 0, .map none] 116)
  have hst0 : Hid (Sd w (W0.alloc (.cells #[.slice none 0 0, .map none] 116)) H m0 c0 m1 c1 A0 A1 [] r0 r1 (.slice none 0 0) none) := by
    have X0 : B2 W0 H (.slice A0 m0 c0) (.int .i64 (r0 : Int)) := by
      rw [hW0]; exact (((Blk.new (w := w) hH [.slice A0 m0 c0, .int .i64 (r0 : Int)] _).alloc (by simp) _).alloc (by simp) _).alloc (by simp) _
    have X1 : B2 W0 (H + 1) (.slice A1 m1 c1) (.int .i64 (r1 : Int)) := by
      rw [hW0]; exact ((Blk.new (w := w.alloc _) (by simp [hH]) [.slice A1 m1 c1, .int .i64 (r1 : Int)] _).alloc (by simp) _).alloc (by simp) _
    have X2 : B2 W0 (H + 1 + 1) (.slice none 0 0) (.int .i64 0) := by
      rw [hW0]; exact (Blk.new (w := (w.alloc _).alloc _) (by simp [hH]) [.slice none 0 0, .int .i64 0] _).alloc (by simp) _
    have X3 : B2 W0 (H + 1 + 1 + 1) (.slice none 0 0) (.int .i64 0) := by
      rw [hW0]; exact Blk.new (w := ((w.alloc _).alloc _).alloc _) (by simp [hH]) [.slice none 0 0, .int .i64 0] _
    have XT := Blk.new (w := W0) hs0 [.slice none 0 0, .map none] 116
    refine ⟨hbW.trans (bT.mono (by omega)), by simp; omega, ⟨(XT 0 (by simp)).1, (XT 1 (by simp)).1, (XT 0 (by simp)).2, (XT 1 (by simp)).2, ld_nil _ _ _ _, by simp, by simp [Value.ownBlock], Nat.le_refl _⟩, X0.alloc (by omega) _, X1.alloc (by omega) _, X2.alloc (by omega) _, X3.alloc (by omega) _⟩
  clear bT hbW
  have hc0 : ∀ (wx : World), Sd w wx H m0 c0 m1 c1 A0 A1 [] r0 r1 (.slice none 0 0) none → Calls Tryd.prog 108 #[.pointer (some ⟨H + 1 + 1 + 1 + 1, 0, none⟩), .agg #[.slice A0 m0 c0, .int .i64 (r0 : Int)]] wx fun e w' => ∃ (N : List Br) (q : Nat) (v : Value) (gi : Option Nat), e = .returned (.int .i64 (q : Int)) ∧ Sd w w' H m0 c0 m1 c1 A0 A1 N r0 r1 v gi ∧ Sn N m0 q q fa fa := by
    intro wx hx
    have rd : Rd wx (H + 1 + 1 + 1 + 1) A0 (up (cn fa).1) := ((h0.out.rd.below (by rw [hH]; exact hx.bel)).mono (by omega))
    refine (load_ok (H + 1 + 1 + 1 + 1) (H + 1 + 1 + 1 + 1) m0 c0 r0 A0 (cn fa).1 [] (.slice none 0 0) none wx (Lib.hid hx.tb) (by have := hx.sz; omega) (Lib.hid rd) (Lib.hid h0.out.valid.good) (Lib.hid h0.out.len) h0.out.lt (Lib.hid good_nil) (by omega) (by simp)).mono ?_
    rintro e w' ⟨N, q, v, gi, rfl, hg, _, hl, hq, hd, ht, hb⟩
    have hl2 : N.length ≤ m0 := by have := h0.out.len; simp at hl; omega
    exact ⟨N, q, v, gi, rfl, hx.move hb ht, hg, hl2, hq, hq, by rw [hd]; exact h0.out.den, by rw [hd]; exact h0.out.den⟩
  have hc1 : ∀ (wx : World) (N0 : List Br) (q0 : Nat) (v0 : Value) (gi0 : Option Nat), Sd w wx H m0 c0 m1 c1 A0 A1 N0 r0 r1 v0 gi0 → Sn N0 m0 q0 q0 fa fa → Calls Tryd.prog 108 #[.pointer (some ⟨H + 1 + 1 + 1 + 1, 0, none⟩), .agg #[.slice A1 m1 c1, .int .i64 (r1 : Int)]] wx fun e w' => ∃ (N : List Br) (q : Nat) (v : Value) (gi : Option Nat), e = .returned (.int .i64 (q : Int)) ∧ Sd w w' H m0 c0 m1 c1 A0 A1 N r0 r1 v gi ∧ Sn N (m0 + m1) q0 q fa fb := by
    intro wx N0 q0 v0 gi0 hx hn
    have rd : Rd wx (H + 1 + 1 + 1 + 1) A1 (up (cn fb).1) := ((h1.out.rd.below (by rw [hH]; exact hx.bel)).mono (by omega))
    have hn0 := hn.len
    refine (load_ok (H + 1 + 1 + 1 + 1) (H + 1 + 1 + 1 + 1) m1 c1 r1 A1 (cn fb).1 N0 v0 gi0 wx (Lib.hid hx.tb) (by have := hx.sz; omega) (Lib.hid rd) (Lib.hid h1.out.valid.good) (Lib.hid h1.out.len) h1.out.lt (Lib.hid hn.good) (by omega) (by omega)).mono ?_
    rintro e w' ⟨N, q, v, gi, rfl, hg, ⟨X, hX⟩, hl, hq, hd, ht, hb⟩
    have hl1 := h1.out.len
    have hq0 : q0 < N.length + 2 := by have := hn.l0; rw [hX, List.length_append]; omega
    exact ⟨N, q, v, gi, rfl, hx.move hb ht, hg, by omega, hq0, hq, by rw [hX, Den_pre hn.good.ord hn.l0]; exact hn.d0, by rw [hd]; exact h1.out.den⟩
  have HC0 := Lib.hid hc0
  have HC1 := Lib.hid hc1
  clear hc0 hc1 h0 h1
  go_enter Tryd.func71, Tryd.ntmps71
  go_wp2
  rw [← hW]
  generalize W0.alloc (.cells #[.slice none 0 0, .map none] 116) = w5 at *
  clear hW hW0 hs0
  have HS5 := Lib.hid hst0.out.drew
  go_cut [] (fun wx => ∃ N q0 q1 v gi, Sd w wx H m0 c0 m1 c1 A0 A1 N q0 q1 v gi ∧ Sn N (m0 + m1) q0 q1 fa fb)
  case first =>
    obtain ⟨a0, a1, an⟩ := xb2 (Lib.hid HS5.out.y0)
    obtain ⟨b0, b1, bn⟩ := xb2 (Lib.hid HS5.out.y1)
    go_region_law ((first
      | (go_simp; go_at_call 108; (with_reducible refine (HC0.out w5.drew HS5.out).mono ?_); rintro e w6 ⟨N6, p6, v6, gi6, rfl, s6, n6⟩; have S6 := ld_lid s6; have K6 := ld_lid n6; obtain ⟨b0', b1', bn'⟩ := xb2 (Lib.hid S6.out.y1); clear s6 n6)
      | (go_simp; go_at_call 108; (with_reducible refine (HC1.out w6 N6 p6 v6 gi6 S6.out K6.out).mono ?_); rintro e w7 ⟨N7, p7, v7, gi7, rfl, s7, n7⟩; have S7 := ld_lid s7; have K7 := ld_lid n7; obtain ⟨x0, x1⟩ := S7.out.y0 1 (by omega); obtain ⟨x2, x3⟩ := S7.out.y1 1 (by omega); clear s7 n7)))
    all_goals go_wp2_with fail
    all_goals go_meet
    all_goals exact ⟨N7, p6, p7, v7, gi7, by first | exact ((S7.out.root0 p6).root1 p7) | exact ((S7.out.root0 p6).root1 p7).drew | exact ((S7.out.root1 p7).root0 p6) | exact ((S7.out.root1 p7).root0 p6).drew, K7.out⟩
  case rest =>
    obtain ⟨N, q0, q1, v, gi, hs, hn⟩ := hcut
    have HS := Lib.hid hs
    have HN := Lib.hid hn
    obtain ⟨AN, cN, hv, hcap, hrd⟩ := own_rd hs.tb.own
    have hfr : Hid (Fr AN (H + 1 + 1 + 1 + 1)) := fun b o e => by
      subst e
      exact (World.ownsRow.lt hs.tb.own b (by rw [hv]; rfl)).1
    have tc := hs.tb.cn
    rw [hv] at tc
    have HRD := Lib.hid hrd
    have HCAP := Lib.hid hcap
    obtain ⟨n, hn2⟩ : ∃ n, N.length = n := ⟨_, rfl⟩
    rw [hn2] at tc
    have HLN := Lib.hid hn2
    have x0 := (hs.y0 1 (by omega)).1
    have x1 := (hs.y1 1 (by omega)).1
    obtain ⟨z20, z20f⟩ := hs.z2 0 (by omega)
    obtain ⟨z21, z21f⟩ := hs.z2 1 (by omega)
    obtain ⟨z30, z30f⟩ := hs.z3 0 (by omega)
    obtain ⟨z31, z31f⟩ := hs.z3 1 (by omega)
    have hsz := hs.sz
    clear hs hn hrd hcap hv hn2
    go_wp2
    go_region
    go_wp2
    refine bodyPost_ret (v := .tuple #[.agg #[.slice AN n cN, .int .i64 (q0 : Int)], .agg #[.slice AN n cN, .int .i64 (q1 : Int)]]) ?_ rfl ⟨⟨AN, n, cN, N, q0, q1, rfl, HLN.out, by rw [← HLN.out]; exact HCAP.out, by rw [← HLN.out]; exact HN.out.len, HN.out.good, ?_, by rw [← HLN.out]; exact HN.out.l0, by rw [← HLN.out]; exact HN.out.l1, HN.out.d0, HN.out.d1, by rw [hH]; exact hfr.out.mono (by omega)⟩, ?_⟩
    · rw [results_cell_cell rfl]
      go_simp
    · have h2 := hfr.out.mono (show H + 1 + 1 + 1 ≤ H + 1 + 1 + 1 + 1 by omega)
      have h := ((((HRD.out.setF (n := 0) h2 (.slice AN n cN)).setF (n := 1) h2 (.int .i64 (q0 : Int))).setF (n := 0) hfr.out (.slice AN n cN)).setF (n := 1) hfr.out (.int .i64 (q1 : Int)))
      have h3 := h.mono (B' := ((((wc.setCell ⟨H + 1 + 1, 0, none⟩ (.slice AN n cN)).setCell ⟨H + 1 + 1, 1, none⟩ (.int .i64 (q0 : Int))).setCell ⟨H + 1 + 1 + 1, 0, none⟩ (.slice AN n cN)).setCell ⟨H + 1 + 1 + 1, 1, none⟩ (.int .i64 (q1 : Int))).heap.size) (by simp [World.setCell])
      exact h3.keep (fun _ _ => rfl)
    · rw [hH]
      exact ((((HS.out.bel.setCell (by show H ≤ H + 1 + 1; omega) _).setCell (by show H ≤ H + 1 + 1; omega) _).setCell (by show H ≤ H + 1 + 1 + 1; omega) _).setCell (by show H ≤ H + 1 + 1 + 1; omega) _).drew

end Go.Proofs.YtmfinkaphglmjaaDoor

/-! Choose of three valid diagrams. -/
namespace Go.Proofs.YtmfinkaphglmjaaDoor
open Go.RowKit Dg St
attribute [local go_sem ↓] Go.wp_at_zero Go.wp_at_succ

/-- three arguments of combine, the last two from one list -/
def tri (A0 A1 : Option Addr) (m0 c0 r0 m1 c1 r1 r2 : Nat) (N0 N1 : List Br) : Ca where
  A t := if t = 0 then A0 else if t = 1 then A1 else if t = 2 then A1 else none
  m t := if t = 0 then m0 else if t = 1 then m1 else if t = 2 then m1 else 0
  c t := if t = 0 then c0 else if t = 1 then c1 else if t = 2 then c1 else 0
  r t := if t = 0 then r0 else if t = 1 then r1 else if t = 2 then r2 else 0
  N t := if t = 0 then N0 else if t = 1 then N1 else if t = 2 then N1 else []
theorem tri_ok {w : World} {A0 A1 : Option Addr} {m0 c0 r0 m1 c1 r1 r2 : Nat} {N0 N1 : List Br} (h0 : Rd w w.heap.size A0 (up N0)) (h1 : Rd w w.heap.size A1 (up N1)) (l0 : N0.length = m0) (l1 : N1.length = m1) (b0 : m0 ≤ 4096) (b1 : m1 ≤ 4096) (o0 : Ord N0) (o1 : Ord N1) (q0 : r0 < m0 + 2) (q1 : r1 < m1 + 2) (q2 : r2 < m1 + 2) : (tri A0 A1 m0 c0 r0 m1 c1 r1 r2 N0 N1).Ok 3 w := by
  refine ⟨fun t ht => ?_, fun t => ?_, fun t => ?_, fun t => ?_, fun t => ?_, fun t ht => ?_⟩
  · obtain rfl | rfl | rfl : t = 0 ∨ t = 1 ∨ t = 2 := by omega
    · exact h0
    · exact h1
    · exact h1
  · unfold tri; simp only; split
    · exact l0
    · split
      · exact l1
      · split
        · exact l1
        · rfl
  · unfold tri; simp only; split
    · exact b0
    · split
      · exact b1
      · split
        · exact b1
        · omega
  · unfold tri; simp only; split
    · exact o0
    · split
      · exact o1
      · split
        · exact o1
        · exact good_nil.ord
  · unfold tri; simp only; split
    · exact q0
    · split
      · exact q1
      · split
        · exact q2
        · omega
  · unfold tri
    simp only
    have e0 : ¬ t = 0 := by omega
    have e1 : ¬ t = 1 := by omega
    have e2 : ¬ t = 2 := by omega
    simp only [e0, e1, e2, if_false]
    exact ⟨trivial, trivial, trivial, trivial⟩
theorem tri_pr {A0 A1 : Option Addr} {m0 c0 r0 m1 c1 r1 r2 : Nat} {N0 N1 : List Br} (q0 : r0 < 4098) (q1 : r1 < 4098) (q2 : r2 < 4098) : ∀ k, k ≤ 3 → (tri A0 A1 m0 c0 r0 m1 c1 r1 r2 N0 N1).pr k ≤ 1000000000000 := by
  intro k hk
  have h0 : r0 + 1 ≤ 4098 := by omega
  have h1 : (r0 + 1) * (r1 + 1) ≤ 4098 * 4098 := Nat.mul_le_mul (by omega) (by omega)
  have h2 : (r0 + 1) * (r1 + 1) * (r2 + 1) ≤ 4098 * 4098 * 4098 := Nat.mul_le_mul h1 (by omega)
  obtain rfl | rfl | rfl | rfl : k = 0 ∨ k = 1 ∨ k = 2 ∨ k = 3 := by omega
  · show 1 ≤ _; omega
  · show 1 * (r0 + 1) ≤ _; omega
  · show 1 * (r0 + 1) * (r1 + 1) ≤ _; rw [Nat.one_mul]; omega
  · show 1 * (r0 + 1) * (r1 + 1) * (r2 + 1) ≤ _; rw [Nat.one_mul]; omega
/-- the cells of three diagrams -/
abbrev L6 (A0 A1 A2 : Option Addr) (m0 c0 r0 m1 c1 r1 m2 c2 r2 : Nat) : List Value := [.slice A0 m0 c0, .int .i64 (r0 : Int), .slice A1 m1 c1, .int .i64 (r1 : Int), .slice A2 m2 c2, .int .i64 (r2 : Int)]

set_option maxRecDepth 100000 in
theorem ch_check (m0 c0 r0 m1 c1 r1 m2 c2 r2 : Nat) (A0 A1 A2 : Option Addr) (f0 f1 f2 : Cfg → Bool) (b : Nat) (w : World) (h0 : Dn w A0 m0 c0 r0 f0) (h1 : Dn w A1 m1 c1 r1 f1) (h2 : Dn w A2 m2 c2 r2 f2) (hb : Blk w b 6 (fun i => (L6 A0 A1 A2 m0 c0 r0 m1 c1 r1 m2 c2 r2).getD i undef)) :
    Calls Tryd.prog 70 #[.slice (some ⟨b, 0, none⟩) 3 3] w fun e w' => e = .returned (.int .i64 0) ∧ Below w.heap.size w w' := by
  have hlt := hb.lt (by omega)
  have ok0 := h0.ok
  have ok1 := h1.ok
  have ok2 := h2.ok
  have ck0 := h0.chk
  have ck1 := h1.chk
  have ck2 := h2.chk
  unfold Dn.da at ok0 ok1 ok2
  clear h0 h1 h2
  generalize (cn f0).1 = M0 at *
  generalize (cn f1).1 = M1 at *
  generalize (cn f2).1 = M2 at *
  have hc : chkAll [(⟨A0, m0, c0, up M0, (r0 : Int)⟩ : DA), ⟨A1, m1, c1, up M1, (r1 : Int)⟩, ⟨A2, m2, c2, up M2, (r2 : Int)⟩] = 0 := chkAll_ok (fun d hd => by
    simp only [List.mem_cons, List.not_mem_nil, or_false] at hd
    rcases hd with rfl | rfl | rfl
    · exact ck0
    · exact ck1
    · exact ck2)
  have h := checkAll_any b 3 3 [(⟨A0, m0, c0, up M0, (r0 : Int)⟩ : DA), ⟨A1, m1, c1, up M1, (r1 : Int)⟩, ⟨A2, m2, c2, up M2, (r2 : Int)⟩] w (Lib.hid rfl) (by omega) hlt (Lib.hid (fun d hd => by
    simp only [List.mem_cons, List.not_mem_nil, or_false] at hd
    rcases hd with rfl | rfl | rfl
    · exact ok0
    · exact ok1
    · exact ok2)) (Lib.hid (fun k hk => by
    obtain rfl | rfl | rfl : k = 0 ∨ k = 1 ∨ k = 2 := by simp at hk; omega
    · exact ⟨(hb 0 (by omega)).1, (hb 1 (by omega)).1⟩
    · exact ⟨(hb 2 (by omega)).1, (hb 3 (by omega)).1⟩
    · exact ⟨(hb 4 (by omega)).1, (hb 5 (by omega)).1⟩))
  rw [hc] at h
  exact h

set_option maxRecDepth 100000 in
theorem ch_lim (m0 c0 r0 n c r1 r2 : Nat) (A0 A : Option Addr) (N : List Br) (fc fa fb : Cfg → Bool) (b : Nat) (w : World) (h0 : Dn w A0 m0 c0 r0 fc) (hrd : Rd w w.heap.size A (up N)) (hl : N.length = n) (hn : n ≤ 4096) (hg : Dg.Good N) (q1 : r1 < n + 2) (q2 : r2 < n + 2) (d1 : Den N r1 = fa) (d2 : Den N r2 = fb)
    (hin : Ins w 0) (hb : Blk w b 6 (fun i => (L6 A0 A A m0 c0 r0 n c r1 n c r2).getD i undef)) (MR : List Br) (rr : Nat) (hcn : cn (fun x => if fc x then fa x else fb x) = (MR, rr)) (hsz : MR.length ≤ 4096) :
    Calls Tryd.prog 72 #[.func (.func 73) #[] #[], .slice (some ⟨b, 0, none⟩) 3 3] w (fun e w' => OpOk w w' MR rr e) := by
  have hlt := hb.lt (by omega)
  have l0 := h0.lt
  have m4 := h0.lm
  have rd0 := h0.rd
  have ln0 := h0.len
  have or0 := h0.valid.good.ord
  have dn0 := h0.den
  clear h0
  generalize (cn fc).1 = M at *
  have hD : (tri A0 A m0 c0 r0 n c r1 r2 M N).Ok 3 w := tri_ok rd0 hrd ln0 hl m4 hn or0 hg.ord l0 q1 q2
  have hfx : fx 216 ((tri A0 A m0 c0 r0 n c r1 r2 M N).N 0) ((tri A0 A m0 c0 r0 n c r1 r2 M N).N 1) ((tri A0 A m0 c0 r0 n c r1 r2 M N).N 2) ((tri A0 A m0 c0 r0 n c r1 r2 M N).r 0) ((tri A0 A m0 c0 r0 n c r1 r2 M N).r 1) ((tri A0 A m0 c0 r0 n c r1 r2 M N).r 2) = fun x => if fc x then fa x else fb x := by
    show fx 216 M N N r0 r1 r2 = _
    funext x
    unfold fx
    rw [dn0, d1, d2, tt_choose]
  have hres : put 64 (fx 216 ((tri A0 A m0 c0 r0 n c r1 r2 M N).N 0) ((tri A0 A m0 c0 r0 n c r1 r2 M N).N 1) ((tri A0 A m0 c0 r0 n c r1 r2 M N).N 2) ((tri A0 A m0 c0 r0 n c r1 r2 M N).r 0) ((tri A0 A m0 c0 r0 n c r1 r2 M N).r 1) ((tri A0 A m0 c0 r0 n c r1 r2 M N).r 2)) [] = (MR, rr) := by
    rw [hfx]; exact hcn
  have hca : CArgs w b 3 (tri A0 A m0 c0 r0 n c r1 r2 M N) := by
    intro t ht
    obtain rfl | rfl | rfl : t = 0 ∨ t = 1 ∨ t = 2 := by omega
    · exact ⟨(hb 0 (by omega)).1, (hb 1 (by omega)).1⟩
    · exact ⟨(hb 2 (by omega)).1, (hb 3 (by omega)).1⟩
    · exact ⟨(hb 4 (by omega)).1, (hb 5 (by omega)).1⟩
  have hsame : ∀ x, x < (tri A0 A m0 c0 r0 n c r1 r2 M N).r 1 + 1 → x < (tri A0 A m0 c0 r0 n c r1 r2 M N).r 2 + 1 → Den ((tri A0 A m0 c0 r0 n c r1 r2 M N).N 1) x = Den ((tri A0 A m0 c0 r0 n c r1 r2 M N).N 2) x := fun x _ _ => by
    have e : (tri A0 A m0 c0 r0 n c r1 r2 M N).N 1 = (tri A0 A m0 c0 r0 n c r1 r2 M N).N 2 := rfl
    rw [e]
  have hpr := tri_pr (A0 := A0) (A1 := A) (m0 := m0) (c0 := c0) (m1 := n) (c1 := c) (N0 := M) (N1 := N) (r0 := r0) (r1 := r1) (r2 := r2) (by omega) (by omega) (by omega)
  exact limited_ok b 3 73 216 3 (tri A0 A m0 c0 r0 n c r1 r2 M N) w (by omega) hlt (Lib.hid (by omega)) (Lib.hid (by decide)) (Lib.hid hin) (Lib.hid hsame) MR rr (Lib.hid hres) (Lib.hid hsz) (Lib.hid choose_op) (Lib.hid hD) (Lib.hid hca) hpr
theorem d64_ite {f g h : Cfg → Bool} (hf : D64 f) (hg : D64 g) (hh : D64 h) : D64 (fun x => if f x then g x else h x) := fun c c' hc => by show (if f c then g c else h c) = (if f c' then g c' else h c'); rw [hf c c' hc, hg c c' hc, hh c c' hc]

set_option maxHeartbeats 4000000 in
set_option maxRecDepth 100000 in
theorem choose_ok (m0 c0 r0 m1 c1 r1 m2 c2 r2 : Nat) (A0 A1 A2 : Option Addr) (f0 f1 f2 : Cfg → Bool) (w : World) (h0 : Hid (Dn w A0 m0 c0 r0 f0)) (h1 : Hid (Dn w A1 m1 c1 r1 f1)) (h2 : Hid (Dn w A2 m2 c2 r2 f2)) (hin : Hid (Ins w 0)) (hm : m1 + m2 ≤ 4096) (hsz : Hid ((cn (fun x => if f0 x then f1 x else f2 x)).1.length ≤ 4096)) :
    Calls Tryd.prog 27 #[.agg #[.slice A0 m0 c0, .int .i64 (r0 : Int)], .agg #[.slice A1 m1 c1, .int .i64 (r1 : Int)], .agg #[.slice A2 m2 c2, .int .i64 (r2 : Int)]] w fun e w' => BinOk w w' (fun x => if f0 x then f1 x else f2 x) e := by
  have hdd : Hid (D64 (fun x => if f0 x then f1 x else f2 x)) := Lib.hid (d64_ite h0.out.d h1.out.d h2.out.d)
  have hsz0 := hsz.out
  clear hsz
  obtain ⟨W0, hW0⟩ : ∃ W, W = (((w.alloc (.cells #[.slice A0 m0 c0, .int .i64 (r0 : Int)] 24)).alloc (.cells #[.slice A1 m1 c1, .int .i64 (r1 : Int)] 24)).alloc (.cells #[.slice A2 m2 c2, .int .i64 (r2 : Int)] 24)).alloc (.cells #[.slice none 0 0, .int .i64 0] 24) := ⟨_, rfl⟩
  have hW := hW0
  obtain ⟨H, hH⟩ : ∃ H, w.heap.size = H := ⟨_, rfl⟩
  have hs0 : W0.heap.size = H + 1 + 1 + 1 + 1 := by rw [hW0]; simp [hH]
  have hbW : Below H w W0 := by rw [hW0, ← hH]; exact (((ab2 w _).alloc (by simp) _).alloc (by simp; omega) _).alloc (by simp; omega) _
  have X0 : Hid (B2 W0 H (.slice A0 m0 c0) (.int .i64 (r0 : Int))) := Lib.hid (by
    rw [hW0]; exact (((Blk.new (w := w) hH [.slice A0 m0 c0, .int .i64 (r0 : Int)] _).alloc (by simp) _).alloc (by simp) _).alloc (by simp) _)
  have X1 : Hid (B2 W0 (H + 1) (.slice A1 m1 c1) (.int .i64 (r1 : Int))) := Lib.hid (by
    rw [hW0]; exact ((Blk.new (w := w.alloc _) (by simp [hH]) [.slice A1 m1 c1, .int .i64 (r1 : Int)] _).alloc (by simp) _).alloc (by simp) _)
  have X2 : Hid (B2 W0 (H + 1 + 1) (.slice A2 m2 c2) (.int .i64 (r2 : Int))) := Lib.hid (by
    rw [hW0]; exact (Blk.new (w := (w.alloc _).alloc _) (by simp [hH]) [.slice A2 m2 c2, .int .i64 (r2 : Int)] _).alloc (by simp) _)
  have X3 : Hid (B2 W0 (H + 1 + 1 + 1) (.slice none 0 0) (.int .i64 0)) := Lib.hid (by
    rw [hW0]; exact Blk.new (w := ((w.alloc _).alloc _).alloc _) (by simp [hH]) [.slice none 0 0, .int .i64 0] _)
  generalize hR : cn (fun x => if f0 x then f1 x else f2 x) = R at hsz0
  obtain ⟨MR, rr⟩ := R
  have HR := Lib.hid hR
  have HSZ := Lib.hid hsz0
  clear hR hsz0
  have HB0 := Lib.hid hbW
  have ab := ab2 W0 (.cells #[.slice A0 m0 c0, .int .i64 (r0 : Int), .slice A1 m1 c1, .int .i64 (r1 : Int), .slice A2 m2 c2, .int .i64 (r2 : Int)] 24)
  have HB1 : Hid (Below H w _) := Lib.hid (hbW.trans (ab.mono (by omega)))
  have X61 : Hid (Blk _ (H + 1 + 1 + 1 + 1) 6 _) := Lib.hid (Blk.new (w := W0) hs0 (L6 A0 A1 A2 m0 c0 r0 m1 c1 r1 m2 c2 r2) 24)
  have Y0 := rb2 X0 ab
  have Y1 := rb2 X1 ab
  have Y2 := rb2 X2 ab
  have Y3 := rb2 X3 ab
  clear ab hbW X0 X1 X2 X3
  go_enter Tryd.func27, Tryd.ntmps27
  go_wp2_with fail
  rw [← hW]
  generalize W0.alloc (.cells #[.slice A0 m0 c0, .int .i64 (r0 : Int), .slice A1 m1 c1, .int .i64 (r1 : Int), .slice A2 m2 c2, .int .i64 (r2 : Int)] 24) = w1 at *
  clear hW hW0 hs0 HB0
  have HK : Hid (∀ wx, Below H w wx → Below w.heap.size w wx) := fun wx h => by rw [hH]; exact h
  have hs1 : H ≤ w1.heap.size := by have := HB1.out.size; omega
  with_reducible refine (ch_check m0 c0 r0 m1 c1 r1 m2 c2 r2 A0 A1 A2 f0 f1 f2 _ w1 (rdn h0 (HK.out _ HB1.out)).out (rdn h1 (HK.out _ HB1.out)).out (rdn h2 (HK.out _ HB1.out)).out X61.out).mono ?_
  rintro e w2 ⟨rfl, b2⟩
  replace Y0 := rb2 Y0 b2
  replace Y1 := rb2 Y1 b2
  replace Y2 := rb2 Y2 b2
  replace Y3 := rb2 Y3 b2
  have HB2 := btr HB1 b2 hs1
  have hs2 : H ≤ w2.heap.size := by have := b2.size; omega
  have hs2b : H + 1 + 1 + 1 < w2.heap.size := Y3.out.lt (by omega)
  clear b2 X61 HB1 hs1
  obtain ⟨u0, u1, un⟩ := xb2 Y0
  obtain ⟨v0, v1, vn⟩ := xb2 Y1
  obtain ⟨z0, z1, zn⟩ := xb2 Y2
  go_wp2_with fail
  with_reducible refine (shared_ok m1 c1 r1 m2 c2 r2 A1 A2 f1 f2 w2 (rdn h1 (HK.out _ HB2.out)) (rdn h2 (HK.out _ HB2.out)) hm).mono ?_
  rintro e w3 ⟨⟨A, n, c, N, ra, rb, rfl, hl, hnc, hnm, hg, hrd, q1, q2, d1, d2, hfr⟩, b3⟩
  clear u0 u1 un v0 v1 vn z0 z1 zn
  replace Y0 := rb2 Y0 b3
  replace Y1 := rb2 Y1 b3
  replace Y2 := rb2 Y2 b3
  replace Y3 := rb2 Y3 b3
  have HB3 := btr HB2 b3 hs2
  have hs3 : H + 1 + 1 + 1 < w3.heap.size := Y3.out.lt (by omega)
  have HFR : Hid (Fr A (H + 1 + 1 + 1 + 1)) := Lib.hid (hfr.mono (by omega))
  obtain ⟨u0, u1, un⟩ := xb2 Y0
  obtain ⟨v0, v0f⟩ := Y1.out 0 (by omega)
  obtain ⟨v1, v1f⟩ := Y1.out 1 (by omega)
  obtain ⟨z0, z0f⟩ := Y2.out 0 (by omega)
  obtain ⟨z1, z1f⟩ := Y2.out 1 (by omega)
  go_wp2_with fail
  have hb4 : Below H w ((((w3.setCell ⟨H + 1, 0, none⟩ (.slice A n c)).setCell ⟨H + 1, 1, none⟩ (.int .i64 (ra : Int))).setCell ⟨H + 1 + 1, 0, none⟩ (.slice A n c)).setCell ⟨H + 1 + 1, 1, none⟩ (.int .i64 (rb : Int))) :=
    (((HB3.out.setCell (by show H ≤ H + 1; omega) _).setCell (by show H ≤ H + 1; omega) _).setCell (by show H ≤ H + 1 + 1; omega) _).setCell (by show H ≤ H + 1 + 1; omega) _
  have hy3 : B2 ((((w3.setCell ⟨H + 1, 0, none⟩ (.slice A n c)).setCell ⟨H + 1, 1, none⟩ (.int .i64 (ra : Int))).setCell ⟨H + 1 + 1, 0, none⟩ (.slice A n c)).setCell ⟨H + 1 + 1, 1, none⟩ (.int .i64 (rb : Int))) (H + 1 + 1 + 1) (.slice none 0 0) (.int .i64 0) :=
    (((Y3.out.other (by show H + 1 ≠ _; omega) _).other (by show H + 1 ≠ _; omega) _).other (by show H + 1 + 1 ≠ _; omega) _).other (by show H + 1 + 1 ≠ _; omega) _
  have f2 := HFR.out.mono (show H + 1 + 1 ≤ H + 1 + 1 + 1 + 1 by omega)
  have f3 := HFR.out.mono (show H + 1 + 1 + 1 ≤ H + 1 + 1 + 1 + 1 by omega)
  have hr4 := (((hrd.setF (n := 0) f2 (.slice A n c)).setF (n := 1) f2 (.int .i64 (ra : Int))).setF (n := 0) f3 (.slice A n c)).setF (n := 1) f3 (.int .i64 (rb : Int))
  have hz4 : ((((w3.setCell ⟨H + 1, 0, none⟩ (.slice A n c)).setCell ⟨H + 1, 1, none⟩ (.int .i64 (ra : Int))).setCell ⟨H + 1 + 1, 0, none⟩ (.slice A n c)).setCell ⟨H + 1 + 1, 1, none⟩ (.int .i64 (rb : Int))).heap.size = w3.heap.size := by simp [World.setCell]
  have hb5 := ab2 ((((w3.setCell ⟨H + 1, 0, none⟩ (.slice A n c)).setCell ⟨H + 1, 1, none⟩ (.int .i64 (ra : Int))).setCell ⟨H + 1 + 1, 0, none⟩ (.slice A n c)).setCell ⟨H + 1 + 1, 1, none⟩ (.int .i64 (rb : Int))) (.cells #[.slice A0 m0 c0, .int .i64 (r0 : Int), .slice A n c, .int .i64 (ra : Int), .slice A n c, .int .i64 (rb : Int)] 24)
  have X65 := Lib.hid (Blk.new hz4 (L6 A0 A A m0 c0 r0 n c ra n c rb) 24)
  have HZ : H ≤ w3.heap.size := by omega
  have HB5 := Lib.hid (hb4.trans (hb5.mono (by rw [hz4]; exact HZ)))
  have HR5 := Lib.hid ((hr4.below (by rw [← hz4]; exact hb5)).mono (show w3.heap.size ≤ _ by rw [← hz4]; exact hb5.size))
  have Y5 := Lib.hid (hy3.below (by omega) hb5)
  have hz5 : H + 1 + 1 + 1 < _ := Y5.out.lt (by omega)
  clear u0 u1 un v0 v0f v1 v1f z0 z0f z1 z1f hb4 hy3 f2 f3 hr4 hz4 hb5 hrd Y0 Y1 Y2 Y3 HB2 HB3
  generalize ((((w3.setCell ⟨H + 1, 0, none⟩ (.slice A n c)).setCell ⟨H + 1, 1, none⟩ (.int .i64 (ra : Int))).setCell ⟨H + 1 + 1, 0, none⟩ (.slice A n c)).setCell ⟨H + 1 + 1, 1, none⟩ (.int .i64 (rb : Int))).alloc (.cells #[.slice A0 m0 c0, .int .i64 (r0 : Int), .slice A n c, .int .i64 (ra : Int), .slice A n c, .int .i64 (rb : Int)] 24) = w5 at *
  with_reducible refine (ch_lim m0 c0 r0 n c ra rb A0 A N f0 f1 f2 _ w5 (rdn h0 (HK.out _ HB5.out)).out HR5.out hl (by omega) hg q1 q2 d1 d2 (hin.out.below (HK.out _ HB5.out)) X65.out MR rr HR.out HSZ.out).mono ?_
  rintro e w6 ⟨⟨A9, c9, rfl, hc9, hrd9, hfr9⟩, b6⟩
  have Y6 := rb2 Y5 b6
  have HB6 := btr HB5 b6 (by omega)
  have HF9 : Hid (Fr A9 (H + 1 + 1 + 1 + 1)) := Lib.hid (hfr9.mono (by omega))
  have HR9 := Lib.hid hrd9
  have HC9 := Lib.hid hc9
  clear hrd9 hc9 hfr9 b6
  obtain ⟨y0, y0f⟩ := Y6.out 0 (by omega)
  obtain ⟨y1, y1f⟩ := Y6.out 1 (by omega)
  go_wp2
  have q2 : Rd ((w6.setCell ⟨H + 1 + 1 + 1, 0, none⟩ (.slice A9 MR.length c9)).setCell ⟨H + 1 + 1 + 1, 1, none⟩ (.int .i64 (rr : Int))) ((w6.setCell ⟨H + 1 + 1 + 1, 0, none⟩ (.slice A9 MR.length c9)).setCell ⟨H + 1 + 1 + 1, 1, none⟩ (.int .i64 (rr : Int))).heap.size A9 (up MR) := by
    have h := (HR9.out.setF (n := 0) HF9.out (.slice A9 MR.length c9)).setF (n := 1) HF9.out (.int .i64 (rr : Int))
    simpa [World.setCell] using h
  have hdn : Dn ((w6.setCell ⟨H + 1 + 1 + 1, 0, none⟩ (.slice A9 MR.length c9)).setCell ⟨H + 1 + 1 + 1, 1, none⟩ (.int .i64 (rr : Int))) A9 MR.length c9 rr (fun x => if f0 x then f1 x else f2 x) := ⟨by rw [HR.out]; exact q2, by rw [HR.out], by rw [HR.out], HC9.out, HSZ.out, hdd.out⟩
  refine bodyPost_ret (v := .tuple #[.agg #[.slice A9 MR.length c9, .int .i64 (rr : Int)], .int .i64 0]) ?_ rfl ⟨⟨A9, _, c9, _, rfl, hdn, by rw [hH]; exact HF9.out.mono (by omega)⟩, by rw [hH]; exact (HB6.out.setCell (by show H ≤ H + 1 + 1 + 1; omega) _).setCell (by show H ≤ H + 1 + 1 + 1; omega) _⟩
  rw [results_cell_tmp rfl]
  go_simp

end Go.Proofs.YtmfinkaphglmjaaDoor
