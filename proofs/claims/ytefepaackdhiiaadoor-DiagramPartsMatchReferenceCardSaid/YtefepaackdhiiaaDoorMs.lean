/-
  Plain mathematics and contracts of package diagram, several texts in one: DSup.
-/
import Derived.Test.YtefepaackdhiiaaDoorMh
import Derived.Test.YtefepaackdhiiaaDoorMq
import Derived.Deep.MidRow
import Derived.Deep.AppendLies
namespace Go.Proofs.YtefepaackdhiiaaDoor
open Go.RowKit Dg St
theorem Tryd.infoInt : (Tryd.prog.info? 3).map (fun i => (i.zero, i.size, i.bytes)) = some (some (.int .i64 0), 1, 8) := by kernel_rfl
theorem Tryd.info64 : (Tryd.prog.info? 100).map (·.size) = some 64 := by kernel_rfl
theorem chk_dn {w : World} {A : Option Addr} {m c r : Nat} {f : Cfg → Bool} (h0 : Hid (Dn w A m c r f)) :
    Calls Tryd.prog 22 #[.agg #[.slice A m c, .int .i64 (r : Int)]] w fun e w' => e = .returned (.int .i64 0) ∧ Below w.heap.size w w' := by
  have hok := h0.out.ok
  have hck := h0.out.chk
  unfold Dn.da at hok
  clear h0
  generalize (cn f).1 = M at *
  have h := check_any (up M) (r : Int) m c A w (Lib.hid hok.rd) (Lib.hid hok.wi) (Lib.hid hok.len) hok.lm hok.mc (Lib.hid hok.ri)
  rwa [hck] at h
theorem index_64 (cs : List Value) (k : Nat) (v : Value) (hk : k < 64) (hv : cs[k]? = some v) (W : World) : (Instr.index 100 (.agg cs.toArray) (.int .i64 (k : Int))).run Tryd.prog W = .ok v W := by
  simp [Instr.index, run_underlying Tryd.underlying100, asIntOf, go_sem, hk, hv]
def f64 : List Value := [.bool false, .bool false, .bool false, .bool false, .bool false, .bool false, .bool false, .bool false, .bool false, .bool false, .bool false, .bool false, .bool false, .bool false, .bool false, .bool false, .bool false, .bool false, .bool false, .bool false, .bool false, .bool false, .bool false, .bool false, .bool false, .bool false, .bool false, .bool false, .bool false, .bool false, .bool false, .bool false, .bool false, .bool false, .bool false, .bool false, .bool false, .bool false, .bool false, .bool false, .bool false, .bool false, .bool false, .bool false, .bool false, .bool false, .bool false, .bool false, .bool false, .bool false, .bool false, .bool false, .bool false, .bool false, .bool false, .bool false, .bool false, .bool false, .bool false, .bool false, .bool false, .bool false, .bool false, .bool false]
theorem f64_rep : f64 = List.replicate 64 (.bool false) := rfl
def ints (l : List Nat) : List Value := l.map fun x : Nat => Value.int .i64 ((x : Nat) : Int)
def SupO (w wr : World) (v : Value) (l : List Nat) : Prop := wr.ownsRow w.heap.size 3 1 v l.length (ints l) ∧ Below w.heap.size w wr
structure Sst (w wr : World) (H G m k : Nat) (A : Option Addr) (c r : Nat) (M : List Br) : Prop where
  bel : Below H w wr
  x : B2 wr H (.slice A m c) (.int .i64 (r : Int))
  row : Blk wr G 64 (fun i => .bool (sv (M.take k) i))
  hG : H < G
theorem sv_succ {M : List Br} {k : Nat} (hk : k < M.length) (i : Nat) : sv (M.take (k + 1)) i = (sv (M.take k) i || (bv M k == i)) := by
  unfold sv
  rw [List.take_succ_eq_append_getElem hk, List.any_append, br_at hk]
  simp
theorem Sst.step {w wr : World} {H G m k c r : Nat} {A : Option Addr} {M : List Br} (h : Sst w wr H G m k A c r M) (hk : k < M.length) (hv : bv M k < 64) (o : Obj) : Sst w ((wr.setCell ⟨G, bv M k, none⟩ (.bool true)).alloc o) H G m (k + 1) A c r M := by
  have hlt := h.row.lt (by omega)
  have hHs : H ≤ wr.heap.size := by have := h.hG; omega
  refine ⟨(h.bel.setCell (Nat.le_of_lt h.hG) _).alloc (by simpa [World.setCell] using hHs) o, (h.x.other (by have := h.hG; show G ≠ H; omega) _).alloc (by omega) o, ((h.row.set hv _).alloc (by omega) o).congr (fun i hi => ?_), h.hG⟩
  rw [sv_succ hk]
  by_cases e : i = bv M k
  · rw [e, fup_same]; simp
  · rw [fup_ne _ _ e, beq_eq_false_iff_ne.2 (fun q => e q.symm), Bool.or_false]
set_option maxHeartbeats 4000000 in
set_option maxRecDepth 100000 in
theorem support_ok (m c r : Nat) (A : Option Addr) (f : Cfg → Bool) (w : World) (h0 : Hid (Dn w A m c r f)) :
    Calls Tryd.prog 49 #[.agg #[.slice A m c, .int .i64 (r : Int)]] w fun e w' => ∃ v, e = .returned v ∧ SupO w w' v (supn (cn f).1 64) := by
  obtain ⟨i0, hi, hz0, hz1, hz2⟩ := info_parts Tryd.infoInt
  have X0 := nb2 w (.slice A m c) (.int .i64 (r : Int)) 24
  have HB0 := Lib.hid (ab2 w (.cells #[.slice A m c, .int .i64 (r : Int)] 24))
  have D0 := rdn h0 HB0.out
  have HCK : Hid (∀ w', Below w.heap.size w w' → Calls Tryd.prog 22 #[.agg #[.slice A m c, .int .i64 (r : Int)]] w' fun e w'' => e = .returned (.int .i64 0) ∧ Below w'.heap.size w' w'') := fun w' hb => chk_dn (rdn h0 hb)
  have hlen := h0.out.len
  have HRD := Lib.hid h0.out.rd
  have HORD := Lib.hid h0.out.valid.good.ord
  have hlm := h0.out.lm
  clear h0 D0
  generalize (cn f).1 = M at *
  have HLEN := Lib.hid hlen
  clear hlen
  go_enter Tryd.func49, Tryd.ntmps49
  go_wp2_with fail
  with_reducible refine (HCK.out _ HB0.out).mono ?_
  rintro e w2 ⟨rfl, b2⟩
  have X2 := rb2 X0 b2
  have HB2 := btr HB0 b2 HB0.out.size
  clear b2
  obtain ⟨x0, x1, xn⟩ := xb2 X2
  go_wp2
  have hw0 : Hid (Sst w (w2.alloc (.cells #[.bool false, .bool false, .bool false, .bool false, .bool false, .bool false, .bool false, .bool false, .bool false, .bool false, .bool false, .bool false, .bool false, .bool false, .bool false, .bool false, .bool false, .bool false, .bool false, .bool false, .bool false, .bool false, .bool false, .bool false, .bool false, .bool false, .bool false, .bool false, .bool false, .bool false, .bool false, .bool false, .bool false, .bool false, .bool false, .bool false, .bool false, .bool false, .bool false, .bool false, .bool false, .bool false, .bool false, .bool false, .bool false, .bool false, .bool false, .bool false, .bool false, .bool false, .bool false, .bool false, .bool false, .bool false, .bool false, .bool false, .bool false, .bool false, .bool false, .bool false, .bool false, .bool false, .bool false, .bool false] 100)) w.heap.size w2.heap.size m 0 A c r M) := by
    show Sst w (w2.alloc (.cells f64.toArray 100)) w.heap.size w2.heap.size m 0 A c r M
    have hb := ab2 w2 (.cells f64.toArray 100)
    refine ⟨HB2.out.trans (hb.mono HB2.out.size), X2.out.below (by omega) hb, ?_, xn⟩
    have hn := Blk.new (w := w2) rfl f64 100
    refine Blk.congr (F := fun i => f64.getD i undef) hn (fun i hi => ?_)
    rw [f64_rep]
    simp only [List.getD_eq_getElem?_getD, List.getElem?_replicate, hi, if_true, Option.getD_some]
    rfl
  clear x0 x1 X2 X0 HCK
  generalize (w2.alloc (.cells #[.bool false, .bool false, .bool false, .bool false, .bool false, .bool false, .bool false, .bool false, .bool false, .bool false, .bool false, .bool false, .bool false, .bool false, .bool false, .bool false, .bool false, .bool false, .bool false, .bool false, .bool false, .bool false, .bool false, .bool false, .bool false, .bool false, .bool false, .bool false, .bool false, .bool false, .bool false, .bool false, .bool false, .bool false, .bool false, .bool false, .bool false, .bool false, .bool false, .bool false, .bool false, .bool false, .bool false, .bool false, .bool false, .bool false, .bool false, .bool false, .bool false, .bool false, .bool false, .bool false, .bool false, .bool false, .bool false, .bool false, .bool false, .bool false, .bool false, .bool false, .bool false, .bool false, .bool false, .bool false] 100)) = w3 at *
  generalize w2.heap.size = G at *
  generalize hHH : w.heap.size = H at *
  go_loopw [15] (fun i wr => ∃ k : Nat, k ≤ m ∧ i = .int .i64 (k : Int) ∧ Hid (Sst w wr H G m k A c r M)) (fun i _ => m - (intOf i).toNat)
  case atStart => exact ⟨0, Nat.zero_le _, rfl, hw0.out⟩
  case round =>
    obtain ⟨k, hk, rfl, hst⟩ := hrel
    by_cases hlt' : k < m
    · obtain ⟨b', o', e, hb, hc⟩ := ((HRD.out.below hst.out.bel).mono (show H ≤ wr.heap.size by have := hst.out.bel.size; omega)) (by rw [up_len, HLEN.out]; omega)
      subst e
      obtain ⟨d0, d1, d2⟩ := hc k (by rw [up_len, HLEN.out]; exact hlt')
      rw [iv_up] at d0
      rw [il_up] at d1
      rw [ih_up] at d2
      obtain ⟨q1, _, _, _, _⟩ := HORD.out k (by rw [HLEN.out]; exact hlt')
      have HST := Lib.hid (hst.out.step (by rw [HLEN.out]; exact hlt') q1 (.cells #[.int .i64 ((bv M k : Nat) : Int), .int .i64 ((bl M k : Nat) : Int), .int .i64 ((bh M k : Nat) : Int)] 72))
      obtain ⟨e3, e4⟩ := hst.out.row (bv M k) q1
      have hGlt := hst.out.row.lt (by omega)
      have hLn : ¬ G = wr.heap.size := by omega
      have hbn : ¬ b' = wr.heap.size := by omega
      have i1 : (0 : Int) ≤ (k : Int) := by omega
      have i2 : (k : Int) < (m : Int) := by omega
      clear hc
      generalize sv (M.take k) (bv M k) = s0 at *
      generalize bv M k = V at *
      generalize bl M k = LL at *
      generalize bh M k = UU at *
      have i3 : (0 : Int) ≤ (V : Int) := by omega
      have i4 : (V : Int) < 64 := by omega
      go_wp2
      go_roundw
      case rel => exact ⟨k + 1, by omega, by go_num, HST.out⟩
      case measure => simp [intOf]; omega
    · obtain rfl : k = m := by omega
      have hrow : Hid (Blk wr G 64 (fun i => .bool (sv M i))) := hst.out.row.congr (fun i _ => by rw [← HLEN.out, List.take_length])
      have hcs : Hid (wr.rangeAt G 0 ((List.range 64).map fun i => Value.bool (sv M i))) := fun j v hv => by
        rw [List.getElem?_map] at hv
        by_cases hj : j < 64
        · rw [List.getElem?_range hj] at hv
          simp only [Option.map_some, Option.some.injEq] at hv
          rw [Nat.zero_add]
          exact (hrow.out j hj).1.trans (congrArg some hv)
        · rw [List.getElem?_eq_none (by simpa using hj)] at hv
          simp at hv
      have hbel := Lib.hid hst.out.bel
      have HCI : Hid (∀ j, j < 64 → ((List.range 64).map fun i => Value.bool (sv M i))[j]? = some (.bool (sv M j))) := fun j hj => by
        rw [List.getElem?_map, List.getElem?_range hj]; rfl
      clear hst hrow
      have HCL : Hid (((List.range 64).map fun i => Value.bool (sv M i)).length = 64) := show _ = _ by simp
      generalize ((List.range 64).map fun i => Value.bool (sv M i)) = cs at *
      go_wp2_with (refine wpList_load_mid rfl _ _ rfl G 0 rfl cs _ hcs.out Tryd.underlying100 rfl (by rw [HCL.out]; exact Tryd.info64) ?_)
      have hs0 : Hid (SupO w wr (.slice none 0 0) []) := ⟨⟨rfl, .inl ⟨rfl, rfl⟩⟩, by rw [hHH]; exact hbel.out⟩
      clear hcs hbel
      go_loopw [6, 24] (fun v6 i wq => ∃ k : Nat, k ≤ 64 ∧ i = .int .i64 (k : Int) ∧ Hid (SupO w wq v6 (supn M k))) (fun _ i _ => 64 - (intOf i).toNat)
      case atStart => exact ⟨0, Nat.zero_le _, rfl, hs0.out⟩
      case round =>
        obtain ⟨j, hj, rfl, hsu⟩ := hrel
        by_cases hj64 : j < 64
        · have hix := fun W : World => index_64 cs j _ hj64 (HCI.out j hj64) W
          have i5 : (j : Int) < 64 := by omega
          rcases hv : sv M j with _ | _
          · rw [hv] at hix
            have HN := Lib.hid (supn_no hv)
            clear hv
            go_wp2
            go_roundw
            case rel => exact ⟨j + 1, by omega, by go_num, by rw [HN.out]; exact hsu.out⟩
            case measure => simp [intOf]; omega
          · rw [hv] at hix
            have HY := Lib.hid (supn_yes hv)
            have HL := Lib.hid (supn_len M j)
            have HO := Lib.hid hsu.out.1
            have HBS := Lib.hid hsu.out.2
            clear hv hsu
            generalize supn M j = S at *
            go_wp2_with (refine wpList_append_lies _ rfl _ _ _ rfl w.heap.size 3 i0 _ 1 8 Tryd.underlying49 hi hz0 hz1 hz2 rfl (by omega) u6 S.length (ints S) rfl (HO.out.alloc _) _ _ _ [.int .i64 (j : Int)] rfl rfl (World.news_of_block (heap_alloc_new _ _)) (by simp [Value.oneCell']) (by omega) (by have := HL.out; simp only [maxLen]; omega) (by have := HL.out; omega) (by have := HBS.out.size; simp; omega) _ rfl ?_; intro gn cap w1 hown hgrow hat hlt'')
            go_roundw
            case rel =>
              refine ⟨j + 1, by omega, by go_num, ?_⟩
              rw [HY.out]
              have hba := HBS.out.alloc HBS.out.size (.cells #[.int .i64 (j : Int)] 3)
              refine ⟨?_, hba.trans ((Chg.of_grown (S := fun q => u6.ownBlock = some q) hgrow (fun q e => e)).below hba.size (fun q hq e => ?_))⟩
              · rw [List.length_append, List.length_singleton]
                have e : ints (S ++ [j]) = ints S ++ [.int .i64 (j : Int)] := by unfold ints; rw [List.map_append]; rfl
                rw [e]
                exact hown
              · have := (World.ownsRow.lt HO.out q e).1
                omega
            case measure => simp [intOf]; omega
        · obtain rfl : j = 64 := by omega
          have HSU := Lib.hid hsu.out
          clear hsu
          go_wp2
          go_ret
          exact ⟨_, rfl, HSU.out⟩
end Go.Proofs.YtefepaackdhiiaaDoor
