/-
  Plain mathematics and contracts of package diagram, several texts in one: XCo, XNd, XPl, XVd.
-/
import Derived.Test.YtfkljlncnfeklaaGreatDoorPb
import Derived.Test.YtfkljlncnfeklaaGreatDoorPa
import Derived.RegionTactic
import Derived.IntWalk
import Derived.Deep.DeepCutAuto

/-! The words of one part follow those of another: machine.connect. -/
namespace Go.Proofs.YtfkljlncnfeklaaGreatDoor
open Go.RowKit Go.Shelf
set_option linter.unusedVariables false
set_option linter.unusedSimpArgs false
attribute [local go_sem] Oper.semAt_some

theorem cell_of_box {W : World} {B : Nat} {v : Value} {t : TypeId} (h : W.heap[B]? = some (.cells #[v] t (0, 0))) : W.cell? ⟨B, 0, none⟩ = some v ∧ W.frozen? ⟨B, 0, none⟩ = false := by
  constructor <;> simp [World.cell?, World.frozen?, h]
theorem cell_new_l (W : World) (v : Value) (t : TypeId) : (W.alloc (.cells #[v] t)).cell? ⟨W.heap.size, 0, none⟩ = some v ∧ (W.alloc (.cells #[v] t)).frozen? ⟨W.heap.size, 0, none⟩ = false :=
  cell_of_box (World.alloc_heap_new W _)
/-- from w to w' block f may have changed, no other of the old ones -/
structure Mv (f : Nat) (w w' : World) : Prop where
  os : w'.os = w.os
  tape : w'.tape = w.tape
  output : w'.output = w.output
  size : w.heap.size ≤ w'.heap.size
  block : ∀ k, k < w.heap.size → k ≠ f → w'.heap[k]? = w.heap[k]?
theorem Mv.refl (f : Nat) (w : World) : Mv f w w := ⟨rfl, rfl, rfl, Nat.le_refl _, fun _ _ _ => rfl⟩
theorem Mv.grown {f : Nat} {a b c : World} (h : Mv f a b) {row : Option Nat} (g : b.grownBy c row) (hr : ∀ r, row = some r → a.heap.size ≤ r ∨ r = f) : Mv f a c :=
  ⟨g.os.trans h.os, g.tape.trans h.tape, g.output.trans h.output, Nat.le_trans h.size g.size, fun k hk hn => (g.block k (Nat.lt_of_lt_of_le hk h.size) (fun e => by rcases hr k e.symm with c | c <;> omega)).trans (h.block k hk hn)⟩
theorem Mv.cell {f : Nat} {a b : World} (h : Mv f a b) {k : Nat} (hk : k < a.heap.size) (hn : k ≠ f) (o : Nat) : b.cell? ⟨k, o, none⟩ = a.cell? ⟨k, o, none⟩ := World.cell?_of_block (w := a) (h.block k hk hn)
theorem Mv.frozen {f : Nat} {a b : World} (h : Mv f a b) {k : Nat} (hk : k < a.heap.size) (hn : k ≠ f) (o : Nat) : b.frozen? ⟨k, o, none⟩ = a.frozen? ⟨k, o, none⟩ := World.frozen?_of_block (w := a) (h.block k hk hn)
theorem Mv.drew {f : Nat} {a b : World} (h : Mv f a b) : Mv f a b.drew := ⟨h.os, h.tape, h.output, h.size, h.block⟩
theorem Mv.pl {f : Nat} {a b : World} (h : Mv f a b) {k : Nat} (hk : k < a.heap.size) (hn : k ≠ f) {o : Nat} {l : List Nat} (p : Pl a k o l) : Pl b k o l := fun i hi => ⟨(h.cell hk hn _).trans (p i hi).1, (h.frozen hk hn _).trans (p i hi).2⟩
theorem set_grown (W : World) (f i : Nat) (u : Value) : W.grownBy (W.setCell ⟨f, i, none⟩ u) (some f) :=
  ⟨rfl, rfl, rfl, by rw [World.size_setCell]; exact Nat.le_refl _, fun k _ hk => Below.heap_setCell _ _ _ _ (fun e => hk (by rw [e]))⟩
theorem stP4_grown (W : World) (f o : Nat) (ws : List Nat) : ∀ k, W.grownBy (stP4 W f o ws k) (some f)
  | 0 => ⟨rfl, rfl, rfl, Nat.le_refl _, fun _ _ _ => rfl⟩
  | k + 1 => (stP4_grown W f o ws k).trans (set_grown _ f _ _)
theorem stP4_keeps (W : World) (f o : Nat) (ws : List Nat) : ∀ k, KeepsOthers W (stP4 W f o ws k)
  | 0 => KeepsOthers.refl _
  | k + 1 => (stP4_keeps W f o ws k).trans (KeepsOthers.setCell _ _ _)
theorem conW_snoc (b : List Nat) (fl : List (List Nat)) (l : List Nat) (x : Nat) : conW b fl (l ++ [x]) = con1 b (conW b fl l) x := by unfold conW; rw [List.foldl_append]; rfl

theorem lt_of_cell {W : World} {b o : Nat} {v : Value} (h : W.cell? ⟨b, o, none⟩ = some v) : b < W.heap.size := by
  rcases Nat.lt_or_ge b W.heap.size with c | c
  · exact c
  · simp [World.cell?, Array.getElem?_eq_none c] at h
theorem unite_grown (W : World) (f o : Nat) (ws : List Nat) (n : Nat) : W.grownBy ((stP4 W.drew f o ws 4).drewN n) (some f) :=
  have h := stP4_grown W.drew f o ws 4
  ⟨h.os, h.tape, h.output, h.size, h.block⟩
theorem unite_keeps (W : World) (f o : Nat) (ws : List Nat) (n : Nat) : KeepsOthers W ((stP4 W.drew f o ws 4).drewN n) :=
  ((KeepsOthers.drew W).trans (stP4_keeps W.drew f o ws 4)).trans ⟨Nat.le_refl _, fun _ _ h _ => h⟩
theorem KpS.of_grown {g : Nat} {a b : World} {f : Nat} (h : a.grownBy b (some f)) (hg : g < a.heap.size) (ht : 2 < a.heap.size) (n1 : f ≠ g) (n2 : f ≠ 2) : KpS g a b :=
  ⟨h.block g hg (fun e => n1 (by cases e; rfl)), h.block _ ht (fun e => n2 (by cases e; rfl))⟩
theorem grown_cell {a b : World} {f k : Nat} (h : a.grownBy b (some f)) (hk : k < a.heap.size) (hn : f ≠ k) (o : Nat) : b.cell? ⟨k, o, none⟩ = a.cell? ⟨k, o, none⟩ := World.cell?_of_block (w := a) (h.block k hk (fun e => hn (by cases e; rfl)))

set_option maxRecDepth 100000 in
set_option maxHeartbeats 4000000 in
theorem connect_any (B mb f cap ga oa gb ob : Nat) (fl : List (List Nat)) (la bf : List Nat) (w : World)
    (hm : Hid (w.cell? ⟨mb, 1, none⟩ = some (.slice (some ⟨f, 0, none⟩) fl.length cap))) (ha : Hid (Pl w ga (oa + 5) la)) (hb : Hid (Pl w gb (ob + 1) bf)) (hfl : Hid (FoO w B f cap fl))
    (wf : AllW fl) (wa : W4 la) (wb : W4 bf) (hlt : ∀ p ∈ els la, p < fl.length) (ht : Hid (Tz w))
    (n1 : f ≠ ga) (n2 : f ≠ gb) (n3 : f ≠ mb) (n4 : f ≠ 2) (s0 : f < w.heap.size) (s1 : ga < w.heap.size) (s2 : gb < w.heap.size) (s3 : mb < w.heap.size) (s4 : 2 < w.heap.size) :
    CallsIn Fence.wide 9 Tryz.prog 54 #[.pointer (some ⟨mb, 0, none⟩), .pointer (some ⟨ga, oa, none⟩), .pointer (some ⟨gb, ob, none⟩)] w fun e w' => e = .returned (.tuple #[]) ∧ Mv f w w' ∧ FoO w' B f cap (conW bf fl (els la)) := by
  have h7 : Fence.wide.fn 54 := trivial
  refine callsIn_of_wp_marks Tryz.func54 rfl h7 ?_ rfl
  simp only [Tryz.ntmps54, List.size_toArray, List.length_cons, List.length_nil, Nat.reduceAdd, Nat.reduceSub, Array.replicate_succ, Array.replicate_zero, List.push_toArray, List.append_toArray, List.nil_append, List.cons_append]
  gi_wp2_with (refine ⟨trivial, ?_⟩; gi_at_call 80; refine (all_any _ _ _).mono ?_; rintro e w' ⟨rfl, rfl⟩)
  obtain ⟨W0, hW0⟩ : ∃ W0, (w.alloc (Obj.cells #[Value.pointer (some { block := mb, off := 0 })] 48)).alloc (Obj.cells #[Value.pointer (some { block := gb, off := ob })] 103) = W0 := ⟨_, rfl⟩
  have c0 := cell_new_l w (.pointer (some ⟨mb, 0, none⟩)) 48
  have c1 := cell_new_l (w.alloc (Obj.cells #[Value.pointer (some { block := mb, off := 0 })] 48)) (.pointer (some ⟨gb, ob, none⟩)) 103
  have c2 := cell_new_l W0 (.pointer (some ⟨ga, oa + 5, none⟩)) 107
  rw [hW0] at c1 ⊢
  simp only [World.size_alloc] at c1
  have hz : W0.heap.size = w.heap.size + 2 := by rw [← hW0]; simp
  have c0' := cell_kept c0.1 (World.grownBy_alloc _ (Obj.cells #[Value.pointer (some { block := gb, off := ob })] 103) none) (fun r e => by cases e)
  rw [hW0] at c0'
  have m0 : Mv f w W0 := by
    rw [← hW0]
    exact ((Mv.refl f w).grown (World.grownBy_alloc w _ none) (fun r e => by cases e)).grown (World.grownBy_alloc _ _ none) (fun r e => by cases e)
  have f0 : FoO W0 B f cap fl := by
    rw [← hW0]
    exact (hfl.out.kept (World.grownBy_alloc w _ none) (fun r e => by cases e)).kept (World.grownBy_alloc _ _ none) (fun r e => by cases e)
  have m1 : Mv f w (W0.alloc (Obj.cells #[Value.pointer (some { block := ga, off := oa + 5 })] 107)) := m0.grown (World.grownBy_alloc _ _ none) (fun r e => by cases e)
  have f1 : FoO (W0.alloc (Obj.cells #[Value.pointer (some { block := ga, off := oa + 5 })] 107)) B f cap fl := f0.kept (World.grownBy_alloc _ _ none) (fun r e => by cases e)
  have c0'' := cell_kept c0' (World.grownBy_alloc _ (Obj.cells #[Value.pointer (some { block := ga, off := oa + 5 })] 107) none) (fun r e => by cases e)
  have c1'' := cell_kept c1.1 (World.grownBy_alloc _ (Obj.cells #[Value.pointer (some { block := ga, off := oa + 5 })] 107) none) (fun r e => by cases e)
  have hz1 : (W0.alloc (Obj.cells #[Value.pointer (some { block := ga, off := oa + 5 })] 107)).heap.size = w.heap.size + 3 := by simp [hz]
  generalize W0.alloc (Obj.cells #[Value.pointer (some { block := ga, off := oa + 5 })] 107) = W1 at *
  clear c0 c1 c0' hW0 f0 m0
  have ht1 : Tz W1 := fun j hj => (m1.cell s4 (fun e => n4 e.symm) j).trans (ht.out j hj)
  have hk1 : KpS ga w W1 := ⟨m1.block _ s1 (fun e => n1 e.symm), m1.block _ s4 (fun e => n4 e.symm)⟩
  have hs0 : W0.heap.size = w.heap.size + 1 + 1 := hz
  rw [hs0] at c2
  refine wpIn_rangeFunc_ownF rfl (by decide) (gf := 96) (lb := #[.pointer (some ⟨w.heap.size + 1 + 1, 0, none⟩)]) rfl trivial (enters_of Tryz.func96 (by kernel_rfl) rfl)
    (all_stops 8 (by decide) (w.heap.size + 1 + 1) ga (oa + 5) la wa W1 (by omega) (by omega) (by omega) c2.1 (lid' (m1.pl s1 (fun e => n1 e.symm) ha.out)) (lid' ht1)) (fun h k => KpS.trans h k) (KpS.lay (by omega) (by omega)) (Below.refl _ _) (fun _ => rfl)
    (fun pre W => (W.cell? ⟨w.heap.size, 0, none⟩ = some (.pointer (some ⟨mb, 0, none⟩)) ∧ W.cell? ⟨w.heap.size + 1, 0, none⟩ = some (.pointer (some ⟨gb, ob, none⟩))) ∧ Mv f w W ∧ FoO W B f cap (conW bf fl (vals pre)))
    (fun _ _ _ => False)
    ?hI (fun _ _ _ _ _ hs _ _ => hs) ⟨⟨c0'', c1''⟩, m1, f1⟩
    (fun x : Pla la => { tmps := #[.pointer (some ⟨mb, 0, none⟩), .pointer (some ⟨ga, oa, none⟩), .pointer (some ⟨gb, ob, none⟩), .pointer (some ⟨w.heap.size, 0, none⟩), undef, .pointer (some ⟨w.heap.size + 1, 0, none⟩), .int .i64 ((x.1 : Nat) : Int), .pointer (some ⟨ga, oa, none⟩), .pointer (some ⟨ga, oa, none⟩), .pointer (some ⟨ga, oa + 5, none⟩), .func (.func 96) #[] #[.pointer (some ⟨w.heap.size + 1 + 1, 0, none⟩)], .int .i64 ((x.1 : Nat) : Int), undef, undef, undef, undef, undef, undef, undef, undef, undef, undef], defers := [] }) ?assign ?body ?done ?stop
  case hI =>
    intro s A B row hs hg hr
    obtain ⟨⟨h2, h3⟩, h4, h5⟩ := hs
    have hr' : ∀ r, row = some r → w.heap.size + 3 ≤ r := fun r e => by have := (hr r e).1; omega
    exact ⟨⟨cell_kept h2 hg (fun r e => (hr r e).2), cell_kept h3 hg (fun r e => (hr r e).2)⟩, h4.grown hg (fun r e => .inl (by have := hr' r e; omega)), h5.kept hg (fun r e => by have := hr' r e; omega)⟩
  case assign =>
    intro l x W K hK
    gi_wp2
    exact hK
  case body =>
    rintro l pre x W ⟨⟨hc1, hc2⟩, hM, hF⟩ hl
    have hmx : Tryz.prog.follows .mixedOrders = true := by kernel_rfl
    have hm1 := (hM.cell s3 (fun e => n3 e.symm) 1).trans hm.out
    obtain ⟨x, hxm⟩ := x
    have hx : x < fl.length := hlt x hxm
    have hx1 : (x : Int) < (fl.length : Int) := by omega
    have hlen := conW_len bf (vals pre) fl
    have hall : AllW (conW bf fl (vals pre)) := conW_all wb _ _ wf (fun p hp => by
      obtain ⟨y, _, rfl⟩ := List.mem_map.1 hp
      exact hlt _ y.2)
    obtain ⟨fl1, e1⟩ : ∃ fl1, conW bf fl (vals pre) = fl1 := ⟨_, rfl⟩
    rw [e1] at hF hlen hall
    have hcon : conW bf fl (vals (pre ++ [⟨x, hxm⟩])) = con1 bf fl1 x := by rw [vals_snoc, conW_snoc, e1]
    have h4 := hall x (by omega)
    have hp1 : Hid (Pl W.drew f (x * 4) (fl1.getD x noW)) := lid' (FoO.pl (show FoO W.drew B f cap fl1 from World.ownsRow.drew hF) (by omega))
    have hp2 : Hid (Pl W.drew gb (ob + 1) bf) := lid' (hM.drew.pl s2 (fun e => n2 e.symm) hb.out)
    have hset : FoO (stP4 W.drew f (x * 4) (uniW (fl1.getD x noW) bf) 4) B f cap (con1 bf fl1 x) := FoO.set (show FoO W.drew B f cap fl1 from World.ownsRow.drew hF) (by omega) _
    have hsz := hM.size
    have hbx : w.heap.size + 1 < W.heap.size := (lt_of_cell hc2)
    have HU : CallsIn Fence.wide 6 Tryz.prog 81 #[.pointer (some ⟨f, x * 4, none⟩), .pointer (some ⟨gb, ob + 1, none⟩)] W.drew (fun e w' => e = .returned (.tuple #[]) ∧ Hid (∃ n, w' = (stP4 W.drew f (x * 4) (uniW (fl1.getD x noW) bf) 4).drewN n)) :=
      (callsIn_wide.2 (unite_any f (x * 4) gb (ob + 1) (fl1.getD x noW) bf W.drew h4 wb hp1 hp2 (fun e => n2 e.symm))).mono (fun e w' h => ⟨h.1, lid' h.2⟩)
    have HF : Hid (∀ n, KeepsOthers W ((stP4 W.drew f (x * 4) (uniW (fl1.getD x noW) bf) 4).drewN n) ∧ KpS ga W ((stP4 W.drew f (x * 4) (uniW (fl1.getD x noW) bf) 4).drewN n) ∧ ((((stP4 W.drew f (x * 4) (uniW (fl1.getD x noW) bf) 4).drewN n).cell? ⟨w.heap.size, 0, none⟩ = some (.pointer (some ⟨mb, 0, none⟩)) ∧ ((stP4 W.drew f (x * 4) (uniW (fl1.getD x noW) bf) 4).drewN n).cell? ⟨w.heap.size + 1, 0, none⟩ = some (.pointer (some ⟨gb, ob, none⟩))) ∧ Mv f w ((stP4 W.drew f (x * 4) (uniW (fl1.getD x noW) bf) 4).drewN n) ∧ FoO ((stP4 W.drew f (x * 4) (uniW (fl1.getD x noW) bf) 4).drewN n) B f cap (conW bf fl (vals (pre ++ [⟨x, hxm⟩]))))) := lid' (fun n => by
      have hg := unite_grown W f (x * 4) (uniW (fl1.getD x noW) bf) n
      have hs : FoO ((stP4 W.drew f (x * 4) (uniW (fl1.getD x noW) bf) 4).drewN n) B f cap (con1 bf fl1 x) := hset
      exact ⟨unite_keeps _ _ _ _ _, KpS.of_grown hg (by omega) (by omega) n1 n4, ⟨(grown_cell hg (by omega) (by omega) 0).trans hc1, (grown_cell hg hbx (by omega) 0).trans hc2⟩, hM.grown hg (fun r e => by cases e; exact .inr rfl), by rw [hcon]; exact hs⟩)
    have GU := lid' HU
    clear hp1 hp2 h4 HU hF hM hset hcon hall hlen e1 hl hm ha hb hfl wf wa wb hlt ht m1 f1 ht1 hk1 c0'' c1'' c2
    gi_wp2
    refine region_round hmx (by kernel_rfl) ?_
    refine wpAnyIn_take (i := 4) (v := ?_) rfl rfl (by kernel_rfl) (by kernel_rfl) (by kernel_rfl) (fun _ _ _ h => h) ⟨Or.inl ⟨by rfl, ?_⟩, fun _ => rfl⟩ ?_; rotate_left; focus (intro w; go_simp; try with_reducible rfl)
    refine wpAnyIn_ready (rs := [0,6]) (by kernel_rfl) (by simp) ?_
    refine (AllReadyIn.cons rfl (fun K hK => ?_) (AllReadyIn.cons rfl (fun K hK => ?_) AllReadyIn.nil)) <;> (go_simp; refine hK _ _ ?_; clear hK K)
    · refine wpAnyIn_take (i := 1) (v := ?_) rfl rfl (by kernel_rfl) (by kernel_rfl) (by kernel_rfl) (fun _ _ _ h => h) ⟨Or.inl ⟨by rfl, ?_⟩, fun _ => rfl⟩ ?_; rotate_left; focus (intro w; go_simp; try with_reducible rfl)
      refine wpAnyIn_take (i := 2) (v := ?_) rfl rfl (by kernel_rfl) (by kernel_rfl) (by kernel_rfl) (fun _ _ _ h => h) ⟨Or.inl ⟨by rfl, ?_⟩, fun _ => rfl⟩ ?_; rotate_left; focus (intro w; go_simp; try with_reducible rfl)
      refine wpAnyIn_ready (rs := [3,6]) (by kernel_rfl) (by simp) ?_
      refine (AllReadyIn.cons rfl (fun K hK => ?_) (AllReadyIn.cons rfl (fun K hK => ?_) AllReadyIn.nil)) <;> (go_simp; refine hK _ _ ?_; clear hK K)
      · refine wpAnyIn_take (i := 5) (v := ?_) rfl rfl (by kernel_rfl) (by kernel_rfl) (by kernel_rfl) (fun _ _ _ h => h) ⟨Or.inl ⟨by rfl, ?_⟩, fun _ => rfl⟩ ?_; rotate_left; focus (intro w; go_simp; try with_reducible rfl)
        refine wpAnyIn_ready (rs := [6]) (by kernel_rfl) (by simp) ?_
        refine (AllReadyIn.cons rfl (fun K hK => ?_) AllReadyIn.nil) <;> (go_simp; refine hK _ _ ?_; clear hK K)
        refine wpAnyIn_take (i := 7) (v := ?_) rfl rfl (by kernel_rfl) (by kernel_rfl) (by kernel_rfl) (fun _ _ _ h => h) ⟨Or.inl ⟨by rfl, ?_⟩, fun _ => rfl⟩ ?_; rotate_left; focus (intro w; go_simp; try with_reducible rfl)
        refine wpAnyIn_take (i := 8) (v := ?_) rfl rfl (by kernel_rfl) (by kernel_rfl) (by kernel_rfl) (fun _ _ _ h => h) ⟨Or.inl ⟨by rfl, ?_⟩, fun _ => rfl⟩ ?_; rotate_left; focus (intro w; go_simp; try with_reducible rfl)
        refine wpAnyIn_ready (rs := [9]) (by kernel_rfl) (by simp) ?_
        refine AllReadyIn.cons rfl (fun K hK => ?_) AllReadyIn.nil
        go_simp
        refine ⟨trivial, ?_⟩
        refine GU.out.mono ?_
        rintro e w' ⟨rfl, hw⟩
        refine hK _ _ ?_
        refine wpAnyIn_done (by kernel_rfl) ?_ _
        obtain ⟨n, rfl⟩ := hw.out
        exact HF.out n
      · refine wpAnyIn_take (i := 7) (v := ?_) rfl rfl (by kernel_rfl) (by kernel_rfl) (by kernel_rfl) (fun _ _ _ h => h) ⟨Or.inl ⟨by rfl, ?_⟩, fun _ => rfl⟩ ?_; rotate_left; focus (intro w; go_simp; try with_reducible rfl)
        refine wpAnyIn_take (i := 8) (v := ?_) rfl rfl (by kernel_rfl) (by kernel_rfl) (by kernel_rfl) (fun _ _ _ h => h) ⟨Or.inl ⟨by rfl, ?_⟩, fun _ => rfl⟩ ?_; rotate_left; focus (intro w; go_simp; try with_reducible rfl)
        refine wpAnyIn_ready (rs := [3]) (by kernel_rfl) (by simp) ?_
        refine (AllReadyIn.cons rfl (fun K hK => ?_) AllReadyIn.nil) <;> (go_simp; refine hK _ _ ?_; clear hK K)
        refine wpAnyIn_take (i := 5) (v := ?_) rfl rfl (by kernel_rfl) (by kernel_rfl) (by kernel_rfl) (fun _ _ _ h => h) ⟨Or.inl ⟨by rfl, ?_⟩, fun _ => rfl⟩ ?_; rotate_left; focus (intro w; go_simp; try with_reducible rfl)
        refine wpAnyIn_ready (rs := [9]) (by kernel_rfl) (by simp) ?_
        refine AllReadyIn.cons rfl (fun K hK => ?_) AllReadyIn.nil
        go_simp
        refine ⟨trivial, ?_⟩
        refine GU.out.mono ?_
        rintro e w' ⟨rfl, hw⟩
        refine hK _ _ ?_
        refine wpAnyIn_done (by kernel_rfl) ?_ _
        obtain ⟨n, rfl⟩ := hw.out
        exact HF.out n
    · refine wpAnyIn_take (i := 7) (v := ?_) rfl rfl (by kernel_rfl) (by kernel_rfl) (by kernel_rfl) (fun _ _ _ h => h) ⟨Or.inl ⟨by rfl, ?_⟩, fun _ => rfl⟩ ?_; rotate_left; focus (intro w; go_simp; try with_reducible rfl)
      refine wpAnyIn_take (i := 8) (v := ?_) rfl rfl (by kernel_rfl) (by kernel_rfl) (by kernel_rfl) (fun _ _ _ h => h) ⟨Or.inl ⟨by rfl, ?_⟩, fun _ => rfl⟩ ?_; rotate_left; focus (intro w; go_simp; try with_reducible rfl)
      refine wpAnyIn_ready (rs := [0]) (by kernel_rfl) (by simp) ?_
      refine (AllReadyIn.cons rfl (fun K hK => ?_) AllReadyIn.nil) <;> (go_simp; refine hK _ _ ?_; clear hK K)
      refine wpAnyIn_take (i := 1) (v := ?_) rfl rfl (by kernel_rfl) (by kernel_rfl) (by kernel_rfl) (fun _ _ _ h => h) ⟨Or.inl ⟨by rfl, ?_⟩, fun _ => rfl⟩ ?_; rotate_left; focus (intro w; go_simp; try with_reducible rfl)
      refine wpAnyIn_take (i := 2) (v := ?_) rfl rfl (by kernel_rfl) (by kernel_rfl) (by kernel_rfl) (fun _ _ _ h => h) ⟨Or.inl ⟨by rfl, ?_⟩, fun _ => rfl⟩ ?_; rotate_left; focus (intro w; go_simp; try with_reducible rfl)
      refine wpAnyIn_ready (rs := [3]) (by kernel_rfl) (by simp) ?_
      refine (AllReadyIn.cons rfl (fun K hK => ?_) AllReadyIn.nil) <;> (go_simp; refine hK _ _ ?_; clear hK K)
      refine wpAnyIn_take (i := 5) (v := ?_) rfl rfl (by kernel_rfl) (by kernel_rfl) (by kernel_rfl) (fun _ _ _ h => h) ⟨Or.inl ⟨by rfl, ?_⟩, fun _ => rfl⟩ ?_; rotate_left; focus (intro w; go_simp; try with_reducible rfl)
      refine wpAnyIn_ready (rs := [9]) (by kernel_rfl) (by simp) ?_
      refine AllReadyIn.cons rfl (fun K hK => ?_) AllReadyIn.nil
      go_simp
      refine ⟨trivial, ?_⟩
      refine GU.out.mono ?_
      rintro e w' ⟨rfl, hw⟩
      refine hK _ _ ?_
      refine wpAnyIn_done (by kernel_rfl) ?_ _
      obtain ⟨n, rfl⟩ := hw.out
      exact HF.out n
  case done =>
    rintro D ys W hD hys ⟨_, hM, hF⟩ hK
    rw [hys] at hF
    gi_wp2
    refine ⟨by simp, .inl ⟨_, _, rfl, run_takeDeferred hK, ?_⟩⟩
    have hD' : w.heap.size + 3 ≤ D := by omega
    exact ⟨_, results_none rfl _ _ _, rfl, hM.grown (grownBy_putObj' _ D _) (fun r e => by cases e; exact .inl (by omega)), hF.kept (grownBy_putObj' _ D _) (fun r e => by cases e; omega)⟩
  case stop =>
    rintro D c pre W _ _ h _
    exact h.elim

end Go.Proofs.YtfkljlncnfeklaaGreatDoor

/-! How patterns lie in memory; blocks whose cells are known; small functions of nodes. -/
namespace Go.Proofs.YtfkljlncnfeklaaGreatDoor
open Go.RowKit
set_option linter.unusedVariables false
set_option linter.unusedSimpArgs false

/-- a node as cells -/
def c5 (x : Pn) : List Value := [.int .i64 x.1, .int .i64 x.2.1, .int .i64 x.2.2.1, .int .i64 x.2.2.2.1, .int .i64 x.2.2.2.2]
/-- the slice's address A leads to cells that hold the nodes l, in a block below B -/
def Rp (w : World) (B : Nat) (A : Option Addr) (l : List Pn) : Prop :=
  0 < l.length → ∃ b o, A = some ⟨b, o, none⟩ ∧ b < B ∧ ∀ j, j < l.length →
    w.cell? ⟨b, o + j * 5, none⟩ = some (.int .i64 (pk l j)) ∧ w.cell? ⟨b, o + j * 5 + 1, none⟩ = some (.int .i64 (plo l j)) ∧ w.cell? ⟨b, o + j * 5 + 2, none⟩ = some (.int .i64 (phi l j)) ∧ w.cell? ⟨b, o + j * 5 + 3, none⟩ = some (.int .i64 (pa l j)) ∧ w.cell? ⟨b, o + j * 5 + 4, none⟩ = some (.int .i64 (pb l j))
section
variable {w w' : World} {B B' : Nat} {A : Option Addr} {l : List Pn}
theorem Rp.nil : Rp w B A [] := fun h => absurd h (by simp)
theorem Rp.mono (h : Rp w B A l) (hB : B ≤ B') : Rp w B' A l := fun h0 => by
  obtain ⟨b, o, e, hb, hc⟩ := h h0
  exact ⟨b, o, e, by omega, hc⟩
theorem Rp.keep (h : Rp w B A l) (hk : ∀ k, k < B → w'.heap[k]? = w.heap[k]?) : Rp w' B A l := fun h0 => by
  obtain ⟨b, o, e, hb, hc⟩ := h h0
  refine ⟨b, o, e, hb, fun j hj => ?_⟩
  obtain ⟨h1, h2, h3, h4, h5⟩ := hc j hj
  refine ⟨?_, ?_, ?_, ?_, ?_⟩
  · rw [World.cell?_of_block (w := w) (hk _ hb)]; exact h1
  · rw [World.cell?_of_block (w := w) (hk _ hb)]; exact h2
  · rw [World.cell?_of_block (w := w) (hk _ hb)]; exact h3
  · rw [World.cell?_of_block (w := w) (hk _ hb)]; exact h4
  · rw [World.cell?_of_block (w := w) (hk _ hb)]; exact h5
theorem Rp.below (h : Rp w B A l) (hb : Below B w w') : Rp w' B A l := h.keep hb.block
end

/-! ### A block whose cells are known, as a function -/
/-- the first n cells of block g are F, and may be written -/
def Blk (w : World) (g n : Nat) (F : Nat → Value) : Prop := ∀ i, i < n → w.cell? ⟨g, i, none⟩ = some (F i) ∧ w.frozen? ⟨g, i, none⟩ = false
/-- one cell more is known -/
def fup (F : Nat → Value) (i : Nat) (v : Value) : Nat → Value := fun j => if j = i then v else F j
theorem fup_same (F : Nat → Value) (i : Nat) (v : Value) : fup F i v i = v := if_pos rfl
theorem fup_ne (F : Nat → Value) {i j : Nat} (v : Value) (h : j ≠ i) : fup F i v j = F j := if_neg h
theorem Blk.keep {w w' : World} {g n : Nat} {F : Nat → Value} (h : Blk w g n F) (hk : w'.heap[g]? = w.heap[g]?) : Blk w' g n F := fun i hi =>
  ⟨(World.cell?_of_block (w := w) hk).trans (h i hi).1, (World.frozen?_of_block (w := w) hk).trans (h i hi).2⟩
theorem Blk.lt {w : World} {g n : Nat} {F : Nat → Value} (h : Blk w g n F) (hn : 0 < n) : g < w.heap.size := block_lt_of_cell (h 0 hn).1
theorem Blk.below {w w' : World} {g n : Nat} {F : Nat → Value} (h : Blk w g n F) (hn : 0 < n) (hb : Below w.heap.size w w') : Blk w' g n F := h.keep (hb.block g (h.lt hn))
theorem Blk.other {w : World} {g n : Nat} {F : Nat → Value} (h : Blk w g n F) {p : Addr} (hp : p.block ≠ g) (u : Value) : Blk (w.setCell p u) g n F := h.keep (Below.heap_setCell _ _ _ _ (fun e => hp e.symm))
theorem Blk.set {w : World} {g n i : Nat} {F : Nat → Value} (h : Blk w g n F) (hi : i < n) (v : Value) : Blk (w.setCell ⟨g, i, none⟩ v) g n (fup F i v) := fun j hj => by
  refine ⟨?_, by rw [World.frozen?_setCell]; exact (h j hj).2⟩
  by_cases e : j = i
  · subst e
    rw [fup_same]
    exact World.cell?_setCell_same _ _ _ (h j hj).1
  · rw [fup_ne _ _ e, cell_set_off _ _ _ _ _ e]
    exact (h j hj).1
theorem Blk.congr {w : World} {g n : Nat} {F F' : Nat → Value} (h : Blk w g n F) (e : ∀ i, i < n → F i = F' i) : Blk w g n F' := fun i hi => ⟨(h i hi).1.trans (by rw [e i hi]), (h i hi).2⟩
theorem Blk.new {w : World} {H : Nat} (hH : w.heap.size = H) (l : List Value) (T : Nat) : Blk (w.alloc (.cells l.toArray T)) H l.length (fun i => l.getD i undef) := fun i hi => by
  subst hH
  have hb := heap_alloc_new w (.cells l.toArray T)
  refine ⟨?_, frozen_of_row _ _ i _ _ hb⟩
  rw [cell_of_row _ _ i _ _ _ hb]
  simp [hi]

/-! ### Nodes -/
/-- arity: the number of operands -/
theorem parity_any (o : Int) (w : World) : Calls Tryz.prog 64 #[.int .i64 o] w fun e w' => e = .returned (.int .i64 ((arP o : Nat) : Int)) ∧ w = w' := by
  by_cases h3 : o = 2
  · subst h3
    go_enter Tryz.func64, Tryz.ntmps64
    go_wp2
    go_ret
    exact ⟨rfl, rfl⟩
  by_cases h4 : o = 3
  · subst h4
    go_enter Tryz.func64, Tryz.ntmps64
    go_wp2
    go_ret
    exact ⟨rfl, rfl⟩
  by_cases h5 : o = 4
  · subst h5
    go_enter Tryz.func64, Tryz.ntmps64
    go_wp2
    go_ret
    exact ⟨rfl, rfl⟩
  have b3 : (o == 2) = false := beq_eq_false_iff_ne.2 h3
  have b4 : (o == 3) = false := beq_eq_false_iff_ne.2 h4
  have b5 : (o == 4) = false := beq_eq_false_iff_ne.2 h5
  have e : arP o = 0 := by unfold arP; rw [if_neg h3, if_neg h4, if_neg h5]
  rw [e]
  go_enter Tryz.func64, Tryz.ntmps64
  go_wp2
  go_ret
  exact ⟨rfl, rfl⟩
/-- strength: how tightly a kind binds -/
def sgP (o : Int) : Int := if o = 3 then 1 else if o = 2 then 2 else if o = 4 then 3 else 4
theorem pstrength_any (o : Int) (w : World) : Calls Tryz.prog 32 #[.int .i64 o] w fun e w' => e = .returned (.int .i64 (sgP o)) ∧ w = w' := by
  by_cases h3 : o = 2
  · subst h3
    go_enter Tryz.func32, Tryz.ntmps32
    go_wp2
    go_ret
    exact ⟨rfl, rfl⟩
  by_cases h4 : o = 3
  · subst h4
    go_enter Tryz.func32, Tryz.ntmps32
    go_wp2
    go_ret
    exact ⟨rfl, rfl⟩
  by_cases h5 : o = 4
  · subst h5
    go_enter Tryz.func32, Tryz.ntmps32
    go_wp2
    go_ret
    exact ⟨rfl, rfl⟩
  have b3 : (o == 2) = false := beq_eq_false_iff_ne.2 h3
  have b4 : (o == 3) = false := beq_eq_false_iff_ne.2 h4
  have b5 : (o == 4) = false := beq_eq_false_iff_ne.2 h5
  have e : sgP o = 4 := by unfold sgP; rw [if_neg h4, if_neg h3, if_neg h5]
  rw [e]
  go_enter Tryz.func32, Tryz.ntmps32
  go_wp2
  go_ret
  exact ⟨rfl, rfl⟩

set_option maxHeartbeats 1000000 in
theorem run_eql_pn (w : World) (a b c d f x y z u v : Int) :
    (binOp .eql 42 (.agg #[.int .i64 a, .int .i64 b, .int .i64 c, .int .i64 d, .int .i64 f]) (.agg #[.int .i64 x, .int .i64 y, .int .i64 z, .int .i64 u, .int .i64 v])).run Tryz.prog w = .ok (.bool (a == x && (b == y && (c == z && (d == u && f == v))))) w := by
  have hf : Tryz.prog.underlying 42 = some (.struct (Tryz.prog.fieldsOf 42)) := by kernel_rfl
  have hfl : (Tryz.prog.fieldsOf 42).toList.map (fun f => (f.name, f.type, f.offset)) = [("Kind", 3, 0), ("Lo", 3, 1), ("Hi", 3, 2), ("A", 3, 3), ("B", 3, 4)] := by kernel_rfl
  have hs : Tryz.prog.stoodInHeld 42 = false := by kernel_rfl
  have hu := Tryz.underlying3
  rw [run_eql_struct, run_equalIn_agg w 9999 _ _ _ hf hs]
  rcases hl : (Tryz.prog.fieldsOf 42).toList with _ | ⟨f0, _ | ⟨f1, _ | ⟨f2, _ | ⟨f3, _ | ⟨f4, _ | ⟨f5, fs⟩⟩⟩⟩⟩⟩ <;> rw [hl] at hfl <;> simp at hfl
  obtain ⟨⟨n0, t0, o0⟩, ⟨n1, t1, o1⟩, ⟨n2, t2, o2⟩, ⟨n3, t3, o3⟩, ⟨n4, t4, o4⟩⟩ := hfl
  have p0 : ∀ (w : World) (a b c d f : Int), (part 3 #[Value.int .i64 a, .int .i64 b, .int .i64 c, .int .i64 d, .int .i64 f] 0).run Tryz.prog w = .ok (.int .i64 a) w := fun w a b c d f => by kernel_rfl
  have p1 : ∀ (w : World) (a b c d f : Int), (part 3 #[Value.int .i64 a, .int .i64 b, .int .i64 c, .int .i64 d, .int .i64 f] 1).run Tryz.prog w = .ok (.int .i64 b) w := fun w a b c d f => by kernel_rfl
  have p2 : ∀ (w : World) (a b c d f : Int), (part 3 #[Value.int .i64 a, .int .i64 b, .int .i64 c, .int .i64 d, .int .i64 f] 2).run Tryz.prog w = .ok (.int .i64 c) w := fun w a b c d f => by kernel_rfl
  have p3 : ∀ (w : World) (a b c d f : Int), (part 3 #[Value.int .i64 a, .int .i64 b, .int .i64 c, .int .i64 d, .int .i64 f] 3).run Tryz.prog w = .ok (.int .i64 d) w := fun w a b c d f => by kernel_rfl
  have p4 : ∀ (w : World) (a b c d f : Int), (part 3 #[Value.int .i64 a, .int .i64 b, .int .i64 c, .int .i64 d, .int .i64 f] 4).run Tryz.prog w = .ok (.int .i64 f) w := fun w a b c d f => by kernel_rfl
  have q : ∀ (w : World) (a b : Int), (Op.equalIn 9999 3 (.int .i64 a) (.int .i64 b)).run Tryz.prog w = .ok (a == b) w := fun w a b => run_equalIn_int w 9998 _ _ _ a b hu
  simp only [Op.eqFields, n0, n1, n2, n3, n4, t0, t1, t2, t3, t4, o0, o1, o2, o3, o4, ne_eq, not_false_eq_true, String.reduceEq, if_true, Sem.run_bind, p0, q, Result.andThen_ok]
  rcases h1 : (a == x) with _ | _
  · simp
  · rcases h2 : (b == y) with _ | _
    · simp [p1, q, h2]
    · rcases h3 : (c == z) with _ | _
      · simp [p1, p2, q, h2, h3]
      · rcases h4 : (d == u) with _ | _
        · simp [p1, p2, p3, q, h2, h3, h4]
        · rcases h5 : (f == v) with _ | _
          · simp [p1, p2, p3, p4, q, h2, h3, h4, h5]
          · simp [p1, p2, p3, p4, q, h2, h3, h4, h5]

/-- a plausible node -/
def plP (k lo hi a b : Int) : Bool := rgP (k, lo, hi, a, b) && (decide (1 ≤ arP k) || decide (a = 0)) && (decide (arP k = 2) || decide (b = 0))

end Go.Proofs.YtfkljlncnfeklaaGreatDoor

/-! pattern.plausible. (Written by plgen.py.) -/
namespace Go.Proofs.YtfkljlncnfeklaaGreatDoor
open Go.RowKit
set_option linter.unusedVariables false
set_option linter.unusedSimpArgs false
attribute [local go_sem ↓] Go.wp_at_zero Go.wp_at_succ

set_option maxHeartbeats 4000000 in
theorem pplaus_any (k lo hi a b : Int) (w : World) :
    Calls Tryz.prog 63 #[.agg #[.int .i64 k, .int .i64 lo, .int .i64 hi, .int .i64 a, .int .i64 b]] w fun e w' => e = .returned (.bool (plP k lo hi a b)) ∧ Below w.heap.size w w' := by
  have hb0 := (Below.refl w.heap.size w).alloc (Nat.le_refl _) (.cells #[.int .i64 k, .int .i64 lo, .int .i64 hi, .int .i64 a, .int .i64 b] 42)
  have HB := Lib.hid hb0
  clear hb0
  by_cases h1 : k < 0
  · have e : plP k lo hi a b = false := by simp [plP, rgP]; omega
    rw [e]
    go_enter Tryz.func63, Tryz.ntmps63
    go_wp2
    go_ret
    exact ⟨rfl, HB.out⟩
  by_cases h2 : 4 < k
  · have e : plP k lo hi a b = false := by simp [plP, rgP]; omega
    rw [e]
    go_enter Tryz.func63, Tryz.ntmps63
    go_wp2
    go_ret
    exact ⟨rfl, HB.out⟩
  have hO : k = 0 ∨ k = 1 ∨ k = 2 ∨ k = 3 ∨ k = 4 := by omega
  rcases hO with rfl | rfl | rfl | rfl | rfl
  · have heq := fun W : World => run_eql_pn W 0 lo hi a b 0 0 0 0 0
    by_cases hE : (((0 : Int) == 0) && (lo == 0 && (hi == 0 && (a == 0 && b == 0)))) = true
    rotate_left
    · replace hE : (((0 : Int) == 0) && (lo == 0 && (hi == 0 && (a == 0 && b == 0)))) = false := Bool.eq_false_iff.2 hE
      rw [hE] at heq
      simp at hE
      have e : plP 0 lo hi a b = false := by simp [plP, rgP, arP]; try omega
      rw [e]
      go_enter Tryz.func63, Tryz.ntmps63
      go_wp2
      go_ret
      refine ⟨(by first | rfl | exact ret_bool (by simp; try omega)), ?_⟩
      repeat (first | exact Below.refl _ _ | exact HB.out | (refine Below.setCell ?_ (by simp) _) | (refine Below.alloc ?_ (by simp) _) | (refine Below.drew ?_))
    rw [hE] at heq
    simp at hE
    obtain ⟨h3, h4, h5, h6⟩ := hE
    subst h3; subst h4
    subst h5; subst h6
    have e : plP 0 0 0 0 0 = true := by simp [plP, rgP, arP]; try omega
    rw [e]
    go_enter Tryz.func63, Tryz.ntmps63
    go_wp2
    go_ret
    refine ⟨(by first | rfl | exact ret_bool (by simp; try omega)), ?_⟩
    repeat (first | exact Below.refl _ _ | exact HB.out | (refine Below.setCell ?_ (by simp) _) | (refine Below.alloc ?_ (by simp) _) | (refine Below.drew ?_))
  · have heq := fun W : World => run_eql_pn W 1 lo hi a b 1 lo hi 0 0
    by_cases hE : (((1 : Int) == 1) && (lo == lo && (hi == hi && (a == 0 && b == 0)))) = true
    rotate_left
    · replace hE : (((1 : Int) == 1) && (lo == lo && (hi == hi && (a == 0 && b == 0)))) = false := Bool.eq_false_iff.2 hE
      rw [hE] at heq
      simp at hE
      have e : plP 1 lo hi a b = false := by simp [plP, rgP, arP]; try omega
      rw [e]
      go_enter Tryz.func63, Tryz.ntmps63
      go_wp2
      go_region
      all_goals go_wp2
      all_goals go_ret
      all_goals refine ⟨(by first | rfl | exact ret_bool (by simp; try omega)), ?_⟩
      all_goals repeat (first | exact Below.refl _ _ | exact HB.out | (refine Below.setCell ?_ (by simp) _) | (refine Below.alloc ?_ (by simp) _) | (refine Below.drew ?_))
    rw [hE] at heq
    simp at hE
    by_cases c1 : lo < 0
    · skip
      have e : plP 1 lo hi a b = false := by simp [plP, rgP, arP]; try omega
      rw [e]
      go_enter Tryz.func63, Tryz.ntmps63
      go_wp2
      go_region
      all_goals go_wp2
      all_goals go_ret
      all_goals refine ⟨(by first | rfl | exact ret_bool (by simp; try omega)), ?_⟩
      all_goals repeat (first | exact Below.refl _ _ | exact HB.out | (refine Below.setCell ?_ (by simp) _) | (refine Below.alloc ?_ (by simp) _) | (refine Below.drew ?_))
    by_cases c2 : hi < lo
    · skip
      have e : plP 1 lo hi a b = false := by simp [plP, rgP, arP]; try omega
      rw [e]
      go_enter Tryz.func63, Tryz.ntmps63
      go_wp2
      go_region
      all_goals go_wp2
      all_goals go_ret
      all_goals refine ⟨(by first | rfl | exact ret_bool (by simp; try omega)), ?_⟩
      all_goals repeat (first | exact Below.refl _ _ | exact HB.out | (refine Below.setCell ?_ (by simp) _) | (refine Below.alloc ?_ (by simp) _) | (refine Below.drew ?_))
    by_cases c3 : 255 < hi
    · skip
      have e : plP 1 lo hi a b = false := by simp [plP, rgP, arP]; try omega
      rw [e]
      go_enter Tryz.func63, Tryz.ntmps63
      go_wp2
      go_region
      all_goals go_wp2
      all_goals go_ret
      all_goals refine ⟨(by first | rfl | exact ret_bool (by simp; try omega)), ?_⟩
      all_goals repeat (first | exact Below.refl _ _ | exact HB.out | (refine Below.setCell ?_ (by simp) _) | (refine Below.alloc ?_ (by simp) _) | (refine Below.drew ?_))
    have e : plP 1 lo hi a b = true := by simp [plP, rgP, arP]; try omega
    rw [e]
    go_enter Tryz.func63, Tryz.ntmps63
    go_wp2
    go_region
    all_goals go_wp2
    all_goals go_ret
    all_goals refine ⟨(by first | rfl | exact ret_bool (by simp; try omega)), ?_⟩
    all_goals repeat (first | exact Below.refl _ _ | exact HB.out | (refine Below.setCell ?_ (by simp) _) | (refine Below.alloc ?_ (by simp) _) | (refine Below.drew ?_))
  · have heq := fun W : World => run_eql_pn W 2 lo hi a b 2 0 0 a b
    by_cases hE : (((2 : Int) == 2) && (lo == 0 && (hi == 0 && (a == a && b == b)))) = true
    rotate_left
    · replace hE : (((2 : Int) == 2) && (lo == 0 && (hi == 0 && (a == a && b == b)))) = false := Bool.eq_false_iff.2 hE
      rw [hE] at heq
      simp at hE
      have e : plP 2 lo hi a b = false := by simp [plP, rgP, arP]; try omega
      rw [e]
      go_enter Tryz.func63, Tryz.ntmps63
      go_wp2
      go_region
      all_goals go_wp2
      all_goals go_ret
      all_goals refine ⟨(by first | rfl | exact ret_bool (by simp; try omega)), ?_⟩
      all_goals repeat (first | exact Below.refl _ _ | exact HB.out | (refine Below.setCell ?_ (by simp) _) | (refine Below.alloc ?_ (by simp) _) | (refine Below.drew ?_))
    rw [hE] at heq
    simp at hE
    obtain ⟨h3, h4⟩ := hE
    subst h3; subst h4
    have e : plP 2 0 0 a b = true := by simp [plP, rgP, arP]; try omega
    rw [e]
    go_enter Tryz.func63, Tryz.ntmps63
    go_wp2
    go_region
    all_goals go_wp2
    all_goals go_ret
    all_goals refine ⟨(by first | rfl | exact ret_bool (by simp; try omega)), ?_⟩
    all_goals repeat (first | exact Below.refl _ _ | exact HB.out | (refine Below.setCell ?_ (by simp) _) | (refine Below.alloc ?_ (by simp) _) | (refine Below.drew ?_))
  · have heq := fun W : World => run_eql_pn W 3 lo hi a b 3 0 0 a b
    by_cases hE : (((3 : Int) == 3) && (lo == 0 && (hi == 0 && (a == a && b == b)))) = true
    rotate_left
    · replace hE : (((3 : Int) == 3) && (lo == 0 && (hi == 0 && (a == a && b == b)))) = false := Bool.eq_false_iff.2 hE
      rw [hE] at heq
      simp at hE
      have e : plP 3 lo hi a b = false := by simp [plP, rgP, arP]; try omega
      rw [e]
      go_enter Tryz.func63, Tryz.ntmps63
      go_wp2
      go_region
      all_goals go_wp2
      all_goals go_ret
      all_goals refine ⟨(by first | rfl | exact ret_bool (by simp; try omega)), ?_⟩
      all_goals repeat (first | exact Below.refl _ _ | exact HB.out | (refine Below.setCell ?_ (by simp) _) | (refine Below.alloc ?_ (by simp) _) | (refine Below.drew ?_))
    rw [hE] at heq
    simp at hE
    obtain ⟨h3, h4⟩ := hE
    subst h3; subst h4
    have e : plP 3 0 0 a b = true := by simp [plP, rgP, arP]; try omega
    rw [e]
    go_enter Tryz.func63, Tryz.ntmps63
    go_wp2
    go_region
    all_goals go_wp2
    all_goals go_ret
    all_goals refine ⟨(by first | rfl | exact ret_bool (by simp; try omega)), ?_⟩
    all_goals repeat (first | exact Below.refl _ _ | exact HB.out | (refine Below.setCell ?_ (by simp) _) | (refine Below.alloc ?_ (by simp) _) | (refine Below.drew ?_))
  · have heq := fun W : World => run_eql_pn W 4 lo hi a b 4 0 0 a 0
    by_cases hE : (((4 : Int) == 4) && (lo == 0 && (hi == 0 && (a == a && b == 0)))) = true
    rotate_left
    · replace hE : (((4 : Int) == 4) && (lo == 0 && (hi == 0 && (a == a && b == 0)))) = false := Bool.eq_false_iff.2 hE
      rw [hE] at heq
      simp at hE
      have e : plP 4 lo hi a b = false := by simp [plP, rgP, arP]; try omega
      rw [e]
      go_enter Tryz.func63, Tryz.ntmps63
      go_wp2
      go_ret
      refine ⟨(by first | rfl | exact ret_bool (by simp; try omega)), ?_⟩
      repeat (first | exact Below.refl _ _ | exact HB.out | (refine Below.setCell ?_ (by simp) _) | (refine Below.alloc ?_ (by simp) _) | (refine Below.drew ?_))
    rw [hE] at heq
    simp at hE
    obtain ⟨h3, h4, h5⟩ := hE
    subst h3; subst h4
    subst h5
    have e : plP 4 0 0 a 0 = true := by simp [plP, rgP, arP]; try omega
    rw [e]
    go_enter Tryz.func63, Tryz.ntmps63
    go_wp2
    go_ret
    refine ⟨(by first | rfl | exact ret_bool (by simp; try omega)), ?_⟩
    repeat (first | exact Below.refl _ _ | exact HB.out | (refine Below.setCell ?_ (by simp) _) | (refine Below.alloc ?_ (by simp) _) | (refine Below.drew ?_))

end Go.Proofs.YtfkljlncnfeklaaGreatDoor

/-! pattern.valid and Check. (Written by vdgen.py out of FChk.) -/
namespace Go.Proofs.YtfkljlncnfeklaaGreatDoor
open Go.RowKit
set_option linter.unusedVariables false
set_option linter.unusedSimpArgs false
attribute [local go_sem ↓] Go.wp_at_zero Go.wp_at_succ

instance (l : List Fi) (i : Nat) : Decidable (okN l i) := by unfold okN; infer_instance
instance (l : List Fi) : Decidable (okF l) := by unfold okF; infer_instance
instance (l : List Pn) : Decidable (okP l) := by unfold okP; infer_instance

/-! plain facts -/
/-- how often node k is an operand of the first n nodes -/
abbrev usP (l : List Pn) (k n : Nat) : Nat := us (l.map ph) k n
abbrev totP (l : List Pn) (n : Nat) : Nat := tot (l.map ph) n
theorem arP_le (k : Int) : arP k ≤ 2 := by unfold arP; repeat (split <;> try omega)
theorem us_succ (l : List Pn) (k n : Nat) : usP l k (n + 1) = usP l k n + (if 1 ≤ arP (pk l n) ∧ pa l n = (k : Int) then 1 else 0) + (if arP (pk l n) = 2 ∧ pb l n = (k : Int) then 1 else 0) := by
  show us _ k n + _ + _ = _
  rw [fo_ph, fa_ph, fb_ph]
theorem tot_succ (l : List Pn) (k : Nat) : totP l (k + 1) = totP l k + arP (pk l k) := by
  show tot _ k + ar _ = _
  rw [fo_ph]
/-- node i is valid by itself -/
def okNP (l : List Pn) (i : Nat) : Prop := plP (pk l i) (plo l i) (phi l i) (pa l i) (pb l i) = true ∧ opN (fo (l.map ph) i) (pa l i) (pb l i) i = true
theorem okNP_iff {l : List Pn} {i : Nat} : okNP l i ↔ okN (l.map ph) i ∧ rgP (l.getD i (0, 0, 0, 0, 0)) = true := by
  unfold okNP okN
  have hx : (pk l i, plo l i, phi l i, pa l i, pb l i) = l.getD i (0, 0, 0, 0, 0) := rfl
  have e0 : fv (l.map ph) i = 0 := by unfold fv; rw [ph_get]; rfl
  have e1 : 0 ≤ fo (l.map ph) i ∧ fo (l.map ph) i ≤ 5 ∧ fo (l.map ph) i ≠ 2 := by
    unfold fo; rw [ph_get]; unfold ph
    dsimp only
    repeat (split <;> try omega)
  rw [fa_ph, fb_ph]
  have hp : plN (fo (l.map ph) i) (fv (l.map ph) i) (pa l i) (pb l i) = ((decide (1 ≤ arP (pk l i)) || decide (pa l i = 0)) && (decide (arP (pk l i) = 2) || decide (pb l i = 0))) := by
    unfold plN
    rw [e0, fo_ph, decide_eq_true e1.1, decide_eq_true e1.2.1]
    simp
  unfold plP
  rw [hp, hx]
  simp only [Bool.and_eq_true]
  constructor
  · rintro ⟨⟨⟨h1, h2⟩, h3⟩, h4⟩; exact ⟨⟨⟨h2, h3⟩, h4⟩, h1⟩
  · rintro ⟨⟨⟨h2, h3⟩, h4⟩, h1⟩; exact ⟨⟨⟨h1, h2⟩, h3⟩, h4⟩
theorem okP_node (l : List Pn) {i : Nat} (hi : i < l.length) (h : ¬ okNP l i) : ¬ okP l := fun q => h (okNP_iff.2 ⟨q.1.2.2.1 i (by rw [List.length_map]; exact hi), q.2 i hi⟩)
theorem okP_no (l : List Pn) {k n : Nat} (hk : k + 1 < l.length) (hn : n ≤ l.length) (h : 2 ≤ usP l k n) : ¬ okP l := fun q => okF_no (l.map ph) (by rw [List.length_map]; exact hk) (by rw [List.length_map]; exact hn) h q.1
theorem okP_iff (l : List Pn) (h1 : 1 ≤ l.length) (h2 : l.length ≤ 512) (hn : ∀ i, i < l.length → okNP l i) (hu : ∀ k, usP l k l.length ≤ 1) : okP l ↔ totP l l.length = l.length - 1 := by
  have := okF_iff (l.map ph) (by rw [List.length_map]; exact h1) (by rw [List.length_map]; exact h2) (by rw [List.length_map]; exact fun i hi => (okNP_iff.1 (hn i hi)).1) (by rw [List.length_map]; exact hu)
  rw [List.length_map] at this
  unfold okP
  rw [this]
  exact ⟨fun q => q.1, fun q => ⟨q, fun i hi => (okNP_iff.1 (hn i hi)).2⟩⟩
theorem op_ar (l : List Pn) (k : Nat) : ar (fo (l.map ph) k) = arP (pk l k) := fo_ph l k
theorem dup_a {l : List Pn} {k j : Nat} (hk : k < l.length) (h1 : 1 ≤ arP (pk l k)) (ha : pa l k = (j : Int)) (hj : j < k) (hu : usP l j k = 1) : ¬ okP l :=
  okP_no l (k := j) (n := k + 1) (by omega) (by omega) (by rw [us_succ, if_pos ⟨h1, ha⟩]; omega)
theorem dup_b {l : List Pn} {k j : Nat} (hk : k < l.length) (h1 : arP (pk l k) = 2) (hb : pb l k = (j : Int)) (hj : j < k) (hu : usP l j k = 1 ∨ pa l k = (j : Int)) : ¬ okP l :=
  okP_no l (k := j) (n := k + 1) (by omega) (by omega) (by
    have e1 : (if arP (pk l k) = 2 ∧ pb l k = (j : Int) then 1 else 0) = 1 := if_pos ⟨h1, hb⟩
    rw [us_succ, e1]
    rcases hu with hu | hu
    · omega
    · rw [if_pos ⟨by omega, hu⟩]; omega)
theorem not_pl {l : List Pn} {k : Nat} (hk : k < l.length) (h : plP (pk l k) (plo l k) (phi l k) (pa l k) (pb l k) = false) : ¬ okP l := okP_node l hk (fun q => by have := q.1; rw [h] at this; exact absurd this (by decide))
theorem not_a {l : List Pn} {k : Nat} (hk : k < l.length) (h1 : 1 ≤ arP (pk l k)) (h : pa l k < 0 ∨ (k : Int) ≤ pa l k) : ¬ okP l := okP_node l hk (fun q => by have := opN_a q.2 (by rw [op_ar]; exact h1); omega)
theorem not_b {l : List Pn} {k : Nat} (hk : k < l.length) (h1 : arP (pk l k) = 2) (h : pb l k < 0 ∨ (k : Int) ≤ pb l k) : ¬ okP l := okP_node l hk (fun q => by have := opN_b q.2 (by rw [op_ar]; exact h1); omega)
/-- which nodes are used among the first k nodes' operands -/
def usd (l : List Pn) (k j : Nat) : Value := .bool (decide (usP l j k = 1))
/-- the loop of valid -/
structure VaI (w wr : World) (l : List Pn) (k : Nat) : Prop where
  blk : Blk wr w.heap.size 512 (usd l k)
  nod : ∀ i, i < k → okNP l i
  use : ∀ j, usP l j k ≤ 1
  bel : Below w.heap.size w wr
theorem VaI.next0 {w wr w' : World} {l : List Pn} {k : Nat} (h : VaI w wr l k) (h0 : arP (pk l k) = 0) (hp : plP (pk l k) (plo l k) (phi l k) (pa l k) (pb l k) = true) (hb : Blk w' w.heap.size 512 (usd l k)) (hw : Below w.heap.size w w') : VaI w w' l (k + 1) := by
  have e : ∀ j, usP l j (k + 1) = usP l j k := fun j => by rw [us_succ, if_neg (by omega), if_neg (by omega)]; rfl
  refine ⟨hb.congr fun i _ => by unfold usd; rw [e], fun i hi => ?_, fun j => by rw [e]; exact h.use j, hw⟩
  by_cases hik : i = k
  · subst hik
    exact ⟨hp, by simp [opN, op_ar, h0]⟩
  · exact h.nod i (by omega)
theorem VaI.next1 {w wr w' : World} {l : List Pn} {k a : Nat} (h : VaI w wr l k) (h1 : arP (pk l k) = 1) (hp : plP (pk l k) (plo l k) (phi l k) (pa l k) (pb l k) = true) (ha : pa l k = (a : Int)) (hak : a < k) (hu : ¬ usP l a k = 1) (hb : Blk w' w.heap.size 512 (fup (usd l k) a (.bool true))) (hw : Below w.heap.size w w') : VaI w w' l (k + 1) := by
  have e : ∀ j, usP l j (k + 1) = usP l j k + if j = a then 1 else 0 := fun j => by
    rw [us_succ, if_neg (show ¬ (arP (pk l k) = 2 ∧ pb l k = (j : Int)) by omega)]
    by_cases q : j = a
    · rw [if_pos ⟨by omega, by rw [ha, q]⟩, if_pos q]
    · rw [if_neg (by omega), if_neg q]
  have hua := h.use a
  refine ⟨hb.congr fun i _ => ?_, fun i hi => ?_, fun j => ?_, hw⟩
  · unfold usd fup
    rw [e]
    by_cases q : i = a
    · subst q
      rw [if_pos rfl, if_pos rfl, decide_eq_true (by omega)]
    · rw [if_neg q, if_neg q]; rfl
  · by_cases hik : i = k
    · subst hik
      exact ⟨hp, by simp [opN, op_ar, h1, ha, hak]⟩
    · exact h.nod i (by omega)
  · rw [e]
    have := h.use j
    split
    · rename_i q; subst q; omega
    · omega
theorem VaI.next2 {w wr w' : World} {l : List Pn} {k a b : Nat} (h : VaI w wr l k) (h1 : arP (pk l k) = 2) (hp : plP (pk l k) (plo l k) (phi l k) (pa l k) (pb l k) = true) (ha : pa l k = (a : Int)) (hak : a < k) (hu : ¬ usP l a k = 1) (hb' : pb l k = (b : Int)) (hbk : b < k) (hv : ¬ usP l b k = 1) (hab : ¬ b = a)
    (hb : Blk w' w.heap.size 512 (fup (fup (usd l k) a (.bool true)) b (.bool true))) (hw : Below w.heap.size w w') : VaI w w' l (k + 1) := by
  have e : ∀ j, usP l j (k + 1) = usP l j k + (if j = a then 1 else 0) + if j = b then 1 else 0 := fun j => by
    rw [us_succ]
    congr 1
    · congr 1
      by_cases q : j = a
      · rw [if_pos ⟨by omega, by rw [ha, q]⟩, if_pos q]
      · rw [if_neg (by omega), if_neg q]
    · by_cases q : j = b
      · rw [if_pos ⟨h1, by rw [hb', q]⟩, if_pos q]
      · rw [if_neg (by omega), if_neg q]
  have hua := h.use a
  have hub := h.use b
  refine ⟨hb.congr fun i _ => ?_, fun i hi => ?_, fun j => ?_, hw⟩
  · unfold usd fup
    rw [e]
    by_cases q : i = b
    · subst q
      rw [if_pos rfl, if_neg hab, if_pos rfl, decide_eq_true (by omega)]
    · rw [if_neg q, if_neg q]
      by_cases q2 : i = a
      · subst q2
        rw [if_pos rfl, if_pos rfl, decide_eq_true (by omega)]
      · rw [if_neg q2, if_neg q2]; rfl
  · by_cases hik : i = k
    · subst hik
      exact ⟨hp, by simp [opN, op_ar, h1, ha, hak, hb', hbk]⟩
    · exact h.nod i (by omega)
  · rw [e]
    have := h.use j
    by_cases q : j = a
    · subst q
      rw [if_pos rfl, if_neg (fun e => hab e.symm)]; omega
    · rw [if_neg q]
      by_cases q2 : j = b
      · subst q2
        rw [if_pos rfl]; omega
      · rw [if_neg q2]; omega


theorem zero72 : Tryz.zeroCells112 = (List.replicate 512 (Value.bool false)).toArray := by kernel_rfl
theorem used_new (w : World) (l : List Pn) : Blk (w.alloc (.cells Tryz.zeroCells112 112)) w.heap.size 512 (usd l 0) := by
  rw [zero72]
  have h := Blk.new (w := w) rfl (List.replicate 512 (Value.bool false)) 112
  rw [List.length_replicate] at h
  exact h.congr fun i hi => by
    rw [List.getD_eq_getElem?_getD, List.getElem?_replicate, if_pos hi]
    rfl
theorem fkeep {w w' : World} {g n : Nat} {F : Nat → Value} (h : Hid (Blk w g (n + 1) F)) (b : Below w.heap.size w w') : Hid (Blk w' g (n + 1) F) := Lib.hid (h.out.below (by omega) b)
theorem ftr {B : Nat} {a w w' : World} (h : Hid (Below B a w)) (b : Below w.heap.size w w') (hB : B ≤ w.heap.size) : Hid (Below B a w') := Lib.hid (h.out.trans (b.mono hB))

set_option maxHeartbeats 4000000 in
set_option maxRecDepth 100000 in
theorem valid_some (A : Option Addr) (m c : Nat) (l : List Pn) (w : World) (hl : Hid (l.length = m)) (h1 : 1 ≤ m) (h2 : m ≤ 512) (hr : Hid (Rp w w.heap.size A l)) :
    Calls Tryz.prog 38 #[.slice A m c] w fun e w' => e = .returned (.bool (decide (okP l))) ∧ Below w.heap.size w w' := by
  have h3 : ((m : Int) == 0) = false := beq_eq_false_iff_ne.2 (by omega)
  have h4 : ¬ (512 : Int) < (m : Int) := by omega
  have V0 : Hid (VaI w (w.alloc (.cells Tryz.zeroCells112 112)) l 0) := Lib.hid ⟨used_new w l, fun i hi => by omega, fun j => Nat.zero_le _, (Below.refl _ _).alloc (Nat.le_refl _) _⟩
  go_enter Tryz.func38, Tryz.ntmps38
  go_wp2_with fail
  generalize w.alloc (.cells Tryz.zeroCells112 112) = w0 at *
  go_loopw [4, 15] (fun u i wr => ∃ k : Nat, k ≤ m ∧ i = .int .i64 (k : Int) ∧ u = .int .i64 ((totP l k : Nat) : Int) ∧ Hid (VaI w wr l k)) (fun _ i _ => m - (intOf i).toNat)
  case atStart => exact ⟨0, Nat.zero_le _, rfl, rfl, V0⟩
  case round =>
    obtain ⟨k, hk, rfl, rfl, hst⟩ := hrel
    clear V0
    by_cases hlt' : k < m
    · have hkl : k < l.length := by rw [hl.out]; exact hlt'
      obtain ⟨b, o, e, hb, hc⟩ := (hr.out.below hst.out.bel) (by omega)
      subst e
      obtain ⟨d0, d1, d2, d3, d4⟩ := hc k hkl
      have i1 : (0 : Int) ≤ (k : Int) := by omega
      have i2 : (k : Int) < (m : Int) := by omega
      have htot : totP l k ≤ 2 * k := tot_le (l.map ph) k
      have HPL : Hid (∀ W : World, Calls Tryz.prog 63 #[.agg #[.int .i64 (pk l k), .int .i64 (plo l k), .int .i64 (phi l k), .int .i64 (pa l k), .int .i64 (pb l k)]] W fun e w' => e = .returned (.bool (plP (pk l k) (plo l k) (phi l k) (pa l k) (pb l k))) ∧ Below W.heap.size W w') := fun W => pplaus_any _ _ _ _ _ W
      have HAR : Hid (∀ W : World, Calls Tryz.prog 64 #[.int .i64 (pk l k)] W fun e w' => e = .returned (.int .i64 ((arP (pk l k) : Nat) : Int)) ∧ W = w') := fun W => parity_any _ W
      have XN : Hid (Blk (wr.alloc (.cells #[.int .i64 (pk l k), .int .i64 (plo l k), .int .i64 (phi l k), .int .i64 (pa l k), .int .i64 (pb l k)] 42)) wr.heap.size (4 + 1) (fun i => ([.int .i64 (pk l k), .int .i64 (plo l k), .int .i64 (phi l k), .int .i64 (pa l k), .int .i64 (pb l k)] : List Value).getD i undef)) := Lib.hid (Blk.new rfl [.int .i64 (pk l k), .int .i64 (plo l k), .int .i64 (phi l k), .int .i64 (pa l k), .int .i64 (pb l k)] 42)
      have ab := (Below.refl wr.heap.size wr).alloc (Nat.le_refl _) (.cells #[.int .i64 (pk l k), .int .i64 (plo l k), .int .i64 (phi l k), .int .i64 (pa l k), .int .i64 (pb l k)] 42)
      have XU : Hid (Blk (wr.alloc (.cells #[.int .i64 (pk l k), .int .i64 (plo l k), .int .i64 (phi l k), .int .i64 (pa l k), .int .i64 (pb l k)] 42)) w.heap.size (511 + 1) (usd l k)) := fkeep (Lib.hid hst.out.blk) ab
      have HB := ftr (Lib.hid hst.out.bel) ab hst.out.bel.size
      have hwn : Hid (w.heap.size < wr.heap.size) := Lib.hid (hst.out.blk.lt (by omega))
      clear ab hc
      go_upto_region 8 with fail
      generalize (wr.alloc (.cells #[.int .i64 (pk l k), .int .i64 (plo l k), .int .i64 (phi l k), .int .i64 (pa l k), .int .i64 (pb l k)] 42)) = w1 at *
      obtain ⟨x0, _⟩ := XN.out 0 (by omega)
      obtain ⟨x1, _⟩ := XN.out 1 (by omega)
      obtain ⟨x2, _⟩ := XN.out 2 (by omega)
      obtain ⟨x3, _⟩ := XN.out 3 (by omega)
      obtain ⟨x4, _⟩ := XN.out 4 (by omega)
      by_cases hp : plP (pk l k) (plo l k) (phi l k) (pa l k) (pb l k) = true
      rotate_left
      · have hp' : plP (pk l k) (plo l k) (phi l k) (pa l k) (pb l k) = false := by simpa using hp
        have hno := not_pl hkl hp'
        rw [hp'] at HPL
        have HNO := Lib.hid hno
        clear hno hp hp'
        go_wp2_with (first | (go_at_call 63; refine (HPL.out _).mono ?_; rintro e w2 ⟨rfl, b2⟩; replace HB := ftr HB b2 HB.out.size; clear b2))
        go_ret
        exact ⟨ret_bool (decide_eq_false HNO.out).symm, HB.out⟩
      · rw [hp] at HPL
        have HP := Lib.hid hp
        clear hp
        go_upto_region 10 with (first | (go_at_call 63; refine (HPL.out _).mono ?_; rintro e w2 ⟨rfl, b2⟩; replace HB := ftr HB b2 HB.out.size; replace XN := fkeep XN b2; replace XU := fkeep XU b2; clear b2))
        clear x0 x1 x2 x3 x4 d0 d1 d2 d3 d4
        obtain ⟨x0, _⟩ := XN.out 0 (by omega)
        obtain ⟨x3, _⟩ := XN.out 3 (by omega)
        obtain ⟨x4, _⟩ := XN.out 4 (by omega)
        have hw2 := Lib.hid (XN.out.lt (by omega))
        have ab := (Below.refl w2.heap.size w2).alloc (Nat.le_refl _) (.cells #[.int .i64 (pa l k), .int .i64 (pb l k)] 114)
        have XO : Hid (Blk (w2.alloc (.cells #[.int .i64 (pa l k), .int .i64 (pb l k)] 114)) w2.heap.size (1 + 1) (fun i => ([.int .i64 (pa l k), .int .i64 (pb l k)] : List Value).getD i undef)) := Lib.hid (Blk.new rfl [.int .i64 (pa l k), .int .i64 (pb l k)] 114)
        go_upto_region 11 with fail
        clear x0 x3 x4
        replace HB := ftr HB ab HB.out.size
        replace XN := fkeep XN ab
        replace XU := fkeep XU ab
        clear ab
        obtain ⟨g2, hg2⟩ : ∃ g, w2.heap.size = g := ⟨_, rfl⟩
        rw [hg2] at XO hw2
        obtain ⟨w3, hw3⟩ : ∃ W, w2.alloc (.cells #[.int .i64 (pa l k), .int .i64 (pb l k)] 114) = W := ⟨_, rfl⟩
        rw [hw3] at XO XN XU HB
        simp only [hw3, hg2]
        clear hw3 hg2
        obtain ⟨x0, _⟩ := XN.out 0 (by omega)
        obtain ⟨y0, _⟩ := XO.out 0 (by omega)
        obtain ⟨y1, _⟩ := XO.out 1 (by omega)
        have hwne : Hid (¬ g2 = w.heap.size) := Lib.hid (by have := hw2.out; have := hwn.out; omega)
        have hsz := HB.out.size
        have h3a := arP_le (pk l k)
        rcases (show arP (pk l k) = 0 ∨ arP (pk l k) = 1 ∨ arP (pk l k) = 2 by omega) with har | har | har
        · skip
          rw [har] at HAR
          have HR := Lib.hid har
          clear har h3a
          go_wp2_with (first | (go_at_call 64; refine (HAR.out _).mono ?_; rintro e w4 ⟨rfl, rfl⟩))
          refine wp_loop_rounds 1 ?_
          rw [rounds_succ]
          go_wp2
          go_roundw
          case rel => exact ⟨k + 1, by omega, by go_num, by rw [show totP l (k + 1) = totP l k from by rw [tot_succ, HR.out]; rfl], Lib.hid (hst.out.next0 HR.out HP.out XU.out HB.out)⟩
          case measure => simp [intOf]; omega
        · skip
          rw [har] at HAR
          have HR := Lib.hid har
          clear har h3a
          by_cases ha0 : pa l k < 0
          · have HNO := Lib.hid (not_a hkl (by rw [HR.out]; decide) (.inl ha0))
            go_wp2_with (first | (go_at_call 64; refine (HAR.out _).mono ?_; rintro e w4 ⟨rfl, rfl⟩))
            refine wp_loop_rounds 2 ?_
            rw [rounds_succ]
            go_wp2
            go_ret
            exact ⟨ret_bool (decide_eq_false HNO.out).symm, HB.out⟩
          by_cases ha1 : (k : Int) ≤ pa l k
          · have HNO := Lib.hid (not_a hkl (by rw [HR.out]; decide) (.inr ha1))
            go_wp2_with (first | (go_at_call 64; refine (HAR.out _).mono ?_; rintro e w4 ⟨rfl, rfl⟩))
            refine wp_loop_rounds 2 ?_
            rw [rounds_succ]
            go_wp2
            go_ret
            exact ⟨ret_bool (decide_eq_false HNO.out).symm, HB.out⟩
          obtain ⟨a, ha⟩ : ∃ a : Nat, pa l k = (a : Int) := ⟨(pa l k).toNat, by omega⟩
          have hak : a < k := by omega
          clear ha0 ha1
          have HA := Lib.hid ha
          replace y0 : w3.cell? ⟨g2, 0, none⟩ = some (.int .i64 (a : Int)) := by rw [← ha]; exact y0
          obtain ⟨z0, f0⟩ := XU.out a (by omega)
          unfold usd at z0
          have i3 : (0 : Int) ≤ (a : Int) := by omega
          have i4 : (a : Int) < (k : Int) := by omega
          have i5 : (a : Int) < 512 := by omega
          clear ha
          by_cases hu : usP l a k = 1
          · rw [decide_eq_true hu] at z0
            have HNO := Lib.hid (dup_a hkl (by rw [HR.out]; decide) HA.out hak hu)
            clear hu
            go_wp2_with (first | (go_at_call 64; refine (HAR.out _).mono ?_; rintro e w4 ⟨rfl, rfl⟩))
            refine wp_loop_rounds 2 ?_
            rw [rounds_succ]
            go_wp2
            go_ret
            exact ⟨ret_bool (decide_eq_false HNO.out).symm, HB.out⟩
          rw [decide_eq_false hu] at z0
          have HU := Lib.hid hu
          clear hu
          have XU1 := Lib.hid (XU.out.set (i := a) (by omega) (.bool true))
          have HB1 : Hid (Below w.heap.size w (w3.setCell ⟨w.heap.size, a, none⟩ (.bool true))) := Lib.hid (HB.out.setCell (Nat.le_refl _) _)
          go_wp2_with (first | (go_at_call 64; refine (HAR.out _).mono ?_; rintro e w4 ⟨rfl, rfl⟩))
          refine wp_loop_rounds 2 ?_
          rw [rounds_succ]
          go_wp2
          rw [rounds_succ]
          go_wp2
          go_roundw
          case rel => exact ⟨k + 1, by omega, by go_num, by rw [show totP l (k + 1) = totP l k + 1 from by rw [tot_succ, HR.out]]; go_num, Lib.hid (hst.out.next1 HR.out HP.out HA.out hak HU.out XU1.out HB1.out)⟩
          case measure => simp [intOf]; omega
        · skip
          rw [har] at HAR
          have HR := Lib.hid har
          clear har h3a
          by_cases ha0 : pa l k < 0
          · have HNO := Lib.hid (not_a hkl (by rw [HR.out]; decide) (.inl ha0))
            go_wp2_with (first | (go_at_call 64; refine (HAR.out _).mono ?_; rintro e w4 ⟨rfl, rfl⟩))
            refine wp_loop_rounds 3 ?_
            rw [rounds_succ]
            go_wp2
            go_ret
            exact ⟨ret_bool (decide_eq_false HNO.out).symm, HB.out⟩
          by_cases ha1 : (k : Int) ≤ pa l k
          · have HNO := Lib.hid (not_a hkl (by rw [HR.out]; decide) (.inr ha1))
            go_wp2_with (first | (go_at_call 64; refine (HAR.out _).mono ?_; rintro e w4 ⟨rfl, rfl⟩))
            refine wp_loop_rounds 3 ?_
            rw [rounds_succ]
            go_wp2
            go_ret
            exact ⟨ret_bool (decide_eq_false HNO.out).symm, HB.out⟩
          obtain ⟨a, ha⟩ : ∃ a : Nat, pa l k = (a : Int) := ⟨(pa l k).toNat, by omega⟩
          have hak : a < k := by omega
          clear ha0 ha1
          have HA := Lib.hid ha
          replace y0 : w3.cell? ⟨g2, 0, none⟩ = some (.int .i64 (a : Int)) := by rw [← ha]; exact y0
          obtain ⟨z0, f0⟩ := XU.out a (by omega)
          unfold usd at z0
          have i3 : (0 : Int) ≤ (a : Int) := by omega
          have i4 : (a : Int) < (k : Int) := by omega
          have i5 : (a : Int) < 512 := by omega
          clear ha
          by_cases hu : usP l a k = 1
          · rw [decide_eq_true hu] at z0
            have HNO := Lib.hid (dup_a hkl (by rw [HR.out]; decide) HA.out hak hu)
            clear hu
            go_wp2_with (first | (go_at_call 64; refine (HAR.out _).mono ?_; rintro e w4 ⟨rfl, rfl⟩))
            refine wp_loop_rounds 3 ?_
            rw [rounds_succ]
            go_wp2
            go_ret
            exact ⟨ret_bool (decide_eq_false HNO.out).symm, HB.out⟩
          rw [decide_eq_false hu] at z0
          have HU := Lib.hid hu
          clear hu
          have XU1 := Lib.hid (XU.out.set (i := a) (by omega) (.bool true))
          have HB1 : Hid (Below w.heap.size w (w3.setCell ⟨w.heap.size, a, none⟩ (.bool true))) := Lib.hid (HB.out.setCell (Nat.le_refl _) _)
          have XO1 := Lib.hid (XO.out.other (p := ⟨w.heap.size, a, none⟩) (fun e => hwne.out e.symm) (.bool true))
          clear y1
          obtain ⟨y1, _⟩ := XO1.out 1 (by omega)
          by_cases hb0 : pb l k < 0
          · have HNO := Lib.hid (not_b hkl HR.out (.inl hb0))
            go_wp2_with (first | (go_at_call 64; refine (HAR.out _).mono ?_; rintro e w4 ⟨rfl, rfl⟩))
            refine wp_loop_rounds 3 ?_
            rw [rounds_succ]
            go_wp2
            rw [rounds_succ]
            go_wp2
            go_ret
            exact ⟨ret_bool (decide_eq_false HNO.out).symm, HB1.out⟩
          by_cases hb1 : (k : Int) ≤ pb l k
          · have HNO := Lib.hid (not_b hkl HR.out (.inr hb1))
            go_wp2_with (first | (go_at_call 64; refine (HAR.out _).mono ?_; rintro e w4 ⟨rfl, rfl⟩))
            refine wp_loop_rounds 3 ?_
            rw [rounds_succ]
            go_wp2
            rw [rounds_succ]
            go_wp2
            go_ret
            exact ⟨ret_bool (decide_eq_false HNO.out).symm, HB1.out⟩
          obtain ⟨q, hq⟩ : ∃ q : Nat, pb l k = (q : Int) := ⟨(pb l k).toNat, by omega⟩
          have hqk : q < k := by omega
          clear hb0 hb1
          have HQ := Lib.hid hq
          replace y1 : (w3.setCell ⟨w.heap.size, a, none⟩ (.bool true)).cell? ⟨g2, 1, none⟩ = some (.int .i64 (q : Int)) := by rw [← hq]; exact y1
          clear hq
          obtain ⟨z1, f1⟩ := XU1.out q (by omega)
          have j3 : (0 : Int) ≤ (q : Int) := by omega
          have j4 : (q : Int) < (k : Int) := by omega
          have j5 : (q : Int) < 512 := by omega
          by_cases hqa : q = a
          · subst hqa
            rw [fup_same] at z1
            have HNO := Lib.hid (dup_b hkl HR.out HQ.out hqk (.inr HA.out))
            go_wp2_with (first | (go_at_call 64; refine (HAR.out _).mono ?_; rintro e w4 ⟨rfl, rfl⟩))
            refine wp_loop_rounds 3 ?_
            rw [rounds_succ]
            go_wp2
            rw [rounds_succ]
            go_wp2
            go_ret
            exact ⟨ret_bool (decide_eq_false HNO.out).symm, HB1.out⟩
          rw [fup_ne _ _ hqa] at z1
          unfold usd at z1
          by_cases hv : usP l q k = 1
          · rw [decide_eq_true hv] at z1
            have HNO := Lib.hid (dup_b hkl HR.out HQ.out hqk (.inl hv))
            clear hv
            go_wp2_with (first | (go_at_call 64; refine (HAR.out _).mono ?_; rintro e w4 ⟨rfl, rfl⟩))
            refine wp_loop_rounds 3 ?_
            rw [rounds_succ]
            go_wp2
            rw [rounds_succ]
            go_wp2
            go_ret
            exact ⟨ret_bool (decide_eq_false HNO.out).symm, HB1.out⟩
          rw [decide_eq_false hv] at z1
          have HV := Lib.hid hv
          clear hv
          have XU2 := Lib.hid (XU1.out.set (i := q) (by omega) (.bool true))
          have HB2 : Hid (Below w.heap.size w ((w3.setCell ⟨w.heap.size, a, none⟩ (.bool true)).setCell ⟨w.heap.size, q, none⟩ (.bool true))) := Lib.hid (HB1.out.setCell (Nat.le_refl _) _)
          go_wp2_with (first | (go_at_call 64; refine (HAR.out _).mono ?_; rintro e w4 ⟨rfl, rfl⟩))
          refine wp_loop_rounds 3 ?_
          rw [rounds_succ]
          go_wp2
          rw [rounds_succ]
          go_wp2
          rw [rounds_succ]
          go_wp2
          go_roundw
          case rel => exact ⟨k + 1, by omega, by go_num, by rw [show totP l (k + 1) = totP l k + 2 from by rw [tot_succ, HR.out]]; go_num, Lib.hid (hst.out.next2 HR.out HP.out HA.out hak HU.out HQ.out hqk HV.out hqa XU2.out HB2.out)⟩
          case measure => simp [intOf]; omega
    · obtain rfl : k = m := by omega
      have hq := okP_iff l (by rw [hl.out]; exact h1) (by rw [hl.out]; exact h2) (by rw [hl.out]; exact hst.out.nod) (by rw [hl.out]; exact hst.out.use)
      rw [hl.out] at hq
      have HQ := Lib.hid hq
      have htot : totP l k ≤ 2 * k := tot_le (l.map ph) k
      clear hq
      have hdec : (((totP l k : Nat) : Int) == (k : Int) - 1) = decide (okP l) := by
        by_cases q : okP l
        · rw [decide_eq_true q]
          have := HQ.out.1 q
          exact beq_iff_eq.2 (by omega)
        · rw [decide_eq_false q]
          exact beq_eq_false_iff_ne.2 (fun e => q (HQ.out.2 (by omega)))
      go_wp2
      go_ret
      exact ⟨rfl, hst.out.bel⟩


theorem valid_any (A : Option Addr) (m c : Nat) (l : List Pn) (w : World) (hl : Hid (l.length = m)) (h2 : m ≤ 512) (hr : Hid (Rp w w.heap.size A l)) :
    Calls Tryz.prog 38 #[.slice A m c] w fun e w' => e = .returned (.bool (decide (okP l))) ∧ Below w.heap.size w w' := by
  by_cases h : m = 0
  · have hno : ¬ okP l := fun q => by have a := q.1.1; rw [List.length_map, hl.out] at a; omega
    rw [decide_eq_false hno]
    subst h
    have hb := Below.refl w.heap.size w
    go_enter Tryz.func38, Tryz.ntmps38
    go_wp2
    go_ret
    exact ⟨rfl, hb⟩
  · exact valid_some A m c l w hl (by omega) h2 hr
theorem chP_big {l : List Pn} (h : 512 < l.length) : chP l = 2 := by unfold chP; rw [if_pos h]
theorem chP_ok {l : List Pn} (h : okP l) : chP l = 0 := by unfold chP; rw [if_neg (by have := h.len; omega), if_pos h]
theorem chP_no {l : List Pn} (h2 : ¬ 512 < l.length) (h : ¬ okP l) : chP l = 40 := by unfold chP; rw [if_neg h2, if_neg h]
theorem pcheck_any (A : Option Addr) (m c : Nat) (l : List Pn) (w : World) (hl : Hid (l.length = m)) (hr : Hid (Rp w w.heap.size A l)) :
    Calls Tryz.prog 12 #[.slice A m c] w fun e w' => e = .returned (.int .i64 (chP l)) ∧ Below w.heap.size w w' := by
  by_cases h5 : 512 < m
  · rw [chP_big (by rw [hl.out]; exact h5)]
    have i5 : (512 : Int) < (m : Int) := by omega
    have hb := Below.refl w.heap.size w
    go_enter Tryz.func12, Tryz.ntmps12
    go_wp2
    go_ret
    exact ⟨rfl, hb⟩
  have i5 : ¬ (512 : Int) < (m : Int) := by omega
  have HV := Lib.hid (valid_any A m c l w hl (by omega) hr)
  have h5' : ¬ 512 < l.length := by rw [hl.out]; exact h5
  clear hr
  by_cases h : okP l
  · rw [decide_eq_true h] at HV
    rw [chP_ok h]
    clear h h5 h5'
    go_enter Tryz.func12, Tryz.ntmps12
    go_wp2_with (first | (go_at_call 38; refine HV.out.mono ?_; rintro e w4 ⟨rfl, b4⟩))
    go_ret
    exact ⟨rfl, b4⟩
  · rw [decide_eq_false h] at HV
    rw [chP_no h5' h]
    clear h h5 h5'
    go_enter Tryz.func12, Tryz.ntmps12
    go_wp2_with (first | (go_at_call 38; refine HV.out.mono ?_; rintro e w4 ⟨rfl, b4⟩))
    go_ret
    exact ⟨rfl, b4⟩

end Go.Proofs.YtfkljlncnfeklaaGreatDoor
