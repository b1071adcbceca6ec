/-
  Plain mathematics and contracts of package diagram, several texts in one: XRq, XRe, XEq, XLo, XMt.
-/
import Derived.Test.YtfkljlncnfeklaaGreatDoorPb
import Derived.Sort.QuietTacIn
import Derived.Test.YtfkljlncnfeklaaGreatDoorPe
import Derived.DeepKeys
import Derived.WalkSmall

/-! A region that draws its order and only reads, in the round of a loop over an iterator: walked once. -/
namespace Go.Proofs.YtfkljlncnfeklaaGreatDoor
open Go.RowKit Go.Shelf
set_option linter.unusedVariables false

theorem region_round_quiet {n : Nat} {P : Program} {id : Nat} {Q : Exit → Act → World → Prop} {a : Act} {w : World} {l : List Oper} {L : Nat} (hm : P.follows .mixedOrders = true) (hnd : noDefer l.toArray = true) (hB : Region.lexB .any l.toArray = true)
    (h : wpQuietIn Fence.wide n P l.toArray (fun w' => ∃ n, w' = w.drewN n) (fun a' => ∀ w', (∃ n, w' = w.drewN n) → Q .normal a' w') l a) : (Code.region id l.toArray true).wpIn (Fence.wide.inRound L) n P Q a w := by
  simp only [Region.lexB, Bool.and_eq_true] at hB
  refine region_round hm hnd (wpAnyIn_of_quiet (C := fun w' => ∃ n, w' = w.drewN n) (Q := fun a' => ∀ w', (∃ n, w' = w.drewN n) → Q .normal a' w') rfl (fun _ w' hw' h => h w' hw') _ _ _ _ ⟨1, rfl⟩ ?_)
  have := wpAnyQIn_lex (F := Fence.wide) (n := n) (P := P) (C := fun w' => ∃ n, w' = w.drewN n) (md := .any) hB.1 l 0 (Array.replicate l.length false) a (by simp) (by simpa using hB.2) h
  simpa using this

end Go.Proofs.YtfkljlncnfeklaaGreatDoor

/-! The machine reads a byte: machine.read. -/
namespace Go.Proofs.YtfkljlncnfeklaaGreatDoor
open Go.RowKit Go.Shelf
set_option linter.unusedVariables false
set_option linter.unusedSimpArgs false
attribute [local go_sem] Oper.semAt_some

theorem pnC_len : ∀ l : List Pn, (pnC l).length = l.length * 5
  | [] => rfl
  | x :: l => by show (c5 x ++ pnC l).length = _; rw [List.length_append, pnC_len l]; simp [c5]; omega
theorem pnC_at : ∀ (l : List Pn) {p i : Nat}, p < l.length → i < 5 → (pnC l)[p * 5 + i]? = (c5 (l.getD p (0, 0, 0, 0, 0)))[i]?
  | [], p, i, h, _ => by simp at h
  | x :: l, 0, i, _, hi => by
    show (c5 x ++ pnC l)[0 * 5 + i]? = _
    rw [List.getElem?_append_left (by simp [c5]; omega), Nat.zero_mul, Nat.zero_add]
    rfl
  | x :: l, p + 1, i, h, hi => by
    show (c5 x ++ pnC l)[(p + 1) * 5 + i]? = _
    rw [List.getElem?_append_right (by simp [c5]; omega)]
    have : (p + 1) * 5 + i - (c5 x).length = p * 5 + i := by simp [c5]; omega
    rw [this, pnC_at l (by simpa using h) hi]
    rfl
/-- the machine as it is read -/
structure RdV (w : World) (mb q fb cr cf : Nat) (r : Rx) (fl : List (List Nat)) (la : List Nat) : Prop where
  c0 : w.cell? ⟨mb, 0, none⟩ = some (.slice (some ⟨q, 0, none⟩) r.pl cr)
  c1 : w.cell? ⟨mb, 1, none⟩ = some (.slice (some ⟨fb, 0, none⟩) r.pl cf)
  rg : ∀ x, x < r.pl → w.cell? ⟨q, x * 5 + 1, none⟩ = some (.int .i64 (((r.rgs.getD x (0, 0)).1 : Nat) : Int)) ∧ w.cell? ⟨q, x * 5 + 2, none⟩ = some (.int .i64 (((r.rgs.getD x (0, 0)).2 : Nat) : Int))
  fo : ∀ x, x < r.pl → Pl w fb (x * 4) (fl.getD x noW)
  pl : Pl w mb 7 la
  bm : mb < w.heap.size
  bq : q < w.heap.size
  bf : fb < w.heap.size
theorem rgL_at {r : Rx} {x : Nat} (h : x < r.pl) : (rgL r).getD x (0, 0, 0, 0, 0) = rgN (r.rgs.getD x (0, 0)) := by
  unfold rgL
  rw [List.getD_eq_getElem?_getD, List.getD_eq_getElem?_getD, List.getElem?_map, List.getElem?_eq_getElem (by rw [Rx.rgs_len]; exact h)]
  rfl
theorem McM.view {w : World} {B mb : Nat} {r : Rx} {vr vf : Value} {fl : List (List Nat)} {f l : List Nat} (h : McM w B mb r vr vf fl f l) (hp : 0 < r.pl) : ∃ q fb cr cf, RdV w mb q fb cr cf r fl l := by
  have h1 := h.ma.rf
  have h2 := h.ma.rs
  have hfl := h.mw.len
  obtain ⟨q, cr, e1, _⟩ := World.ownsRow.form h1 (by rw [rgL_len]; exact hp)
  obtain ⟨fb, cf, e2, _⟩ := World.ownsRow.form h2 (by rw [hfl]; exact hp)
  subst e1
  subst e2
  refine ⟨q, fb, cr, cf, by have := h.ma.cf; rw [rgL_len] at this; exact this, by have := h.ma.cs; rw [hfl] at this; exact this, fun x hx => ?_, fun x hx => FoO.pl h2 (by rw [hfl]; exact hx), h.pl, h.ma.lt, (World.ownsRow.lt h1 q rfl).2, (World.ownsRow.lt h2 fb rfl).2⟩
  have hx' : x < (rgL r).length := by rw [rgL_len]; exact hx
  have e := rgL_at hx
  constructor
  · rw [World.ownsRow.cellAt h1 _ (by omega), pnC_at _ hx' (by omega), e]; rfl
  · rw [World.ownsRow.cellAt h1 _ (by omega), pnC_at _ hx' (by omega), e]; rfl
theorem RdV.below {w w' : World} {mb q fb cr cf : Nat} {r : Rx} {fl : List (List Nat)} {la : List Nat} (h : RdV w mb q fb cr cf r fl la) (hb : Below w.heap.size w w') : RdV w' mb q fb cr cf r fl la :=
  ⟨(hb.cell (p := ⟨mb, _, none⟩) h.bm).trans h.c0, (hb.cell (p := ⟨mb, _, none⟩) h.bm).trans h.c1, fun x hx => ⟨(hb.cell (p := ⟨q, _, none⟩) h.bq).trans (h.rg x hx).1, (hb.cell (p := ⟨q, _, none⟩) h.bq).trans (h.rg x hx).2⟩,
    fun x hx i hi => ⟨(hb.cell (p := ⟨fb, _, none⟩) h.bf).trans (h.fo x hx i hi).1, (hb.frozen (p := ⟨fb, _, none⟩) h.bf).trans (h.fo x hx i hi).2⟩,
    fun i hi => ⟨(hb.cell (p := ⟨mb, _, none⟩) h.bm).trans (h.pl i hi).1, (hb.frozen (p := ⟨mb, _, none⟩) h.bm).trans (h.pl i hi).2⟩, Nat.lt_of_lt_of_le h.bm hb.size, Nat.lt_of_lt_of_le h.bq hb.size, Nat.lt_of_lt_of_le h.bf hb.size⟩

def w4A (ws : List Nat) : Array Value := #[.int .u64 ((gW ws 0 : Nat) : Int), .int .u64 ((gW ws 1 : Nat) : Int), .int .u64 ((gW ws 2 : Nat) : Int), .int .u64 ((gW ws 3 : Nat) : Int)]

theorem Bx.grown {A B : World} {k T : Nat} {cs : Array Value} (h : Bx A k cs T) {row : Option Nat} (g : A.grownBy B row) (hr : ∀ r, row = some r → r ≠ k) : Bx B k cs T := (g.block k h.lt (fun e => hr k e.symm rfl)).trans h
theorem Bx.st4 {w : World} {g : Nat} {a : List Nat} {T : Nat} (h : Bx w g (w4A a) T) (ws : List Nat) : Bx (stP4 w g 0 ws 4) g (w4A ws) T := by
  have h1 := heap_set _ g (0 + 0) (.int .u64 ((ws.getD 0 0 : Nat) : Int)) h
  have h2 := heap_set _ g (0 + 1) (.int .u64 ((ws.getD 1 0 : Nat) : Int)) h1
  have h3 := heap_set _ g (0 + 2) (.int .u64 ((ws.getD 2 0 : Nat) : Int)) h2
  have h4 := heap_set _ g (0 + 3) (.int .u64 ((ws.getD 3 0 : Nat) : Int)) h3
  exact h4
theorem Bx.frz {w : World} {g : Nat} {cs : Array Value} {T : Nat} (h : Bx w g cs T) (i : Nat) : w.frozen? ⟨g, i, none⟩ = false := frozen_of_row _ _ i _ _ h
theorem Bx.pl {w : World} {g : Nat} {a : List Nat} {T : Nat} (h : Bx w g (w4A a) T) : Pl w g 0 a := fun i hi => ⟨by
  rw [h.cell]
  rcases (show i = 0 ∨ i = 1 ∨ i = 2 ∨ i = 3 by omega) with rfl | rfl | rfl | rfl <;> rfl, h.frz _⟩
theorem Bx.drewN {w : World} {g : Nat} {cs : Array Value} {T : Nat} (h : Bx w g cs T) (n : Nat) : Bx (w.drewN n) g cs T := h
theorem keeps_drewN (W : World) : ∀ n, KeepsOthers W (W.drewN n)
  | 0 => KeepsOthers.refl _
  | n + 1 => (keeps_drewN W n).trans (KeepsOthers.drew _)
/-- unite at a variable that holds a set -/
theorem unite_w4 {W : World} {g h o T : Nat} {a b : List Nat} (p : Bx W g (w4A a) T) (q : Pl W h o b) (ha : W4 a) (hb : W4 b) (hne : h ≠ g) :
    Calls Tryz.prog 81 #[.pointer (some ⟨g, 0, none⟩), .pointer (some ⟨h, o, none⟩)] W fun e W' => e = .returned (.tuple #[]) ∧ Bx W' g (w4A (uniW a b)) T ∧ (∀ k, k ≠ g → W'.heap[k]? = W.heap[k]?) ∧ W'.heap.size = W.heap.size ∧ KeepsOthers W W' ∧ (∀ B, B ≤ g → Below B W W') :=
  (unite_any g 0 h o a b W ha hb (Lib.hid p.pl) (Lib.hid q) hne).mono fun e W' ⟨he, n, hw⟩ => by
    subst hw
    exact ⟨he, (p.st4 _).drewN n, fun k hk => stP4_heap W g 0 _ hk 4, stP4_size _ _ _ _ 4, (stP4_keeps W g 0 _ 4).trans (keeps_drewN _ n), fun B hB => below_drewN (stP4_below (Below.refl B W) hB 0 _ 4) n⟩
/-- between two rounds -/
structure JR (w W : World) (h0 mb : Nat) (b : UInt8) (N : List Nat × Bool) : Prop where
  b3 : Bx W h0 #[.pointer (some ⟨mb, 0, none⟩)] 48
  b5 : Bx W (h0 + 1) #[.int .i64 ((b.toNat : Nat) : Int)] 3
  b6 : Bx W (h0 + 2) (w4A noW) 95
  b8 : Bx W (h0 + 3) (w4A N.1) 95
  b9 : Bx W (h0 + 4) #[.bool N.2] 4
  bel : Below h0 w W
theorem JR.grown {w A B : World} {h0 mb : Nat} {b : UInt8} {N : List Nat × Bool} (h : JR w A h0 mb b N) {row : Option Nat} (g : A.grownBy B row) (hr : ∀ r, row = some r → h0 + 5 ≤ r) (hB : h0 ≤ A.heap.size) : JR w B h0 mb b N :=
  ⟨h.b3.grown g (fun r e => by have := hr r e; omega), h.b5.grown g (fun r e => by have := hr r e; omega), h.b6.grown g (fun r e => by have := hr r e; omega), h.b8.grown g (fun r e => by have := hr r e; omega), h.b9.grown g (fun r e => by have := hr r e; omega),
    h.bel.grown g hB (fun r e => by have := hr r e; omega)⟩
theorem JR.drewN {w W : World} {h0 mb : Nat} {b : UInt8} {N : List Nat × Bool} (h : JR w W h0 mb b N) (n : Nat) : JR w (W.drewN n) h0 mb b N := ⟨h.b3, h.b5, h.b6, h.b8, h.b9, below_drewN h.bel n⟩
theorem JR.uni {w W W' : World} {h0 mb : Nat} {b : UInt8} {N1 X : List Nat} {N2 : Bool} (h : JR w W h0 mb b (N1, N2)) (h8 : Bx W' (h0 + 3) (w4A X) 95) (hk : ∀ k, k ≠ h0 + 3 → W'.heap[k]? = W.heap[k]?) (hb : ∀ B, B ≤ h0 + 3 → Below B W W') : JR w W' h0 mb b (X, N2) :=
  ⟨(hk _ (by omega)).trans h.b3, (hk _ (by omega)).trans h.b5, (hk _ (by omega)).trans h.b6, h8, (hk _ (by omega)).trans h.b9, h.bel.trans (hb _ (by omega))⟩
theorem JR.setm {w W : World} {h0 mb : Nat} {b : UInt8} {N1 : List Nat} {N2 : Bool} (h : JR w W h0 mb b (N1, N2)) (v : Bool) : JR w (W.setCell ⟨h0 + 1 + 1 + 1 + 1, 0, none⟩ (.bool v)) h0 mb b (N1, v) :=
  ⟨(hp_set W _ _ _ (by omega)).trans h.b3, (hp_set W _ _ _ (by omega)).trans h.b5, (hp_set W _ _ _ (by omega)).trans h.b6, (hp_set W _ _ _ (by omega)).trans h.b8, heap_set W (h0 + 4) 0 (.bool v) h.b9, h.bel.setCell (p := ⟨h0 + 1 + 1 + 1 + 1, 0, none⟩) (show h0 ≤ h0 + 1 + 1 + 1 + 1 by omega) _⟩
theorem KpS.uni {gr h0 : Nat} {W Wd W' : World} (h : KpS gr W Wd) (hk : ∀ k, k ≠ h0 + 3 → W'.heap[k]? = Wd.heap[k]?) (hg : gr < h0) (ht : 2 < h0) (v : Value) : KpS gr W (W'.setCell ⟨h0 + 1 + 1 + 1 + 1, 0, none⟩ v) :=
  ⟨(hp_set W' _ _ _ (by omega)).trans ((hk _ (by omega)).trans h.set), (hp_set W' _ _ _ (by omega)).trans ((hk _ (by omega)).trans h.tab)⟩
theorem rdW_snoc (rg : List (Nat × Nat)) (fl : List (List Nat)) (la : List Nat) (b : UInt8) (s : List Nat × Bool) (l : List Nat) (x : Nat) : rdW rg fl la b s (l ++ [x]) = rd1 rg fl la b (rdW rg fl la b s l) x := by unfold rdW; rw [List.foldl_append]; rfl
set_option maxRecDepth 100000 in
set_option maxHeartbeats 4000000 in
theorem read_any (B mb gr orr : Nat) (b : UInt8) (r : Rx) (vr vf : Value) (fl : List (List Nat)) (fw lw S : List Nat) (w : World) (hM : Hid (McM w B mb r vr vf fl fw lw)) (hS : W4 S) (hr : Hid (Pl w gr orr S)) (hin : ∀ p ∈ els S, p < r.pl) (ht : Hid (Tz w))
    (s1 : gr < w.heap.size) (s4 : 2 < w.heap.size) :
    CallsIn Fence.wide 9 Tryz.prog 57 #[.pointer (some ⟨mb, 0, none⟩), .pointer (some ⟨gr, orr, none⟩), .int .i64 ((b.toNat : Nat) : Int)] w fun e w' => e = .returned (.tuple #[.agg (w4A (rdW r.rgs fl lw b (noW, false) (els S)).1), .bool (rdW r.rgs fl lw b (noW, false) (els S)).2]) ∧ Below w.heap.size w w' := by
  have h7 : Fence.wide.fn 57 := trivial
  refine callsIn_of_wp_marks Tryz.func57 rfl h7 ?_ rfl
  simp only [Tryz.ntmps57, List.size_toArray, List.length_cons, List.length_nil, Nat.reduceAdd, Nat.reduceSub, Array.replicate_succ, Array.replicate_zero, List.push_toArray, List.append_toArray, List.nil_append, List.cons_append]
  gi_wp2_with (refine ⟨trivial, ?_⟩; gi_at_call 80; refine (all_any _ _ _).mono ?_; rintro e w' ⟨rfl, rfl⟩)
  have R0 : ∀ W1, (((((w.alloc (.cells #[.pointer (some ⟨mb, 0, none⟩)] 48)).alloc (.cells #[.int .i64 ((b.toNat : Nat) : Int)] 3)).alloc (.cells (w4A noW) 95)).alloc (.cells (w4A noW) 95)).alloc (.cells #[.bool false] 4)).alloc (.cells #[.pointer (some ⟨gr, orr, none⟩)] 107) = W1 →
      JR w W1 w.heap.size mb b (noW, false) ∧ W1.cell? ⟨w.heap.size + 5, 0, none⟩ = some (.pointer (some ⟨gr, orr, none⟩)) ∧ W1.heap.size = w.heap.size + 6 := by
    rintro W1 rfl
    refine ⟨⟨?_, ?_, ?_, ?_, ?_, ?_⟩, ?_, by simp⟩
    · repeat (first | exact bx_new (by simp) _ _ | refine bx_al ?_ _)
    · repeat (first | exact bx_new (by simp) _ _ | refine bx_al ?_ _)
    · refine bx_al (bx_al (bx_al (bx_new (by simp) _ _) _) _) _
    · refine bx_al (bx_al (bx_new (by simp) _ _) _) _
    · repeat (first | exact bx_new (by simp) _ _ | refine bx_al ?_ _)
    · repeat (first | exact Below.refl _ _ | refine Below.alloc ?_ (by simp; try omega) _)
    · exact (bx_new (by simp) _ _ : Bx _ _ _ _).cell 0
  generalize hW1 : World.alloc (World.alloc (World.alloc (World.alloc (World.alloc (World.alloc w _) _) _) _) _) _ = W1
  obtain ⟨J0, cb, hz⟩ := R0 _ hW1
  clear hW1 R0
  have ht1 : Tz W1 := fun j hj => (World.cell?_of_block (w := w) (J0.bel.block _ s4)).trans (ht.out j hj)
  have hs0 : w.heap.size + 1 + 1 + 1 + 1 + 1 = w.heap.size + 5 := rfl
  have hr1 : Pl W1 gr orr S := fun i hi => ⟨(J0.bel.cell (p := ⟨gr, _, none⟩) s1).trans (hr.out i hi).1, (J0.bel.frozen (p := ⟨gr, _, none⟩) s1).trans (hr.out i hi).2⟩
  refine wpIn_rangeFunc_ownF rfl (by decide) (gf := 96) (lb := #[.pointer (some ⟨w.heap.size + 1 + 1 + 1 + 1 + 1, 0, none⟩)]) rfl trivial (enters_of Tryz.func96 (by kernel_rfl) rfl)
    (all_stops 8 (by decide) (w.heap.size + 5) gr orr S hS W1 (by omega) (by omega) (by omega) cb (lid' hr1) (lid' ht1)) (fun h k => KpS.trans h k) (KpS.lay (by omega) (by omega)) (Below.refl _ _) (fun _ => rfl)
    (fun pre W => JR w W w.heap.size mb b (rdW r.rgs fl lw b (noW, false) (vals pre)))
    (fun _ _ _ => False)
    ?hI (fun _ _ _ _ _ hs _ _ => hs) J0
    (fun x : Pla S => { tmps := #[.pointer (some ⟨mb, 0, none⟩), .pointer (some ⟨gr, orr, none⟩), .int .i64 ((b.toNat : Nat) : Int), .pointer (some ⟨w.heap.size, 0, none⟩), undef, .pointer (some ⟨w.heap.size + 1, 0, none⟩), .pointer (some ⟨w.heap.size + 1 + 1, 0, none⟩), .bool false, .pointer (some ⟨w.heap.size + 1 + 1 + 1, 0, none⟩), .pointer (some ⟨w.heap.size + 1 + 1 + 1 + 1, 0, none⟩), .int .i64 ((x.1 : Nat) : Int), undef, .pointer (some ⟨gr, orr, none⟩), .func (.func 96) #[] #[.pointer (some ⟨w.heap.size + 1 + 1 + 1 + 1 + 1, 0, none⟩)], .int .i64 ((x.1 : Nat) : Int), undef, undef, undef, undef, undef, undef, undef, undef, undef, undef, undef, undef, undef, undef, undef, undef, undef, undef, undef, undef, undef, undef, undef, undef, undef, undef, undef, undef, undef, undef, undef, undef, undef, undef, undef, undef, undef, undef], defers := [] }) ?assign ?body ?done ?stop
  case hI =>
    intro s A B row hs hg hr
    have hr' : ∀ r, row = some r → w.heap.size + 6 ≤ r := fun r e => by have := (hr r e).1; omega
    exact hs.grown hg (fun r e => by have := hr' r e; omega) (by have := hs.bel.size; omega)
  case assign =>
    intro l x W K hK
    gi_wp2
    exact hK
  case body =>
    rintro l pre x W hJ hl
    obtain ⟨x, hxm⟩ := x
    have hx : x < r.pl := hin x hxm
    obtain ⟨q, fb, cr, cf, V0⟩ := hM.out.view (by omega)
    have V := V0.below hJ.bel
    have hsn : rdW r.rgs fl lw b (noW, false) (vals (pre ++ [⟨x, hxm⟩])) = rd1 r.rgs fl lw b (rdW r.rgs fl lw b (noW, false) (vals pre)) x := by rw [vals_snoc, rdW_snoc]
    have hN4 : W4 (rdW r.rgs fl lw b (noW, false) (vals pre)).1 := rdW_w4 hM.out.mw b _ _ no_w4 (fun p hp => by
      obtain ⟨y, _, rfl⟩ := List.mem_map.1 hp
      exact hin _ y.2)
    have hf4 : W4 (fl.getD x noW) := hM.out.mw.all x (by rw [hM.out.mw.len]; exact hx)
    obtain ⟨hlo, hhi⟩ := V.rg x hx
    have hfo := V.fo x hx
    have hpl := V.pl
    have hrd : rd1 r.rgs fl lw b (rdW r.rgs fl lw b (noW, false) (vals pre)) x = if inR (r.rgs.getD x (0, 0)) b then (uniW (rdW r.rgs fl lw b (noW, false) (vals pre)).1 (fl.getD x noW), (rdW r.rgs fl lw b (noW, false) (vals pre)).2 || hasW lw x) else rdW r.rgs fl lw b (noW, false) (vals pre) := rfl
    rw [hrd] at hsn
    generalize rdW r.rgs fl lw b (noW, false) (vals pre) = N at *
    generalize hrx : r.rgs.getD x (0, 0) = rx at *
    obtain ⟨lo, hi⟩ := rx
    obtain ⟨N1, N2⟩ := N
    have HJ := lid' hJ
    have HSN := lid' hsn
    have x0 := hJ.b3.cell 0
    have x5 := hJ.b5.cell 0
    have m0 := V.c0
    have m1 := V.c1
    simp at x0 x5
    have i1 : (0 : Int) ≤ (x : Int) := by omega
    have i2 : (x : Int) < (r.pl : Int) := by omega
    have hl4 := hM.out.mw.pr.l4
    have hx256 : x < 256 := by have := hM.out.mw.pl; omega
    have hfb3 : fb ≠ w.heap.size + 3 := by have := V0.bf; omega
    have hn43 : w.heap.size + 4 ≠ w.heap.size + 3 := by omega
    have hn03 : w.heap.size ≠ w.heap.size + 3 := by omega
    have hnm3 : mb ≠ w.heap.size + 3 := by have := V0.bm; omega
    clear hJ hsn hrd V V0 hM hr ht hr1 ht1 cb hl hin
    dsimp only at hlo hhi hN4
    generalize hbn : b.toNat = bn at *
    by_cases c1 : lo ≤ bn
    · have d1 : ((lo : Nat) : Int) ≤ (bn : Int) := by omega
      by_cases c2 : bn ≤ hi
      · have d2 : ((bn : Nat) : Int) ≤ (hi : Int) := by omega
        have hin' : Hid (rdW r.rgs fl lw b (noW, false) (vals (pre ++ [⟨x, hxm⟩])) = (uniW N1 (fl.getD x noW), N2 || hasW lw x)) := lid' (by rw [HSN.out, if_pos]; unfold inR; rw [hbn, decide_eq_true c1, decide_eq_true c2]; rfl)
        clear HSN
        dsimp only
        gi_wp2
        refine region_round_quiet (by kernel_rfl) (by kernel_rfl) (by kernel_rfl) ?_
        repeat (quiet_step_in (fail))
        refine wpQuietIn_nil ?_
        rintro w9 ⟨nq, rfl⟩
        have HU := lid' (unite_w4 (HJ.out.b8.drewN nq) (show Pl (W.drewN nq) fb (x * 4) (fl.getD x noW) from hfo) hN4 hf4 hfb3)
        have HJd := lid' (HJ.out.drewN nq)
        have HPd : Hid (Pl (W.drewN nq) mb 7 lw) := lid' hpl
        have HX : Hid ((W.drewN nq).cell? ⟨w.heap.size, 0, none⟩ = some (.pointer (some ⟨mb, 0, none⟩))) := lid' x0
        have HKO := lid' (keeps_drewN W nq)
        have HKP : Hid (KpS gr W (W.drewN nq)) := lid' ⟨rfl, rfl⟩
        have hx0' : (W.drewN nq).cell? ⟨w.heap.size, 0, none⟩ = some (.pointer (some ⟨mb, 0, none⟩)) := x0
        have hm1' : (W.drewN nq).cell? ⟨mb, 1, none⟩ = some (.slice (some ⟨fb, 0, none⟩) r.pl cf) := m1
        clear HJ hpl x0 x5 m0 m1 hlo hhi hfo
        generalize W.drewN nq = Wd at *
        rcases N2 with _ | _
        · gi_wp2_with (first
            | (refine ⟨trivial, ?_⟩; gi_at_call 81; refine (CallsIn.inRound l (callsIn_wide.2 HU.out)).mono ?_; rintro e w5 ⟨rfl, h8, hk, hsz, hko, hbl⟩; have z9 : w5.cell? ⟨w.heap.size + 1 + 1 + 1 + 1, 0, none⟩ = some (.bool false) := (World.cell?_of_block (w := Wd) (hk _ hn43)).trans (HJd.out.b9.cell 0); have zf : w5.frozen? ⟨w.heap.size + 1 + 1 + 1 + 1, 0, none⟩ = false := (World.frozen?_of_block (w := Wd) (hk _ hn43)).trans (HJd.out.b9.frz 0); have z0 : w5.cell? ⟨w.heap.size, 0, none⟩ = some (.pointer (some ⟨mb, 0, none⟩)) := (World.cell?_of_block (w := Wd) (hk _ hn03)).trans HX.out; have HHA := lid' (has_any mb 7 x lw w5 hx256 hl4 (lid' (fun i hi => ⟨(World.cell?_of_block (w := Wd) (hk _ hnm3)).trans (HPd.out i hi).1, (World.frozen?_of_block (w := Wd) (hk _ hnm3)).trans (HPd.out i hi).2⟩))))
            | (refine ⟨trivial, ?_⟩; gi_at_call 82; refine (CallsIn.inRound l (callsIn_wide.2 HHA.out)).mono ?_; rintro e w6 ⟨rfl, rfl⟩))
          exact ⟨HKO.out.trans (hko.trans (KeepsOthers.setCell _ _ _)), KpS.uni HKP.out hk s1 s4 _, by dsimp only; rw [hin'.out]; exact (HJd.out.uni h8 hk hbl).setm _⟩
        · gi_wp2_with (refine ⟨trivial, ?_⟩; gi_at_call 81; refine (CallsIn.inRound l (callsIn_wide.2 HU.out)).mono ?_; rintro e w5 ⟨rfl, h8, hk, hsz, hko, hbl⟩; have z9 : w5.cell? ⟨w.heap.size + 1 + 1 + 1 + 1, 0, none⟩ = some (.bool true) := (World.cell?_of_block (w := Wd) (hk _ hn43)).trans (HJd.out.b9.cell 0); have zf : w5.frozen? ⟨w.heap.size + 1 + 1 + 1 + 1, 0, none⟩ = false := (World.frozen?_of_block (w := Wd) (hk _ hn43)).trans (HJd.out.b9.frz 0))
          refine ⟨trivial, ?_⟩
          gi_wp2
          exact ⟨HKO.out.trans (hko.trans (KeepsOthers.setCell _ _ _)), KpS.uni HKP.out hk s1 s4 _, by dsimp only; rw [hin'.out]; exact (HJd.out.uni h8 hk hbl).setm _⟩
      · have d2 : ¬ ((bn : Nat) : Int) ≤ (hi : Int) := by omega
        have hin' : Hid (rdW r.rgs fl lw b (noW, false) (vals (pre ++ [⟨x, hxm⟩])) = (N1, N2)) := lid' (by rw [HSN.out, if_neg]; unfold inR; rw [hbn, decide_eq_true c1, decide_eq_false c2]; decide)
        clear HSN
        dsimp only
        gi_wp2
        refine region_round_quiet (by kernel_rfl) (by kernel_rfl) (by kernel_rfl) ?_
        repeat (quiet_step_in (fail))
        refine wpQuietIn_nil ?_
        rintro w9 ⟨nq, rfl⟩
        gi_wp2
        exact ⟨keeps_drewN W nq, ⟨rfl, rfl⟩, by dsimp only; rw [hin'.out]; exact HJ.out.drewN nq⟩
    · have d1 : ¬ ((lo : Nat) : Int) ≤ (bn : Int) := by omega
      have hin' : Hid (rdW r.rgs fl lw b (noW, false) (vals (pre ++ [⟨x, hxm⟩])) = (N1, N2)) := lid' (by rw [HSN.out, if_neg]; unfold inR; rw [hbn, decide_eq_false c1]; exact Bool.false_ne_true)
      clear HSN
      dsimp only
      gi_wp2
      refine region_round_quiet (by kernel_rfl) (by kernel_rfl) (by kernel_rfl) ?_
      repeat (quiet_step_in (fail))
      refine wpQuietIn_nil ?_
      rintro w9 ⟨nq, rfl⟩
      gi_wp2
      exact ⟨keeps_drewN W nq, ⟨rfl, rfl⟩, by dsimp only; rw [hin'.out]; exact HJ.out.drewN nq⟩
  case done =>
    rintro D ys W hD hys hJ hK
    rw [hys] at hJ
    have z8 := hJ.b8
    have hE : Hid (∀ W', Below w.heap.size w W' → Below w.heap.size w W') := lid' (fun _ h => h)
    obtain ⟨N1, N2, hN⟩ : ∃ N1 N2, rdW r.rgs fl lw b (noW, false) (els S) = (N1, N2) := ⟨_, _, rfl⟩
    rw [hN] at hJ z8
    have HN := lid' hN
    clear hN
    obtain ⟨s0, s1', s2, s3⟩ : W.cell? ⟨w.heap.size + 1 + 1 + 1, 0, none⟩ = some (.int .u64 ((gW N1 0 : Nat) : Int)) ∧ W.cell? ⟨w.heap.size + 1 + 1 + 1, 1, none⟩ = some (.int .u64 ((gW N1 1 : Nat) : Int)) ∧ W.cell? ⟨w.heap.size + 1 + 1 + 1, 2, none⟩ = some (.int .u64 ((gW N1 2 : Nat) : Int)) ∧ W.cell? ⟨w.heap.size + 1 + 1 + 1, 3, none⟩ = some (.int .u64 ((gW N1 3 : Nat) : Int)) := ⟨z8.cell 0, z8.cell 1, z8.cell 2, z8.cell 3⟩
    have t9 : W.cell? ⟨w.heap.size + 1 + 1 + 1 + 1, 0, none⟩ = some (.bool N2) := hJ.b9.cell 0
    obtain ⟨r0, r1, r2, r3⟩ : (∃ v, W.cell? ⟨w.heap.size + 1 + 1, 0, none⟩ = some v) ∧ (∃ v, W.cell? ⟨w.heap.size + 1 + 1, 1, none⟩ = some v) ∧ (∃ v, W.cell? ⟨w.heap.size + 1 + 1, 2, none⟩ = some v) ∧ (∃ v, W.cell? ⟨w.heap.size + 1 + 1, 3, none⟩ = some v) := ⟨⟨_, hJ.b6.cell 0⟩, ⟨_, hJ.b6.cell 1⟩, ⟨_, hJ.b6.cell 2⟩, ⟨_, hJ.b6.cell 3⟩⟩
    obtain ⟨v0, r0⟩ := r0
    obtain ⟨v1, r1⟩ := r1
    obtain ⟨v2, r2⟩ := r2
    obtain ⟨v3, r3⟩ := r3
    have rf := hJ.b6.frz
    have HJ := lid' hJ
    clear hJ z8
    dsimp only
    gi_wp2
    gi_region
    have q6 := HJ.out.b6.st4 N1
    have kD : D ≠ w.heap.size + 1 + 1 := by omega
    have kS : (stP4 W (w.heap.size + 2) 0 N1 4).heap[D]? = W.heap[D]? := stP4_heap W (w.heap.size + 2) 0 N1 (fun e => kD e) 4
    have bS := stP4_below HJ.out.bel (g := w.heap.size + 2) (by omega) 0 N1 4
    have hK7 : ((((W.setCell ⟨w.heap.size + 1 + 1, 0, none⟩ (.int .u64 ((gW N1 0 : Nat) : Int))).setCell ⟨w.heap.size + 1 + 1, 1, none⟩ (.int .u64 ((gW N1 1 : Nat) : Int))).setCell ⟨w.heap.size + 1 + 1, 2, none⟩ (.int .u64 ((gW N1 2 : Nat) : Int))).setCell ⟨w.heap.size + 1 + 1, 3, none⟩ (.int .u64 ((gW N1 3 : Nat) : Int))).drew.heap[D]? = some (.deferred (some [])) := kS.trans hK
    have q7 : Bx ((((W.setCell ⟨w.heap.size + 1 + 1, 0, none⟩ (.int .u64 ((gW N1 0 : Nat) : Int))).setCell ⟨w.heap.size + 1 + 1, 1, none⟩ (.int .u64 ((gW N1 1 : Nat) : Int))).setCell ⟨w.heap.size + 1 + 1, 2, none⟩ (.int .u64 ((gW N1 2 : Nat) : Int))).setCell ⟨w.heap.size + 1 + 1, 3, none⟩ (.int .u64 ((gW N1 3 : Nat) : Int))).drew (w.heap.size + 1 + 1) (w4A N1) 95 := q6
    have b7 : Below w.heap.size w ((((W.setCell ⟨w.heap.size + 1 + 1, 0, none⟩ (.int .u64 ((gW N1 0 : Nat) : Int))).setCell ⟨w.heap.size + 1 + 1, 1, none⟩ (.int .u64 ((gW N1 1 : Nat) : Int))).setCell ⟨w.heap.size + 1 + 1, 2, none⟩ (.int .u64 ((gW N1 2 : Nat) : Int))).setCell ⟨w.heap.size + 1 + 1, 3, none⟩ (.int .u64 ((gW N1 3 : Nat) : Int))).drew := bS.drew
    generalize ((((W.setCell ⟨w.heap.size + 1 + 1, 0, none⟩ (.int .u64 ((gW N1 0 : Nat) : Int))).setCell ⟨w.heap.size + 1 + 1, 1, none⟩ (.int .u64 ((gW N1 1 : Nat) : Int))).setCell ⟨w.heap.size + 1 + 1, 2, none⟩ (.int .u64 ((gW N1 2 : Nat) : Int))).setCell ⟨w.heap.size + 1 + 1, 3, none⟩ (.int .u64 ((gW N1 3 : Nat) : Int))).drew = w7 at *
    have q8 : Bx (w7.putObj D (.deferred none)) (w.heap.size + 1 + 1) (w4A N1) 95 := q7.grown (grownBy_putObj' _ D _) (fun r e => by cases e; omega)
    have b8 : Below w.heap.size w (w7.putObj D (.deferred none)) := b7.grown (grownBy_putObj' _ D _) b7.size (fun r e => by cases e; omega)
    gi_wp2
    refine ⟨by simp, .inl ⟨_, _, rfl, run_takeDeferred hK7, ?_⟩⟩
    have u0 := q8.cell 0
    have u1 := q8.cell 1
    have u2 := q8.cell 2
    have u3 := q8.cell 3
    generalize w7.putObj D (.deferred none) = w8 at *
    simp [w4A] at u0 u1 u2 u3
    refine ⟨.tuple #[.agg (w4A N1), .bool N2], ?_, by rw [HN.out], b8⟩
    rw [results_cell_tmp rfl]
    unfold w4A
    go_simp
  case stop =>
    rintro D c pre W _ _ h _
    exact h.elim

end Go.Proofs.YtfkljlncnfeklaaGreatDoor

/-! Sets of places are compared with none. -/
namespace Go.Proofs.YtfkljlncnfeklaaGreatDoor
open Go.RowKit
set_option linter.unusedVariables false
set_option linter.unusedSimpArgs false

theorem key97 : Tryz.prog.keyTypeAt 2 95 = true := by kernel_rfl
theorem lit1 {a : Nat} (h : a < 18446744073709551616) : Tryz.prog.keyLits 1 93 [.int .u64 (a : Int)] = some [.int .u64 (a : Int)] := by
  have hw : (Lit.int .u64 (a : Int)).wf = true := by
    simp [Lit.wf, IntKind.min, IntKind.max, IntKind.signed, IntKind.bits]
    omega
  unfold Program.keyLits
  rw [Tryz.underlying93]
  simp [hw]
theorem cells97 : Tryz.prog.cellsOf 95 = 4 := by kernel_rfl
theorem cells64 : Tryz.prog.cellsOf 93 = 1 := by kernel_rfl
theorem und97 : Tryz.prog.underlying 95 = some (.array 4 93) := by kernel_rfl
theorem lits97 {a b c d : Nat} (ha : a < 18446744073709551616) (hb : b < 18446744073709551616) (hc : c < 18446744073709551616) (hd : d < 18446744073709551616) : Tryz.prog.keyLits 2 95 [.int .u64 (a : Int), .int .u64 (b : Int), .int .u64 (c : Int), .int .u64 (d : Int)] = some [.int .u64 (a : Int), .int .u64 (b : Int), .int .u64 (c : Int), .int .u64 (d : Int)] := by
  have e : (List.range 4) = [0, 1, 2, 3] := rfl
  unfold Program.keyLits
  rw [und97]
  dsimp only
  rw [cells97, cells64, if_pos (show ([Value.int .u64 (a : Int), .int .u64 (b : Int), .int .u64 (c : Int), .int .u64 (d : Int)]).length = 4 from rfl), e]
  simp only [List.mapM_cons, List.mapM_nil]
  have h0 := lit1 ha
  have h1 := lit1 hb
  have h2 := lit1 hc
  have h3 := lit1 hd
  simp [h0, h1, h2, h3]
theorem formed97 (a b c d : Nat) : (Value.agg #[.int .u64 (a : Int), .int .u64 (b : Int), .int .u64 (c : Int), .int .u64 (d : Int)]).formed Tryz.prog 95 = true := by kernel_rfl
theorem eq_w4 (w : World) {a b c d : Nat} (ha : a < 18446744073709551616) (hb : b < 18446744073709551616) (hc : c < 18446744073709551616) (hd : d < 18446744073709551616) : ∃ r : Bool, (Op.equalIn 10000 95 (.agg #[.int .u64 (a : Int), .int .u64 (b : Int), .int .u64 (c : Int), .int .u64 (d : Int)]) (.agg #[.int .u64 0, .int .u64 0, .int .u64 0, .int .u64 0])).run Tryz.prog w = .ok r w ∧ (r = true ↔ a = 0 ∧ b = 0 ∧ c = 0 ∧ d = 0) := by
  obtain ⟨r, h1, h2⟩ := run_equalIn_deep 9998 2 95 key97 w 2 2 (.agg #[.int .u64 (a : Int), .int .u64 (b : Int), .int .u64 (c : Int), .int .u64 (d : Int)]) (.agg #[.int .u64 0, .int .u64 0, .int .u64 0, .int .u64 0]) _ _ (formed97 a b c d) (formed97 0 0 0 0) (lits97 ha hb hc hd) (lits97 (by decide) (by decide) (by decide) (by decide))
  refine ⟨r, ?_, ?_⟩
  · exact h1
  · rw [h2]
    constructor
    · intro e
      simp at e
      omega
    · rintro ⟨rfl, rfl, rfl, rfl⟩
      rfl

end Go.Proofs.YtfkljlncnfeklaaGreatDoor

/-! machine.longest. -/
namespace Go.Proofs.YtfkljlncnfeklaaGreatDoor
open Go.RowKit Go.Shelf
set_option linter.unusedVariables false
set_option linter.unusedSimpArgs false
attribute [local go_sem ↓] Go.wp_at_zero Go.wp_at_succ

theorem MaM.below {w w' : World} {B g o : Nat} {vf vs : Value} {l : List Pn} {z : List (List Nat)} (h : MaM w B g o vf vs l z) (hb : Below w.heap.size w w') : MaM w' B g o vf vs l z := h.keep hb
theorem McM.below {w w' : World} {B mb : Nat} {r : Rx} {vr vf : Value} {fl : List (List Nat)} {f l : List Nat} (h : McM w B mb r vr vf fl f l) (hb : Below w.heap.size w w') : McM w' B mb r vr vf fl f l :=
  ⟨h.ma.keep hb, h.sm, (hb.cell (p := ⟨mb, _, none⟩) h.ma.lt).trans h.em, fun i hi => ⟨(hb.cell (p := ⟨mb, _, none⟩) h.ma.lt).trans (h.pf i hi).1, (hb.frozen (p := ⟨mb, _, none⟩) h.ma.lt).trans (h.pf i hi).2⟩, fun i hi => ⟨(hb.cell (p := ⟨mb, _, none⟩) h.ma.lt).trans (h.pl i hi).1, (hb.frozen (p := ⟨mb, _, none⟩) h.ma.lt).trans (h.pl i hi).2⟩, h.mw⟩
/-- reading is under way -/
structure LoJ (w W : World) (H : Nat) (r : Rx) (s : List UInt8) (i : Nat) (n : Int) : Prop where
  bel : Below H w W
  ex : ∃ (S : Nat → Bool) (wd : List Nat), Bx W H (w4A wd) 95 ∧ IsS r wd S ∧ lng r s = lgo r S (s.drop i) i n
  bnd : -1 ≤ n ∧ n ≤ (i : Int)

set_option maxHeartbeats 4000000 in
set_option maxRecDepth 100000 in
theorem longest_any (B mb : Nat) (r : Rx) (vr vf : Value) (fl : List (List Nat)) (fw lw : List Nat) (s : ByteArray) (w : World) (hM : Hid (McM w B mb r vr vf fl fw lw)) (ht : Hid (Tz w)) (s4 : 2 < w.heap.size) (hs : s.size ≤ 9223372036854775806) :
    Calls Tryz.prog 29 #[.pointer (some ⟨mb, 0, none⟩), .string s] w fun e w' => e = .returned (.int .i64 (lng r s.data.toList)) ∧ Below w.heap.size w w' := by
  have c2 := hM.out.em
  have p3 := hM.out.pf 0 (by omega)
  have p4 := hM.out.pf 1 (by omega)
  have p5 := hM.out.pf 2 (by omega)
  have p6 := hM.out.pf 3 (by omega)
  have q3 : w.cell? ⟨mb, 3, none⟩ = some (.int .u64 ((gW fw 0 : Nat) : Int)) := p3.1
  have q4 : w.cell? ⟨mb, 4, none⟩ = some (.int .u64 ((gW fw 1 : Nat) : Int)) := p4.1
  have q5 : w.cell? ⟨mb, 5, none⟩ = some (.int .u64 ((gW fw 2 : Nat) : Int)) := p5.1
  have q6 : w.cell? ⟨mb, 6, none⟩ = some (.int .u64 ((gW fw 3 : Nat) : Int)) := p6.1
  clear p3 p4 p5 p6
  have hst := hM.out.mw.start
  have HN : Hid (∀ n0 : Int, n0 = (if r.nul then 0 else -1) → LoJ w (w.alloc (.cells (w4A fw) 95)) w.heap.size r s.data.toList 0 n0) := Lib.hid (fun n0 hn => ⟨(Below.refl _ _).alloc (Nat.le_refl _) _, ⟨r.fst 0, fw, bx_new rfl _ _, hst, by rw [hn]; rfl⟩, by rw [hn]; split <;> omega⟩)
  have HB : Hid (∀ n0 : Int, (if r.nul then 0 else -1) = n0 → True) := Lib.hid (fun _ _ => trivial)
  unfold w4A at HN
  rcases hnul : r.nul with _ | _
  all_goals
    rw [hnul] at c2 HN
    go_enter Tryz.func29, Tryz.ntmps29
    go_upto_region 5 with fail
    have J0 := HN.out _ rfl
    generalize w.alloc _ = w1 at *
    clear HN HB
    go_wp2
    go_loopw [5, 7] (fun v5 v7 wr => ∃ (i : Nat) (n : Int), i ≤ s.size ∧ v7 = .int .i64 (i : Int) ∧ v5 = .int .i64 n ∧ Hid (LoJ w wr w.heap.size r s.data.toList i n)) (fun v5 v7 _ => s.size - (intOf v7).toNat)
    case atStart => exact ⟨0, _, Nat.zero_le _, rfl, rfl, Lib.hid J0⟩
    case round =>
      clear J0 q3 q4 q5 q6 c2
      obtain ⟨i, n, hi, rfl, rfl, hJ⟩ := hrel
      obtain ⟨S, wd, hX, hIS, hl⟩ := hJ.out.ex
      have HL := Lib.hid hl
      by_cases hlt : i < s.size
      · have i1 : (i : Int) < (s.size : Int) := by omega
        obtain ⟨z, hz1, hz2⟩ := eq_w4 wr (a := gW wd 0) (b := gW wd 1) (c := gW wd 2) (d := gW wd 3) (hIS.w4.2 0) (hIS.w4.2 1) (hIS.w4.2 2) (hIS.w4.2 3)
        obtain ⟨x0, x1, x2, x3⟩ : wr.cell? ⟨w.heap.size, 0, none⟩ = some (.int .u64 ((gW wd 0 : Nat) : Int)) ∧ wr.cell? ⟨w.heap.size, 1, none⟩ = some (.int .u64 ((gW wd 1 : Nat) : Int)) ∧ wr.cell? ⟨w.heap.size, 2, none⟩ = some (.int .u64 ((gW wd 2 : Nat) : Int)) ∧ wr.cell? ⟨w.heap.size, 3, none⟩ = some (.int .u64 ((gW wd 3 : Nat) : Int)) := ⟨hX.cell 0, hX.cell 1, hX.cell 2, hX.cell 3⟩
        rcases z with _ | _
        · have HM1 := Lib.hid (hM.out.below hJ.out.bel)
          have ht1 : Hid (Tz wr) := Lib.hid (fun j hj => (World.cell?_of_block (w := w) (hJ.out.bel.block _ s4)).trans (ht.out j hj))
          obtain ⟨bt, hbt, hdr⟩ : ∃ bt, (∀ h, ((s[i]'h).toNat : Int) = (bt.toNat : Int)) ∧ s.data.toList.drop i = bt :: s.data.toList.drop (i + 1) := ⟨s[i], fun _ => rfl, by rw [List.drop_eq_getElem_cons (by rw [Array.length_toList]; exact hlt)]; rfl⟩
          have hpl := hM.out.mw.pl
          have HR := Lib.hid (callsIn_wide.1 (read_any B mb w.heap.size 0 bt r vr vf fl fw lw wd wr HM1 hIS.w4 (Lib.hid hX.pl) (fun p hp => hIS.inn p ((hIS.els hpl).1 hp)) ht1 hX.lt (Nat.lt_of_lt_of_le s4 hJ.out.bel.size)))
          obtain ⟨hIS2, hfin⟩ := read_ok hM.out.mw hIS bt
          generalize hN1 : (rdW r.rgs fl lw bt (noW, false) (els wd)).1 = N1 at *
          generalize hN2 : (rdW r.rgs fl lw bt (noW, false) (els wd)).2 = N2 at *
          unfold w4A at HR
          have HX := Lib.hid hX
          have H2 := Lib.hid hIS2
          have HFI := Lib.hid hfin
          have HDR := Lib.hid hdr
          clear hl hIS2 hfin hdr hIS hX hz2
          have hb256 : bt.toNat < 256 := bt.toNat_lt
          generalize bt.toNat = bn at *
          go_upto_region 9 with (go_at_call 57; with_reducible refine HR.out.mono ?_; rintro e w2 ⟨rfl, hb2⟩)
          have A8 : Bx (w2.alloc (.cells (w4A N1) 95)) w2.heap.size (w4A N1) 95 := bx_new rfl _ _
          have AR : Bx (w2.alloc (.cells (w4A N1) 95)) w.heap.size (w4A wd) 95 := bx_al (HX.out.below hb2) _
          have AB : Below w.heap.size w (w2.alloc (.cells (w4A N1) 95)) := (hJ.out.bel.trans (hb2.mono hJ.out.bel.size)).alloc (Nat.le_trans hJ.out.bel.size hb2.size) _
          have hne8 : w.heap.size ≠ w2.heap.size := by have := HX.out.lt; have := hb2.size; omega
          unfold w4A at A8 AR AB
          generalize w2.heap.size = h8 at *
          generalize World.alloc w2 _ = w3 at *
          obtain ⟨y0, y1, y2, y3⟩ : w3.cell? ⟨h8, 0, none⟩ = some (.int .u64 ((gW N1 0 : Nat) : Int)) ∧ w3.cell? ⟨h8, 1, none⟩ = some (.int .u64 ((gW N1 1 : Nat) : Int)) ∧ w3.cell? ⟨h8, 2, none⟩ = some (.int .u64 ((gW N1 2 : Nat) : Int)) ∧ w3.cell? ⟨h8, 3, none⟩ = some (.int .u64 ((gW N1 3 : Nat) : Int)) := ⟨A8.cell 0, A8.cell 1, A8.cell 2, A8.cell 3⟩
          obtain ⟨x0, x1, x2, x3⟩ : w3.cell? ⟨w.heap.size, 0, none⟩ = some (.int .u64 ((gW wd 0 : Nat) : Int)) ∧ w3.cell? ⟨w.heap.size, 1, none⟩ = some (.int .u64 ((gW wd 1 : Nat) : Int)) ∧ w3.cell? ⟨w.heap.size, 2, none⟩ = some (.int .u64 ((gW wd 2 : Nat) : Int)) ∧ w3.cell? ⟨w.heap.size, 3, none⟩ = some (.int .u64 ((gW wd 3 : Nat) : Int)) := ⟨AR.cell 0, AR.cell 1, AR.cell 2, AR.cell 3⟩
          have xf : ∀ k, w3.frozen? ⟨w.heap.size, k, none⟩ = false := fun k => AR.frz k
          have HA := Lib.hid AR
          have HB := Lib.hid AB
          have hj0 := hJ.out.bnd
          clear A8 AR AB hJ HX HR hb2 HM1 ht1 hN1 hN2
          have HF : Hid (∀ (W : World) (m : Int), Bx W w.heap.size (w4A N1) 95 → Below w.heap.size w W → m = (if N2 then (i : Int) + 1 else n) → LoJ w W w.heap.size r s.data.toList (i + 1) m) := Lib.hid (fun W m h1 h2 h3 => ⟨h2, ⟨stp r S bt, N1, h1, H2.out, by rw [HL.out, HDR.out, h3, HFI.out]; rfl⟩, by rw [h3]; split <;> omega⟩)
          rcases N2 with _ | _
          all_goals
            go_wp2
            go_roundw
            case rel =>
              refine ⟨i + 1, _, by omega, rfl, rfl, Lib.hid (HF.out _ _ ?_ ?_ rfl)⟩
              · exact Bx.st4 HA.out N1
              · exact (((HB.out.setCell (p := ⟨w.heap.size, _, none⟩) (Nat.le_refl _) _).setCell (p := ⟨w.heap.size, _, none⟩) (Nat.le_refl _) _).setCell (p := ⟨w.heap.size, _, none⟩) (Nat.le_refl _) _).setCell (p := ⟨w.heap.size, _, none⟩) (Nat.le_refl _) _
            case measure =>
              simp only [intOf]
              omega
        · have hd : lng r s.data.toList = n := by
            rw [hl, lgo_dead]
            refine hIS.dead hM.out.mw.pl (fun j hj => ?_)
            obtain ⟨y0, y1, y2, y3⟩ := hz2.1 rfl
            rcases (show j = 0 ∨ j = 1 ∨ j = 2 ∨ j = 3 by omega) with rfl | rfl | rfl | rfl <;> assumption
          have HD := Lib.hid hd
          clear hl hd hIS hz2
          go_wp2
          go_ret
          exact ⟨by rw [HD.out]; rfl, hJ.out.bel⟩
      · obtain rfl : i = s.size := by omega
        have hd : lng r s.data.toList = n := by
          rw [hl, show s.data.toList.drop s.size = [] from List.drop_eq_nil_of_le (by rw [Array.length_toList]; exact Nat.le_refl _)]
          rfl
        have HD := Lib.hid hd
        clear hl hd hIS
        go_wp2
        go_ret
        exact ⟨by rw [HD.out]; rfl, hJ.out.bel⟩

end Go.Proofs.YtfkljlncnfeklaaGreatDoor

/-! Matches and Longest. -/
namespace Go.Proofs.YtfkljlncnfeklaaGreatDoor
open Go.RowKit Go.Shelf
set_option linter.unusedVariables false
set_option linter.unusedSimpArgs false
attribute [local go_sem ↓] Go.wp_at_zero Go.wp_at_succ

/-- the pattern matches the whole string -/
noncomputable def maP (l : List Pn) (s : List UInt8) : Bool := open Classical in if chP l = 0 then decide (lng (rxP l) s = (s.length : Int)) else false
/-- the longest nonempty match at a byte offset -/
noncomputable def loP (l : List Pn) (s : List UInt8) (at' : Int) : Int × Bool := open Classical in
  if chP l = 0 ∧ 0 ≤ at' ∧ at' ≤ (s.length : Int) ∧ 0 < lng (rxP l) (s.drop at'.toNat) then (lng (rxP l) (s.drop at'.toNat), true) else (0, false)
theorem chP_zero {l : List Pn} : chP l = 0 ↔ okP l := by
  constructor
  · intro h
    by_cases h1 : 512 < l.length
    · rw [chP_big h1] at h; omega
    · by_cases h2 : okP l
      · exact h2
      · rw [chP_no h1 h2] at h; omega
  · exact chP_ok
theorem extract_drop {s : ByteArray} {k : Nat} (h : k ≤ s.size) : (s.extract k s.size).data.toList = s.data.toList.drop k := by
  rw [ByteArray.data_extract, Array.toList_extract, List.extract_eq_take_drop, List.take_of_length_le (by rw [List.length_drop, Array.length_toList]; exact Nat.le_refl _)]
theorem loP_at {l : List Pn} {s : ByteArray} {k : Nat} (h : chP l = 0) (hk : k ≤ s.size) :
    (lng (rxP l) (s.data.toList.drop k) ≤ 0 ∧ loP l s.data.toList (k : Int) = (0, false)) ∨ (0 < lng (rxP l) (s.data.toList.drop k) ∧ loP l s.data.toList (k : Int) = (lng (rxP l) (s.data.toList.drop k), true)) := by
  unfold loP
  rw [Int.toNat_natCast, Array.length_toList]
  by_cases c : 0 < lng (rxP l) (s.data.toList.drop k)
  · exact .inr ⟨c, if_pos ⟨h, by omega, by show (k : Int) ≤ (s.size : Int); omega, c⟩⟩
  · exact .inl ⟨by omega, if_neg (fun e => c e.2.2.2)⟩
theorem Tz.below {w w' : World} (ht : Hid (Tz w)) {B : Nat} (hb : Below B w w') (h : 2 < B) : Hid (Tz w') := Lib.hid (fun j hj => (World.cell?_of_block (w := w) (hb.block _ h)).trans (ht.out j hj))
theorem Rp.later {w w' : World} {A : Option Addr} {l : List Pn} (hr : Hid (Rp w w.heap.size A l)) (hb : Below w.heap.size w w') : Hid (Rp w' w'.heap.size A l) := Lib.hid ((hr.out.below hb).mono hb.size)
set_option maxHeartbeats 4000000 in
set_option maxRecDepth 100000 in
theorem matches_any (A : Option Addr) (m c : Nat) (l : List Pn) (s : ByteArray) (w : World) (hl : Hid (l.length = m)) (hr : Hid (Rp w w.heap.size A l)) (ht : Hid (Tz w)) (hts : 2 < w.heap.size) (hs : s.size ≤ 9223372036854775806) :
    Calls Tryz.prog 14 #[.slice A m c, .string s] w fun e w' => e = .returned (.bool (maP l s.data.toList)) ∧ Below w.heap.size w w' := by
  by_cases h : chP l = 0
  · have hC := pcheck_any A m c l w hl hr
    rw [h] at hC
    have hok := chP_zero.1 h
    have hm : maP l s.data.toList = decide (lng (rxP l) s.data.toList = (s.size : Int)) := by unfold maP; rw [if_pos h, Array.length_toList]; rfl
    rw [hm]
    have hl1 := (lng_range (rxP l) s.data.toList)
    rw [Array.length_toList] at hl1
    have HL1 := Lib.hid hl1
    clear hm h hl1
    go_enter Tryz.func14, Tryz.ntmps14
    go_wp2_with (first
      | (go_at_call 12; with_reducible refine hC.mono ?_; rintro e w1 ⟨rfl, hb1⟩; clear hC; have hr1 := Rp.later hr hb1; have ht1 := Tz.below ht hb1 hts; have hts1 := Nat.lt_of_lt_of_le hts hb1.size)
      | (go_at_call 28; with_reducible refine (newm_any A m c l w1 hok hl hr1 ht1 hts1).mono ?_; rintro e w2 ⟨hb2, mb, vr, vf, fl, f, l', rfl, hmb, hM⟩; have ht2 := Tz.below ht1 hb2 hts1; have hts2 := Nat.lt_of_lt_of_le hts1 hb2.size; replace hM := Lib.hid hM)
      | (go_at_call 29; with_reducible refine (longest_any _ mb (rxP l) vr vf fl f l' s w2 hM ht2 hts2 hs).mono ?_; rintro e w3 ⟨rfl, hb3⟩))
    go_ret
    exact ⟨by congr, (hb1.trans (hb2.mono hb1.size)).trans (hb3.mono (Nat.le_trans hb1.size hb2.size))⟩
  · have hC := pcheck_any A m c l w hl hr
    have hm : maP l s.data.toList = false := by unfold maP; rw [if_neg h]
    rw [hm]
    clear hm
    go_enter Tryz.func14, Tryz.ntmps14
    go_wp2_with (go_at_call 12; with_reducible refine hC.mono ?_; rintro e w1 ⟨rfl, hb1⟩)
    have hz : (chP l == 0) = false := by simpa using h
    rw [hz]
    go_ret
    exact ⟨rfl, hb1⟩

set_option maxHeartbeats 4000000 in
set_option maxRecDepth 100000 in
theorem longestAt_any (A : Option Addr) (m c : Nat) (l : List Pn) (s : ByteArray) (a : Int) (w : World) (hl : Hid (l.length = m)) (hr : Hid (Rp w w.heap.size A l)) (ht : Hid (Tz w)) (hts : 2 < w.heap.size) (hs : s.size ≤ 9223372036854775806) :
    Calls Tryz.prog 8 #[.slice A m c, .string s, .int .i64 a] w fun e w' => e = .returned (.tuple #[.int .i64 (loP l s.data.toList a).1, .bool (loP l s.data.toList a).2]) ∧ Below w.heap.size w w' := by
  by_cases h : chP l = 0
  · by_cases ha : 0 ≤ a ∧ a ≤ (s.size : Int)
    · obtain ⟨k, rfl⟩ : ∃ k : Nat, a = (k : Int) := ⟨a.toNat, by omega⟩
      have hk : k ≤ s.size := by omega
      have hC := pcheck_any A m c l w hl hr
      rw [h] at hC
      have hok := chP_zero.1 h
      have i1 : (0 : Int) ≤ (k : Int) := by omega
      have i2 : (k : Int) ≤ (s.size : Int) := by omega
      go_enter Tryz.func8, Tryz.ntmps8
      go_upto_region 3 with (go_at_call 12; with_reducible refine hC.mono ?_; rintro e w1 ⟨rfl, hb1⟩; clear hC; have hr1 := Rp.later hr hb1; have ht1 := Tz.below ht hb1 hts; have hts1 := Nat.lt_of_lt_of_le hts hb1.size)
      have he := extract_drop hk
      have hz : (s.extract k s.size).size ≤ 9223372036854775806 := by rw [ByteArray.size_extract]; omega
      have hn := loP_at h hk
      have hnr := lng_range (rxP l) (s.data.toList.drop k)
      rw [List.length_drop, Array.length_toList] at hnr
      obtain ⟨n, hn0⟩ : ∃ n, lng (rxP l) (s.data.toList.drop k) = n := ⟨_, rfl⟩
      rw [hn0] at hn hnr
      have HN0 := Lib.hid hn0
      have he0 := he
      clear hn0 he0
      have HNM := Lib.hid (newm_any A m c l w1.drew hok hl hr1 ht1 hts1)
      clear hr hr1 ht ha
      go_region_with (first
        | (go_at_call 28; refine HNM.out.mono ?_; rintro e w2 ⟨hb2, mb, vr, vf, fl, f, l', rfl, hmb, hM⟩; have hb2' := Lib.hid hb2; have ht2 := Tz.below (w := w1.drew) ht1 hb2 hts1; have hts2 := Nat.lt_of_lt_of_le hts1 hb2.size; replace hM := Lib.hid hM; clear hb2)
        | (go_at_call 29; refine (longest_any _ mb (rxP l) vr vf fl f l' _ w2 hM ht2 hts2 hz).mono ?_; rintro e w3 ⟨he3, hb3⟩; rw [he, HN0.out] at he3; subst he3; replace hb3 := Lib.hid (hb1.drew.trans ((hb2'.out.trans (hb3.mono hb2'.out.size)).mono hb1.drew.size))))
      rcases hn with ⟨n1, n2⟩ | ⟨n1, n2⟩
      all_goals
        have N2 := Lib.hid n2
        clear n2
        go_wp2
        go_ret2
        exact ⟨by rw [N2.out]; rfl, hb3.out⟩
    · have hC := pcheck_any A m c l w hl hr
      rw [h] at hC
      have hm : loP l s.data.toList a = (0, false) := by unfold loP; rw [if_neg (fun e => ha ⟨e.2.1, by have := e.2.2.1; rw [Array.length_toList] at this; exact this⟩)]
      rw [hm]
      clear hm
      rcases (show a < 0 ∨ (0 ≤ a ∧ (s.size : Int) < a) by omega) with h1 | ⟨h0, h1⟩
      all_goals
        go_enter Tryz.func8, Tryz.ntmps8
        go_wp2_with (go_at_call 12; with_reducible refine hC.mono ?_; rintro e w1 ⟨rfl, hb1⟩)
        go_ret2
        exact ⟨rfl, hb1⟩
  · have hC := pcheck_any A m c l w hl hr
    have hm : loP l s.data.toList a = (0, false) := by unfold loP; rw [if_neg (fun e => h e.1)]
    rw [hm]
    clear hm
    have hz : ¬ (chP l = 0) := h
    go_enter Tryz.func8, Tryz.ntmps8
    go_wp2_with (go_at_call 12; with_reducible refine hC.mono ?_; rintro e w1 ⟨rfl, hb1⟩)
    go_ret2
    exact ⟨rfl, hb1⟩

end Go.Proofs.YtfkljlncnfeklaaGreatDoor
