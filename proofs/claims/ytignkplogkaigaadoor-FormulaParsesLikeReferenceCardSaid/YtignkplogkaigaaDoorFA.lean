/-
  Plain mathematics and contracts of package diagram, several texts in one: FRf.
-/
import Derived.Test.YtignkplogkaigaaDoorFz
import Derived.Test.YtignkplogkaigaaDoorFr
import Derived.Test.YtignkplogkaigaaDoorFj

/-! The reference's parser: factor, conjunction, expression. (Written by rfgen.py.) -/
namespace Go.Proofs.YtignkplogkaigaaDoor
open Go.RowKit Dg St
set_option linter.unusedVariables false
set_option linter.unusedSimpArgs false
attribute [local go_sem ↓] Go.wp_at_zero Go.wp_at_succ

/-- the tokens from place a on -/
def tksAt (TL : List ByteArray) (a : Nat) : Tks := (TL.drop a).map fun t => t.data.toList
theorem tksAt_len (TL : List ByteArray) (a : Nat) : (tksAt TL a).length = TL.length - a := by unfold tksAt; simp
theorem tksAt_cons {TL : List ByteArray} {a : Nat} (h : a < TL.length) : tksAt TL a = (sg TL a).data.toList :: tksAt TL (a + 1) := by
  unfold tksAt sg
  rw [List.drop_eq_getElem_cons h, List.map_cons, List.getD_eq_getElem?_getD, List.getElem?_eq_getElem h]
  rfl
theorem tksAt_nil {TL : List ByteArray} {a : Nat} (h : TL.length ≤ a) : tksAt TL a = [] := by
  unfold tksAt
  rw [List.drop_eq_nil_of_le h]; rfl
theorem ba_inj {s t : ByteArray} (h : s.data.toList = t.data.toList) : s = t := by
  cases s; cases t
  congr 1
  exact Array.toList_inj.1 h
theorem head_at {TL : List ByteArray} {a : Nat} {t : ByteArray} : (tksAt TL a).head? = some t.data.toList ↔ a < TL.length ∧ sg TL a = t := by
  by_cases h : a < TL.length
  · rw [tksAt_cons h]
    constructor
    · intro e
      injection e with e
      exact ⟨h, ba_inj e⟩
    · rintro ⟨_, e⟩
      rw [e]; rfl
  · rw [tksAt_nil (by omega)]
    constructor
    · intro e; cases e
    · rintro ⟨e, _⟩; exact absurd e h
theorem tksAt_tail {TL : List ByteArray} {a : Nat} (h : a < TL.length) : (tksAt TL a).tail = tksAt TL (a + 1) := by rw [tksAt_cons h]; rfl
/-- from (a, N) to (a', N'): no more nodes than tokens -/
structure Few (TL : List ByteArray) (a : Nat) (N : List Fi) (a' : Nat) (N' : List Fi) : Prop where
  le : a ≤ a'
  top : a' ≤ TL.length
  few : N'.length + a ≤ N.length + a'
/-- what a parsing method leaves, whose plain answer is R -/
def RpR (w w' : World) (B g : Nat) (vn vl : Value) (TL : List ByteArray) (a : Nat) (N : List Fi) (R : QOut) (e : Ending) : Prop :=
  Below B w w' ∧ ((∃ a' vf' N' u', R = some (tksAt TL a', N', u') ∧ e = .returned (.int .i64 ((N'.length - 1 : Nat) : Int)) ∧ RpM w' B g vn vl vf' N' a' false u' ∧ Few TL a N a' N' ∧ 1 ≤ N'.length ∧ a < a') ∨
    (∃ (r : Int) (a' : Nat) (vf' : Value) (N' : List Fi) (u' : Bool), R = none ∧ e = .returned (.int .i64 r) ∧ RpM w' B g vn vl vf' N' a' true u' ∧ Few TL a N a' N'))
/-- a method's contract below w0, for fewer than n tokens -/
def RpC (f : Nat) (H : Tks → List Fi → Bool → QOut) (n B g : Nat) (vn vl : Value) (TL : List ByteArray) (w0 : World) : Prop := ∀ (W : World) (a : Nat) (N : List Fi) (u : Bool) (vf : Value), Below B w0 W → RpM W B g vn vl vf N a false u → a ≤ TL.length → N.length ≤ a → TL.length - a < n →
  Calls Tryd.prog f #[.pointer (some ⟨g, 0, none⟩)] W fun e w' => RpR W w' B g vn vl TL a N (H (tksAt TL a) N u) e
theorem rput_m {B g : Nat} {vn vl vf : Value} {N : List Fi} {a : Nat} {bad u : Bool} {w : World} (h : RpM w B g vn vl vf N a bad u) (hn : N.length ≤ 100000) (p q r s : Int) :
    Calls Tryd.prog 71 #[.pointer (some ⟨g, 0, none⟩), .agg #[.int .i64 p, .int .i64 q, .int .i64 r, .int .i64 s]] w fun e w' => e = .returned (.int .i64 ((N.length : Nat) : Int)) ∧ (∃ vf', RpM w' B g vn vl vf' (N ++ [(p, q, r, s)]) a bad u) ∧ Below B w w' := by
  refine (rput B g N.length vf p q r s N w (Lib.hid h.o) (Lib.hid rfl) hn).mono ?_
  rintro e w' ⟨he, vf', hE⟩
  exact ⟨he, ⟨vf', h.node hE⟩, RoE.below h.o hE⟩
/-- how many tokens are left, by the parser's own cell -/
def rpLeft (g m : Nat) (w : World) : Nat := match w.cell? ⟨g, 2, none⟩ with | some (.int _ x) => m - x.toNat | _ => 0
theorem RpM.left {w : World} {B g : Nat} {vn vl vf : Value} {N : List Fi} {a : Nat} {bad u : Bool} (h : RpM w B g vn vl vf N a bad u) (m : Nat) : rpLeft g m w = m - a := by
  unfold rpLeft
  rw [h.c2]
  simp
/-- a loop over an operator is under way; F: its plain answer -/
structure RpL (w0 w wr : World) (B g : Nat) (vn vl : Value) (TL : List ByteArray) (op : Int) (tok : List UInt8) (G : Tks → List Fi → Bool → QOut) (a : Nat) (N : List Fi) (F : QOut) (a' : Nat) (N' : List Fi) (u' : Bool) (vf' : Value) (m : Nat) : Prop where
  b0 : Below B w0 wr
  b : Below B w wr
  mem : RpM wr B g vn vl vf' N' a' false u'
  f : Few TL a N a' N'
  pos : 1 ≤ N'.length
  lt : a < a'
  e : lpq op tok G m (tksAt TL a') N' u' = F
  fu : TL.length - a' < m
structure RpX (w0 w wr : World) (B g : Nat) (vn vl : Value) (TL : List ByteArray) (a : Nat) (N : List Fi) (F : QOut) : Prop where
  b : Below B w wr
  x : ∃ a' vf' N' u', RpM wr B g vn vl vf' N' a' true u' ∧ Few TL a N a' N'
  e : F = none

set_option maxHeartbeats 8000000 in
set_option maxRecDepth 100000 in
theorem rconj (G : Tks → List Fi → Bool → QOut) (n B g : Nat) (NA TA : Option Addr) (nn nc m mc : Nat) (L TL : List ByteArray) (w0 : World) (hk : Hid (RpK w0 B NA TA L TL)) (hm : Hid (TL.length = m)) (hm6 : m ≤ 10000)
    (HG : Hid (RpC 95 G n B g (.slice NA nn nc) (.slice TA m mc) TL w0)) : RpC 69 (sqq 4 [38, 38] G) n B g (.slice NA nn nc) (.slice TA m mc) TL w0 := by
  intro w a N u vf hb hr ha hN hn
  have H1 := Lib.hid (HG.out w a N u vf hb hr ha hN hn)
  have HB0 := Lib.hid hb
  obtain ⟨F, hF⟩ : ∃ F, F = sqq 4 [38, 38] G (tksAt TL a) N u := ⟨_, rfl⟩
  rw [← hF]
  have HF := Lib.hid hF
  clear hF hr hb
  have HN := Lib.hid hN
  have HNN := Lib.hid hn
  clear hN hn
  go_enter Tryd.func69, Tryd.ntmps69
  go_wp2_with fail
  with_reducible refine H1.out.mono ?_
  rintro e w1 ⟨b1, hR⟩
  have HREL : Hid (∃ r : Int, e = .returned (.int .i64 r) ∧ ((∃ a' N' u' vf' mm, r = ((N'.length - 1 : Nat) : Int) ∧ Hid (RpL w0 w w1 B g (.slice NA nn nc) (.slice TA m mc) TL 4 [38, 38] G a N F a' N' u' vf' mm)) ∨ Hid (RpX w0 w w1 B g (.slice NA nn nc) (.slice TA m mc) TL a N F))) := Lib.hid (by
    rcases hR with ⟨a', vf', N', u', e1, e2, hM, hf, h1, hlt⟩ | ⟨r, a', vf', N', u', e1, e2, hM, hf⟩
    · refine ⟨_, e2, .inl ⟨a', N', u', vf', (tksAt TL a').length + 1, rfl, Lib.hid ⟨HB0.out.trans b1, b1, hM, hf, h1, hlt, ?_, by rw [tksAt_len]; omega⟩⟩⟩
      rw [HF.out]
      unfold sqq
      rw [e1]
      rfl
    · refine ⟨r, e2, .inr (Lib.hid ⟨b1, ⟨a', vf', N', u', hM, hf⟩, ?_⟩)⟩
      rw [HF.out]
      unfold sqq
      rw [e1]
      rfl)
  clear hR b1 H1
  obtain ⟨r, rfl, HREL2⟩ := HREL.out
  clear HREL
  go_wp2
  go_loopw [3] (fun v wr => ∃ r : Int, v = .int .i64 r ∧ ((∃ a' N' u' vf' mm, r = ((N'.length - 1 : Nat) : Int) ∧ Hid (RpL w0 w wr B g (.slice NA nn nc) (.slice TA m mc) TL 4 [38, 38] G a N F a' N' u' vf' mm)) ∨ Hid (RpX w0 w wr B g (.slice NA nn nc) (.slice TA m mc) TL a N F))) (fun _ wr => rpLeft g m wr)
  case atStart => exact ⟨r, rfl, HREL2⟩
  case round =>
    clear HREL2
    obtain ⟨r, rfl, ⟨a1, N1, u1, vf1, mm, rfl, HL⟩ | HX⟩ := hrel
    rotate_left
    · -- the parser is bad
      obtain ⟨a1, vf1, N1, u1, hM, hf⟩ := HX.out.x
      have c4 := hM.c4
      have HM := Lib.hid hM
      have HFW := Lib.hid hf
      clear hM hf
      go_wp2
      go_ret
      exact ⟨HX.out.b, .inr ⟨r, a1, vf1, N1, u1, HX.out.e, rfl, HM.out, HFW.out⟩⟩
    have c4 := HL.out.mem.c4
    have HM := Lib.hid HL.out.mem
    have HKW := Lib.hid (hk.out.below HL.out.b0)
    by_cases ht : a1 < m ∧ sg TL a1 = ⟨#[38, 38]⟩
    rotate_left
    · have HNX := Lib.hid (rnext_no B g nn nc m mc a1 NA TA L TL ⟨#[38, 38]⟩ vf1 N1 false u1 wr HM HKW hm (by omega) (fun q e => ht ⟨q, e⟩))
      have HE : Hid (F = some (tksAt TL a1, N1, u1)) := Lib.hid (by
        have e := HL.out.e
        have hfu := HL.out.fu
        obtain ⟨j, rfl⟩ : ∃ j, mm = j + 1 := ⟨mm - 1, by omega⟩
        rw [lpq, if_neg (fun q => ht (by have := head_at (t := ⟨#[38, 38]⟩).1 q; rw [hm.out] at this; exact this))] at e
        exact e.symm)
      clear ht HKW
      go_wp2_with fail
      with_reducible refine HNX.out.mono ?_
      rintro e w2 ⟨rfl, b2⟩
      have HM2 := Lib.hid (HM.out.keep b2)
      have HB2 := Lib.hid (HL.out.b.trans (b2.mono (by have := HM.out.o.lt; have := HM.out.o.gb; omega)))
      clear b2 HNX HM c4
      go_wp2
      go_ret
      exact ⟨HB2.out, .inl ⟨a1, vf1, N1, u1, HE.out, rfl, HM2.out, HL.out.f, HL.out.pos, HL.out.lt⟩⟩
    obtain ⟨ht1, ht2⟩ := ht
    have HNX := Lib.hid (rnext_yes B g nn nc m mc a1 NA TA L TL ⟨#[38, 38]⟩ vf1 N1 false u1 wr HM HKW hm (by omega) ht1 ht2)
    have hfu := HL.out.fu
    obtain ⟨j, rfl⟩ : ∃ j, mm = j + 1 := ⟨mm - 1, by omega⟩
    have HE : Hid ((G (tksAt TL (a1 + 1)) N1 u1).bind (fun p => lpq 4 [38, 38] G j p.1 (p.2.1 ++ [(4, 0, ((N1.length - 1 : Nat) : Int), ((p.2.1.length - 1 : Nat) : Int))]) p.2.2) = F) := Lib.hid (by
      have e := HL.out.e
      rw [lpq, if_pos (head_at (t := ⟨#[38, 38]⟩).2 ⟨by rw [hm.out]; exact ht1, ht2⟩), tksAt_tail (by rw [hm.out]; exact ht1)] at e
      exact e)
    have hle : a < a1 := HL.out.lt
    have hN1 : N1.length ≤ a1 := by have := HL.out.f.few; have := HN.out; omega
    have HCALL : Hid (∀ W, Below B w0 W → RpM W B g (.slice NA nn nc) (.slice TA m mc) vf1 N1 (a1 + 1) false u1 → Calls Tryd.prog 95 #[.pointer (some ⟨g, 0, none⟩)] W fun e w' => RpR W w' B g (.slice NA nn nc) (.slice TA m mc) TL (a1 + 1) N1 (G (tksAt TL (a1 + 1)) N1 u1) e) := Lib.hid (fun W h1 h2 => HG.out W (a1 + 1) N1 u1 vf1 h1 h2 (by rw [hm.out]; omega) (by omega) (by have := HNN.out; rw [hm.out] at *; omega))
    have HB1 := Lib.hid HL.out.b
    have HB01 := Lib.hid HL.out.b0
    have HF1 := Lib.hid HL.out.f
    have hfu2 : m - a1 < j + 1 := by have := hfu; rw [hm.out] at this; exact this
    have HLF : Hid (rpLeft g m wr = m - a1) := Lib.hid (HM.out.left m)
    clear HL ht2 HKW hfu
    go_wp2_with fail
    with_reducible refine HNX.out.mono ?_
    rintro e w2 ⟨rfl, hM2, b2⟩
    have HM2 := Lib.hid hM2
    have HB2 := Lib.hid (HB1.out.trans b2)
    have HB02 := Lib.hid (HB01.out.trans b2)
    clear hM2 b2 HNX HM c4 HB1 HB01
    go_wp2_with fail
    with_reducible refine (HCALL.out w2 HB02.out HM2.out).mono ?_
    rintro e w3 ⟨b3, hR⟩
    have HB3 := Lib.hid (HB2.out.trans b3)
    have HB03 := Lib.hid (HB02.out.trans b3)
    clear b3 HB2 HB02 HCALL HM2
    rcases hR with ⟨a2, vf2, N2, u2, e1, rfl, hM, hf, h1, hlt⟩ | ⟨r, a2, vf2, N2, u2, e1, rfl, hM, hf⟩
    · have hN2 : N2.length ≤ 100000 := by have := hf.few; have := hf.top; rw [hm.out] at *; omega
      have HPUT := Lib.hid (rput_m hM hN2 4 0 ((N1.length - 1 : Nat) : Int) ((N2.length - 1 : Nat) : Int))
      have HM3 := Lib.hid hM
      have HF3 := Lib.hid hf
      have HH := Lib.hid (show lpq 4 [38, 38] G j (tksAt TL a2) (N2 ++ [(4, 0, ((N1.length - 1 : Nat) : Int), ((N2.length - 1 : Nat) : Int))]) u2 = F by have := HE.out; rw [e1] at this; exact this)
      clear e1 hM hf HE
      go_wp2_with fail
      with_reducible refine HPUT.out.mono ?_
      rintro e w4 ⟨rfl, ⟨vf4, hM4⟩, b4⟩
      have HM4 := Lib.hid hM4
      have HB4 := Lib.hid (HB3.out.trans b4)
      have HB04 := Lib.hid (HB03.out.trans b4)
      clear hM4 b4 HPUT HB3 HB03
      go_wp2
      go_roundw
      case rel =>
        refine ⟨_, rfl, .inl ⟨a2, _, u2, vf4, j, by simp, Lib.hid ⟨HB04.out, HB4.out, HM4.out, ⟨by have := HF3.out.le; omega, HF3.out.top, ?_⟩, by simp, by have := HF3.out.le; omega, HH.out, ?_⟩⟩⟩
        · have q1 := HF3.out.few
          have q2 := HF1.out.few
          simp
          omega
        · have := HF3.out.le
          rw [hm.out]
          omega
      case measure =>
        have q1 := HM4.out.left m
        have q2 := HLF.out
        have q3 := HF3.out.le
        omega
    · have hN2 : N2.length ≤ 100000 := by have := hf.few; have := hf.top; rw [hm.out] at *; omega
      have HPUT := Lib.hid (rput_m hM hN2 4 0 ((N1.length - 1 : Nat) : Int) r)
      have HM3 := Lib.hid hM
      have HF3 := Lib.hid hf
      have HH : Hid (F = none) := Lib.hid (by have := HE.out; rw [e1] at this; exact this.symm)
      clear e1 hM hf HE
      go_wp2_with fail
      with_reducible refine HPUT.out.mono ?_
      rintro e w4 ⟨rfl, ⟨vf4, hM4⟩, b4⟩
      have HM4 := Lib.hid hM4
      have HB4 := Lib.hid (HB3.out.trans b4)
      clear hM4 b4 HPUT HB3 HB03
      go_wp2
      go_roundw
      case rel =>
        refine ⟨_, rfl, .inr (Lib.hid ⟨HB4.out, ⟨a2, vf4, _, u2, HM4.out, ⟨by have := HF3.out.le; omega, HF3.out.top, ?_⟩⟩, HH.out⟩)⟩
        have q1 := HF3.out.few
        have q2 := HF1.out.few
        simp
        omega
      case measure =>
        have q1 := HM4.out.left m
        have q2 := HLF.out
        have q3 := HF3.out.le
        omega

set_option maxHeartbeats 8000000 in
set_option maxRecDepth 100000 in
theorem rexpr (G : Tks → List Fi → Bool → QOut) (n B g : Nat) (NA TA : Option Addr) (nn nc m mc : Nat) (L TL : List ByteArray) (w0 : World) (hk : Hid (RpK w0 B NA TA L TL)) (hm : Hid (TL.length = m)) (hm6 : m ≤ 10000)
    (HG : Hid (RpC 69 G n B g (.slice NA nn nc) (.slice TA m mc) TL w0)) : RpC 44 (sqq 5 [124, 124] G) n B g (.slice NA nn nc) (.slice TA m mc) TL w0 := by
  intro w a N u vf hb hr ha hN hn
  have H1 := Lib.hid (HG.out w a N u vf hb hr ha hN hn)
  have HB0 := Lib.hid hb
  obtain ⟨F, hF⟩ : ∃ F, F = sqq 5 [124, 124] G (tksAt TL a) N u := ⟨_, rfl⟩
  rw [← hF]
  have HF := Lib.hid hF
  clear hF hr hb
  have HN := Lib.hid hN
  have HNN := Lib.hid hn
  clear hN hn
  go_enter Tryd.func44, Tryd.ntmps44
  go_wp2_with fail
  with_reducible refine H1.out.mono ?_
  rintro e w1 ⟨b1, hR⟩
  have HREL : Hid (∃ r : Int, e = .returned (.int .i64 r) ∧ ((∃ a' N' u' vf' mm, r = ((N'.length - 1 : Nat) : Int) ∧ Hid (RpL w0 w w1 B g (.slice NA nn nc) (.slice TA m mc) TL 5 [124, 124] G a N F a' N' u' vf' mm)) ∨ Hid (RpX w0 w w1 B g (.slice NA nn nc) (.slice TA m mc) TL a N F))) := Lib.hid (by
    rcases hR with ⟨a', vf', N', u', e1, e2, hM, hf, h1, hlt⟩ | ⟨r, a', vf', N', u', e1, e2, hM, hf⟩
    · refine ⟨_, e2, .inl ⟨a', N', u', vf', (tksAt TL a').length + 1, rfl, Lib.hid ⟨HB0.out.trans b1, b1, hM, hf, h1, hlt, ?_, by rw [tksAt_len]; omega⟩⟩⟩
      rw [HF.out]
      unfold sqq
      rw [e1]
      rfl
    · refine ⟨r, e2, .inr (Lib.hid ⟨b1, ⟨a', vf', N', u', hM, hf⟩, ?_⟩)⟩
      rw [HF.out]
      unfold sqq
      rw [e1]
      rfl)
  clear hR b1 H1
  obtain ⟨r, rfl, HREL2⟩ := HREL.out
  clear HREL
  go_wp2
  go_loopw [3] (fun v wr => ∃ r : Int, v = .int .i64 r ∧ ((∃ a' N' u' vf' mm, r = ((N'.length - 1 : Nat) : Int) ∧ Hid (RpL w0 w wr B g (.slice NA nn nc) (.slice TA m mc) TL 5 [124, 124] G a N F a' N' u' vf' mm)) ∨ Hid (RpX w0 w wr B g (.slice NA nn nc) (.slice TA m mc) TL a N F))) (fun _ wr => rpLeft g m wr)
  case atStart => exact ⟨r, rfl, HREL2⟩
  case round =>
    clear HREL2
    obtain ⟨r, rfl, ⟨a1, N1, u1, vf1, mm, rfl, HL⟩ | HX⟩ := hrel
    rotate_left
    · -- the parser is bad
      obtain ⟨a1, vf1, N1, u1, hM, hf⟩ := HX.out.x
      have c4 := hM.c4
      have HM := Lib.hid hM
      have HFW := Lib.hid hf
      clear hM hf
      go_wp2
      go_ret
      exact ⟨HX.out.b, .inr ⟨r, a1, vf1, N1, u1, HX.out.e, rfl, HM.out, HFW.out⟩⟩
    have c4 := HL.out.mem.c4
    have HM := Lib.hid HL.out.mem
    have HKW := Lib.hid (hk.out.below HL.out.b0)
    by_cases ht : a1 < m ∧ sg TL a1 = ⟨#[124, 124]⟩
    rotate_left
    · have HNX := Lib.hid (rnext_no B g nn nc m mc a1 NA TA L TL ⟨#[124, 124]⟩ vf1 N1 false u1 wr HM HKW hm (by omega) (fun q e => ht ⟨q, e⟩))
      have HE : Hid (F = some (tksAt TL a1, N1, u1)) := Lib.hid (by
        have e := HL.out.e
        have hfu := HL.out.fu
        obtain ⟨j, rfl⟩ : ∃ j, mm = j + 1 := ⟨mm - 1, by omega⟩
        rw [lpq, if_neg (fun q => ht (by have := head_at (t := ⟨#[124, 124]⟩).1 q; rw [hm.out] at this; exact this))] at e
        exact e.symm)
      clear ht HKW
      go_wp2_with fail
      with_reducible refine HNX.out.mono ?_
      rintro e w2 ⟨rfl, b2⟩
      have HM2 := Lib.hid (HM.out.keep b2)
      have HB2 := Lib.hid (HL.out.b.trans (b2.mono (by have := HM.out.o.lt; have := HM.out.o.gb; omega)))
      clear b2 HNX HM c4
      go_wp2
      go_ret
      exact ⟨HB2.out, .inl ⟨a1, vf1, N1, u1, HE.out, rfl, HM2.out, HL.out.f, HL.out.pos, HL.out.lt⟩⟩
    obtain ⟨ht1, ht2⟩ := ht
    have HNX := Lib.hid (rnext_yes B g nn nc m mc a1 NA TA L TL ⟨#[124, 124]⟩ vf1 N1 false u1 wr HM HKW hm (by omega) ht1 ht2)
    have hfu := HL.out.fu
    obtain ⟨j, rfl⟩ : ∃ j, mm = j + 1 := ⟨mm - 1, by omega⟩
    have HE : Hid ((G (tksAt TL (a1 + 1)) N1 u1).bind (fun p => lpq 5 [124, 124] G j p.1 (p.2.1 ++ [(5, 0, ((N1.length - 1 : Nat) : Int), ((p.2.1.length - 1 : Nat) : Int))]) p.2.2) = F) := Lib.hid (by
      have e := HL.out.e
      rw [lpq, if_pos (head_at (t := ⟨#[124, 124]⟩).2 ⟨by rw [hm.out]; exact ht1, ht2⟩), tksAt_tail (by rw [hm.out]; exact ht1)] at e
      exact e)
    have hle : a < a1 := HL.out.lt
    have hN1 : N1.length ≤ a1 := by have := HL.out.f.few; have := HN.out; omega
    have HCALL : Hid (∀ W, Below B w0 W → RpM W B g (.slice NA nn nc) (.slice TA m mc) vf1 N1 (a1 + 1) false u1 → Calls Tryd.prog 69 #[.pointer (some ⟨g, 0, none⟩)] W fun e w' => RpR W w' B g (.slice NA nn nc) (.slice TA m mc) TL (a1 + 1) N1 (G (tksAt TL (a1 + 1)) N1 u1) e) := Lib.hid (fun W h1 h2 => HG.out W (a1 + 1) N1 u1 vf1 h1 h2 (by rw [hm.out]; omega) (by omega) (by have := HNN.out; rw [hm.out] at *; omega))
    have HB1 := Lib.hid HL.out.b
    have HB01 := Lib.hid HL.out.b0
    have HF1 := Lib.hid HL.out.f
    have hfu2 : m - a1 < j + 1 := by have := hfu; rw [hm.out] at this; exact this
    have HLF : Hid (rpLeft g m wr = m - a1) := Lib.hid (HM.out.left m)
    clear HL ht2 HKW hfu
    go_wp2_with fail
    with_reducible refine HNX.out.mono ?_
    rintro e w2 ⟨rfl, hM2, b2⟩
    have HM2 := Lib.hid hM2
    have HB2 := Lib.hid (HB1.out.trans b2)
    have HB02 := Lib.hid (HB01.out.trans b2)
    clear hM2 b2 HNX HM c4 HB1 HB01
    go_wp2_with fail
    with_reducible refine (HCALL.out w2 HB02.out HM2.out).mono ?_
    rintro e w3 ⟨b3, hR⟩
    have HB3 := Lib.hid (HB2.out.trans b3)
    have HB03 := Lib.hid (HB02.out.trans b3)
    clear b3 HB2 HB02 HCALL HM2
    rcases hR with ⟨a2, vf2, N2, u2, e1, rfl, hM, hf, h1, hlt⟩ | ⟨r, a2, vf2, N2, u2, e1, rfl, hM, hf⟩
    · have hN2 : N2.length ≤ 100000 := by have := hf.few; have := hf.top; rw [hm.out] at *; omega
      have HPUT := Lib.hid (rput_m hM hN2 5 0 ((N1.length - 1 : Nat) : Int) ((N2.length - 1 : Nat) : Int))
      have HM3 := Lib.hid hM
      have HF3 := Lib.hid hf
      have HH := Lib.hid (show lpq 5 [124, 124] G j (tksAt TL a2) (N2 ++ [(5, 0, ((N1.length - 1 : Nat) : Int), ((N2.length - 1 : Nat) : Int))]) u2 = F by have := HE.out; rw [e1] at this; exact this)
      clear e1 hM hf HE
      go_wp2_with fail
      with_reducible refine HPUT.out.mono ?_
      rintro e w4 ⟨rfl, ⟨vf4, hM4⟩, b4⟩
      have HM4 := Lib.hid hM4
      have HB4 := Lib.hid (HB3.out.trans b4)
      have HB04 := Lib.hid (HB03.out.trans b4)
      clear hM4 b4 HPUT HB3 HB03
      go_wp2
      go_roundw
      case rel =>
        refine ⟨_, rfl, .inl ⟨a2, _, u2, vf4, j, by simp, Lib.hid ⟨HB04.out, HB4.out, HM4.out, ⟨by have := HF3.out.le; omega, HF3.out.top, ?_⟩, by simp, by have := HF3.out.le; omega, HH.out, ?_⟩⟩⟩
        · have q1 := HF3.out.few
          have q2 := HF1.out.few
          simp
          omega
        · have := HF3.out.le
          rw [hm.out]
          omega
      case measure =>
        have q1 := HM4.out.left m
        have q2 := HLF.out
        have q3 := HF3.out.le
        omega
    · have hN2 : N2.length ≤ 100000 := by have := hf.few; have := hf.top; rw [hm.out] at *; omega
      have HPUT := Lib.hid (rput_m hM hN2 5 0 ((N1.length - 1 : Nat) : Int) r)
      have HM3 := Lib.hid hM
      have HF3 := Lib.hid hf
      have HH : Hid (F = none) := Lib.hid (by have := HE.out; rw [e1] at this; exact this.symm)
      clear e1 hM hf HE
      go_wp2_with fail
      with_reducible refine HPUT.out.mono ?_
      rintro e w4 ⟨rfl, ⟨vf4, hM4⟩, b4⟩
      have HM4 := Lib.hid hM4
      have HB4 := Lib.hid (HB3.out.trans b4)
      clear hM4 b4 HPUT HB3 HB03
      go_wp2
      go_roundw
      case rel =>
        refine ⟨_, rfl, .inr (Lib.hid ⟨HB4.out, ⟨a2, vf4, _, u2, HM4.out, ⟨by have := HF3.out.le; omega, HF3.out.top, ?_⟩⟩, HH.out⟩)⟩
        have q1 := HF3.out.few
        have q2 := HF1.out.few
        simp
        omega
      case measure =>
        have q1 := HM4.out.left m
        have q2 := HLF.out
        have q3 := HF3.out.le
        omega

theorem idS_idT (s : ByteArray) : idS s ↔ idT s.data.toList := by
  have hs := sz_tl s
  unfold idS
  rcases e : s.data.toList with _ | ⟨b, x⟩
  · rw [e] at hs
    constructor
    · rintro ⟨h, _⟩; simp at hs; omega
    · intro h; exact h.elim
  · rw [e, List.length_cons] at hs
    have h0 : by8 s 0 = b.toNat := by rw [by8_at, e]; rfl
    have hk : ∀ k, k < x.length → by8 s (k + 1) = (x.getD k 0).toNat := fun k hk => by rw [by8_at, e]; rfl
    constructor
    · rintro ⟨h1, h2⟩
      refine ⟨?_, fun c hc => ?_⟩
      · rcases h2 0 (by omega) with q | q
        · rw [h0] at q; exact (lt8_iff b).1 q
        · omega
      · obtain ⟨i, hi, rfl⟩ := List.getElem_of_mem hc
        have h3 := h2 (i + 1) (by omega)
        unfold okb at h3
        rw [hk i hi, List.getD_eq_getElem?_getD, List.getElem?_eq_getElem hi] at h3
        rw [Bool.or_eq_true]
        rcases h3 with q | q
        · exact .inl ((lt8_iff _).1 q)
        · exact .inr ((dg8_iff _).1 q.2)
    · rintro ⟨h1, h2⟩
      refine ⟨by omega, fun k hks => ?_⟩
      unfold okb
      cases k with
      | zero => rw [h0]; exact .inl ((lt8_iff b).2 h1)
      | succ k =>
        have h3 := h2 x[k] (List.getElem_mem (by omega))
        rw [hk k (by omega), List.getD_eq_getElem?_getD, List.getElem?_eq_getElem (by omega)]
        rw [Bool.or_eq_true] at h3
        rcases h3 with q | q
        · exact .inl ((lt8_iff _).2 q)
        · exact .inr ⟨by omega, (dg8_iff _).2 q⟩
theorem ne_tl {s t : ByteArray} (h : s ≠ t) : s.data.toList ≠ t.data.toList := fun e => h (ba_inj e)
theorem few_one {TL : List ByteArray} {a : Nat} {N : List Fi} (x : Fi) (h : a < TL.length) : Few TL a N (a + 1) (N ++ [x]) := ⟨by omega, by omega, by simp; omega⟩

set_option maxHeartbeats 16000000 in
set_option maxRecDepth 100000 in
theorem rfact (n B g : Nat) (NA TA : Option Addr) (nn nc m mc : Nat) (L TL : List ByteArray) (w0 : World) (hk : Hid (RpK w0 B NA TA L TL)) (hm : Hid (TL.length = m)) (hm6 : m ≤ 10000) (hL : Hid (L.length = nn)) (hnn : nn ≤ 1000000)
    (HF : Hid (RpC 95 (rqF (L8 L) n) n B g (.slice NA nn nc) (.slice TA m mc) TL w0)) (HE : Hid (RpC 44 (rqE (L8 L) n) n B g (.slice NA nn nc) (.slice TA m mc) TL w0)) : RpC 95 (rqF (L8 L) (n + 1)) (n + 1) B g (.slice NA nn nc) (.slice TA m mc) TL w0 := by
  intro w1 a N u vf hb hr ha hN hn
  have HM1 := Lib.hid hr
  have HB1 := Lib.hid (Below.refl B w1)
  have HB0 := Lib.hid hb
  have HK1 := Lib.hid (hk.out.below hb)
  obtain ⟨R, hR⟩ : ∃ R, R = rqF (L8 L) (n + 1) (tksAt TL a) N u := ⟨_, rfl⟩
  rw [← hR]
  rw [hm.out] at ha hn
  have hN2 : N.length ≤ 100000 := by omega
  clear hb hr hk
  by_cases hlt : a < m
  rotate_left
  · -- no token
    have HR : Hid (R = none) := Lib.hid (by rw [hR, tksAt_nil (by rw [hm.out]; omega)]; rfl)
    have i1 : decide ((a : Int) < (m : Int)) = false := decide_eq_false (by omega)
    clear hR HF HE
    go_enter Tryd.func95, Tryd.ntmps95
    have HNX := Lib.hid (rnext_no B g nn nc m mc a NA TA L TL ⟨#[33]⟩ vf N false u w1 HM1 HK1 hm (by omega) (fun q => absurd q hlt))
    go_wp2_with fail
    with_reducible refine HNX.out.mono ?_
    rintro e w2 ⟨rfl, b⟩
    have HM2 := Lib.hid (HM1.out.keep b)
    have b' : Below B w1 w2 := b.mono (by have := HM1.out.o.lt; have := HM1.out.o.gb; omega)
    have HB2 := Lib.hid (HB1.out.trans b')
    have HK2 := Lib.hid (HK1.out.below b')
    clear b b' HNX HM1 HB1 HK1
    have HNX := Lib.hid (rnext_no B g nn nc m mc a NA TA L TL ⟨#[116, 114, 117, 101]⟩ vf N false u w2 HM2 HK2 hm (by omega) (fun q => absurd q hlt))
    go_wp2_with fail
    with_reducible refine HNX.out.mono ?_
    rintro e w3 ⟨rfl, b⟩
    have HM3 := Lib.hid (HM2.out.keep b)
    have b' : Below B w2 w3 := b.mono (by have := HM2.out.o.lt; have := HM2.out.o.gb; omega)
    have HB3 := Lib.hid (HB2.out.trans b')
    have HK3 := Lib.hid (HK2.out.below b')
    clear b b' HNX HM2 HB2 HK2
    have HNX := Lib.hid (rnext_no B g nn nc m mc a NA TA L TL ⟨#[102, 97, 108, 115, 101]⟩ vf N false u w3 HM3 HK3 hm (by omega) (fun q => absurd q hlt))
    go_wp2_with fail
    with_reducible refine HNX.out.mono ?_
    rintro e w4 ⟨rfl, b⟩
    have HM4 := Lib.hid (HM3.out.keep b)
    have b' : Below B w3 w4 := b.mono (by have := HM3.out.o.lt; have := HM3.out.o.gb; omega)
    have HB4 := Lib.hid (HB3.out.trans b')
    have HK4 := Lib.hid (HK3.out.below b')
    clear b b' HNX HM3 HB3 HK3
    have HNX := Lib.hid (rnext_no B g nn nc m mc a NA TA L TL ⟨#[40]⟩ vf N false u w4 HM4 HK4 hm (by omega) (fun q => absurd q hlt))
    go_wp2_with fail
    with_reducible refine HNX.out.mono ?_
    rintro e w5 ⟨rfl, b⟩
    have HM5 := Lib.hid (HM4.out.keep b)
    have b' : Below B w4 w5 := b.mono (by have := HM4.out.o.lt; have := HM4.out.o.gb; omega)
    have HB5 := Lib.hid (HB4.out.trans b')
    have HK5 := Lib.hid (HK4.out.below b')
    clear b b' HNX HM4 HB4 HK4
    have c1 := HM5.out.c1
    have c2 := HM5.out.c2
    have hg := HM5.out.o.lt
    go_wp2
    go_quiet (fail)
    have b9 := fun nq => below_drewN (Below.refl w5.heap.size w5) nq
    have HM6 := Lib.hid (fun nq => (HM5.out.keep (b9 nq)).fail)
    have HB6 := Lib.hid (fun nq => (below_drewN HB5.out nq).setCell (p := ⟨g, 4, none⟩) HM5.out.o.gb (.bool true))
    have c4 := HM5.out.c4
    have f4 := HM5.out.f4
    clear b9 c1 c2
    go_wp2
    go_ret
    exact ⟨HB6.out _, .inr ⟨0, a, vf, N, u, HR.out, rfl, HM6.out _, ⟨Nat.le_refl _, by rw [hm.out]; omega, Nat.le_refl _⟩⟩⟩
  have hcons := tksAt_cons (TL := TL) (a := a) (by rw [hm.out]; exact hlt)
  rw [hcons] at hR
  have hz1 : TL.length - (a + 1) < n := by rw [hm.out]; omega
  have ha1 : a + 1 ≤ TL.length := by rw [hm.out]; omega
  have hTL : a < TL.length := by rw [hm.out]; exact hlt
  clear hcons
  by_cases ht : sg TL a = ⟨#[33]⟩
  · -- a negation
    rw [ht, rqF, if_pos (show (⟨#[33]⟩ : ByteArray).data.toList = [33] from rfl)] at hR
    have HRQ := Lib.hid hR
    clear hR HE
    go_enter Tryd.func95, Tryd.ntmps95
    have HNX := Lib.hid (rnext_yes B g nn nc m mc a NA TA L TL ⟨#[33]⟩ vf N false u w1 HM1 HK1 hm (by omega) hlt ht)
    go_wp2_with fail
    with_reducible refine HNX.out.mono ?_
    rintro e w2 ⟨rfl, hM, b'⟩
    have HM2 := Lib.hid hM
    have HB2 := Lib.hid (HB1.out.trans b')
    have HK2 := Lib.hid (HK1.out.below b')
    clear hM b' HNX HM1 HB1 HK1
    have HC := Lib.hid (HF.out w2 (a + 1) N u vf (HB0.out.trans HB2.out) HM2.out ha1 (by omega) hz1)
    go_wp2_with fail
    with_reducible refine HC.out.mono ?_
    rintro e w3 ⟨b3, hRR⟩
    have HB3 := Lib.hid (HB2.out.trans b3)
    clear HC b3 HM2 HK2 HB2
    rcases hRR with ⟨a2, vf2, N2, u2, e1, rfl, hM, hf, h1, hlt2⟩ | ⟨r, a2, vf2, N2, u2, e1, rfl, hM, hf⟩
    · have hq : N2.length ≤ 100000 := by have := hf.few; have := hf.top; rw [hm.out] at *; omega
      have HPUT := Lib.hid (rput_m hM hq 3 0 ((N2.length - 1 : Nat) : Int) 0)
      have HFW : Hid (Few TL a N a2 (N2 ++ [(3, 0, ((N2.length - 1 : Nat) : Int), 0)])) := Lib.hid ⟨by have := hf.le; omega, hf.top, by have := hf.few; simp; omega⟩
      have HR : Hid (R = some (tksAt TL a2, N2 ++ [(3, 0, ((N2.length - 1 : Nat) : Int), 0)], u2)) := Lib.hid (by rw [HRQ.out, e1]; rfl)
      have hla : a < a2 := by omega
      clear e1 hM hf HRQ
      go_wp2_with fail
      with_reducible refine HPUT.out.mono ?_
      rintro e w4 ⟨rfl, ⟨vf4, hM4⟩, b4⟩
      have HM4 := Lib.hid hM4
      have HB4 := Lib.hid (HB3.out.trans b4)
      clear hM4 b4 HPUT HB3
      go_wp2
      go_ret
      exact ⟨HB4.out, .inl ⟨a2, vf4, _, u2, HR.out, by simp, HM4.out, HFW.out, by simp, hla⟩⟩
    · have hq : N2.length ≤ 100000 := by have := hf.few; have := hf.top; rw [hm.out] at *; omega
      have HPUT := Lib.hid (rput_m hM hq 3 0 r 0)
      have HFW : Hid (Few TL a N a2 (N2 ++ [(3, 0, r, 0)])) := Lib.hid ⟨by have := hf.le; omega, hf.top, by have := hf.few; simp; omega⟩
      have HR : Hid (R = none) := Lib.hid (by rw [HRQ.out, e1]; rfl)
      clear e1 hM hf HRQ
      go_wp2_with fail
      with_reducible refine HPUT.out.mono ?_
      rintro e w4 ⟨rfl, ⟨vf4, hM4⟩, b4⟩
      have HM4 := Lib.hid hM4
      have HB4 := Lib.hid (HB3.out.trans b4)
      clear hM4 b4 HPUT HB3
      go_wp2
      go_ret
      exact ⟨HB4.out, .inr ⟨_, a2, vf4, _, u2, HR.out, rfl, HM4.out, HFW.out⟩⟩
  have ht1 := ht
  rw [rqF, if_neg (show ¬ (sg TL a).data.toList = [33] from ne_tl ht)] at hR
  clear ht
  by_cases ht : sg TL a = ⟨#[116, 114, 117, 101]⟩
  · rw [ht, if_pos (show (⟨#[116, 114, 117, 101]⟩ : ByteArray).data.toList = [116, 114, 117, 101] from rfl)] at hR
    have HR := Lib.hid hR
    clear hR HE HF
    go_enter Tryd.func95, Tryd.ntmps95
    have HNX := Lib.hid (rnext_no B g nn nc m mc a NA TA L TL ⟨#[33]⟩ vf N false u w1 HM1 HK1 hm (by omega) (fun _ => ht1))
    go_wp2_with fail
    with_reducible refine HNX.out.mono ?_
    rintro e w2 ⟨rfl, b⟩
    have HM2 := Lib.hid (HM1.out.keep b)
    have b' : Below B w1 w2 := b.mono (by have := HM1.out.o.lt; have := HM1.out.o.gb; omega)
    have HB2 := Lib.hid (HB1.out.trans b')
    have HK2 := Lib.hid (HK1.out.below b')
    clear b b' HNX HM1 HB1 HK1
    have HNX := Lib.hid (rnext_yes B g nn nc m mc a NA TA L TL ⟨#[116, 114, 117, 101]⟩ vf N false u w2 HM2 HK2 hm (by omega) hlt ht)
    go_wp2_with fail
    with_reducible refine HNX.out.mono ?_
    rintro e w3 ⟨rfl, hM, b'⟩
    have HM3 := Lib.hid hM
    have HB3 := Lib.hid (HB2.out.trans b')
    have HK3 := Lib.hid (HK2.out.below b')
    clear hM b' HNX HM2 HB2 HK2
    have HPUT := Lib.hid (rput_m HM3.out hN2 1 0 0 0)
    go_wp2_with fail
    with_reducible refine HPUT.out.mono ?_
    rintro e w4 ⟨rfl, ⟨vf4, hM4⟩, b4⟩
    have HM4 := Lib.hid hM4
    have HB4 := Lib.hid (HB3.out.trans b4)
    clear hM4 b4 HPUT HB3 HM3 HK3
    go_wp2
    go_ret
    exact ⟨HB4.out, .inl ⟨a + 1, vf4, _, u, HR.out, by simp, HM4.out, few_one _ hTL, by simp, by omega⟩⟩
  have ht2 := ht
  rw [if_neg (show ¬ (sg TL a).data.toList = [116, 114, 117, 101] from ne_tl ht)] at hR
  clear ht
  by_cases ht : sg TL a = ⟨#[102, 97, 108, 115, 101]⟩
  · rw [ht, if_pos (show (⟨#[102, 97, 108, 115, 101]⟩ : ByteArray).data.toList = [102, 97, 108, 115, 101] from rfl)] at hR
    have HR := Lib.hid hR
    clear hR HE HF
    go_enter Tryd.func95, Tryd.ntmps95
    have HNX := Lib.hid (rnext_no B g nn nc m mc a NA TA L TL ⟨#[33]⟩ vf N false u w1 HM1 HK1 hm (by omega) (fun _ => ht1))
    go_wp2_with fail
    with_reducible refine HNX.out.mono ?_
    rintro e w2 ⟨rfl, b⟩
    have HM2 := Lib.hid (HM1.out.keep b)
    have b' : Below B w1 w2 := b.mono (by have := HM1.out.o.lt; have := HM1.out.o.gb; omega)
    have HB2 := Lib.hid (HB1.out.trans b')
    have HK2 := Lib.hid (HK1.out.below b')
    clear b b' HNX HM1 HB1 HK1
    have HNX := Lib.hid (rnext_no B g nn nc m mc a NA TA L TL ⟨#[116, 114, 117, 101]⟩ vf N false u w2 HM2 HK2 hm (by omega) (fun _ => ht2))
    go_wp2_with fail
    with_reducible refine HNX.out.mono ?_
    rintro e w3 ⟨rfl, b⟩
    have HM3 := Lib.hid (HM2.out.keep b)
    have b' : Below B w2 w3 := b.mono (by have := HM2.out.o.lt; have := HM2.out.o.gb; omega)
    have HB3 := Lib.hid (HB2.out.trans b')
    have HK3 := Lib.hid (HK2.out.below b')
    clear b b' HNX HM2 HB2 HK2
    have HNX := Lib.hid (rnext_yes B g nn nc m mc a NA TA L TL ⟨#[102, 97, 108, 115, 101]⟩ vf N false u w3 HM3 HK3 hm (by omega) hlt ht)
    go_wp2_with fail
    with_reducible refine HNX.out.mono ?_
    rintro e w4 ⟨rfl, hM, b'⟩
    have HM4 := Lib.hid hM
    have HB4 := Lib.hid (HB3.out.trans b')
    have HK4 := Lib.hid (HK3.out.below b')
    clear hM b' HNX HM3 HB3 HK3
    have HPUT := Lib.hid (rput_m HM4.out hN2 0 0 0 0)
    go_wp2_with fail
    with_reducible refine HPUT.out.mono ?_
    rintro e w5 ⟨rfl, ⟨vf4, hM4⟩, b4⟩
    have HM5 := Lib.hid hM4
    have HB5 := Lib.hid (HB4.out.trans b4)
    clear hM4 b4 HPUT HB4 HM4 HK4
    go_wp2
    go_ret
    exact ⟨HB5.out, .inl ⟨a + 1, vf4, _, u, HR.out, by simp, HM5.out, few_one _ hTL, by simp, by omega⟩⟩
  have ht3 := ht
  rw [if_neg (show ¬ (sg TL a).data.toList = [102, 97, 108, 115, 101] from ne_tl ht)] at hR
  clear ht
  by_cases ht : sg TL a = ⟨#[40]⟩
  · rw [ht, if_pos (show (⟨#[40]⟩ : ByteArray).data.toList = [40] from rfl)] at hR
    have HRQ := Lib.hid hR
    clear hR HF
    go_enter Tryd.func95, Tryd.ntmps95
    have HNX := Lib.hid (rnext_no B g nn nc m mc a NA TA L TL ⟨#[33]⟩ vf N false u w1 HM1 HK1 hm (by omega) (fun _ => ht1))
    go_wp2_with fail
    with_reducible refine HNX.out.mono ?_
    rintro e w2 ⟨rfl, b⟩
    have HM2 := Lib.hid (HM1.out.keep b)
    have b' : Below B w1 w2 := b.mono (by have := HM1.out.o.lt; have := HM1.out.o.gb; omega)
    have HB2 := Lib.hid (HB1.out.trans b')
    have HK2 := Lib.hid (HK1.out.below b')
    clear b b' HNX HM1 HB1 HK1
    have HNX := Lib.hid (rnext_no B g nn nc m mc a NA TA L TL ⟨#[116, 114, 117, 101]⟩ vf N false u w2 HM2 HK2 hm (by omega) (fun _ => ht2))
    go_wp2_with fail
    with_reducible refine HNX.out.mono ?_
    rintro e w3 ⟨rfl, b⟩
    have HM3 := Lib.hid (HM2.out.keep b)
    have b' : Below B w2 w3 := b.mono (by have := HM2.out.o.lt; have := HM2.out.o.gb; omega)
    have HB3 := Lib.hid (HB2.out.trans b')
    have HK3 := Lib.hid (HK2.out.below b')
    clear b b' HNX HM2 HB2 HK2
    have HNX := Lib.hid (rnext_no B g nn nc m mc a NA TA L TL ⟨#[102, 97, 108, 115, 101]⟩ vf N false u w3 HM3 HK3 hm (by omega) (fun _ => ht3))
    go_wp2_with fail
    with_reducible refine HNX.out.mono ?_
    rintro e w4 ⟨rfl, b⟩
    have HM4 := Lib.hid (HM3.out.keep b)
    have b' : Below B w3 w4 := b.mono (by have := HM3.out.o.lt; have := HM3.out.o.gb; omega)
    have HB4 := Lib.hid (HB3.out.trans b')
    have HK4 := Lib.hid (HK3.out.below b')
    clear b b' HNX HM3 HB3 HK3
    have HNX := Lib.hid (rnext_yes B g nn nc m mc a NA TA L TL ⟨#[40]⟩ vf N false u w4 HM4 HK4 hm (by omega) hlt ht)
    go_wp2_with fail
    with_reducible refine HNX.out.mono ?_
    rintro e w5 ⟨rfl, hM, b'⟩
    have HM5 := Lib.hid hM
    have HB5 := Lib.hid (HB4.out.trans b')
    have HK5 := Lib.hid (HK4.out.below b')
    clear hM b' HNX HM4 HB4 HK4
    have HC := Lib.hid (HE.out w5 (a + 1) N u vf (HB0.out.trans HB5.out) HM5.out ha1 (by omega) hz1)
    go_wp2_with fail
    with_reducible refine HC.out.mono ?_
    rintro e w6 ⟨b6, hRR⟩
    have HB6 := Lib.hid (HB5.out.trans b6)
    have HK6 := Lib.hid (HK5.out.below b6)
    clear HC b6 HM5 HK5 HB5
    rcases hRR with ⟨a2, vf2, N2, u2, e1, rfl, hM, hf, h1, hlt2⟩ | ⟨r, a2, vf2, N2, u2, e1, rfl, hM, hf⟩
    · have HM6 := Lib.hid hM
      have hla : a < a2 := by omega
      by_cases h41 : a2 < m ∧ sg TL a2 = ⟨#[41]⟩
      · obtain ⟨q1, q2⟩ := h41
        have HR : Hid (R = some (tksAt TL (a2 + 1), N2, u2)) := Lib.hid (by
          rw [HRQ.out]
          unfold rqE at e1
          rw [e1]
          show (if (tksAt TL a2).head? = some [41] then _ else _) = _
          rw [if_pos (head_at (t := ⟨#[41]⟩).2 ⟨by rw [hm.out]; exact q1, q2⟩)]
          show some ((tksAt TL a2).tail, N2, u2) = _
          rw [tksAt_tail (by rw [hm.out]; exact q1)])
        have HFW : Hid (Few TL a N (a2 + 1) N2) := Lib.hid ⟨by omega, by rw [hm.out]; omega, by have := hf.few; omega⟩
        have HNX := Lib.hid (rnext_yes B g nn nc m mc a2 NA TA L TL ⟨#[41]⟩ vf2 N2 false u2 w6 HM6 HK6 hm (by omega) q1 q2)
        have H1 := Lib.hid h1
        clear e1 hM hf HRQ q2 h1
        go_wp2_with fail
        with_reducible refine HNX.out.mono ?_
        rintro e w7 ⟨rfl, hM7, b7⟩
        have HM7 := Lib.hid hM7
        have HB7 := Lib.hid (HB6.out.trans b7)
        clear hM7 b7 HNX HM6 HB6 HK6
        go_wp2
        go_ret
        exact ⟨HB7.out, .inl ⟨a2 + 1, vf2, N2, u2, HR.out, rfl, HM7.out, HFW.out, H1.out, by omega⟩⟩
      · have HR : Hid (R = none) := Lib.hid (by
          rw [HRQ.out]
          unfold rqE at e1
          rw [e1]
          show (if (tksAt TL a2).head? = some [41] then _ else _) = _
          rw [if_neg (fun q => h41 (by have := head_at (t := ⟨#[41]⟩).1 q; rw [hm.out] at this; exact this))])
        have HFW : Hid (Few TL a N a2 N2) := Lib.hid ⟨by omega, hf.top, by have := hf.few; omega⟩
        have HNX := Lib.hid (rnext_no B g nn nc m mc a2 NA TA L TL ⟨#[41]⟩ vf2 N2 false u2 w6 HM6 HK6 hm (by omega) (fun q e => h41 ⟨q, e⟩))
        clear e1 hM hf HRQ h41 h1
        go_wp2_with fail
        with_reducible refine HNX.out.mono ?_
        rintro e w7 ⟨rfl, b7⟩
        have hM7 := HM6.out.keep b7
        have c4 := hM7.c4
        have f4 := hM7.f4
        have hg := hM7.o.lt
        have HM7 := Lib.hid hM7.fail
        have HB7 := Lib.hid ((HB6.out.trans (b7.mono (by have := HM6.out.o.lt; have := HM6.out.o.gb; omega))).setCell (p := ⟨g, 4, none⟩) hM7.o.gb (.bool true))
        clear hM7 b7 HNX HM6 HB6 HK6
        go_wp2
        go_ret
        exact ⟨HB7.out, .inr ⟨_, a2, vf2, N2, u2, HR.out, rfl, HM7.out, HFW.out⟩⟩
    · have HM6 := Lib.hid hM
      have HR : Hid (R = none) := Lib.hid (by
        rw [HRQ.out]
        unfold rqE at e1
        rw [e1]
        rfl)
      by_cases h41 : a2 < m ∧ sg TL a2 = ⟨#[41]⟩
      · obtain ⟨q1, q2⟩ := h41
        have HFW : Hid (Few TL a N (a2 + 1) N2) := Lib.hid ⟨by have := hf.le; omega, by rw [hm.out]; omega, by have := hf.few; omega⟩
        have HNX := Lib.hid (rnext_yes B g nn nc m mc a2 NA TA L TL ⟨#[41]⟩ vf2 N2 true u2 w6 HM6 HK6 hm (by omega) q1 q2)
        clear e1 hM hf HRQ q2
        go_wp2_with fail
        with_reducible refine HNX.out.mono ?_
        rintro e w7 ⟨rfl, hM7, b7⟩
        have HM7 := Lib.hid hM7
        have HB7 := Lib.hid (HB6.out.trans b7)
        clear hM7 b7 HNX HM6 HB6 HK6
        go_wp2
        go_ret
        exact ⟨HB7.out, .inr ⟨_, a2 + 1, vf2, N2, u2, HR.out, rfl, HM7.out, HFW.out⟩⟩
      · have HFW : Hid (Few TL a N a2 N2) := Lib.hid ⟨by have := hf.le; omega, hf.top, by have := hf.few; omega⟩
        have HNX := Lib.hid (rnext_no B g nn nc m mc a2 NA TA L TL ⟨#[41]⟩ vf2 N2 true u2 w6 HM6 HK6 hm (by omega) (fun q e => h41 ⟨q, e⟩))
        clear e1 hM hf HRQ h41
        go_wp2_with fail
        with_reducible refine HNX.out.mono ?_
        rintro e w7 ⟨rfl, b7⟩
        have hM7 := HM6.out.keep b7
        have c4 := hM7.c4
        have f4 := hM7.f4
        have hg := hM7.o.lt
        have HM7 := Lib.hid hM7.fail
        have HB7 := Lib.hid ((HB6.out.trans (b7.mono (by have := HM6.out.o.lt; have := HM6.out.o.gb; omega))).setCell (p := ⟨g, 4, none⟩) hM7.o.gb (.bool true))
        clear hM7 b7 HNX HM6 HB6 HK6
        go_wp2
        go_ret
        exact ⟨HB7.out, .inr ⟨_, a2, vf2, N2, u2, HR.out, rfl, HM7.out, HFW.out⟩⟩
  have ht4 := ht
  rw [if_neg (show ¬ (sg TL a).data.toList = [40] from ne_tl ht)] at hR
  clear ht HF HE
  have hsz := HK1.out.z a
  have hident := fun W => ident_any (sg TL a) W (by omega)
  have i1 : (a : Int) < (m : Int) := by omega
  have i2 : (0 : Int) ≤ (a : Int) := by omega
  by_cases hid : idT (sg TL a).data.toList
  rotate_left
  · rw [if_neg hid] at hR
    have HR := Lib.hid hR
    have HID : Hid (∀ W, Calls Tryd.prog 62 #[.string (sg TL a)] W fun e w' => e = .returned (.bool false) ∧ w' = W) := Lib.hid (fun W => (hident W).mono (by
      rintro e w' ⟨rfl, rfl⟩
      rw [decide_eq_false (fun q => hid ((idS_idT _).1 q))]
      exact ⟨rfl, rfl⟩))
    clear hR hident hid hsz
    go_enter Tryd.func95, Tryd.ntmps95
    have HNX := Lib.hid (rnext_no B g nn nc m mc a NA TA L TL ⟨#[33]⟩ vf N false u w1 HM1 HK1 hm (by omega) (fun _ => ht1))
    go_wp2_with fail
    with_reducible refine HNX.out.mono ?_
    rintro e w2 ⟨rfl, b⟩
    have HM2 := Lib.hid (HM1.out.keep b)
    have b' : Below B w1 w2 := b.mono (by have := HM1.out.o.lt; have := HM1.out.o.gb; omega)
    have HB2 := Lib.hid (HB1.out.trans b')
    have HK2 := Lib.hid (HK1.out.below b')
    clear b b' HNX HM1 HB1 HK1
    have HNX := Lib.hid (rnext_no B g nn nc m mc a NA TA L TL ⟨#[116, 114, 117, 101]⟩ vf N false u w2 HM2 HK2 hm (by omega) (fun _ => ht2))
    go_wp2_with fail
    with_reducible refine HNX.out.mono ?_
    rintro e w3 ⟨rfl, b⟩
    have HM3 := Lib.hid (HM2.out.keep b)
    have b' : Below B w2 w3 := b.mono (by have := HM2.out.o.lt; have := HM2.out.o.gb; omega)
    have HB3 := Lib.hid (HB2.out.trans b')
    have HK3 := Lib.hid (HK2.out.below b')
    clear b b' HNX HM2 HB2 HK2
    have HNX := Lib.hid (rnext_no B g nn nc m mc a NA TA L TL ⟨#[102, 97, 108, 115, 101]⟩ vf N false u w3 HM3 HK3 hm (by omega) (fun _ => ht3))
    go_wp2_with fail
    with_reducible refine HNX.out.mono ?_
    rintro e w4 ⟨rfl, b⟩
    have HM4 := Lib.hid (HM3.out.keep b)
    have b' : Below B w3 w4 := b.mono (by have := HM3.out.o.lt; have := HM3.out.o.gb; omega)
    have HB4 := Lib.hid (HB3.out.trans b')
    have HK4 := Lib.hid (HK3.out.below b')
    clear b b' HNX HM3 HB3 HK3
    have HNX := Lib.hid (rnext_no B g nn nc m mc a NA TA L TL ⟨#[40]⟩ vf N false u w4 HM4 HK4 hm (by omega) (fun _ => ht4))
    go_wp2_with fail
    with_reducible refine HNX.out.mono ?_
    rintro e w5 ⟨rfl, b⟩
    have HM5 := Lib.hid (HM4.out.keep b)
    have b' : Below B w4 w5 := b.mono (by have := HM4.out.o.lt; have := HM4.out.o.gb; omega)
    have HB5 := Lib.hid (HB4.out.trans b')
    have HK5 := Lib.hid (HK4.out.below b')
    clear b b' HNX HM4 HB4 HK4
    obtain ⟨b, o, eA, hb', hc⟩ := HK5.out.t (by rw [hm.out]; omega)
    subst eA
    have d0 := hc a hTL
    clear hc
    have c1 := HM5.out.c1
    have c2 := HM5.out.c2
    have c4 := HM5.out.c4
    have f4 := HM5.out.f4
    have hg := HM5.out.o.lt
    have HM6 := Lib.hid (fun nq => (HM5.out.keep (below_drewN (Below.refl w5.heap.size w5) nq)).fail)
    have HB6 := Lib.hid (fun nq => (below_drewN HB5.out nq).setCell (p := ⟨g, 4, none⟩) HM5.out.o.gb (.bool true))
    clear ht1 ht2 ht3 ht4
    generalize sg TL a = tk at *
    go_wp2
    go_quiet (first | (exact Calls.quiet_of_same (HID.out _)))
    go_wp2
    go_ret
    exact ⟨HB6.out _, .inr ⟨0, a, vf, N, u, HR.out, rfl, HM6.out _, ⟨Nat.le_refl _, by omega, Nat.le_refl _⟩⟩⟩
  rw [if_pos hid] at hR
  have HID : Hid (∀ W, Calls Tryd.prog 62 #[.string (sg TL a)] W fun e w' => e = .returned (.bool true) ∧ w' = W) := Lib.hid (fun W => (hident W).mono (by
    rintro e w' ⟨rfl, rfl⟩
    rw [decide_eq_true ((idS_idT _).2 hid)]
    exact ⟨rfl, rfl⟩))
  obtain ⟨rx, hrx⟩ := isix_ex L (sg TL a) nn
  have hix : rx = ixL (L8 L) (sg TL a).data.toList := ixL_eq (by rw [hL.out]; exact hrx)
  have HIX : Hid (∀ W, Rstr W W.heap.size NA L → Calls Tryd.prog 63 #[.slice NA nn nc, .string (sg TL a)] W fun e w' => e = .returned (.int .i64 rx) ∧ w' = W) := Lib.hid (fun W hW => (qindex NA nc nn L (sg TL a) W (by rw [hL.out]; omega) (by rw [hL.out]; omega) (Lib.hid hW)).mono (by
    rintro e w' ⟨⟨r, rfl, h⟩, e⟩
    rw [isix_eq h hrx]
    exact ⟨rfl, e.symm⟩))
  rw [← hix] at hR
  have hrx0 : -1 ≤ rx ∧ rx < 9223372036854775807 := by
    rcases hrx with ⟨q, _⟩ | ⟨k, q1, q2, _⟩ <;> omega
  clear hident hid hsz hix hrx
  have HRQ := Lib.hid hR
  clear hR
  rcases (show rx < 0 ∨ 0 ≤ rx by omega) with hneg | hpos
  · have HR : Hid (R = some (tksAt TL (a + 1), N ++ [(2, 0, 0, 0)], true)) := Lib.hid (by rw [HRQ.out, if_pos hneg, decide_eq_true hneg, Bool.or_true])
    clear HRQ
    go_enter Tryd.func95, Tryd.ntmps95
    have HNX := Lib.hid (rnext_no B g nn nc m mc a NA TA L TL ⟨#[33]⟩ vf N false u w1 HM1 HK1 hm (by omega) (fun _ => ht1))
    go_wp2_with fail
    with_reducible refine HNX.out.mono ?_
    rintro e w2 ⟨rfl, b⟩
    have HM2 := Lib.hid (HM1.out.keep b)
    have b' : Below B w1 w2 := b.mono (by have := HM1.out.o.lt; have := HM1.out.o.gb; omega)
    have HB2 := Lib.hid (HB1.out.trans b')
    have HK2 := Lib.hid (HK1.out.below b')
    clear b b' HNX HM1 HB1 HK1
    have HNX := Lib.hid (rnext_no B g nn nc m mc a NA TA L TL ⟨#[116, 114, 117, 101]⟩ vf N false u w2 HM2 HK2 hm (by omega) (fun _ => ht2))
    go_wp2_with fail
    with_reducible refine HNX.out.mono ?_
    rintro e w3 ⟨rfl, b⟩
    have HM3 := Lib.hid (HM2.out.keep b)
    have b' : Below B w2 w3 := b.mono (by have := HM2.out.o.lt; have := HM2.out.o.gb; omega)
    have HB3 := Lib.hid (HB2.out.trans b')
    have HK3 := Lib.hid (HK2.out.below b')
    clear b b' HNX HM2 HB2 HK2
    have HNX := Lib.hid (rnext_no B g nn nc m mc a NA TA L TL ⟨#[102, 97, 108, 115, 101]⟩ vf N false u w3 HM3 HK3 hm (by omega) (fun _ => ht3))
    go_wp2_with fail
    with_reducible refine HNX.out.mono ?_
    rintro e w4 ⟨rfl, b⟩
    have HM4 := Lib.hid (HM3.out.keep b)
    have b' : Below B w3 w4 := b.mono (by have := HM3.out.o.lt; have := HM3.out.o.gb; omega)
    have HB4 := Lib.hid (HB3.out.trans b')
    have HK4 := Lib.hid (HK3.out.below b')
    clear b b' HNX HM3 HB3 HK3
    have HNX := Lib.hid (rnext_no B g nn nc m mc a NA TA L TL ⟨#[40]⟩ vf N false u w4 HM4 HK4 hm (by omega) (fun _ => ht4))
    go_wp2_with fail
    with_reducible refine HNX.out.mono ?_
    rintro e w5 ⟨rfl, b⟩
    have HM5 := Lib.hid (HM4.out.keep b)
    have b' : Below B w4 w5 := b.mono (by have := HM4.out.o.lt; have := HM4.out.o.gb; omega)
    have HB5 := Lib.hid (HB4.out.trans b')
    have HK5 := Lib.hid (HK4.out.below b')
    clear b b' HNX HM4 HB4 HK4
    obtain ⟨b, o, eA, hb', hc⟩ := HK5.out.t (by rw [hm.out]; omega)
    subst eA
    have d0 := hc a hTL
    have c0 := HM5.out.c0
    have c1 := HM5.out.c1
    have c2 := HM5.out.c2
    have hg := HM5.out.o.lt
    have HC := Lib.hid hc
    clear hc ht1 ht2 ht3 ht4
    generalize sg TL a = tk at *
    go_wp2
    go_quiet (first | (exact Calls.quiet_of_same (HID.out _)))
    have HQ6 : Hid (RpM (w5.drewN nq) B g (.slice NA nn nc) (.slice (some ⟨b, o, none⟩) m mc) vf N a false u ∧ RpK (w5.drewN nq) B NA (some ⟨b, o, none⟩) L TL ∧ Below B w1 (w5.drewN nq)) := Lib.hid ⟨HM5.out.keep (below_drewN (Below.refl _ _) nq), HK5.out.below (below_drewN (Below.refl _ _) nq), below_drewN HB5.out nq⟩
    have d0 : (w5.drewN nq).cell? ⟨b, o + a, none⟩ = some (.string tk) := d0
    clear c0 c1 c2 hg HM5 HB5 HK5 HID HC
    generalize w5.drewN nq = w6 at *
    have c0 := HQ6.out.1.c0
    have c1 := HQ6.out.1.c1
    have c2 := HQ6.out.1.c2
    have hg := HQ6.out.1.o.lt
    have HIQ : Hid (∀ n, Calls Tryd.prog 63 #[.slice NA nn nc, .string tk] (w6.drewN n) fun e w' => e = .returned (.int .i64 rx) ∧ w' = w6.drewN n) := Lib.hid (fun n => HIX.out _ ((HQ6.out.2.1.n.mono (show B ≤ w6.heap.size by have := HQ6.out.1.o.gb; omega)).below (below_drewN (Below.refl _ _) n)))
    go_wp2
    go_quiet (first | (exact Calls.quiet_of_same (HIQ.out _)))
    have HQ7 : Hid (RpM (w6.drewN nq) B g (.slice NA nn nc) (.slice (some ⟨b, o, none⟩) m mc) vf N a false u ∧ Below B w1 (w6.drewN nq)) := Lib.hid ⟨HQ6.out.1.keep (below_drewN (Below.refl _ _) nq), below_drewN HQ6.out.2.2 nq⟩
    clear c0 c1 c2 hg d0 HIQ HQ6 HIX
    generalize w6.drewN nq = w7 at *
    have HM7 := Lib.hid HQ7.out.1
    have c2 := HM7.out.c2
    have c5 := HM7.out.c5
    have f2 := HM7.out.f2
    have f5 := HM7.out.f5
    have hg := HM7.out.o.lt
    have HM8 := Lib.hid ((HM7.out.go (a + 1)).unk)
    have HB8 := Lib.hid ((HQ7.out.2.setCell (p := ⟨g, 2, none⟩) HM7.out.o.gb (.int .i64 ((a + 1 : Nat) : Int))).setCell (p := ⟨g, 5, none⟩) HM7.out.o.gb (.bool true))
    rw [show ((a + 1 : Nat) : Int) = (a : Int) + 1 by omega] at HM8 HB8
    have HPUT := Lib.hid (rput_m HM8.out hN2 2 0 0 0)
    have g1 : rx < 0 := hneg
    clear HQ7 HM7
    go_wp2_with fail
    with_reducible refine HPUT.out.mono ?_
    rintro e w9 ⟨rfl, ⟨vf4, hM9⟩, b9⟩
    have HM9 := Lib.hid hM9
    have HB9 := Lib.hid (HB8.out.trans b9)
    clear hM9 b9 HPUT HM8 HB8 c2 c5 f2 f5
    go_wp2
    go_ret
    exact ⟨HB9.out, .inl ⟨a + 1, vf4, _, true, HR.out, by simp, HM9.out, few_one _ hTL, by simp, by omega⟩⟩
  · have HR : Hid (R = some (tksAt TL (a + 1), N ++ [(2, rx, 0, 0)], u)) := Lib.hid (by rw [HRQ.out, if_neg (show ¬ rx < 0 by omega), decide_eq_false (show ¬ rx < 0 by omega), Bool.or_false])
    clear HRQ
    go_enter Tryd.func95, Tryd.ntmps95
    have HNX := Lib.hid (rnext_no B g nn nc m mc a NA TA L TL ⟨#[33]⟩ vf N false u w1 HM1 HK1 hm (by omega) (fun _ => ht1))
    go_wp2_with fail
    with_reducible refine HNX.out.mono ?_
    rintro e w2 ⟨rfl, b⟩
    have HM2 := Lib.hid (HM1.out.keep b)
    have b' : Below B w1 w2 := b.mono (by have := HM1.out.o.lt; have := HM1.out.o.gb; omega)
    have HB2 := Lib.hid (HB1.out.trans b')
    have HK2 := Lib.hid (HK1.out.below b')
    clear b b' HNX HM1 HB1 HK1
    have HNX := Lib.hid (rnext_no B g nn nc m mc a NA TA L TL ⟨#[116, 114, 117, 101]⟩ vf N false u w2 HM2 HK2 hm (by omega) (fun _ => ht2))
    go_wp2_with fail
    with_reducible refine HNX.out.mono ?_
    rintro e w3 ⟨rfl, b⟩
    have HM3 := Lib.hid (HM2.out.keep b)
    have b' : Below B w2 w3 := b.mono (by have := HM2.out.o.lt; have := HM2.out.o.gb; omega)
    have HB3 := Lib.hid (HB2.out.trans b')
    have HK3 := Lib.hid (HK2.out.below b')
    clear b b' HNX HM2 HB2 HK2
    have HNX := Lib.hid (rnext_no B g nn nc m mc a NA TA L TL ⟨#[102, 97, 108, 115, 101]⟩ vf N false u w3 HM3 HK3 hm (by omega) (fun _ => ht3))
    go_wp2_with fail
    with_reducible refine HNX.out.mono ?_
    rintro e w4 ⟨rfl, b⟩
    have HM4 := Lib.hid (HM3.out.keep b)
    have b' : Below B w3 w4 := b.mono (by have := HM3.out.o.lt; have := HM3.out.o.gb; omega)
    have HB4 := Lib.hid (HB3.out.trans b')
    have HK4 := Lib.hid (HK3.out.below b')
    clear b b' HNX HM3 HB3 HK3
    have HNX := Lib.hid (rnext_no B g nn nc m mc a NA TA L TL ⟨#[40]⟩ vf N false u w4 HM4 HK4 hm (by omega) (fun _ => ht4))
    go_wp2_with fail
    with_reducible refine HNX.out.mono ?_
    rintro e w5 ⟨rfl, b⟩
    have HM5 := Lib.hid (HM4.out.keep b)
    have b' : Below B w4 w5 := b.mono (by have := HM4.out.o.lt; have := HM4.out.o.gb; omega)
    have HB5 := Lib.hid (HB4.out.trans b')
    have HK5 := Lib.hid (HK4.out.below b')
    clear b b' HNX HM4 HB4 HK4
    obtain ⟨b, o, eA, hb', hc⟩ := HK5.out.t (by rw [hm.out]; omega)
    subst eA
    have d0 := hc a hTL
    have c0 := HM5.out.c0
    have c1 := HM5.out.c1
    have c2 := HM5.out.c2
    have hg := HM5.out.o.lt
    have HC := Lib.hid hc
    clear hc ht1 ht2 ht3 ht4
    generalize sg TL a = tk at *
    go_wp2
    go_quiet (first | (exact Calls.quiet_of_same (HID.out _)))
    have HQ6 : Hid (RpM (w5.drewN nq) B g (.slice NA nn nc) (.slice (some ⟨b, o, none⟩) m mc) vf N a false u ∧ RpK (w5.drewN nq) B NA (some ⟨b, o, none⟩) L TL ∧ Below B w1 (w5.drewN nq)) := Lib.hid ⟨HM5.out.keep (below_drewN (Below.refl _ _) nq), HK5.out.below (below_drewN (Below.refl _ _) nq), below_drewN HB5.out nq⟩
    have d0 : (w5.drewN nq).cell? ⟨b, o + a, none⟩ = some (.string tk) := d0
    clear c0 c1 c2 hg HM5 HB5 HK5 HID HC
    generalize w5.drewN nq = w6 at *
    have c0 := HQ6.out.1.c0
    have c1 := HQ6.out.1.c1
    have c2 := HQ6.out.1.c2
    have hg := HQ6.out.1.o.lt
    have HIQ : Hid (∀ n, Calls Tryd.prog 63 #[.slice NA nn nc, .string tk] (w6.drewN n) fun e w' => e = .returned (.int .i64 rx) ∧ w' = w6.drewN n) := Lib.hid (fun n => HIX.out _ ((HQ6.out.2.1.n.mono (show B ≤ w6.heap.size by have := HQ6.out.1.o.gb; omega)).below (below_drewN (Below.refl _ _) n)))
    go_wp2
    go_quiet (first | (exact Calls.quiet_of_same (HIQ.out _)))
    have HQ7 : Hid (RpM (w6.drewN nq) B g (.slice NA nn nc) (.slice (some ⟨b, o, none⟩) m mc) vf N a false u ∧ Below B w1 (w6.drewN nq)) := Lib.hid ⟨HQ6.out.1.keep (below_drewN (Below.refl _ _) nq), below_drewN HQ6.out.2.2 nq⟩
    clear c0 c1 c2 hg d0 HIQ HQ6 HIX
    generalize w6.drewN nq = w7 at *
    have HM7 := Lib.hid HQ7.out.1
    have c2 := HM7.out.c2
    have c5 := HM7.out.c5
    have f2 := HM7.out.f2
    have f5 := HM7.out.f5
    have hg := HM7.out.o.lt
    have HM8 := Lib.hid (HM7.out.go (a + 1))
    have HB8 := Lib.hid ((HQ7.out.2.setCell (p := ⟨g, 2, none⟩) HM7.out.o.gb (.int .i64 ((a + 1 : Nat) : Int))))
    rw [show ((a + 1 : Nat) : Int) = (a : Int) + 1 by omega] at HM8 HB8
    have HPUT := Lib.hid (rput_m HM8.out hN2 2 rx 0 0)
    have g1 : ¬ rx < 0 := by omega
    clear HQ7 HM7
    go_wp2_with fail
    with_reducible refine HPUT.out.mono ?_
    rintro e w9 ⟨rfl, ⟨vf4, hM9⟩, b9⟩
    have HM9 := Lib.hid hM9
    have HB9 := Lib.hid (HB8.out.trans b9)
    clear hM9 b9 HPUT HM8 HB8 c2 c5 f2 f5
    go_wp2
    go_ret
    exact ⟨HB9.out, .inl ⟨a + 1, vf4, _, u, HR.out, by simp, HM9.out, few_one _ hTL, by simp, by omega⟩⟩

end Go.Proofs.YtignkplogkaigaaDoor
