/-
  Plain mathematics and contracts of package diagram, several texts in one: FTks.
-/
import Derived.Test.YtignkplogkaigaaDoorFA
import Derived.Test.YtignkplogkaigaaDoorFB

/-! The reference's tokens. -/
namespace Go.Proofs.YtignkplogkaigaaDoor
open Go.RowKit Dg St
set_option linter.unusedVariables false
set_option linter.unusedSimpArgs false
attribute [local go_sem ↓] Go.wp_at_zero Go.wp_at_succ

theorem Tk.step {r t r' : List UInt8} (h : nxt r = some (t, r')) (ht : t ≠ []) (ts : Tks) : Tk ts r ↔ ∃ ts', ts = t :: ts' ∧ Tk ts' r' := by
  cases ts with
  | nil =>
    constructor
    · intro q
      have q' : nxt r = some ([], []) := q
      rw [h] at q'
      injection q' with q'
      injection q' with q1 _
      exact absurd q1 ht
    · rintro ⟨ts', e, _⟩; cases e
  | cons a ts =>
    constructor
    · rintro ⟨_, r2, q1, q2⟩
      rw [h] at q1
      injection q1 with q1
      injection q1 with q1 q3
      subst q1 q3
      exact ⟨ts, rfl, q2⟩
    · rintro ⟨ts', e, q⟩
      injection e with e1 e2
      subst e1 e2
      exact ⟨ht, r', h, q⟩
theorem Tk.none {r : List UInt8} (h : nxt r = none) (ts : Tks) : ¬ Tk ts r := by
  intro q
  cases ts with
  | nil => have q' : nxt r = some ([], []) := q; rw [h] at q'; cases q'
  | cons a ts => obtain ⟨_, r2, q1, _⟩ := q; rw [h] at q1; cases q1
theorem Tk.blank_iff {r : List UInt8} {b : UInt8} (hb : blk8 b = true) (ts : Tks) : Tk ts (b :: r) ↔ Tk ts r := by
  cases ts with
  | nil => show nxt _ = _ ↔ nxt _ = _; rw [nxt_blank b hb]
  | cons a ts => show (_ ∧ ∃ r', nxt (b :: r) = _ ∧ _) ↔ (_ ∧ ∃ r', nxt r = _ ∧ _); rw [nxt_blank b hb]
theorem Tk.end_iff (ts : Tks) : Tk ts [] ↔ ts = [] := by
  cases ts with
  | nil => exact ⟨fun _ => rfl, fun _ => nxt_end⟩
  | cons a ts =>
    constructor
    · rintro ⟨h, r', q, _⟩
      have q' : some ([], []) = some (a, r') := q
      injection q' with q'
      injection q' with q1 _
      exact absurd q1.symm h
    · intro e; cases e
/-- no token begins here -/
theorem nxt_bad {b : UInt8} {x : List UInt8} (h0 : blk8 b = false) (h1 : ¬ (b = 38 ∧ x.head? = some 38)) (h2 : ¬ (b = 124 ∧ x.head? = some 124)) (h3 : ¬ (b = 33 ∨ b = 40 ∨ b = 41)) (h4 : lt8 b = false) : nxt (b :: x) = none := by
  unfold nxt
  rw [List.dropWhile_cons_of_neg (by rw [h0]; decide)]
  show (tkN (b :: x)).map _ = none
  unfold tkN
  simp only
  rw [if_neg h1, if_neg h2, if_neg h3, if_neg (by rw [h4]; decide)]
  rfl
theorem infoStrF : (Tryd.prog.info? 9).map (fun i => (i.zero, i.size, i.bytes)) = some (some (.string ⟨#[]⟩), 1, 16) := by kernel_rfl
def stC (TL : List ByteArray) : List Value := TL.map Value.string
theorem stC_snoc (TL : List ByteArray) (t : ByteArray) : stC (TL ++ [t]) = stC TL ++ [.string t] := by unfold stC; simp
theorem rstr_own {w : World} {B n : Nat} {v : Value} {TL : List ByteArray} (h : w.ownsRow B 9 1 v n (stC TL)) (hl : TL.length = n) : ∃ A c, v = .slice A n c ∧ n ≤ c ∧ Rstr w w.heap.size A TL := by
  rcases h.2 with ⟨rfl, h0⟩ | ⟨q, cap, cur, rfl, hB, hq, hc, hm, hs, ht⟩
  · subst h0
    exact ⟨none, 0, rfl, Nat.le_refl _, fun h => by omega⟩
  · refine ⟨some ⟨q, 0, none⟩, cap, rfl, hc, fun h0 => ⟨q, 0, rfl, (Array.getElem?_eq_some_iff.1 hq).1, fun j hj => ?_⟩⟩
    rw [Nat.zero_add, h.cellAt j (by omega)]
    unfold stC sg
    rw [List.getElem?_map, List.getElem?_eq_getElem hj, List.getD_eq_getElem?_getD, List.getElem?_eq_getElem hj]
    rfl
/-- tokens is under way -/
structure TkI (w wr : World) (s : ByteArray) (TL : List ByteArray) (i : Nat) (vo : Value) : Prop where
  b : Below w.heap.size w wr
  o : wr.ownsRow w.heap.size 9 1 vo TL.length (stC TL)
  k : ∀ ts, Tk ts s.data.toList ↔ ∃ ts', ts = (TL.map fun t => t.data.toList) ++ ts' ∧ Tk ts' (s.data.toList.drop i)
  l : TL.length ≤ i
  z : ∀ t ∈ TL, t.size ≤ s.size
theorem TkI.tok {w wr w2 w6 : World} {s : ByteArray} {TL : List ByteArray} {i j gn cap : Nat} {vo : Value} {t : ByteArray} (h : TkI w wr s TL i vo) (hij : i < j) (hz : t.size ≤ s.size) (ht : t.data.toList ≠ []) (hx : nxt (s.data.toList.drop i) = some (t.data.toList, s.data.toList.drop j)) (hb : Below wr.heap.size wr w2)
    (hown : w6.ownsRow w.heap.size 9 1 (.slice (some ⟨gn, 0, none⟩) (TL.length + 1) cap) (TL.length + 1) (stC TL ++ [.string t])) (hgr : w2.grownBy w6 vo.ownBlock) : TkI w w6 s (TL ++ [t]) j (.slice (some ⟨gn, 0, none⟩) (TL.length + 1) cap) := by
  refine ⟨?_, by rw [stC_snoc, List.length_append]; exact hown, fun ts => ?_, by simp; have := h.l; omega, fun u hu => ?_⟩
  · exact (h.b.trans (hb.mono h.b.size)).grown hgr (by have := h.b.size; have := hb.size; omega) (fun k hk => (h.o.lt k hk).1)
  · rw [h.k]
    constructor
    · rintro ⟨ts', e, q⟩
      obtain ⟨ts2, e2, q2⟩ := (Tk.step hx ht ts').1 q
      refine ⟨ts2, ?_, q2⟩
      rw [e, e2, List.map_append, List.append_assoc]
      rfl
    · rintro ⟨ts', e, q⟩
      refine ⟨t.data.toList :: ts', ?_, (Tk.step hx ht _).2 ⟨ts', rfl, q⟩⟩
      rw [e, List.map_append, List.append_assoc]
      rfl
  · rcases List.mem_append.1 hu with q | q
    · exact h.z u q
    · rw [List.mem_singleton] at q
      subst q
      exact hz

/-! the walk -/
def okAll (x : List UInt8) : Bool := x.all fun c => lt8 c || dg8 c
theorem okAll_iff (x : List UInt8) : okAll x = true ↔ ∀ c ∈ x, (lt8 c || dg8 c) = true := List.all_eq_true
theorem TkI.blank {w wr : World} {s : ByteArray} {TL : List ByteArray} {i : Nat} {vo : Value} {B : UInt8} (h : TkI w wr s TL i vo) (hd : s.data.toList.drop i = B :: s.data.toList.drop (i + 1)) (hb : blk8 B = true) : TkI w wr s TL (i + 1) vo :=
  ⟨h.b, h.o, fun ts => by
    rw [h.k, hd]
    constructor
    · rintro ⟨ts', q1, q2⟩; exact ⟨ts', q1, (Tk.blank_iff hb _).1 q2⟩
    · rintro ⟨ts', q1, q2⟩; exact ⟨ts', q1, (Tk.blank_iff hb _).2 q2⟩, by have := h.l; omega, h.z⟩
theorem ext_tk {s : ByteArray} {i n : Nat} (h : i + n ≤ s.size) : (s.extract i (i + n)).data.toList = (s.data.toList.drop i).take n ∧ (s.extract i (i + n)).size ≤ s.size := by
  refine ⟨by rw [tl_ext, Nat.add_sub_cancel_left], by rw [ByteArray.size_extract]; omega⟩
theorem eq_lt {B : UInt8} {b v : Nat} (hB : B.toNat = b) (hv : v < 256) : B = UInt8.ofNat v ↔ b = v := by
  rw [← hB]
  constructor
  · intro e; rw [e]; simp; omega
  · intro e; rw [← e]; simp

/-- what tokens answers -/
def TkA (w w' : World) (s : ByteArray) (e : Ending) : Prop := Below w.heap.size w w' ∧ ((∃ TL A c, e = .returned (.tuple #[.slice A TL.length c, .bool true]) ∧ Tk (TL.map fun t => t.data.toList) s.data.toList ∧ Rstr w' w'.heap.size A TL ∧ TL.length ≤ s.size ∧ ∀ t ∈ TL, t.size ≤ s.size) ∨ ((∀ ts, ¬ Tk ts s.data.toList) ∧ e = .returned (.tuple #[.slice none 0 0, .bool false])))
set_option maxHeartbeats 16000000 in
set_option maxRecDepth 100000 in
theorem rtokens (s : ByteArray) (w : World) (hs : s.size ≤ 4000) :
    Calls Tryd.prog 43 #[.string s] w fun e w' => TkA w w' s e := by
  obtain ⟨j0, hj, hj0, hj1, hj2⟩ := info_parts infoStrF
  have hget := get_by8 s
  have HI0 : Hid (TkI w w s [] 0 (.slice none 0 0)) := Lib.hid ⟨Below.refl _ _, World.ownsRow_nil _ _ _ _, fun ts => ⟨fun h => ⟨ts, rfl, h⟩, fun ⟨ts', e, h⟩ => by rw [e]; exact h⟩, Nat.le_refl _, by simp⟩
  go_enter Tryd.func43, Tryd.ntmps43
  go_wp2
  go_loopw [4, 5] (fun vo iv wr => ∃ i TL, i ≤ s.size ∧ iv = .int .i64 ((i : Nat) : Int) ∧ Hid (TkI w wr s TL i vo)) (fun _ iv _ => s.size - (intOf iv).toNat)
  case atStart => exact ⟨0, [], Nat.zero_le _, rfl, HI0⟩
  case round =>
    clear HI0
    obtain ⟨i, TL, hi, rfl, HI⟩ := hrel
    by_cases hlt : i < s.size
    rotate_left
    · have i1 : ¬ (i : Int) < (s.size : Int) := by omega
      obtain ⟨A9, c9, e9, hc9, hR⟩ := rstr_own HI.out.o rfl
      obtain ⟨L9, hL9⟩ : ∃ L9, TL.length = L9 := ⟨_, rfl⟩
      rw [hL9] at e9
      subst e9
      have HR := Lib.hid hR
      have HL9 := Lib.hid hL9
      have HT : Hid (Tk (TL.map fun t => t.data.toList) s.data.toList) := Lib.hid ((HI.out.k _).2 ⟨[], by simp, by
        rw [List.drop_eq_nil_of_le (by rw [sz_tl]; omega)]
        exact nxt_end⟩)
      clear hR hL9 hc9
      go_wp2
      go_ret2
      refine ⟨HI.out.b, .inl ?_⟩
      refine ⟨TL, A9, c9, ?_, HT.out, HR.out, ?_, HI.out.z⟩
      · rw [HL9.out]
        try rfl
      · have := HI.out.l; omega
    rename ∀ (a : Act) (w : World), Code.wp _ _ _ a w → _ => hKc
    obtain ⟨B, hB, ht, hx, hx2⟩ := by8_snoc hlt
    have hd : s.data.toList.drop i = B :: s.data.toList.drop (i + 1) := by
      have hl : i < s.data.toList.length := by rw [sz_tl]; exact hlt
      rw [List.drop_eq_getElem_cons hl]
      congr 1
      rw [List.getElem?_eq_getElem hl] at hx2
      injection hx2
    have i1 : (i : Int) < (s.size : Int) := by omega
    have i2 : (0 : Int) ≤ (i : Int) := by omega
    obtain ⟨b, hb⟩ : ∃ b, by8 s i = b := ⟨_, rfl⟩
    have hb255 : b ≤ 255 := by rw [← hb]; exact by8_le s i
    rw [hb] at hB
    have HBv := Lib.hid hB
    clear ht hx hx2
    have hbl : blk8 B = true ↔ (b = 32 ∨ b = 9) := by
      have e32 : B = 32 ↔ b = 32 := eq_lt (v := 32) hB (by omega)
      have e9 : B = 9 ↔ b = 9 := eq_lt (v := 9) hB (by omega)
      unfold blk8
      rw [Bool.or_eq_true, beq_iff_eq, beq_iff_eq, e32, e9]
    have e33 : B = 33 ↔ b = 33 := eq_lt (v := 33) hB (by omega)
    have e40 : B = 40 ↔ b = 40 := eq_lt (v := 40) hB (by omega)
    have e41 : B = 41 ↔ b = 41 := eq_lt (v := 41) hB (by omega)
    have e38 : B = 38 ↔ b = 38 := eq_lt (v := 38) hB (by omega)
    have e124 : B = 124 ↔ b = 124 := eq_lt (v := 124) hB (by omega)
    by_cases c0 : b = 32 ∨ b = 9
    · have HI2 := Lib.hid (HI.out.blank hd (hbl.2 c0))
      clear HI hd hB e33 e40 e41 e38 e124 hbl hKc
      rcases c0 with c0 | c0
      all_goals
        subst c0
        go_wp2
        go_roundw
        case rel => exact ⟨i + 1, TL, by omega, by go_num, HI2⟩
        case measure => simp [intOf]; omega
    have g1 : ((b : Int) == 32) = false := beq_eq_false_iff_ne.2 (by omega)
    have g2 : ((b : Int) == 9) = false := beq_eq_false_iff_ne.2 (by omega)
    have hnb : blk8 B = false := by
      rcases q : blk8 B with _ | _
      · rfl
      · exact absurd (hbl.1 q) c0
    by_cases c1 : b = 40 ∨ b = 41 ∨ b = 33
    · have hxt : (s.extract i (i + 1)).data.toList ≠ [] ∧ (s.extract i (i + 1)).size ≤ s.size ∧ nxt (s.data.toList.drop i) = some ((s.extract i (i + 1)).data.toList, s.data.toList.drop (i + 1)) := by
        obtain ⟨q1, q2⟩ := ext_tk (s := s) (i := i) (n := 1) (by omega)
        rw [q1, hd]
        refine ⟨by simp, q2, ?_⟩
        exact nxt_one (by rcases c1 with q | q | q; exact .inr (.inl (e40.2 q)); exact .inr (.inr (e41.2 q)); exact .inl (e33.2 q))
      clear hd hB e33 e40 e41 e38 e124 hbl c0 hnb hKc
      rcases c1 with c1 | c1 | c1
      all_goals
        subst c1
        have HTK := Lib.hid (hxt)
        obtain ⟨A9, c9, e9, hc9, _⟩ := own_form HI.out.o
        obtain ⟨L9, hL9⟩ : ∃ L9, TL.length = L9 := ⟨_, rfl⟩
        rw [hL9] at e9 hc9
        subst e9
        have HL9 := Lib.hid hL9
        have HOW : Hid (wr.ownsRow w.heap.size 9 1 (.slice A9 L9 c9) L9 (stC TL)) := Lib.hid (by have := HI.out.o; rw [hL9] at this; exact this)
        have HSZ := Lib.hid HI.out.b.size
        have hL95 : L9 ≤ 5000 := by have := HI.out.l; omega
        obtain ⟨tk, htk⟩ : ∃ tk, s.extract i (i + 1) = tk := ⟨_, rfl⟩
        rw [htk] at HTK
        have z1 : (i : Int) + (1 : Int) ≤ (s.size : Int) := by omega
        have z2 : (i : Int) ≤ (i : Int) + (1 : Int) := by omega
        have z3 : (0 : Int) ≤ (i : Int) := by omega
        clear hL9
        go_wp2_with (refine wpList_append_lies _ rfl _ _ _ rfl w.heap.size 9 j0 _ 1 16 Tryd.underlying24 hj hj0 hj1 hj2 rfl (by omega) (.slice A9 L9 c9) L9 (stC TL) rfl (HOW.out.alloc _) _ _ _ [.string tk] rfl rfl (World.news_of_block (heap_alloc_new _ _)) (by simp [Value.oneCell']) (by omega) (by simp only [maxLen]; omega) (by omega) (by have := HSZ.out; simp; omega) _ rfl ?_; intro gn2 cap2 w7 hown2 hgrow2 hat2 hlt2)
        go_roundw
        case rel =>
          have hT := HI.out.tok (j := i + 1) (t := tk) (by omega) HTK.out.2.1 HTK.out.1 HTK.out.2.2 ((Below.refl wr.heap.size wr).alloc (Nat.le_refl _) _) (by rw [HL9.out]; exact hown2) hgrow2
          rw [HL9.out] at hT
          exact ⟨i + 1, _, by omega, by go_num, Lib.hid hT⟩
        case measure => simp [intOf]; omega
    have g3 : ((b : Int) == 40) = false := beq_eq_false_iff_ne.2 (by omega)
    have g4 : ((b : Int) == 41) = false := beq_eq_false_iff_ne.2 (by omega)
    have g5 : ((b : Int) == 33) = false := beq_eq_false_iff_ne.2 (by omega)
    have hn3 : ¬ (B = 33 ∨ B = 40 ∨ B = 41) := by rw [e33, e40, e41]; omega
    -- two equal signs
    have hc2 : ∀ o : UInt8, (B = o ∧ (s.data.toList.drop (i + 1)).head? = some o) ↔ (i + 1 < s.size ∧ (s.extract i (i + 2)).toList = [o, o]) := fun o => by
      have hsz := sz_tl s
      rw [ByteArray.toList_eq, tl_ext, hd]
      rcases hdd : s.data.toList.drop (i + 1) with _ | ⟨C, y⟩
      · have hl := congrArg List.length hdd
        rw [List.length_drop] at hl
        simp at hl
        constructor
        · rintro ⟨_, q⟩; cases q
        · rintro ⟨q, _⟩; omega
      · have hl := congrArg List.length hdd
        rw [List.length_drop] at hl
        simp at hl
        rw [show i + 2 - i = 2 by omega]
        constructor
        · rintro ⟨q1, q2⟩
          injection q2 with q2
          subst q1 q2
          exact ⟨by omega, rfl⟩
        · rintro ⟨_, q⟩
          injection q with q1 q
          injection q with q2 _
          subst q1
          exact ⟨rfl, by rw [q2]; rfl⟩
    by_cases c2 : (B = 38 ∧ (s.data.toList.drop (i + 1)).head? = some 38) ∨ (B = 124 ∧ (s.data.toList.drop (i + 1)).head? = some 124)
    · have hsz1 : i + 1 < s.size := by rcases c2 with q | q; exact ((hc2 38).1 q).1; exact ((hc2 124).1 q).1
      have hxt : (s.extract i (i + 2)).data.toList ≠ [] ∧ (s.extract i (i + 2)).size ≤ s.size ∧ nxt (s.data.toList.drop i) = some ((s.extract i (i + 2)).data.toList, s.data.toList.drop (i + 2)) := by
        obtain ⟨q1, q2⟩ := ext_tk (s := s) (i := i) (n := 2) (by omega)
        obtain ⟨o, ho, ho2, ho3⟩ : ∃ o : UInt8, (o = 38 ∨ o = 124) ∧ B = o ∧ (s.data.toList.drop (i + 1)).head? = some o := by
          rcases c2 with q | q
          · exact ⟨38, .inl rfl, q⟩
          · exact ⟨124, .inr rfl, q⟩
        have hd2 : s.data.toList.drop (i + 1) = o :: s.data.toList.drop (i + 2) := by
          rcases hdd : s.data.toList.drop (i + 1) with _ | ⟨C, y⟩
          · rw [hdd] at ho3; cases ho3
          · rw [hdd] at ho3
            injection ho3 with ho3
            have : s.data.toList.drop (i + 2) = y := by rw [show i + 2 = i + 1 + 1 by omega, ← List.drop_drop, hdd]; rfl
            rw [this, ho3]
        rw [q1, hd, hd2, ho2]
        exact ⟨by simp, q2, nxt_oo ho _⟩
      have i5 : (i : Int) + 1 < (s.size : Int) := by omega
      have i6 : (i : Int) + 2 ≤ (s.size : Int) := by omega
      have i7 : (i : Int) ≤ (i : Int) + 2 := by omega
      obtain ⟨tk0, htk0⟩ : ∃ tk0, s.extract i (i + 2) = tk0 := ⟨_, rfl⟩
      have hcs : (tk0.toList == [38, 38]) = true ∨ ((tk0.toList == [38, 38]) = false ∧ (tk0.toList == [124, 124]) = true) := by
        rcases c2 with q | q
        · have := ((hc2 38).1 q).2
          rw [htk0] at this
          exact .inl (by rw [this]; rfl)
        · have := ((hc2 124).1 q).2
          rw [htk0] at this
          exact .inr ⟨by rw [this]; rfl, by rw [this]; rfl⟩
      rw [htk0] at hxt
      clear hd hB e33 e40 e41 e38 e124 hbl c0 hnb hKc hc2 c1 c2 hn3
      rcases hcs with g6 | ⟨g6, g7⟩
      all_goals
        have HTK := Lib.hid (hxt)
        obtain ⟨A9, c9, e9, hc9, _⟩ := own_form HI.out.o
        obtain ⟨L9, hL9⟩ : ∃ L9, TL.length = L9 := ⟨_, rfl⟩
        rw [hL9] at e9 hc9
        subst e9
        have HL9 := Lib.hid hL9
        have HOW : Hid (wr.ownsRow w.heap.size 9 1 (.slice A9 L9 c9) L9 (stC TL)) := Lib.hid (by have := HI.out.o; rw [hL9] at this; exact this)
        have HSZ := Lib.hid HI.out.b.size
        have hL95 : L9 ≤ 5000 := by have := HI.out.l; omega
        have z1 : (i : Int) + (2 : Int) ≤ (s.size : Int) := by omega
        have z2 : (i : Int) ≤ (i : Int) + (2 : Int) := by omega
        have z3 : (0 : Int) ≤ (i : Int) := by omega
        clear hL9
        go_wp2_with (refine wpList_append_lies _ rfl _ _ _ rfl w.heap.size 9 j0 _ 1 16 Tryd.underlying24 hj hj0 hj1 hj2 rfl (by omega) (.slice A9 L9 c9) L9 (stC TL) rfl (HOW.out.alloc _) _ _ _ [.string tk0] rfl rfl (World.news_of_block (heap_alloc_new _ _)) (by simp [Value.oneCell']) (by omega) (by simp only [maxLen]; omega) (by omega) (by have := HSZ.out; simp; omega) _ rfl ?_; intro gn2 cap2 w7 hown2 hgrow2 hat2 hlt2)
        go_roundw
        case rel =>
          have hT := HI.out.tok (j := i + 2) (t := tk0) (by omega) HTK.out.2.1 HTK.out.1 HTK.out.2.2 ((Below.refl wr.heap.size wr).alloc (Nat.le_refl _) _) (by rw [HL9.out]; exact hown2) hgrow2
          rw [HL9.out] at hT
          exact ⟨i + 2, _, by omega, by go_num, Lib.hid hT⟩
        case measure => simp [intOf]; omega
    have hcs : ¬ (i : Int) + 1 < (s.size : Int) ∨ ((i : Int) + 1 < (s.size : Int) ∧ ((s.extract i (i + 2)).toList == [38, 38]) = false ∧ ((s.extract i (i + 2)).toList == [124, 124]) = false) := by
      by_cases q : i + 1 < s.size
      · refine .inr ⟨by omega, beq_eq_false_iff_ne.2 (fun e => c2 (.inl ((hc2 38).2 ⟨q, e⟩))), beq_eq_false_iff_ne.2 (fun e => c2 (.inr ((hc2 124).2 ⟨q, e⟩)))⟩
      · exact .inl (by omega)
    have HLT : Hid (∀ W, Calls Tryd.prog 68 #[.int .u8 (b : Int)] W fun e w' => e = .returned (.bool (decide (ltr b))) ∧ W = w') := Lib.hid (fun W => rlet b W)
    have hlt8 : lt8 B = true ↔ ltr b := by rw [← hB]; exact (lt8_iff B).symm
    by_cases c3 : ltr b
    rotate_left
    · have HNO : Hid (∀ ts, ¬ Tk ts s.data.toList) := Lib.hid (fun ts q => by
        obtain ⟨ts', _, q2⟩ := (HI.out.k ts).1 q
        rw [hd] at q2
        exact Tk.none (nxt_bad hnb (fun q => c2 (.inl q)) (fun q => c2 (.inr q)) hn3 (by
          rcases q : lt8 B with _ | _
          · rfl
          · exact absurd (hlt8.1 q) c3)) _ q2)
      rw [decide_eq_false c3] at HLT
      clear hd hB e33 e40 e41 e38 e124 hbl c0 hnb hKc hc2 c1 c2 hn3 hlt8 c3
      have i6 : (i : Int) + 1 < (s.size : Int) → (i : Int) + 2 ≤ (s.size : Int) := by omega
      have i7 : (i : Int) ≤ (i : Int) + 2 := by omega
      rcases hcs with g6 | ⟨g6, g7, g8⟩
      all_goals
        try replace i6 := i6 g6
        go_wp2_with (first | (go_at_call 68; with_reducible refine (HLT.out _).mono ?_; rintro e w3 ⟨rfl, rfl⟩))
        go_ret2
        exact ⟨HI.out.b, .inr ⟨HNO.out, rfl⟩⟩
    rw [decide_eq_true c3] at HLT
    have hB8 := hlt8.2 c3
    have HID : Hid (∀ n : Nat, i + n < s.size → ∀ W, Calls Tryd.prog 62 #[.string (s.extract i (i + n + 1))] W fun e w' => e = .returned (.bool (okAll ((s.data.toList.drop (i + 1)).take n))) ∧ W = w') := Lib.hid (fun n hn W => by
      have h := ident_any (s.extract i (i + n + 1)) W (by rw [ByteArray.size_extract]; omega)
      have e : decide (idS (s.extract i (i + n + 1))) = okAll ((s.data.toList.drop (i + 1)).take n) := by
        have h1 := idS_idT (s.extract i (i + n + 1))
        rw [Nat.add_assoc, (ext_tk (s := s) (i := i) (n := n + 1) (by omega)).1, hd, List.take_succ_cons] at h1
        rw [Nat.add_assoc]
        rcases q : okAll ((s.data.toList.drop (i + 1)).take n) with _ | _
        · refine decide_eq_false (fun z => ?_)
          have := (okAll_iff _).2 (h1.1 z).2
          rw [q] at this; cases this
        · exact decide_eq_true (h1.2 ⟨hB8, (okAll_iff _).1 q⟩)
      rw [e] at h
      exact h)
    have HWD : Hid (∀ n : Nat, 1 ≤ n → i + n ≤ s.size → (∀ c ∈ (s.data.toList.drop (i + 1)).take (n - 1), (lt8 c || dg8 c) = true) → (i + n < s.size → ¬ ∀ c ∈ (s.data.toList.drop (i + 1)).take n, (lt8 c || dg8 c) = true) → (s.extract i (i + n)).data.toList ≠ [] ∧ (s.extract i (i + n)).size ≤ s.size ∧ nxt (s.data.toList.drop i) = some ((s.extract i (i + n)).data.toList, s.data.toList.drop (i + n))) := Lib.hid (fun n h1 h2 h3 h4 => by
      obtain ⟨q1, q2⟩ := ext_tk (s := s) (i := i) (n := n) h2
      obtain ⟨j, rfl⟩ : ∃ j, n = j + 1 := ⟨n - 1, by omega⟩
      rw [Nat.add_sub_cancel] at h3
      have hdr : s.data.toList.drop (i + (j + 1)) = (s.data.toList.drop (i + 1)).drop j := by rw [List.drop_drop]; congr 1; omega
      rw [q1, hdr, hd, List.take_succ_cons]
      refine ⟨by simp, q2, ?_⟩
      have hng : ng ((s.data.toList.drop (i + 1)).drop j) := by
        rcases hdd : (s.data.toList.drop (i + 1)).drop j with _ | ⟨c, y⟩
        · exact .inl rfl
        · refine .inr ⟨c, y, rfl, ?_⟩
          have hl := congrArg List.length hdd
          rw [List.length_drop, List.length_drop, sz_tl] at hl
          simp at hl
          have hlt2 : i + (j + 1) < s.size := by omega
          rcases q : (lt8 c || dg8 c) with _ | _
          · rfl
          · refine absurd (fun d hdm => ?_) (h4 hlt2)
            have e : (s.data.toList.drop (i + 1)).take (j + 1) = (s.data.toList.drop (i + 1)).take j ++ [c] := by
              have hjl : j < (s.data.toList.drop (i + 1)).length := by rw [List.length_drop, sz_tl]; omega
              rw [List.drop_eq_getElem_cons hjl] at hdd
              injection hdd with hdd _
              rw [← hdd]
              exact (List.take_append_getElem hjl).symm
            rw [e] at hdm
            rcases List.mem_append.1 hdm with z | z
            · exact h3 d z
            · rw [List.mem_singleton] at z; rw [z]; exact q
      have := nxt_wordN (b := B) (x := (s.data.toList.drop (i + 1)).take j) hB8 h3 hng
      rw [List.cons_append, List.take_append_drop] at this
      exact this)
    clear hd hB e33 e40 e41 e38 e124 hbl c0 hnb hKc hc2 c1 c2 hn3 hlt8 c3 hB8
    have i6 : (i : Int) + 1 < (s.size : Int) → (i : Int) + 2 ≤ (s.size : Int) := by omega
    have i7 : (i : Int) ≤ (i : Int) + 2 := by omega
    rcases hcs with g6 | ⟨g6, g7, g8⟩
    all_goals
      try replace i6 := i6 g6
      go_wp2_with (first | (go_at_call 68; with_reducible refine (HLT.out _).mono ?_; rintro e w3 ⟨rfl, rfl⟩))
      go_loopw [6] (fun nv wr' => ∃ n : Nat, 1 ≤ n ∧ i + n ≤ s.size ∧ nv = .int .i64 (n : Int) ∧ wr' = wr ∧ Hid (∀ c ∈ (s.data.toList.drop (i + 1)).take (n - 1), (lt8 c || dg8 c) = true)) (fun nv _ => s.size - (intOf nv).toNat)
      case atStart => exact ⟨1, Nat.le_refl _, by omega, rfl, rfl, Lib.hid (by simp)⟩
      case round =>
        obtain ⟨n, hn1, hn2, rfl, rfl, HOK⟩ := hrel
        clear g6 i6 i7
        by_cases q1 : i + n < s.size
        · have k1 : (i : Int) + (n : Int) < (s.size : Int) := by omega
          have k2 : (i : Int) + (n : Int) + 1 ≤ (s.size : Int) := by omega
          have k3 : (i : Int) ≤ (i : Int) + (n : Int) + 1 := by omega
          have HIN := Lib.hid (HID.out n q1)
          rcases q2 : okAll ((s.data.toList.drop (i + 1)).take n) with _ | _
          rotate_left
          · rw [q2] at HIN
            have HQ2 : Hid (∀ c ∈ (s.data.toList.drop (i + 1)).take (n + 1 - 1), (lt8 c || dg8 c) = true) := Lib.hid (by rw [Nat.add_sub_cancel]; exact (okAll_iff _).1 q2)
            clear q2
            go_wp2_with (first | (go_at_call 62; with_reducible refine (HIN.out _).mono ?_; rintro e w3 ⟨rfl, rfl⟩))
            go_roundw
            case rel => exact ⟨n + 1, by omega, by omega, by go_num, by first | rfl | trivial, HQ2⟩
            case measure => simp [intOf]; omega
          · rw [q2] at HIN
            have hxt := HWD.out n hn1 hn2 HOK.out (fun _ z => by have := (okAll_iff _).2 z; rw [q2] at this; cases this)
            clear q2 HWD HID
            have HTK := Lib.hid (hxt)
            obtain ⟨A9, c9, e9, hc9, _⟩ := own_form HI.out.o
            obtain ⟨L9, hL9⟩ : ∃ L9, TL.length = L9 := ⟨_, rfl⟩
            rw [hL9] at e9 hc9
            subst e9
            have HL9 := Lib.hid hL9
            have HOW : Hid (wr.ownsRow w.heap.size 9 1 (.slice A9 L9 c9) L9 (stC TL)) := Lib.hid (by have := HI.out.o; rw [hL9] at this; exact this)
            have HSZ := Lib.hid HI.out.b.size
            have hL95 : L9 ≤ 5000 := by have := HI.out.l; omega
            obtain ⟨tk, htk⟩ : ∃ tk, s.extract i (i + n) = tk := ⟨_, rfl⟩
            rw [htk] at HTK
            have z1 : (i : Int) + (n : Int) ≤ (s.size : Int) := by omega
            have z2 : (i : Int) ≤ (i : Int) + (n : Int) := by omega
            have z3 : (0 : Int) ≤ (i : Int) := by omega
            clear hL9
            go_wp2_with (first | (go_at_call 62; with_reducible refine (HIN.out _).mono ?_; rintro e w3 ⟨rfl, rfl⟩) | (refine wpList_append_lies _ rfl _ _ _ rfl w.heap.size 9 j0 _ 1 16 Tryd.underlying24 hj hj0 hj1 hj2 rfl (by omega) (.slice A9 L9 c9) L9 (stC TL) rfl (HOW.out.alloc _) _ _ _ [.string tk] rfl rfl (World.news_of_block (heap_alloc_new _ _)) (by simp [Value.oneCell']) (by omega) (by simp only [maxLen]; omega) (by omega) (by have := HSZ.out; simp; omega) _ rfl ?_; intro gn2 cap2 w7 hown2 hgrow2 hat2 hlt2))
            go_roundw
            case rel =>
              have hT := HI.out.tok (j := i + n) (t := tk) (by omega) HTK.out.2.1 HTK.out.1 HTK.out.2.2 ((Below.refl wr.heap.size wr).alloc (Nat.le_refl _) _) (by rw [HL9.out]; exact hown2) hgrow2
              rw [HL9.out] at hT
              exact ⟨i + n, _, by omega, by go_num, Lib.hid hT⟩
            case measure => simp [intOf]; omega
        · have k1 : ¬ (i : Int) + (n : Int) < (s.size : Int) := by omega
          have hxt := HWD.out n hn1 hn2 HOK.out (fun q => absurd q q1)
          clear HWD HID
          have HTK := Lib.hid (hxt)
          obtain ⟨A9, c9, e9, hc9, _⟩ := own_form HI.out.o
          obtain ⟨L9, hL9⟩ : ∃ L9, TL.length = L9 := ⟨_, rfl⟩
          rw [hL9] at e9 hc9
          subst e9
          have HL9 := Lib.hid hL9
          have HOW : Hid (wr.ownsRow w.heap.size 9 1 (.slice A9 L9 c9) L9 (stC TL)) := Lib.hid (by have := HI.out.o; rw [hL9] at this; exact this)
          have HSZ := Lib.hid HI.out.b.size
          have hL95 : L9 ≤ 5000 := by have := HI.out.l; omega
          obtain ⟨tk, htk⟩ : ∃ tk, s.extract i (i + n) = tk := ⟨_, rfl⟩
          rw [htk] at HTK
          have z1 : (i : Int) + (n : Int) ≤ (s.size : Int) := by omega
          have z2 : (i : Int) ≤ (i : Int) + (n : Int) := by omega
          have z3 : (0 : Int) ≤ (i : Int) := by omega
          clear hL9
          go_wp2_with (refine wpList_append_lies _ rfl _ _ _ rfl w.heap.size 9 j0 _ 1 16 Tryd.underlying24 hj hj0 hj1 hj2 rfl (by omega) (.slice A9 L9 c9) L9 (stC TL) rfl (HOW.out.alloc _) _ _ _ [.string tk] rfl rfl (World.news_of_block (heap_alloc_new _ _)) (by simp [Value.oneCell']) (by omega) (by simp only [maxLen]; omega) (by omega) (by have := HSZ.out; simp; omega) _ rfl ?_; intro gn2 cap2 w7 hown2 hgrow2 hat2 hlt2)
          go_roundw
          case rel =>
            have hT := HI.out.tok (j := i + n) (t := tk) (by omega) HTK.out.2.1 HTK.out.1 HTK.out.2.2 ((Below.refl wr.heap.size wr).alloc (Nat.le_refl _) _) (by rw [HL9.out]; exact hown2) hgrow2
            rw [HL9.out] at hT
            exact ⟨i + n, _, by omega, by go_num, Lib.hid hT⟩
          case measure => simp [intOf]; omega

end Go.Proofs.YtignkplogkaigaaDoor
