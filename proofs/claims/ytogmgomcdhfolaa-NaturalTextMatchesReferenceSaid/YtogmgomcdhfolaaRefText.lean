/-
  The reference's small and Text: the decimal text of a number.
-/
import Derived.Test.YtogmgomcdhfolaaRefSmall
import Derived.Test.YtogmgomcdhfolaaLawStrings
namespace Go.Proofs.Ytogmgomcdhfolaa
open Go.RowKit Nt

/-- the division's row: k limbs are still to come -/
def RsmSt (w wr : World) (g n cp : Nat) (l : List Nat) (d k r : Nat) : Prop := ∃ Q, DivInv l d (n - k) Q r ∧ Ow wr w.heap.size g n cp (l.take k ++ Q) ∧ Below w.heap.size w wr

theorem RsmSt.step {w wr : World} {g n cp d t r : Nat} {l : List Nat} (h : RsmSt w wr g n cp l d (t + 1) r) (hl : Wf l) (hn : l.length = n) (ht : t < n) :
    RsmSt w (wr.setCell ⟨g, t, none⟩ (.int .u32 ((quoL r (nth l t) d : Nat) : Int))) g n cp l d t (remL r (nth l t) d) := by
  obtain ⟨Q, hi, ho, hb⟩ := h
  have hs := hi.step (k := t) hl (by omega)
  rw [show n - (t + 1) + 1 = n - t by omega] at hs
  refine ⟨_, hs, ?_, hb.setCell ho.base.1 _⟩
  have h1 := ho.store t (quoL r (nth l t) d)
  rw [List.set_append_left _ _ (by rw [List.length_take]; omega), take_snoc (by omega), List.set_append_right _ _ (by rw [List.length_take]; omega), List.length_take, Nat.min_eq_left (by omega), Nat.sub_self, List.set_cons_zero, List.append_assoc] at h1
  exact h1

theorem ret_vu {v : Value} {x y : Nat} (h : x = y) : Ending.returned (.tuple #[v, .int .u64 (x : Int)]) = .returned (.tuple #[v, .int .u64 (y : Int)]) := by rw [h]
set_option maxHeartbeats 4000000 in
theorem rsmall_some (N c n : Nat) (A : Option Addr) (w : World) (ha : Hid (Rd w w.heap.size A (dg N))) (la : Hid ((dg N).length = n)) (hn0 : 0 < n) (hn : n ≤ 1024) :
    Calls Try.prog 58 #[.slice A n c, .int .u64 10] w (fun e w' => ∃ v, e = .returned (.tuple #[v, .int .u64 ((N % 10 : Nat) : Int)]) ∧ Num w' v (N / 10) ∧ Below w.heap.size w w') := by
  have WA : Hid (Wf (dg N)) := wf_dg N
  have hb0 := (Below.refl w.heap.size w).alloc (Nat.le_refl _) (.cells #[] 41)
  go_enter Try.func58, Try.ntmps58
  go_wp2_with (first
    | (at_builtin; refine wpList_append_rd _ rfl _ _ 23 23 rfl Try.underlying23 Try.underlying23 w.heap.size _ 0 [] (dg N) rfl (own_empty w) _ A n c rfl ((ha.out.below hb0).mono (Nat.le_refl _)) la.out (by omega) (by simp) ?_; intro v3 w3 hown3 hg3; have hb4 : Below w.heap.size w w3 := hb0.grown (show _ from hg3) (by simp) (fun q hq => by injection hq with hq; rw [← hq]; exact Nat.le_refl _); obtain ⟨g3, c3, rfl, hown4⟩ := own_form hown3 (by omega); rw [Nat.zero_add, List.nil_append] at hown4; have HO4 := Lib.hid hown4; clear hown3 hown4 hg3))
  have S0 : Hid (RsmSt w w3 g3 n c3 (dg N) 10 n 0) := ⟨[], by rw [Nat.sub_self]; exact DivInv.start _ (by omega), by rw [List.take_of_length_le (by rw [la.out]; exact Nat.le_refl _), List.append_nil]; exact HO4.out, hb4⟩
  clear hb4
  go_loopw [7, 8] (fun q i wr => ∃ (k r : Nat) (z : Int), k ≤ n ∧ r < 10 ∧ z = (k : Int) - 1 ∧ i = .int .i64 z ∧ q = .int .u64 r ∧ Hid (RsmSt w wr g3 n c3 (dg N) 10 k r)) (fun _ i _ => (intOf i + 1).toNat)
  case atStart => exact ⟨n, 0, _, Nat.le_refl _, by omega, by omega, rfl, rfl, S0⟩
  case round =>
    obtain ⟨k, r, z, hk, hr, hz, rfl, rfl, hst⟩ := hrel
    by_cases hlt : 0 < k
    · obtain ⟨t, ht⟩ : ∃ t, t = k - 1 := ⟨_, rfl⟩
      obtain rfl : z = (t : Int) := by omega
      obtain rfl : k = t + 1 := by omega
      obtain ⟨Q, hi, ho, hbl⟩ := hst.out
      have c1 : wr.cell? ⟨g3, t, none⟩ = some (.int .u32 ((nth ((dg N).take (t + 1) ++ Q) t : Nat) : Int)) := ho.cell (by omega)
      have f1 : wr.frozen? ⟨g3, t, none⟩ = false := World.ownsRow.frozenAt ho t
      have HN := hst.out.step WA.out la.out (by omega)
      obtain ⟨x, hx⟩ : ∃ x, nth (dg N) t = x := ⟨_, rfl⟩
      have HX := Lib.hid hx
      have hx1 : x < 4294967296 := by rw [← hx]; exact nth_lt WA.out _
      rw [hx] at HN
      have hq1 : quoL r x 10 < 4294967296 := quoL_lt hx1 hr
      have hr1 : remL r x 10 < 10 := remL_lt hr
      obtain ⟨sv, hsv⟩ : ∃ sv, sv = r * 4294967296 + x := ⟨_, rfl⟩
      have es : (r : Int) * 4294967296 + (x : Int) = (sv : Int) := by omega
      obtain ⟨q, hq⟩ : ∃ q, quoL r x 10 = q := ⟨_, rfl⟩
      obtain ⟨r2, hr2⟩ : ∃ r2, remL r x 10 = r2 := ⟨_, rfl⟩
      rw [hq] at hq1 HN
      rw [hr2] at hr1 HN
      have eq1 : (sv : Int) / 10 = (q : Int) := by unfold quoL at hq; omega
      have eq2 : (sv : Int) % 10 = (r2 : Int) := by unfold remL at hr2; omega
      have hsl : sv ≤ 100000000000 := by omega
      have HN2 := Lib.hid HN
      have RA : Hid (Rd wr w.heap.size A (dg N)) := ha.out.below hbl
      clear hi ho hx hsv hq hr2 HN hz ht
      go_wp2_with (first
        | (go_at_call 42; ((with_reducible refine (rlimb_any c n t x RA.out WA.out la.out HX.out).mono ?_); rintro e w' ⟨rfl, rfl⟩)))
      go_roundw
      case rel => exact ⟨t, r2, (t : Int) - 1, by omega, hr1, rfl, by go_num, by first | rfl | rw [eq2], by first | exact HN2.out | (rw [eq1]; exact HN2.out)⟩
      case measure => simp [intOf] <;> omega
    · obtain rfl : k = 0 := by omega
      obtain rfl : z = -1 := by omega
      clear hlt hz
      obtain ⟨Q, hi, ho, hbl⟩ := hst.out
      rw [List.take_zero, List.nil_append] at ho
      have hW : Hid (Wf Q) := hi.wf
      have hX : Hid (Q.length = n) := show Q.length = n by rw [hi.len, Nat.sub_zero]
      have q := hi.eq
      rw [Nat.sub_zero, la.out, Nat.sub_self, List.drop_zero, val_dg] at q
      have hlt := hi.lt
      have hv : Hid (val Q = N / 10) := show val Q = N / 10 by omega
      have hr3 : Hid (r = N % 10) := show r = N % 10 by omega
      have HR1 : Hid (Rd wr wr.heap.size (some ⟨g3, 0, none⟩) Q) := ho.rd.1
      have hnc : n ≤ c3 := ho.rd.2
      clear hi ho q hlt
      go_wp2_with (first
        | (go_at_call 53; refine (rtrim_any c3 n HR1.out hW.out hX.out (by omega) hnc).mono ?_; rintro e w' ⟨rfl, rfl⟩))
      go_ret2
      refine ⟨_, ret_vu hr3.out, ?_, hbl⟩
      have h2 := congrArg List.length (dg_val_take hW.out)
      rw [List.length_take, hX.out] at h2
      have h3 := HR1.out.dg hW.out
      rw [← hv.out]
      exact ⟨_, _, rfl, by omega, h3⟩

/-- the text of the first j digits, the least significant last -/
def tl (D : List Nat) (j : Nat) : ByteArray := strOfNums (((D.take j).reverse).map (fun d => ((d + 48 : Nat) : Int)))
theorem tl_size (D : List Nat) (j : Nat) : (tl D j).size ≤ D.length := by
  unfold tl; rw [strOfNums_size]; simp; omega
theorem tl_step {D : List Nat} {j : Nat} (h : j < D.length) : strOfNums [((nth D j + 48 : Nat) : Int)] ++ tl D j = tl D (j + 1) := by
  apply ByteArray.ext
  apply Array.ext'
  unfold tl
  rw [ByteArray.data_append, Array.toList_append, strOfNums_data, strOfNums_data, strOfNums_data, Nd.take_snoc h, List.reverse_append]
  simp [nth]

theorem tl_done {N : Nat} (h : N ≠ 0) : tl (Nd.dg N) (Nd.dg N).length = txt N := by
  unfold tl txt digs
  rw [if_neg h, List.take_of_length_le (Nat.le_refl _)]
theorem nd_drop {N j : Nat} (hj : j < (Nd.dg N).length) : Nd.val ((Nd.dg N).drop j) / 10 = Nd.val ((Nd.dg N).drop (j + 1)) ∧ Nd.val ((Nd.dg N).drop j) % 10 = nth (Nd.dg N) j ∧ nth (Nd.dg N) j < 10 := by
  have hx : (Nd.dg N).getD j 0 < 10 := (Nd.wf_dg N).getD j
  have e : (Nd.dg N).drop j = nth (Nd.dg N) j :: (Nd.dg N).drop (j + 1) := by
    rw [List.drop_eq_getElem_cons hj, nth_getElem hj]
  rw [e, Nd.val_cons]
  unfold nth
  refine ⟨by omega, by omega, hx⟩
theorem nd_drop_pos {N j : Nat} (hj : j < (Nd.dg N).length) : 0 < Nd.val ((Nd.dg N).drop j) := by
  have hc : Nd.Can ((Nd.dg N).drop j) := by
    right
    rw [List.getLast?_drop, if_neg (by omega)]
    rcases Nd.can_dg N with h | h
    · rw [h] at hj; simp at hj
    · exact h
  exact Nat.pos_of_ne_zero (Nd.val_pos hc (by intro e; have := congrArg List.length e; simp at this; omega))

/-- the text while it grows -/
structure TlSt (w wr : World) (N j R : Nat) (A : Option Addr) (S : ByteArray) : Prop where
  rest : R = Nd.val ((Nd.dg N).drop j)
  str : S = tl (Nd.dg N) j
  rd : Rd wr wr.heap.size A (dg R)
  bel : Below w.heap.size w wr

theorem TlSt.bound {w wr : World} {N j R : Nat} {A : Option Addr} {S : ByteArray} (h : TlSt w wr N j R A S) (ha : (dg N).length ≤ 1024) (hR : 0 < R) (hj : j ≤ (Nd.dg N).length) : j ≤ 10240 := by
  refine digits_bound (R := R) (v := Nd.val ((Nd.dg N).take j)) ha hR ?_
  have e := Nd.val_append ((Nd.dg N).take j) ((Nd.dg N).drop j)
  rw [List.take_append_drop, Nd.val_dg, List.length_take, Nat.min_eq_left hj, ← h.rest] at e
  exact e.symm
theorem TlSt.size {w wr : World} {N j R : Nat} {A : Option Addr} {S : ByteArray} (h : TlSt w wr N j R A S) (hj : j ≤ (Nd.dg N).length) : S.size = j := by
  rw [h.str]; unfold tl; rw [strOfNums_size]; simp; omega
/-- the measure: how long the string may still grow -/
def leftS : Value → Nat | .string s => 10242 - s.size | _ => 0

theorem conv_one (W : World) (x : Int) :
    (convert 69 9 (.slice (some ⟨W.heap.size, 0, none⟩) 1 1)).run Try.prog (W.alloc (.cells #[.int .u8 x] 5)) = .ok (.string (strOfNums [x])) (W.alloc (.cells #[.int .u8 x] 5)) := by
  refine run_convert_bytes_arg _ 69 5 Try.underlying69 Try.underlying5 W.heap.size 0 1 1 [x] rfl (fun i hi => ?_) 9 Try.underlying9
  have e : i = 0 := by simpa using hi
  subst e
  simp

theorem ret_str {s t : ByteArray} (h : s = t) : Ending.returned (.string s) = .returned (.string t) := by rw [h]
set_option maxHeartbeats 4000000 in
theorem rtext_pos (N c : Nat) (A : Option Addr) (w : World) (ha : Hid (Rd w w.heap.size A (dg N))) (la : (dg N).length ≤ 1024) (hpos : 0 < (dg N).length) :
    Calls Try.prog 35 #[.slice A (dg N).length c] w fun e w' => e = .returned (.string (txt N)) ∧ Below w.heap.size w w' := by
  have VA := Lib.hid (vldB_dg la)
  have ea : (((dg N).length : Int) == 0) = false := beq_eq_false_iff_ne.2 (by omega)
  have T0 : Hid (TlSt w w N 0 N A ⟨#[]⟩) := ⟨by rw [List.drop_zero, Nd.val_dg], rfl, ha.out, Below.refl _ _⟩
  go_enter Try.func35, Try.ntmps35
  go_wp2_with (first
    | (go_at_call 27; ((with_reducible refine (rvalid_yes c _ ha.out rfl (by omega) VA.out).mono ?_); rintro e w' ⟨rfl, rfl⟩)))
  go_loopw [0, 3] (fun v q wr => ∃ (j R c : Nat) (A : Option Addr) (S : ByteArray), v = .slice A (dg R).length c ∧ q = .string S ∧ (dg R).length ≤ 1024 ∧ S.size ≤ 10241 ∧ Hid (j ≤ (Nd.dg N).length) ∧ Hid (TlSt w wr N j R A S)) (fun _ q _ => leftS q)
  case atStart => exact ⟨0, N, c, A, _, rfl, rfl, la, by decide, Nat.zero_le _, T0⟩
  case round =>
    obtain ⟨j, R, c, A, S, rfl, rfl, hR, hS, hj, hst⟩ := hrel
    by_cases hlt : 0 < (dg R).length
    · have hR0 : 0 < R := by
        rcases Nat.eq_zero_or_pos R with h | h
        · rw [h, dg_zero] at hlt; simp at hlt
        · exact h
      have hjb := hst.out.bound la hR0 hj.out
      have hsz := hst.out.size hj.out
      have hjl : j < (Nd.dg N).length := by
        rcases Nat.lt_or_ge j (Nd.dg N).length with h | h
        · exact h
        · have := hst.out.rest; rw [List.drop_of_length_le h, Nd.val_nil] at this; omega
      obtain ⟨d1, d2, d3⟩ := nd_drop hjl
      rw [← hst.out.rest] at d1 d2
      obtain ⟨x, hx⟩ : ∃ x, nth (Nd.dg N) j = x := ⟨_, rfl⟩
      rw [hx] at d2 d3
      have hstr : Hid (strOfNums [48 + (x : Int)] ++ S = tl (Nd.dg N) (j + 1)) := show _ = _ by rw [hst.out.str, ← hx, Int.add_comm]; exact tl_step hjl
      obtain ⟨T, hT⟩ : ∃ T, strOfNums [48 + (x : Int)] = T := ⟨_, rfl⟩
      have hT1 : T.size ≤ 1 := by rw [← hT, strOfNums_size]; exact Nat.le_refl _
      have hT2 : Hid (T.size = 1) := show T.size = 1 by rw [← hT, strOfNums_size]; rfl
      rw [hT] at hstr
      have HT := Lib.hid hT
      clear hT
      have HD1 := Lib.hid d1
      have HD2 := Lib.hid d2
      have HJL := Lib.hid hjl
      have RA : Hid (Rd wr wr.heap.size A (dg R)) := hst.out.rd
      have hbl := hst.out.bel
      have hl2 : (dg (R / 10)).length ≤ 1024 := Nat.le_trans (dg_length_mono (Nat.div_le_self _ _)) hR
      have hsz2 : S.size ≤ 10240 := by omega
      clear hx d1 d2 hjl hsz
      go_wp2_with (first
        | (go_at_call 58; refine (rsmall_some R c _ A _ RA.out rfl hlt hR).mono ?_; rintro e w2 ⟨v2, rfl, ⟨A2, c2, rfl, hc2, hr2⟩, hb2⟩; rw [HD2.out]; have HR2 := Lib.hid hr2; have hcv := conv_one w2 (48 + (x : Int)); rw [HT.out] at hcv; clear hr2))
      have hb3 := (hbl.trans (hb2.mono hbl.size)).alloc (hbl.trans (hb2.mono hbl.size)).size (.cells #[.int .u8 (48 + (x : Int))] 5)
      have hsc : (T ++ S).size = S.size + 1 := by rw [ByteArray.size_append, hT2.out]; omega
      have HNX : Hid (TlSt w (w2.alloc (.cells #[.int .u8 (48 + (x : Int))] 5)) N (j + 1) (R / 10) A2 (T ++ S)) :=
        ⟨HD1.out, hstr.out, (HR2.out.below ((Below.refl _ _).alloc (Nat.le_refl _) _)).mono (by simp), hb3⟩
      go_roundw
      case rel => exact ⟨j + 1, R / 10, c2, A2, _, rfl, rfl, hl2, by rw [hsc]; omega, HJL.out, HNX⟩
      case measure => simp only [leftS, hsc]; omega
    · have hR0 : R = 0 := dg_eq_nil.1 (List.eq_nil_of_length_eq_zero (by omega))
      have hjj : j = (Nd.dg N).length := by
        rcases Nat.lt_or_ge j (Nd.dg N).length with h | h
        · have h1 := nd_drop_pos h
          rw [← hst.out.rest] at h1
          omega
        · have := hj.out; omega
      have hN : N ≠ 0 := fun e => by rw [e, dg_zero] at hpos; simp at hpos
      have hS2 : Hid (S = txt N) := show S = txt N by rw [hst.out.str, hjj]; exact tl_done hN
      have hbl := hst.out.bel
      clear hR0 hjj
      go_wp2_with fail
      go_ret
      exact ⟨ret_str hS2.out, hbl⟩

theorem rtext_zero (A : Option Addr) (c : Nat) (w : World) :
    Calls Try.prog 35 #[.slice A 0 c] w fun e w' => e = .returned (.string (txt 0)) ∧ Below w.heap.size w w' := by
  rw [txt_zero]
  go_enter Try.func35, Try.ntmps35
  go_wp2_with (first
    | (go_at_call 27; ((with_reducible refine (rvalid_none A c _).mono ?_); rintro e w' ⟨rfl, rfl⟩)))
  go_ret
  exact ⟨rfl, Below.refl _ _⟩
theorem rtext_bad {B : Nat} {A : Option Addr} {l : List Nat} {w : World} (c : Nat) (ha : Rd w B A l) (hl : l.length ≤ 1000000) (hv : Hid (vldB l = false)) :
    Calls Try.prog 35 #[.slice A l.length c] w fun e w' => e = .returned (.string ⟨#[]⟩) ∧ Below w.heap.size w w' := by
  have HA := Lib.hid ha
  clear ha
  go_enter Try.func35, Try.ntmps35
  go_wp2_with (first
    | (go_at_call 27; ((with_reducible refine (rvalid_no c _ HA.out rfl (by omega) hv.out).mono ?_); rintro e w' ⟨rfl, rfl⟩)))
  go_ret
  exact ⟨rfl, Below.refl _ _⟩

/-- a list comes in, a string comes back -/
def KStr (f : Nat) (l : List Nat) (s : ByteArray) : Prop :=
  ∀ (w : World) (A : Option Addr) (c : Nat), Hid (Rd w w.heap.size A l) → Calls Try.prog f #[.slice A l.length c] w (BackS w s)
def textS (l : List Nat) : ByteArray := if vldB l then txt (val l) else ⟨#[]⟩
theorem kn_text {l : List Nat} (hl : Wf l) (ll : l.length ≤ 1000000) : KStr 34 l (textS l) := by
  intro w A c hr
  rcases hv : vldB l with _ | _
  · have e : textS l = ⟨#[]⟩ := by simp [textS, hv]
    rw [e]
    exact (text_bad c hr.out ll hv).mono fun _ _ h => h
  · have e : textS l = txt (val l) := by simp [textS, hv]
    rw [e]
    obtain ⟨e1, h1⟩ := (vldB_iff hl).1 hv
    have hr' : Rd w w.heap.size A (dg (val l)) := by rw [← e1]; exact hr.out
    have := text_ok (val l) c A w hr' h1
    rw [← e1] at this
    exact this
theorem kr_text {l : List Nat} (hl : Wf l) (ll : l.length ≤ 1000000) : KStr 35 l (textS l) := by
  intro w A c hr
  rcases hv : vldB l with _ | _
  · have e : textS l = ⟨#[]⟩ := by simp [textS, hv]
    rw [e]
    exact rtext_bad c hr.out ll hv
  · have e : textS l = txt (val l) := by simp [textS, hv]
    rw [e]
    obtain ⟨e1, h1⟩ := (vldB_iff hl).1 hv
    have hr' : Rd w w.heap.size A (dg (val l)) := by rw [← e1]; exact hr.out
    rcases Nat.eq_zero_or_pos l.length with h0 | h0
    · have e2 := List.eq_nil_of_length_eq_zero h0
      subst e2
      exact rtext_zero A c w
    · have := rtext_pos (val l) c A w hr' h1 (by rw [← e1]; exact h0)
      rw [← e1] at this
      exact this

end Go.Proofs.Ytogmgomcdhfolaa
