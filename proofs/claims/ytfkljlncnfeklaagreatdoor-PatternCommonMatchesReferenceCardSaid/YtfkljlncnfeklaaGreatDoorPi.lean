/-
  Plain mathematics and contracts of package diagram, several texts in one: XIr, XTk, XTl.
-/
import Derived.Test.YtfkljlncnfeklaaGreatDoorPh
import Derived.Test.YtfkljlncnfeklaaGreatDoorPd
import Derived.Lib.OthersKept
import Derived.Laws.RangeAny
import Derived.Laws.Runes
import Derived.Scope
import Derived.Test.YtfkljlncnfeklaaGreatDoorPa

/-! strings.ContainsRune at the reserved bytes and a rune beyond ASCII. -/
namespace Go.Proofs.YtfkljlncnfeklaaGreatDoor
open Go.RowKit Go.Shelf
set_option linter.unusedVariables false
set_option linter.unusedSimpArgs false
attribute [local go_sem ↓] Go.wp_at_zero Go.wp_at_succ

/-- the reserved bytes -/
def rsB : ByteArray := ByteArray.mk #[40, 41, 42, 45, 91, 92, 93, 124]
theorem rsB_at : ∀ k, ∀ h : k < rsB.size, (rsB[k]'h).toNat < 128 ∧ (rsB[k]'h).toNat ≠ 0 := by decide
/-- what is a rune -/
def vrP (r : Nat) : Bool := decide (r < 55296) || (decide (57343 < r) && decide (r ≤ 1114111))
set_option maxRecDepth 100000 in
set_option maxHeartbeats 1000000 in
theorem vrune_any (r : Nat) (w : World) : Calls Tryz.prog 103 #[.int .i32 (r : Int)] w fun e w' => e = .returned (.bool (vrP r)) ∧ w' = w := by
  have i0 : (0 : Int) ≤ (r : Int) := by omega
  by_cases h1 : r < 55296
  · have i1 : (r : Int) < 55296 := by omega
    have hv : vrP r = true := by simp [vrP, h1]
    rw [hv]
    go_enter Tryz.func103, Tryz.ntmps103
    go_wp2
    go_ret
    exact ⟨rfl, rfl⟩
  · have i1 : ¬ (r : Int) < 55296 := by omega
    by_cases h2 : 57343 < r
    · have i2 : (57343 : Int) < (r : Int) := by omega
      by_cases h3 : r ≤ 1114111
      · have i3 : (r : Int) ≤ 1114111 := by omega
        have hv : vrP r = true := by simp [vrP, h1, h2, h3]
        rw [hv]
        go_enter Tryz.func103, Tryz.ntmps103
        go_wp2
        go_ret
        exact ⟨rfl, rfl⟩
      · have i3 : ¬ (r : Int) ≤ 1114111 := by omega
        have hv : vrP r = false := by simp [vrP, h1, h2, h3]
        rw [hv]
        go_enter Tryz.func103, Tryz.ntmps103
        go_wp2
        go_ret
        exact ⟨rfl, rfl⟩
    · have i2 : ¬ (57343 : Int) < (r : Int) := by omega
      have hv : vrP r = false := by simp [vrP, h1, h2]
      rw [hv]
      go_enter Tryz.func103, Tryz.ntmps103
      go_wp2
      go_ret
      exact ⟨rfl, rfl⟩
theorem extract_drop' {s : ByteArray} {k : Nat} (h : k ≤ s.size) : (s.extract k s.size).data.toList = s.data.toList.drop k := by
  rw [ByteArray.data_extract, Array.toList_extract, List.extract_eq_take_drop, List.take_of_length_le (by rw [List.length_drop, Array.length_toList]; exact Nat.le_refl _)]
theorem idx_high : ∀ (l : List UInt8) (c : UInt8), (∀ b ∈ l, b ≠ c) → Lib.indexByte l c = -1
  | [], _, _ => rfl
  | b :: l, c, h => by
    unfold Lib.indexByte
    rw [idx_high l c (fun x hx => h x (List.mem_cons_of_mem _ hx))]
    have : (b == c) = false := by simpa using h b (List.mem_cons_self ..)
    rw [this]
    rfl
theorem rsB_low : ∀ b ∈ rsB.data.toList, b.toNat < 128 := by decide
theorem tail_idx {n : Nat} {c : UInt8} (hn : n ≤ 7) (hc : 128 ≤ c.toNat) : Lib.indexByte (rsB.extract (n + 1) rsB.size).data.toList (((c.toNat : Nat) : Int)).toNat.toUInt8 = -1 := by
  refine idx_high _ _ (fun b hb e => ?_)
  rw [extract_drop' (by show n + 1 ≤ 8; omega)] at hb
  have h1 := rsB_low b (List.drop_subset _ _ hb)
  rw [e, Int.toNat_natCast] at h1
  have h2 : (c.toNat.toUInt8).toNat = c.toNat := by rw [show c.toNat.toUInt8 = c from UInt8.ofNat_toNat]
  omega
theorem v_ok (r : Nat) (hv : vrP r = true) : Utf8.valid (r : Int) = true := by
  simp only [vrP, Bool.or_eq_true, Bool.and_eq_true, decide_eq_true_eq] at hv
  rw [validRune_eq]
  simp only [validRune, decide_eq_true_eq]
  omega
theorem enc_tail (r : Nat) (h1 : 128 ≤ r) (hv : vrP r = true) : ∃ E8 : ByteArray, Utf8.encode (r : Int) = E8 ∧ ∃ n, E8.size = n + 1 ∧ 1 ≤ n ∧ n ≤ 3 ∧ ∀ h : n < E8.size, 128 ≤ (E8[n]'h).toNat := by
  obtain ⟨a, b, c⟩ := encode_facts (r : Int) (v_ok r hv) (by omega)
  generalize Utf8.encode (r : Int) = E8 at *
  refine ⟨E8, rfl, E8.size - 1, by omega, by omega, by omega, c⟩
set_option maxRecDepth 100000 in
set_option maxHeartbeats 4000000 in
theorem irune_high (r : Nat) (w : World) (h1 : 128 ≤ r) (h2 : r < 2147483648) : Calls Tryz.prog 92 #[.string rsB, .int .i32 (r : Int)] w fun e w' => e = .returned (.int .i64 (-1)) ∧ Below w.heap.size w w' := by
  have i0 : (0 : Int) ≤ (r : Int) := by omega
  have i1 : ¬ (r : Int) < 128 := by omega
  have hB := Below.refl w.heap.size w
  by_cases hE : r = 65533
  · subst hE
    have hsz : rsB.size = 8 := rfl
    go_enter Tryz.func92, Tryz.ntmps92
    go_upto_region 38 with fail
    go_loopw [5, 6] (fun v5 v6 wr => ∃ pos, pos ≤ 8 ∧ wr = w.iter rsB pos) (fun v5 v6 wr => 8 - wr.iterPos w.heap.size)
    case atStart => exact ⟨0, by omega, rfl⟩
    case round =>
      obtain ⟨pos, hp, rfl⟩ := hrel
      have hbi : Below w.heap.size w (w.iter rsB pos) := (Below.refl _ _).alloc (Nat.le_refl _) _
      by_cases hlt : pos < rsB.size
      · have hr := rsB_at pos hlt
        have hnx : ∀ ty, (Instr.next (.pointer (some ⟨w.heap.size, 0, none⟩)) true ty).run Tryz.prog (w.iter rsB pos) = _ := fun ty => run_next_ascii w rsB pos ty hlt hr.1
        have hne : ¬ (((rsB[pos]'hlt).toNat : Nat) : Int) = 65533 := by omega
        have HP := Lib.hid (show pos < 8 from hlt)
        generalize (rsB[pos]'hlt).toNat = bb at *
        go_wp2
        have hq := HP.out
        exact ⟨⟨pos + 1, by omega, rfl⟩, by simp; omega⟩
      · have hnx : ∀ ty, (Instr.next (.pointer (some ⟨w.heap.size, 0, none⟩)) true ty).run Tryz.prog (w.iter rsB pos) = _ := fun ty => run_next_end w rsB pos ty hlt
        go_wp2
        go_ret
        exact ⟨rfl, hbi⟩
  · have i2 : ¬ (r : Int) = 65533 := by omega
    rcases hv : vrP r with _ | _
    · have HV := Lib.hid (vrune_any r w)
      rw [hv] at HV
      clear hv
      go_enter Tryz.func92, Tryz.ntmps92
      go_wp2_with (go_at_call 103; with_reducible refine HV.out.mono ?_; rintro e w1 ⟨rfl, rfl⟩)
      go_ret
      exact ⟨rfl, hB⟩
    · have HV := Lib.hid (vrune_any r w)
      rw [hv] at HV
      have HQ := Lib.hid (enc_tail r h1 hv)
      clear hv
      go_enter Tryz.func92, Tryz.ntmps92
      go_upto_region 1 with (go_at_call 103; with_reducible refine HV.out.mono ?_; rintro e w1 ⟨rfl, rfl⟩)
      obtain ⟨E8, hE8, n, hn, hn1, hn2, z4⟩ := HQ.out
      clear HQ
      have HN := Lib.hid (And.intro hn1 hn2)
      have Z4 := Lib.hid z4
      clear hn1 hn2 z4
      refine wp_scope_straight ?_
      go_wp2
      go_loopw [9, 10] (fun v9 v10 wr => v9 = .int .i64 (n : Int) ∧ v10 = .int .i64 0 ∧ wr = w1) (fun v9 v10 wr => 0)
      case atStart =>
        have hq := HN.out
        exact ⟨by simp [wrap64]; omega, rfl, rfl⟩
      case round =>
        obtain ⟨rfl, rfl, rfl⟩ := hrel
        have hn8 : n < rsB.size := by have := HN.out; show n < 8; omega
        have hn9 : n < E8.size := by omega
        have q1 : (0 : Int) ≤ (n : Int) := by omega
        have q2 : (n : Int) < (rsB.size : Int) := by omega
        have q3 : (n : Int) < (E8.size : Int) := by omega
        have HI : Hid (∀ W, Calls Tryz.prog 91 #[.string (rsB.extract (n + 1) rsB.size), .int .u8 ((E8[n]'hn9).toNat : Int)] W fun e w' => e = .returned (.int .i64 (-1)) ∧ w' = W) := Lib.hid (fun W => (idxb_any _ _ W).mono fun e w' ⟨p, q⟩ => ⟨by rw [p, tail_idx (by have := HN.out; omega) (Z4.out hn9)], q⟩)
        obtain ⟨x1, e7, k1⟩ : ∃ x1 : Nat, (∀ h : n < rsB.size, ((rsB[n]'h).toNat : Int) = (x1 : Int)) ∧ x1 < 128 := ⟨_, fun _ => rfl, (rsB_at n hn8).1⟩
        obtain ⟨x2, e8, k2, k3⟩ : ∃ x2 : Nat, (∀ h : n < E8.size, ((E8[n]'h).toNat : Int) = (x2 : Int)) ∧ 128 ≤ x2 ∧ ((E8[n]'hn9).toNat : Int) = (x2 : Int) := ⟨_, fun _ => rfl, Z4.out hn9, rfl⟩
        rw [k3] at HI
        have hne : ¬ (x1 : Int) = (x2 : Int) := by omega
        have hw : wrap64 (n : Int) = (n : Int) := by have := HN.out; unfold wrap64; omega
        have hn7 : n + 1 ≤ rsB.size := by have := HN.out; show n + 1 ≤ 8; omega
        have G4 := Lib.hid (show (n : Int) + 1 ≤ (rsB.size : Int) by omega)
        have G5 := Lib.hid (show ((n : Int) + 1).toNat = n + 1 by omega)
        have G7 := Lib.hid hn7
        clear k1 k2 k3 hn7 h1 h2 hE i0 i1 i2 hE8
        go_wp2
        refine wp_scope_straight ?_
        clear hn
        go_upto_region 6 with fail
        rw [hw]
        go_region
        all_goals
          go_upto_region 7 with fail
          have q4 := G4.out
          have q5 := G5.out
          have hwr : IntKind.i64.wrap ((n : Int) + 1) = (n : Int) + 1 := wrap_small _ (by omega) (by have := HN.out; omega)
          have q6 : (0 : Int) ≤ (n : Int) + 1 := by omega
          have q7 := G7.out
          have q8 : ¬ rsB.size < n + 1 := by omega
          have HSL : ∀ W, (Instr.slice 9 (.string rsB) (some (.int .i64 ((n : Int) + 1))) none none).run Tryz.prog W = .ok (.string (rsB.extract (n + 1) rsB.size)) W := fun W =>
            (run_slice_string_l W _ rsB Tryz.underlying9 .i64 _ q6 q4).trans (by rw [q5])
          go_region_with (go_at_call 91; with_reducible refine (HI.out _).mono ?_; rintro e w2 ⟨rfl, hw⟩; subst hw)
          all_goals
            clear q4 q5 q6 q7 q8 hwr HSL
            have hB2 := Lib.hid hB.drew.drew
            clear hB
            go_wp2
            change bodyPost Tryz.prog Tryz.f92 (fun e w' => e = Ending.returned (Value.int IntKind.i64 (-1)) ∧ Below wr.heap.size wr w') Exit.ret _ _
            go_ret
            exact ⟨rfl, hB2.out⟩
set_option maxRecDepth 100000 in
set_option maxHeartbeats 1000000 in
theorem crune_high (r : Nat) (w : World) (h1 : 128 ≤ r) (h2 : r < 2147483648) : Calls Tryz.prog 76 #[.string rsB, .int .i32 (r : Int)] w fun e w' => e = .returned (.bool false) ∧ Below w.heap.size w w' := by
  have HI := Lib.hid (irune_high r w h1 h2)
  go_enter Tryz.func76, Tryz.ntmps76
  go_wp2_with (go_at_call 92; with_reducible refine HI.out.mono ?_; rintro e w1 ⟨rfl, hb⟩)
  go_ret
  exact ⟨rfl, hb⟩

end Go.Proofs.YtfkljlncnfeklaaGreatDoor

/-! The tokens of a string: what stays between two rounds. -/
namespace Go.Proofs.YtfkljlncnfeklaaGreatDoor
open Go.RowKit Go.Shelf
set_option linter.unusedVariables false
set_option linter.unusedSimpArgs false
attribute [local go_sem ↓] Go.wp_at_zero Go.wp_at_succ

theorem infoTk : (Tryz.prog.info? 129).map (fun i => (i.zero, i.size, i.bytes)) = some (some (.agg #[.bool false, .int .i64 0]), 2, 16) := by kernel_rfl
def tk2 (t : Tok) : List Value := [.bool t.1, .int .i64 ((t.2 : Nat) : Int)]
def tkC (ts : List Tok) : List Value := ts.flatMap tk2
theorem tkC_snoc (ts : List Tok) (t : Tok) : tkC (ts ++ [t]) = tkC ts ++ tk2 t := by unfold tkC; rw [List.flatMap_append]; simp
theorem tkC_len : ∀ ts : List Tok, (tkC ts).length = ts.length * 2
  | [] => rfl
  | t :: ts => by show (tk2 t ++ tkC ts).length = _; rw [List.length_append, tkC_len ts]; simp [tk2]; omega
/-- between two rounds -/
structure TkJ (w W : World) (s : ByteArray) (v : Value) (pos k : Nat) (acc : List Tok) : Prop where
  it : W.heap[w.heap.size]? = some (.stringIter s pos)
  own : W.ownsRow w.heap.size 129 2 v acc.length (tkC acc)
  bel : Below w.heap.size w W
  k3 : k ≤ 3
  asc : ∀ j, j < k → ∀ h : pos + j < s.size, (s[pos + j]'h).toNat < 128
  eq : tkS 0 s.data.toList = (tkS k (s.data.toList.drop pos)).map (acc ++ ·)
  len : acc.length ≤ pos
  ps : pos ≤ s.size
/-- while a rune is looked at -/
structure TkH (w W : World) (s : ByteArray) (v : Value) (pos pn : Nat) (acc : List Tok) : Prop where
  it : W.heap[w.heap.size]? = some (.stringIter s pn)
  own : W.ownsRow w.heap.size 129 2 v acc.length (tkC acc)
  bel : Below w.heap.size w W
  eq : tkS 0 s.data.toList = (tkS 0 (s.data.toList.drop pos)).map (acc ++ ·)
  len : acc.length ≤ pos
  ps : pos < s.size
/-- what tokens returns -/
def TkR (w W : World) (s : ByteArray) (v : Value) (ok : Bool) : Prop :=
  match tkS 0 s.data.toList with
  | some ts => ok = true ∧ W.ownsRow w.heap.size 129 2 v ts.length (tkC ts) ∧ ts.length ≤ s.size
  | none => ok = false ∧ v = .slice none 0 0
theorem drop_cons {s : ByteArray} {pos : Nat} (h : pos < s.size) : s.data.toList.drop pos = s[pos] :: s.data.toList.drop (pos + 1) := by
  rw [List.drop_eq_getElem_cons (by rw [Array.length_toList]; exact h)]; rfl
theorem own_iter {w : World} {B e sz n : Nat} {v : Value} {xs : List Value} (h : w.ownsRow B e sz v n xs) {k : Nat} {s : ByteArray} {pos : Nat} (hk : w.heap[k]? = some (.stringIter s pos)) (pos' : Nat) : (w.iterAt k s pos').ownsRow B e sz v n xs := by
  refine ⟨h.1, ?_⟩
  rcases h.2 with hn | ⟨q, cap, cur, hv, hB, hq, r⟩
  · exact .inl hn
  · refine .inr ⟨q, cap, cur, hv, hB, (Lib.iterAt_other w k q s pos' (fun e => ?_)).trans hq, r⟩
    rw [e, hk] at hq
    cases hq
section
variable {w W W' : World} {s : ByteArray} {v : Value} {pos k : Nat} {acc : List Tok}
theorem TkJ.start (w : World) (s : ByteArray) : TkJ w (w.iter s 0) s (.slice none 0 0) 0 0 [] :=
  ⟨w.iter_heap s 0, ⟨rfl, .inl ⟨rfl, rfl⟩⟩, (Below.refl _ _).alloc (Nat.le_refl _) _, Nat.zero_le _, fun j hj => absurd hj (Nat.not_lt_zero j), by rw [List.drop_zero]; cases tkS 0 s.data.toList <;> rfl, Nat.zero_le _, Nat.zero_le _⟩
theorem TkJ.lt (h : TkJ w W s v pos k acc) : w.heap.size < W.heap.size := (Array.getElem?_eq_some_iff.1 h.it).1
theorem TkJ.done (h : TkJ w W s v pos k acc) (hp : ¬ pos < s.size) : TkR w W s v true := by
  have h1 : s.data.toList.drop pos = [] := List.drop_eq_nil_of_le (by rw [Array.length_toList]; exact Nat.le_of_not_lt hp)
  have h2 : tkS 0 s.data.toList = some acc := by rw [h.eq, h1]; cases k <;> simp [tkS]
  unfold TkR
  rw [h2]
  exact ⟨rfl, h.own, Nat.le_trans h.len h.ps⟩
theorem TkJ.skip (h : TkJ w W s v pos (k + 1) acc) (hp : pos < s.size) : TkJ w (W.iterAt w.heap.size s (pos + 1)) s v (pos + 1) k acc :=
  ⟨Lib.iterAt_heap W _ s pos _ h.it, own_iter h.own h.it _, Lib.below_iterAt h.bel (Nat.le_refl _) s _, by have := h.k3; omega, fun j hj hh => by
    have := h.asc (j + 1) (by omega) (by omega)
    simpa only [Nat.add_assoc, Nat.add_comm 1 j] using this, by rw [h.eq, drop_cons hp]; rfl, by have := h.len; omega, by omega⟩
theorem TkJ.look (h : TkJ w W s v pos 0 acc) (hp : pos < s.size) (d : Nat) : TkH w (W.iterAt w.heap.size s (pos + d)) s v pos (pos + d) acc :=
  ⟨Lib.iterAt_heap W _ s pos _ h.it, own_iter h.own h.it _, Lib.below_iterAt h.bel (Nat.le_refl _) s _, h.eq, h.len, hp⟩
theorem TkH.lt {pn : Nat} (h : TkH w W s v pos pn acc) : w.heap.size < W.heap.size := (Array.getElem?_eq_some_iff.1 h.it).1
theorem TkH.later {pn : Nat} (h : TkH w W s v pos pn acc) (hb : Below W.heap.size W W') : TkH w W' s v pos pn acc :=
  ⟨(hb.block _ h.lt).trans h.it, h.own.kept (row := none) ⟨hb.os, hb.tape, hb.output, hb.size, fun k hk _ => hb.block k hk⟩ (by rcases h0 : v.ownBlock with _ | _ <;> simp), h.bel.trans (hb.mono (Nat.le_of_lt h.lt)), h.eq, h.len, h.ps⟩
theorem TkH.fail {pn : Nat} (h : TkH w W s v pos pn acc) (hn : tkS 0 (s.data.toList.drop pos) = none) : TkR w W s (.slice none 0 0) false := by
  have h2 : tkS 0 s.data.toList = none := by rw [h.eq, hn]; rfl
  unfold TkR
  rw [h2]
  exact ⟨rfl, rfl⟩
theorem own_not_iter {B e sz n : Nat} {xs : List Value} (h : W.ownsRow B e sz v n xs) {k : Nat} {pn : Nat} (hk : W.heap[k]? = some (.stringIter s pn)) : v.ownBlock ≠ some k := fun e => by
  rcases h.2 with ⟨rfl, _⟩ | ⟨q, cap, cur, rfl, hB, hq, r⟩
  · cases e
  · have : q = k := Option.some.inj e
    rw [this, hk] at hq
    cases hq
theorem TkH.put {v' : Value} (h : TkH w W s v pos (pos + 1) acc) (t : Tok) (k : Nat) (hk : k ≤ 3) (asc : ∀ j, j < k → ∀ h : pos + 1 + j < s.size, (s[pos + 1 + j]'h).toNat < 128) (ht : tkS 0 (s.data.toList.drop pos) = (tkS k (s.data.toList.drop (pos + 1))).map (t :: ·))
    (hown : W'.ownsRow w.heap.size 129 2 v' (acc.length + 1) (tkC acc ++ tk2 t)) (hg : W.grownBy W' v.ownBlock) : TkJ w W' s v' (pos + 1) k (acc ++ [t]) :=
  ⟨(hg.block _ h.lt (fun e => own_not_iter h.own h.it e.symm)).trans h.it, by rw [List.length_append, tkC_snoc]; exact hown, h.bel.grown hg (Nat.le_of_lt h.lt) (fun r e => (h.own.lt r e).1), hk, asc, by rw [h.eq, ht]; cases tkS k (s.data.toList.drop (pos + 1)) <;> simp, by have := h.len; rw [List.length_append]; simp; omega, h.ps⟩
end
theorem tkS_cons (b : UInt8) (t : List UInt8) : tkS 0 (b :: t) = if b = 92 then (match escV (b :: t) with
      | some v => (tkS 3 t).map ((false, v) :: ·)
      | none => none) else
    if plainB b.toNat then (tkS 0 t).map ((false, b.toNat) :: ·) else
    if resB b.toNat then (tkS 0 t).map ((true, b.toNat) :: ·) else none := by
  rw [tkS]
  cases escV (b :: t) <;> rfl
theorem escV_four (a x c d : UInt8) (t : List UInt8) : escV (a :: x :: c :: d :: t) = if x = 120 then (hexV c).bind fun a => (hexV d).map fun b => a * 16 + b else none := rfl
/-- how a token is read -/
theorem tkS_plain {b : UInt8} {t : List UInt8} (h : plainB b.toNat = true) : tkS 0 (b :: t) = (tkS 0 t).map ((false, b.toNat) :: ·) := by
  have h1 : b ≠ 92 := fun e => plain_92 h (by rw [e]; rfl)
  rw [tkS_cons, if_neg h1, if_pos h]
theorem tkS_res {b : UInt8} {t : List UInt8} (h : resB b.toNat = true) : tkS 0 (b :: t) = (tkS 0 t).map ((true, b.toNat) :: ·) := by
  obtain ⟨_, h1, h2⟩ := res_lt h
  have h1 : b ≠ 92 := fun e => h1 (by rw [e]; rfl)
  rw [tkS_cons, if_neg h1, if_neg (by rw [h2]; decide), if_pos h]
theorem tkS_no {b : UInt8} {t : List UInt8} (h1 : b.toNat ≠ 92) (h2 : plainB b.toNat = false) (h3 : resB b.toNat = false) : tkS 0 (b :: t) = none := by
  have h1 : b ≠ 92 := fun e => h1 (by rw [e]; rfl)
  rw [tkS_cons, if_neg h1, if_neg (by rw [h2]; decide), if_neg (by rw [h3]; decide)]
theorem hex_asc {b : UInt8} {n : Nat} (h : hexV b = some n) : b.toNat < 128 := by
  unfold hexV at h
  split at h
  · omega
  · split at h
    · omega
    · cases h
theorem escR_cases (l : List UInt8) : (∃ v : Nat, escR l = (((v : Nat) : Int), true) ∧ escV l = some v) ∨ (escR l = (0, false) ∧ escV l = none) := by
  unfold escR
  rcases escV l with _ | v
  · exact .inr ⟨rfl, rfl⟩
  · exact .inl ⟨v, rfl, rfl⟩
theorem tkS_esc {t : List UInt8} {v : Nat} (h : escV (92 :: t) = some v) : tkS 0 (92 :: t) = (tkS 3 t).map ((false, v) :: ·) := by
  rw [tkS_cons, if_pos rfl, h]
theorem tkS_esc_no {t : List UInt8} (h : escV (92 :: t) = none) : tkS 0 (92 :: t) = none := by
  rw [tkS_cons, if_pos rfl, h]
theorem esc_asc {b : UInt8} {t : List UInt8} {v : Nat} (h : escV (b :: t) = some v) : ∀ j, j < 3 → ∀ h : j < t.length, (t[j]'h).toNat < 128 := by
  rcases t with _ | ⟨x, _ | ⟨c, _ | ⟨d, t⟩⟩⟩
  · simp [escV] at h
  · simp [escV] at h
  · simp [escV] at h
  · rw [escV_four] at h
    split at h
    · next hx =>
      rcases hc : hexV c with _ | n
      · rw [hc] at h; cases h
      · rcases hd : hexV d with _ | m
        · rw [hc, hd] at h; cases h
        · intro j hj hh
          rcases (show j = 0 ∨ j = 1 ∨ j = 2 by omega) with rfl | rfl | rfl
          · show x.toNat < 128
            rw [hx]; decide
          · exact hex_asc hc
          · exact hex_asc hd
    · cases h

end Go.Proofs.YtfkljlncnfeklaaGreatDoor

/-! tokens. -/
namespace Go.Proofs.YtfkljlncnfeklaaGreatDoor
open Go.RowKit Go.Shelf
set_option linter.unusedVariables false
set_option linter.unusedSimpArgs false
attribute [local go_sem ↓] Go.wp_at_zero Go.wp_at_succ

theorem plain_high {r : Nat} (h : 128 ≤ r) : plainB r = false := by unfold plainB; simp; omega
theorem res_high {r : Nat} (h : 128 ≤ r) : resB r = false := by unfold resB; simp; omega
theorem tkS_high {b : UInt8} {t : List UInt8} (h : 128 ≤ b.toNat) : tkS 0 (b :: t) = none := tkS_no (by omega) (plain_high h) (res_high h)
theorem esc_low {s : ByteArray} {pos : Nat} {b : UInt8} {v : Nat} (h : escV (b :: s.data.toList.drop pos) = some v) : ∀ j, j < 3 → ∀ h : pos + j < s.size, (s[pos + j]'h).toNat < 128 := fun j hj hh => by
  have h1 : j < (s.data.toList.drop pos).length := by rw [List.length_drop, Array.length_toList]; show j < s.size - pos; omega
  have h2 := esc_asc h j hj h1
  rw [List.getElem_drop] at h2
  exact h2
theorem it_pos {W : World} {k p : Nat} {s : ByteArray} (h : W.heap[k]? = some (.stringIter s p)) : W.iterPos k = p := by simp [World.iterPos, h]
set_option maxRecDepth 100000 in
set_option maxHeartbeats 4000000 in
theorem tokens_any (s : ByteArray) (w : World) (hs : s.size ≤ 8192) : Calls Tryz.prog 50 #[.string s] w fun e w' => ∃ v ok, e = .returned (.tuple #[v, .bool ok]) ∧ TkR w w' s v ok ∧ Below w.heap.size w w' := by
  obtain ⟨i0, hi, hz0, hz1, hz2⟩ := info_parts infoTk
  have HS := Lib.hid hs
  clear hs
  go_enter Tryz.func50, Tryz.ntmps50
  go_upto_region 4 with fail
  go_loopw [4, 5] (fun v4 v5 wr => ∃ (pos k : Nat) (acc : List Tok), Hid (TkJ w wr s v4 pos k acc) ∧ v5 = .int .i64 ((pos + k : Nat) : Int)) (fun v4 v5 wr => s.size - wr.iterPos w.heap.size)
  case atStart => exact ⟨0, 0, [], Lib.hid (TkJ.start w s), rfl⟩
  case round =>
    rename_i u4 u5
    obtain ⟨pos, k, acc, hJ, rfl⟩ := hrel
    have hit := hJ.out.it
    by_cases hp : pos < s.size
    · have hpb : pos < 8192 := by have := HS.out; omega
      rcases k with _ | k
      · have hcons := drop_cons hp
        have hnl : ¬ (pos : Int) < ((pos + 0 : Nat) : Int) := by omega
        by_cases ha : (s[pos]'hp).toNat < 128
        · have hnx : ∀ ty, (Instr.next (.pointer (some ⟨w.heap.size, 0, none⟩)) true ty).run Tryz.prog wr = _ := fun ty => Lib.run_next_ascii_at wr w.heap.size s pos ty hit hp ha
          have hH := Lib.hid (hJ.out.look hp 1)
          have h1 := it_pos hit
          obtain ⟨A, cv, ev, hcv, _⟩ := own_form hJ.out.own
          subst ev
          have hal := hJ.out.len
          generalize hbb : s[pos]'hp = b at *
          have HCO := Lib.hid hcons
          have HP := Lib.hid (fun W => plain_any b.toNat W (by omega))
          clear hit hcons
          generalize wr.iterAt _ _ _ = w2 at *
          have hlt2 := hH.out.lt
          have haI : (b.toNat : Int) < 128 := by omega
          have haZ : (0 : Int) ≤ (b.toNat : Int) := by omega
          by_cases c92 : b.toNat = 92
          · have hb92 : b = 92 := UInt8.toNat_inj.1 c92
            rw [c92] at hnx
            have HE := Lib.hid (fun W => escaped_any (s.extract pos s.size) W)
            rw [extract_drop' (by omega), HCO.out, hb92] at HE
            have hsl : (pos : Int) ≤ (s.size : Int) := by omega
            rcases escR_cases (92 :: s.data.toList.drop (pos + 1)) with ⟨v, e1, e2⟩ | ⟨e1, e2⟩
            · have HT := Lib.hid (show tkS 0 (s.data.toList.drop pos) = (tkS 3 (s.data.toList.drop (pos + 1))).map ((false, v) :: ·) by rw [HCO.out, hb92]; exact tkS_esc e2)
              have HA := Lib.hid (esc_low (s := s) (pos := pos + 1) e2)
              rw [e1] at HE
              clear e1 e2 c92 hb92 hbb
              go_wp2_with (first
                | (go_at_call 74; with_reducible refine (HE.out _).mono ?_; rintro e w3 ⟨rfl, n, hw⟩; subst hw; replace hH := Lib.hid (hH.out.later (below_drewN (Below.refl _ _) n)))
                | (at_builtin; refine wpList_append_lies _ rfl _ _ _ rfl w.heap.size 129 i0 _ 2 16 Tryz.underlying86 hi hz0 hz1 hz2 rfl (by omega) (.slice A acc.length cv) acc.length (tkC acc) rfl (hH.out.own.alloc _) _ _ _ (tk2 (false, v)) rfl rfl (World.news_of_block (heap_alloc_new _ _)) (by simp [tk2, Value.oneCell']) (by omega) (by simp only [maxLen]; omega) (by omega) (by simp; omega) _ rfl ?_))
              intro gn cap w4 hown' hgrow _ _
              have HJ4 := Lib.hid (TkH.put (hH.out.later ((Below.refl _ _).alloc (Nat.le_refl _) _)) (false, v) 3 (by omega) HA.out HT.out hown' hgrow)
              have h2 := it_pos HJ4.out.it
              clear hown' hgrow
              go_wp2
              go_roundw
              case rel => exact ⟨pos + 1, 3, acc ++ [(false, v)], HJ4, by congr 1⟩
              case measure => rw [h1, h2]; omega
            · have HNO := Lib.hid (show tkS 0 (s.data.toList.drop pos) = none by rw [HCO.out, hb92]; exact tkS_esc_no e2)
              rw [e1] at HE
              clear e1 e2 c92 hb92 hbb
              go_wp2_with (go_at_call 74; with_reducible refine (HE.out _).mono ?_; rintro e w3 ⟨rfl, n, hw⟩; subst hw; replace hH := Lib.hid (hH.out.later (below_drewN (Below.refl _ _) n)))
              go_ret2
              exact ⟨_, _, rfl, hH.out.fail HNO.out, hH.out.bel⟩
          · have hr3 : ¬ (b.toNat : Int) = 92 := by omega
            rcases hpl : plainB b.toNat with _ | _
            · have HC : Hid (∀ W, Calls Tryz.prog 76 #[.string (ByteArray.mk #[40, 41, 42, 45, 91, 92, 93, 124]), .int .i32 (b.toNat : Int)] W fun e w' => e = .returned (.bool (resB b.toNat)) ∧ w' = W) := Lib.hid (fun W => (crune_any _ _ W (by omega) (by omega)).mono fun e w' ⟨p, q⟩ => ⟨by rw [p, res_idx2 b.toNat ha, show (b.toNat == 92) = false by simpa using c92, Bool.or_false], q⟩)
              rw [hpl] at HP
              rcases hrs : resB b.toNat with _ | _
              · have HNO := Lib.hid (show tkS 0 (s.data.toList.drop pos) = none by rw [HCO.out]; exact tkS_no c92 hpl hrs)
                rw [hrs] at HC
                clear hpl hrs hbb c92
                generalize b.toNat = bn at *
                go_wp2_with (first
                  | (go_at_call 75; with_reducible refine (HP.out _).mono ?_; rintro e w3 ⟨rfl, hw⟩; subst hw)
                  | (go_at_call 76; with_reducible refine (HC.out _).mono ?_; rintro e w3 ⟨rfl, hw⟩; subst hw))
                go_ret2
                exact ⟨_, _, rfl, hH.out.fail HNO.out, hH.out.bel⟩
              · have HT := Lib.hid (show tkS 0 (s.data.toList.drop pos) = (tkS 0 (s.data.toList.drop (pos + 1))).map ((true, b.toNat) :: ·) by rw [HCO.out]; exact tkS_res hrs)
                rw [hrs] at HC
                clear hpl hrs hbb c92
                generalize b.toNat = bn at *
                go_wp2_with (first
                  | (go_at_call 75; with_reducible refine (HP.out _).mono ?_; rintro e w3 ⟨rfl, hw⟩; subst hw)
                  | (go_at_call 76; with_reducible refine (HC.out _).mono ?_; rintro e w3 ⟨rfl, hw⟩; subst hw)
                  | (at_builtin; refine wpList_append_lies _ rfl _ _ _ rfl w.heap.size 129 i0 _ 2 16 Tryz.underlying86 hi hz0 hz1 hz2 rfl (by omega) (.slice A acc.length cv) acc.length (tkC acc) rfl (hH.out.own.alloc _) _ _ _ (tk2 (true, bn)) rfl rfl (World.news_of_block (heap_alloc_new _ _)) (by simp [tk2, Value.oneCell']) (by omega) (by simp only [maxLen]; omega) (by omega) (by simp; omega) _ rfl ?_))
                intro gn cap w4 hown' hgrow _ _
                have HJ4 := Lib.hid (TkH.put (hH.out.later ((Below.refl _ _).alloc (Nat.le_refl _) _)) (true, bn) 0 (by omega) (fun j hj => absurd hj (Nat.not_lt_zero j)) HT.out hown' hgrow)
                have h2 := it_pos HJ4.out.it
                clear hown' hgrow
                go_wp2
                go_roundw
                case rel => exact ⟨pos + 1, 0, acc ++ [(true, bn)], HJ4, by congr 1⟩
                case measure => rw [h1, h2]; omega
            · have HT := Lib.hid (show tkS 0 (s.data.toList.drop pos) = (tkS 0 (s.data.toList.drop (pos + 1))).map ((false, b.toNat) :: ·) by rw [HCO.out]; exact tkS_plain hpl)
              rw [hpl] at HP
              clear hpl hbb c92
              generalize b.toNat = bn at *
              go_wp2_with (first
                | (go_at_call 75; with_reducible refine (HP.out _).mono ?_; rintro e w3 ⟨rfl, hw⟩; subst hw)
                | (at_builtin; refine wpList_append_lies _ rfl _ _ _ rfl w.heap.size 129 i0 _ 2 16 Tryz.underlying86 hi hz0 hz1 hz2 rfl (by omega) (.slice A acc.length cv) acc.length (tkC acc) rfl (hH.out.own.alloc _) _ _ _ (tk2 (false, bn)) rfl rfl (World.news_of_block (heap_alloc_new _ _)) (by simp [tk2, Value.oneCell']) (by omega) (by simp only [maxLen]; omega) (by omega) (by simp; omega) _ rfl ?_))
              intro gn cap w4 hown' hgrow _ _
              have HJ4 := Lib.hid (TkH.put (hH.out.later ((Below.refl _ _).alloc (Nat.le_refl _) _)) (false, bn) 0 (by omega) (fun j hj => absurd hj (Nat.not_lt_zero j)) HT.out hown' hgrow)
              have h2 := it_pos HJ4.out.it
              clear hown' hgrow
              go_wp2
              go_roundw
              case rel => exact ⟨pos + 1, 0, acc ++ [(false, bn)], HJ4, by congr 1⟩
              case measure => rw [h1, h2]; omega
        · have hnx : ∀ ty, (Instr.next (.pointer (some ⟨w.heap.size, 0, none⟩)) true ty).run Tryz.prog wr = _ := fun ty => Lib.run_next_any_at wr w.heap.size s pos ty hit hp
          have hr1 := (decode_high s pos hp (by omega)).1
          have hr2 := decode_le s pos
          have hH := Lib.hid (hJ.out.look hp (Utf8.decode s pos).2)
          have hno : tkS 0 (s.data.toList.drop pos) = none := by rw [hcons]; exact tkS_high (by omega)
          have HNO := Lib.hid hno
          generalize (Utf8.decode s pos).1 = r at *
          generalize wr.iterAt _ _ _ = w2 at *
          have HP := Lib.hid (plain_any r w2 (by omega))
          rw [plain_high hr1] at HP
          have HC : Hid (Calls Tryz.prog 76 #[.string (ByteArray.mk #[40, 41, 42, 45, 91, 92, 93, 124]), .int .i32 (r : Int)] w2 fun e w' => e = .returned (.bool false) ∧ Below w2.heap.size w2 w') := Lib.hid (crune_high r w2 hr1 (by omega))
          have hr3 : ¬ (r : Int) = 92 := by omega
          have hr4 : (r : Int) ≤ 2147483647 := by omega
          have hr5 : (0 : Int) ≤ (r : Int) := by omega
          clear hno hcons hr1 hr2
          go_wp2_with (first
            | (go_at_call 75; with_reducible refine HP.out.mono ?_; rintro e w3 ⟨rfl, hw⟩; cases hw)
            | (go_at_call 76; with_reducible refine HC.out.mono ?_; rintro e w3 ⟨rfl, hb⟩; replace hH := Lib.hid (hH.out.later hb); clear hb))
          go_ret2
          exact ⟨_, _, rfl, hH.out.fail HNO.out, hH.out.bel⟩
      · have ha := hJ.out.asc 0 (by omega) hp
        have hnx : ∀ ty, (Instr.next (.pointer (some ⟨w.heap.size, 0, none⟩)) true ty).run Tryz.prog wr = _ := fun ty => Lib.run_next_ascii_at wr w.heap.size s pos ty hit hp ha
        have hJ2 := Lib.hid (hJ.out.skip hp)
        have hlt : (pos : Int) < ((pos + (k + 1) : Nat) : Int) := by omega
        have h1 := it_pos hit
        have h2 := it_pos hJ2.out.it
        generalize (s[pos]'hp).toNat = bb at *
        generalize wr.iterAt _ _ _ = w2 at *
        go_wp2
        go_roundw
        case rel => exact ⟨pos + 1, k, acc, hJ2, by congr 2; omega⟩
        case measure => rw [h1, h2]; omega
    · have hnx : ∀ ty, (Instr.next (.pointer (some ⟨w.heap.size, 0, none⟩)) true ty).run Tryz.prog wr = _ := fun ty => Lib.run_next_end_at wr w.heap.size s pos ty hit hp
      go_wp2
      go_ret2
      exact ⟨_, _, rfl, hJ.out.done hp, hJ.out.bel⟩

end Go.Proofs.YtfkljlncnfeklaaGreatDoor
