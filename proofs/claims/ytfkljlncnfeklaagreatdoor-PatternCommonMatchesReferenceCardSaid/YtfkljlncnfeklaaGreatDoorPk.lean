/-
  Plain mathematics and contracts of package diagram, several texts in one: XJn, XLi.
-/
import Derived.Test.YtfkljlncnfeklaaGreatDoorPj
import Derived.Lib.RuneCountTail
import Derived.Shelf.Unicode.DecodeLastEight
import Derived.Laws.IdiomStrings

/-! joined: a literal becomes longer by a byte. -/
namespace Go.Proofs.YtfkljlncnfeklaaGreatDoor
open Go.RowKit Go.Shelf
set_option linter.unusedVariables false
set_option linter.unusedSimpArgs false
attribute [local go_sem ↓] Go.wp_at_zero Go.wp_at_succ

/-- the nodes of a literal that becomes longer -/
def jnP (l : List Pn) (b : Nat) : List Pn := if l.length = 0 then [(1, (b : Int), (b : Int), 0, 0)] else l ++ [(1, (b : Int), (b : Int), 0, 0)] ++ [(2, 0, 0, ((l.length - 1 : Nat) : Int), ((l.length : Nat) : Int))]
theorem jnP_po (r : Rx) (b : Nat) : jnP (r.po []) b = (Rx.seq r (.rng b b)).po [] := by
  have h := po_pos r []
  unfold jnP
  rw [if_neg (by omega)]
  show _ = (Rx.rng b b).po (r.po []) ++ [_]
  simp [Rx.po]
theorem own_below {w W : World} {B e sz n : Nat} {v : Value} {xs : List Value} (h : w.ownsRow B e sz v n xs) (hb : Below w.heap.size w W) : W.ownsRow B e sz v n xs :=
  h.kept (row := none) ⟨hb.os, hb.tape, hb.output, hb.size, fun k hk _ => hb.block k hk⟩ (by rcases h0 : v.ownBlock with _ | _ <;> simp)
theorem grown_one {w w1 w2 : World} {o : Option Nat} (h0 : Below w.heap.size w w1) (h1 : w1.grownBy w2 o) : w.grownBy w2 o :=
  ⟨h1.os.trans h0.os, h1.tape.trans h0.tape, h1.output.trans h0.output, Nat.le_trans h0.size h1.size, fun k hk hn => (h1.block k (Nat.lt_of_lt_of_le hk h0.size) hn).trans (h0.block k hk)⟩
theorem grown_two {w w2 w3 w4 : World} {o : Option Nat} {g : Nat} (h1 : w.grownBy w2 o) (hb : Below w2.heap.size w2 w3) (h2 : w3.grownBy w4 (some g)) (hg : o = some g ∨ w.heap.size ≤ g) : w.grownBy w4 o :=
  ⟨h2.os.trans (hb.os.trans h1.os), h2.tape.trans (hb.tape.trans h1.tape), h2.output.trans (hb.output.trans h1.output), Nat.le_trans h1.size (Nat.le_trans hb.size h2.size), fun k hk hn =>
    (h2.block k (Nat.lt_of_lt_of_le hk (Nat.le_trans h1.size hb.size)) (fun e => by
      injection e with e
      rcases hg with hg | hg
      · exact hn (by rw [e]; exact hg.symm)
      · omega)).trans ((hb.block k (Nat.lt_of_lt_of_le hk h1.size)).trans (h1.block k hk hn))⟩
set_option maxRecDepth 100000 in
set_option maxHeartbeats 4000000 in
theorem joined_any (B : Nat) (v : Value) (l : List Pn) (b : Nat) (w : World) (h : Hid (w.ownsRow B 42 5 v l.length (pnC l))) (hB : B ≤ w.heap.size) (hl : l.length ≤ 100000) (hb : b < 256) :
    Calls Tryz.prog 43 #[v, .int .u8 (b : Int)] w fun e w' => ∃ v', e = .returned v' ∧ w'.ownsRow B 42 5 v' (jnP l b).length (pnC (jnP l b)) ∧ w.grownBy w' v.ownBlock := by
  obtain ⟨i0, hi, hz0, hz1, hz2⟩ := info_parts Tryz.infoPn
  obtain ⟨A, c, rfl, hc, _⟩ := own_form h.out
  have S := Lib.hid (fun W => single_any (b : Int) W)
  have hbI : (b : Int) < 256 := by omega
  have hbZ : (0 : Int) ≤ (b : Int) := by omega
  have HB := Lib.hid hB
  have hl1 : (0 : Int) ≤ (l.length : Int) := by omega
  have hlI : (l.length : Int) ≤ 100000 := by omega
  go_enter Tryz.func43, Tryz.ntmps43
  go_upto_region 2 with fail
  have S1 := Lib.hid (S.out w)
  go_wp2_with (first
    | (go_at_call 66; with_reducible refine S1.out.mono ?_; rintro e w1 ⟨rfl, hb1⟩; have D := Lib.hid hb1; have hs1 := hb1.size; have HO := Lib.hid ((own_below h.out hb1).alloc (.cells #[.int .i64 1, .int .i64 (b : Int), .int .i64 (b : Int), .int .i64 0, .int .i64 0] 42)); clear hb1)
    | (at_builtin; refine wpList_append_lies _ rfl _ _ _ rfl B 42 i0 _ 5 40 Tryz.underlying25 hi hz0 hz1 hz2 rfl (by omega) (.slice A l.length c) l.length (pnC l) rfl HO.out _ _ _ (c5 (1, (b : Int), (b : Int), 0, 0)) rfl rfl (World.news_of_block (heap_alloc_new _ _)) (by simp [c5, Value.oneCell']) (by omega) (by simp only [maxLen]; omega) (by omega) (by simp; omega) _ rfl ?_))
  intro g1 c1 w2 hown hgrow hat hlt
  have HO2 := Lib.hid hown
  have G1 := Lib.hid (grown_one (D.out.alloc D.out.size _) hgrow)
  have hat' : (Value.slice A l.length c).ownBlock = some g1 ∨ w.heap.size ≤ g1 := by
    rcases hat with e | e
    · exact .inl e
    · right; rw [e]; first | omega | (simp; omega)
  have HAT := Lib.hid hat'
  have hs2 := hgrow.size
  have hB2 : B ≤ w2.heap.size := by have := G1.out.size; omega
  clear hown hgrow hat hat' hs2 D HO S1
  by_cases h0 : l.length = 0
  · have hj : jnP l b = [(1, (b : Int), (b : Int), 0, 0)] := by unfold jnP; rw [if_pos h0]
    have hneg : ¬ (0 : Int) ≤ (l.length : Int) - 1 := by omega
    have HJ := Lib.hid hj
    have H0 := Lib.hid h0
    have hln : l = [] := List.length_eq_zero_iff.1 h0
    have HLN := Lib.hid hln
    clear hj h0 hln
    go_wp2
    go_ret
    refine ⟨_, rfl, ?_, G1.out⟩
    have := HO2.out
    rw [HJ.out]
    rw [HLN.out] at this ⊢
    exact this
  · have hj : jnP l b = l ++ [(1, (b : Int), (b : Int), 0, 0)] ++ [(2, 0, 0, ((l.length - 1 : Nat) : Int), ((l.length : Nat) : Int))] := by unfold jnP; rw [if_neg h0]
    have hpos : (0 : Int) ≤ (l.length : Int) - 1 := by omega
    have hcast : (l.length : Int) - 1 = ((l.length - 1 : Nat) : Int) := by omega
    have HJ := Lib.hid hj
    have HCA := Lib.hid hcast
    clear hj hcast h0
    go_wp2_with (at_builtin; refine wpList_append_lies _ rfl _ _ _ rfl B 42 i0 _ 5 40 Tryz.underlying25 hi hz0 hz1 hz2 rfl (by omega) (.slice (some ⟨g1, 0, none⟩) (l.length + 1) c1) (l.length + 1) (pnC l ++ c5 (1, (b : Int), (b : Int), 0, 0)) rfl (HO2.out.alloc _) _ _ _ (c5 (2, 0, 0, (l.length : Int) - 1, (l.length : Int))) rfl rfl (World.news_of_block (heap_alloc_new _ _)) (by simp [c5, Value.oneCell']) (by omega) (by simp only [maxLen]; omega) (by omega) (by simp; omega) _ rfl ?_)
    intro g2 c2 w4 hown hgrow hat hlt2
    have HO4 := Lib.hid hown
    have G2 := Lib.hid (grown_two G1.out ((Below.refl w2.heap.size w2).alloc (Nat.le_refl _) _) hgrow HAT.out)
    clear hown hgrow hat
    go_wp2
    go_ret
    refine ⟨_, rfl, ?_, G2.out⟩
    have := HO4.out
    rw [HJ.out, pnC_snoc, pnC_snoc, len1, len1, ← HCA.out, List.append_assoc]
    exact this

end Go.Proofs.YtfkljlncnfeklaaGreatDoor

/-! Literal. -/
namespace Go.Proofs.YtfkljlncnfeklaaGreatDoor
open Go.RowKit Go.Shelf
set_option linter.unusedVariables false
set_option linter.unusedSimpArgs false
attribute [local go_sem ↓] Go.wp_at_zero Go.wp_at_succ

/-- the nodes of a literal -/
def litN (s : List UInt8) : List Pn := s.foldl (fun l b => jnP l b.toNat) []
theorem litN_snoc (s : List UInt8) (b : UInt8) : litN (s ++ [b]) = jnP (litN s) b.toNat := by unfold litN; rw [List.foldl_append]; rfl
theorem jnP_le (l : List Pn) (b : Nat) : (jnP l b).length ≤ l.length + 2 := by
  unfold jnP
  split
  · simp
  · simp
theorem litN_le : ∀ s : List UInt8, (litN s.reverse).length ≤ 2 * s.length
  | [] => Nat.le_refl _
  | b :: s => by
    rw [List.reverse_cons, litN_snoc, List.length_cons]
    have h1 := jnP_le (litN s.reverse) b.toNat
    have h2 := litN_le s
    omega
theorem litN_len (s : List UInt8) : (litN s).length ≤ 2 * s.length := by
  have := litN_le s.reverse
  rwa [List.reverse_reverse, List.length_reverse] at this
/-- what Literal returns -/
def litP (s : List UInt8) : List Pn × Int := if 256 < s.length then ([], 2) else if s = [] then ([(0, 0, 0, 0, 0)], 0) else (litN s, 0)
/-- the first k bytes are in the literal, the iterator stands at pn -/
structure LiS (w W : World) (s : ByteArray) (v : Value) (pn k : Nat) : Prop where
  it : W.heap[w.heap.size]? = some (.stringIter s pn)
  own : W.ownsRow w.heap.size 42 5 v (litN (s.data.toList.take k)).length (pnC (litN (s.data.toList.take k)))
  bel : Below w.heap.size w W
  hk : k ≤ s.size
section
variable {w W W' : World} {s : ByteArray} {v v' : Value} {pn k : Nat}
theorem LiS.start (w : World) (s : ByteArray) : LiS w (w.iter s 0) s (.slice none 0 0) 0 0 :=
  ⟨w.iter_heap s 0, ⟨rfl, .inl ⟨rfl, rfl⟩⟩, (Below.refl _ _).alloc (Nat.le_refl _) _, Nat.zero_le _⟩
theorem LiS.lt (h : LiS w W s v pn k) : w.heap.size < W.heap.size := (Array.getElem?_eq_some_iff.1 h.it).1
theorem LiS.next (h : LiS w W s v pn k) (p : Nat) : LiS w (W.iterAt w.heap.size s p) s v p k :=
  ⟨Lib.iterAt_heap W _ s pn _ h.it, own_iter h.own h.it _, Lib.below_iterAt h.bel (Nat.le_refl _) s _, h.hk⟩
theorem LiS.later (h : LiS w W s v pn k) (hb : Below W.heap.size W W') : LiS w W' s v pn k :=
  ⟨(hb.block _ h.lt).trans h.it, own_below h.own hb, h.bel.trans (hb.mono (Nat.le_of_lt h.lt)), h.hk⟩
theorem LiS.len (h : LiS w W s v pn k) : (litN (s.data.toList.take k)).length ≤ 2 * s.size := by
  have h1 := litN_len (s.data.toList.take k)
  have h2 := h.hk
  rw [List.length_take] at h1
  omega
theorem take_succ' {s : ByteArray} {k : Nat} (h : k < s.size) : s.data.toList.take (k + 1) = s.data.toList.take k ++ [s[k]] := by
  rw [List.take_succ_eq_append_getElem (by rw [Array.length_toList]; exact h)]; rfl
theorem LiS.join (h : LiS w W s v pn k) (hk : k < s.size) (hown : W'.ownsRow w.heap.size 42 5 v' (jnP (litN (s.data.toList.take k)) (s[k]'hk).toNat).length (pnC (jnP (litN (s.data.toList.take k)) (s[k]'hk).toNat))) (hg : W.grownBy W' v.ownBlock) : LiS w W' s v' pn (k + 1) :=
  ⟨(hg.block _ h.lt (fun e => own_not_iter h.own h.it e.symm)).trans h.it, by rw [take_succ' hk, litN_snoc]; exact hown, h.bel.grown hg (Nat.le_of_lt h.lt) (fun r e => (h.own.lt r e).1), hk⟩
end
theorem tu_below {w w' : World} (ht : Hid (Tu w)) {B : Nat} (hb : Below B w w') (h1 : 0 < B) (h2 : 1 < B) : Hid (Tu w') :=
  Lib.hid ⟨fun c hc => (World.cell?_of_block (w := w) (hb.block _ h1)).trans (ht.out.1 c hc), fun i hi => ⟨(World.cell?_of_block (w := w) (hb.block _ h2)).trans (ht.out.2 i hi).1, (World.cell?_of_block (w := w) (hb.block _ h2)).trans (ht.out.2 i hi).2⟩⟩
theorem dec_tail (s : ByteArray) (pos : Nat) (h : pos < s.size) : (Lib.decodeGo (s.extract pos s.size)).2 = (Utf8.decode s pos).2 ∧ 1 ≤ (Utf8.decode s pos).2 ∧ pos + (Utf8.decode s pos).2 ≤ s.size := by
  have h1 : ¬ (s.extract pos s.size).size = 0 := by rw [ByteArray.size_extract]; omega
  have e : Lib.decodeGo (s.extract pos s.size) = Utf8.decode s pos := by
    unfold Lib.decodeGo
    rw [if_neg h1, Lib.tail_decode, Nat.add_zero]
  have h2 := Lib.decodeGo_le_size (s.extract pos s.size)
  rw [e, ByteArray.size_extract] at h2
  refine ⟨by rw [e], ?_, by omega⟩
  by_cases ha : (s[pos]'h).toNat < 128
  · rw [decode_ascii s pos h ha]; exact Nat.le_refl _
  · exact (decode_high s pos h (by omega)).2
theorem li_bytes {w w3 : World} {s : ByteArray} {v : Value} {pn k : Nat} (h : LiS w w3 s v pn k) (S : ByteArray) (cp : Nat) : ∀ W, (w3.alloc (.cells (bytesRow S cp) 5 ((bytesRow S cp).size, (bytesRow S cp).size + 1))).drew = W → Hid (LiS w W s v pn k) ∧ Hid (W.heap[w3.heap.size]? = some (.cells (bytesRow S cp) 5 ((bytesRow S cp).size, (bytesRow S cp).size + 1))) := by
  rintro W rfl
  exact ⟨Lib.hid (h.later (((Below.refl w3.heap.size w3).alloc (Nat.le_refl _) _).drew)), Lib.hid (heap_alloc_new w3 _)⟩
theorem ext_get {s : ByteArray} {a d k : Nat} (hk : k < d) (h : a + k < s.size) {hh : k < (s.extract a (a + d)).data.size} : ((s.extract a (a + d)).data[k]'hh).toNat = (s[a + k]'h).toNat := by
  have h1 : (s.extract a (a + d)).data.toList[k]? = s.data.toList[a + k]? := by
    rw [ByteArray.data_extract, Array.toList_extract, List.extract_eq_take_drop, List.getElem?_take_of_lt (by omega), List.getElem?_drop]
  rw [List.getElem?_eq_getElem (by rw [Array.length_toList]; exact hh), List.getElem?_eq_getElem (by rw [Array.length_toList]; exact h)] at h1
  have h2 := Option.some.inj h1
  rw [Array.getElem_toList, Array.getElem_toList] at h2
  rw [h2]
  rfl
/-- what Literal gives back -/
def LiR (w W : World) (s : List UInt8) (e : Ending) : Prop := ∃ v, e = .returned (.tuple #[v, .int .i64 (litP s).2]) ∧ W.ownsRow w.heap.size 42 5 v (litP s).1.length (pnC (litP s).1) ∧ Below w.heap.size w W
set_option maxRecDepth 100000 in
set_option maxHeartbeats 4000000 in
theorem literal_any (s : ByteArray) (w : World) (ht : Hid (Tu w)) (h1 : 0 < w.heap.size) (h2 : 1 < w.heap.size) : Calls Tryz.prog 16 #[.string s] w fun e w' => LiR w w' s.data.toList e := by
  have hsz : s.data.toList.length = s.size := by rw [Array.length_toList]; rfl
  have HH := Lib.hid (And.intro h1 h2)
  by_cases h8 : 256 < s.size
  · have hp : litP s.data.toList = ([], 2) := by unfold litP; rw [if_pos (by rw [hsz]; exact h8)]
    have i8 : (256 : Int) < (s.size : Int) := by omega
    have HP := Lib.hid hp
    clear hp hsz
    go_enter Tryz.func16, Tryz.ntmps16
    go_wp2
    go_ret2
    exact ⟨.slice none 0 0, by rw [HP.out]; rfl, by rw [HP.out]; exact ⟨rfl, .inl ⟨rfl, rfl⟩⟩, Below.refl _ _⟩
  · have i8 : ¬ (256 : Int) < (s.size : Int) := by omega
    by_cases h0 : s.size = 0
    · have hse : s = ByteArray.mk #[] := by
        obtain ⟨d⟩ := s
        congr
        exact Array.eq_empty_of_size_eq_zero h0
      subst hse
      clear hsz h0 h8
      go_enter Tryz.func16, Tryz.ntmps16
      go_wp2
      go_ret2
      refine ⟨_, rfl, ⟨rfl, .inr ⟨w.heap.size, 1, _, rfl, Nat.le_refl _, heap_alloc_new w _, Nat.le_refl _, by simp [maxLen], rfl, rfl⟩⟩, (Below.refl _ _).alloc (Nat.le_refl _) _⟩
    · have hne : ¬ s.data.toList = [] := fun e => h0 (by rw [← hsz, e]; rfl)
      have hne2 : s.toList.isEmpty = false := by
        rw [ByteArray.toList_eq]
        rcases h : s.data.toList with _ | ⟨x, y⟩
        · exact absurd h hne
        · rfl
      have hp : litP s.data.toList = (litN s.data.toList, 0) := by unfold litP; rw [if_neg (by rw [hsz]; exact h8), if_neg hne]
      have HP := Lib.hid hp
      have HZ := Lib.hid (And.intro h8 h0)
      clear hp hsz hne h8 h0
      go_enter Tryz.func16, Tryz.ntmps16
      go_wp2
      go_loopw [4] (fun v4 wr => ∃ pos, Hid (LiS w wr s v4 pos pos)) (fun v4 wr => s.size - wr.iterPos w.heap.size)
      case atStart => exact ⟨0, Lib.hid (LiS.start w s)⟩
      case round =>
        obtain ⟨pos, hS⟩ := hrel
        have hit := hS.out.it
        have hpz := HZ.out
        by_cases hp : pos < s.size
        · obtain ⟨e1, e2, e3⟩ := dec_tail s pos hp
          have hnx : ∀ ty, (Instr.next (.pointer (some ⟨w.heap.size, 0, none⟩)) true ty).run Tryz.prog wr = _ := fun ty => Lib.run_next_any_at wr w.heap.size s pos ty hit hp
          have hS2 := Lib.hid (hS.out.next (pos + (Utf8.decode s pos).2))
          have DC := Lib.hid (fun W h => dec_any (s.extract pos s.size) W h)
          rw [e1] at DC
          have hp0 := it_pos hit
          clear hit
          generalize (Utf8.decode s pos).2 = d at *
          generalize (Utf8.decode s pos).1 = r0 at *
          generalize (Lib.decodeGo (s.extract pos s.size)).1 = r1 at *
          generalize wr.iterAt _ _ _ = w2 at *
          have hpb : pos < 256 := by omega
          have TU := tu_below ht hS2.out.bel HH.out.1 HH.out.2
          have i1 : (0 : Int) ≤ (pos : Int) := by omega
          have i2 : (pos : Int) ≤ (s.size : Int) := by omega
          have i3 : (pos : Int) + (d : Int) ≤ (s.size : Int) := by omega
          have i4 : (pos : Int) ≤ (pos : Int) + (d : Int) := by omega
          have HD := Lib.hid (And.intro e2 e3)
          clear e1 e2 e3 hpz
          go_upto_region 10 with (go_at_call 42; with_reducible refine (DC.out _ TU).mono ?_; rintro e w3 ⟨rfl, hb3⟩; replace hS2 := Lib.hid (hS2.out.later hb3); clear hb3)
          have i5 : ((pos : Int) + (d : Int)).toNat = pos + d := by omega
          have hSz : (s.extract pos (pos + d)).size = d := by rw [ByteArray.size_extract]; have := HD.out; omega
          have hcv : ∀ W : World, (convert 9 22 (.string (s.extract pos (pos + d)))).run Tryz.prog W = _ := fun W => run_bytes_of_string W 9 22 5 (s.extract pos (pos + d)) Tryz.underlying9 Tryz.underlying22 Tryz.underlying5
          rw [hSz] at hcv
          have hlS := hS2.out.lt
          go_upto_region 11 with fail
          have hE := li_bytes hS2.out (s.extract pos (pos + d)) (grownCap w3 d 0 5)
          generalize grownCap w3 d 0 5 = cp at *
          generalize hw4 : World.drew (World.alloc w3 _) = w4
          obtain ⟨L4, B4⟩ := hE _ hw4
          have hby : ∀ k, k < d → ∀ h : pos + k < s.size, (bytesRow (s.extract pos (pos + d)) cp)[k]? = some (.int .u8 (((s[pos + k]'h).toNat : Nat) : Int)) := fun k hk h => by
            have hk' : k < (s.extract pos (pos + d)).data.size := by show k < (s.extract pos (pos + d)).size; omega
            rw [bytesRow_at _ _ _ hk']
            congr 3
            exact ext_get hk h
          have HBY := Lib.hid hby
          have H34 := Lib.hid hlS
          clear hE hw4 hcv hby hlS hS2 hS hSz
          generalize bytesRow (s.extract pos (pos + d)) cp = RB at *
          generalize w3.heap.size = hb at *
          go_loopw [4, 37] (fun v4 v37 wi => ∃ k : Nat, k ≤ d ∧ v37 = .int .i64 (k : Int) ∧ Hid (LiS w wi s v4 (pos + d) (pos + k)) ∧ Hid (wi.heap[hb]? = some (.cells RB 5 (RB.size, RB.size + 1)))) (fun v4 v37 wi => d - (intOf v37).toNat)
          case atStart => exact ⟨0, Nat.zero_le _, rfl, L4, B4⟩
          case round =>
            clear L4 B4
            obtain ⟨k, hk, rfl, L5, B5⟩ := hrel
            by_cases hkd : k < d
            · have hps : pos + k < s.size := by have := HD.out.2; omega
              have hcell : wr.cell? ⟨hb, k, none⟩ = some (.int .u8 (((s[pos + k]'hps).toNat : Nat) : Int)) := (cell_of_row _ _ k _ _ _ B5.out).trans (HBY.out k hkd hps)
              have hlen := L5.out.len
              have JN := Lib.hid (joined_any w.heap.size _ (litN (s.data.toList.take (pos + k))) (s[pos + k]'hps).toNat wr (Lib.hid L5.out.own) L5.out.bel.size (by have := HZ.out; omega) (UInt8.toNat_lt _))
              have JL := Lib.hid (fun W' v' => L5.out.join (W' := W') (v' := v') hps)
              have hnb := own_ne L5.out.own B5.out (by decide)
              have hbl : hb < wr.heap.size := (Array.getElem?_eq_some_iff.1 B5.out).1
              obtain ⟨A, c, ev, _, _⟩ := own_form L5.out.own
              subst ev
              generalize (s[pos + k]'hps).toNat = bn at *
              have i6 : (k : Int) < (d : Int) := by omega
              have i7 : (0 : Int) ≤ (k : Int) := by omega
              have i8' : (k : Int) ≤ 256 := by omega
              clear hlen
              go_wp2_with (go_at_call 43; refine JN.out.mono ?_; rintro e w5 ⟨v', rfl, ho, hg⟩; have L6 := Lib.hid (JL.out _ _ ho hg); have B6 := Lib.hid ((hg.block _ hbl (fun e => hnb e.symm)).trans B5.out); clear ho hg)
              go_roundw
              case rel => exact ⟨k + 1, hkd, rfl, L6, B6⟩
              case measure => simp only [intOf]; omega
            · obtain rfl : k = d := by omega
              have hp1 := it_pos L5.out.it
              go_wp2
              go_roundw
              case rel => exact ⟨pos + k, L5⟩
              case measure => rw [hp0, hp1]; have := HD.out; omega
        · have hnx : ∀ ty, (Instr.next (.pointer (some ⟨w.heap.size, 0, none⟩)) true ty).run Tryz.prog wr = _ := fun ty => Lib.run_next_end_at wr w.heap.size s pos ty hit hp
          go_wp2
          go_ret2
          have hps := hS.out.hk
          have htk : s.data.toList.take pos = s.data.toList := List.take_of_length_le (by rw [Array.length_toList]; exact Nat.le_of_not_lt hp)
          have ho := hS.out.own
          rw [htk] at ho
          exact ⟨_, by rw [HP.out]; rfl, by rw [HP.out]; exact ho, hS.out.bel⟩

end Go.Proofs.YtfkljlncnfeklaaGreatDoor
