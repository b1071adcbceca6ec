/-
  Plain mathematics and contracts of package diagram, several texts in one: PLaw, DSix.
-/
import Derived.Test.YtmfinkaphglmjaaDoorMa
import Derived.Test.YtmfinkaphglmjaaDoorMh

/-! Plain mathematics of the laws: inclusion, support, the configurations one by one. -/
namespace Go.Proofs.YtmfinkaphglmjaaDoor
open Dg St

theorem inc_zero {fa fb : Cfg → Bool} (da : D64 fa) (db : D64 fb) : (cn (fun x => fa x && !fb x)).2 = 0 ↔ (fun x => fa x && fb x) = fa := by
  rw [cn_zero (f := fun x => fa x && !fb x) (d64_bin (fun p q => p && !q) da db)]
  constructor
  · intro h; funext x
    have := congrFun h x
    cases ha : fa x <;> cases hb : fb x <;> simp_all
  · intro h; funext x
    have := congrFun h x
    cases ha : fa x <;> cases hb : fb x <;> simp_all
theorem dis_zero {fa fb : Cfg → Bool} (da : D64 fa) (db : D64 fb) : (cn (fun x => fa x && fb x)).2 = 0 ↔ (fun x => fa x && fb x) = fun _ => false := cn_zero (d64_bin and da db)
theorem inc_self {fa fb : Cfg → Bool} (da : D64 fa) (db : D64 fb) : (cn (fun x => (fun x => fa x && fb x) x && !fb x)).2 = 0 :=
  (inc_zero (d64_bin and da db) db).2 (by funext x; cases fa x <;> cases fb x <;> rfl)
theorem inc_both {fa fb : Cfg → Bool} : ((fun x => fa x && fb x) = fa ∧ (fun x => fb x && fa x) = fb) ↔ fa = fb := by
  constructor
  · rintro ⟨h, k⟩
    funext x
    have h1 := congrFun h x
    have k1 := congrFun k x
    cases ha : fa x <;> cases hb : fb x <;> simp_all
  · rintro rfl
    exact ⟨by funext x; cases fa x <;> rfl, by funext x; cases fa x <;> rfl⟩
/-- the answers of Within and Disjoint, and what they say -/
theorem inc_bools {fa fb : Cfg → Bool} (da : D64 fa) (db : D64 fb) : ∃ p q s : Bool, decide ((cn (fun x => fa x && !fb x)).2 = 0) = p ∧ decide ((cn (fun x => fb x && !fa x)).2 = 0) = q ∧ decide ((cn (fun x => fa x && fb x)).2 = 0) = s ∧
    (p = true ↔ (fun x => fa x && fb x) = fa) ∧ (s = true ↔ (fun x => fa x && fb x) = fun _ => false) ∧ ((p && q) = true ↔ fa = fb) := by
  refine ⟨_, _, _, rfl, rfl, rfl, ?_, ?_, ?_⟩
  · rw [decide_eq_true_iff]; exact inc_zero da db
  · rw [decide_eq_true_iff]; exact dis_zero da db
  · rw [Bool.and_eq_true, decide_eq_true_iff, decide_eq_true_iff, inc_zero da db, inc_zero db da]; exact inc_both

/-! support -/
theorem put_ind : ∀ (d v : Nat) (f : Cfg → Bool) (M : List Br), d ≤ 64 → Dep d f → Ind v f → Dg.Good M → ∀ b ∈ (put d f M).1, b ∈ M ∨ b.1 ≠ v := by
  intro d
  induction d with
  | zero => intro v f M _ _ _ _ b hb; exact .inl hb
  | succ d ih =>
    intro v f M hd hf hl hM b hb
    by_cases hv : v = 63 - d
    · have e : (fun c => f (Dg.set c (63 - d) true)) = f := by funext c; rw [← hv]; exact hl c true
      have hdp := hf.set true
      rw [e] at hdp
      rw [put_step (by omega) hdp hM] at hb
      exact ih v f M (by omega) hdp hl hM b hb
    · have k0 := ih v _ M (by omega) (hf.set false) (hl.set hv false) hM
      have g0 := (put_ok d _ M (by omega) (hf.set false) hM).good
      have k1 := ih v _ _ (by omega) (hf.set true) (hl.set hv true) g0
      have key : ∀ x ∈ (put d (fun c => f (Dg.set c (63 - d) true)) (put d (fun c => f (Dg.set c (63 - d) false)) M).1).1, x ∈ M ∨ x.1 ≠ v := fun x hx => by
        rcases k1 x hx with q | q
        · exact k0 x q
        · exact .inr q
      have hb' : b ∈ (if (put d (fun c => f (Dg.set c (63 - d) false)) M).2 = (put d (fun c => f (Dg.set c (63 - d) true)) (put d (fun c => f (Dg.set c (63 - d) false)) M).1).2
        then ((put d (fun c => f (Dg.set c (63 - d) true)) (put d (fun c => f (Dg.set c (63 - d) false)) M).1).1, (put d (fun c => f (Dg.set c (63 - d) false)) M).2)
        else ins (put d (fun c => f (Dg.set c (63 - d) true)) (put d (fun c => f (Dg.set c (63 - d) false)) M).1).1 (63 - d, (put d (fun c => f (Dg.set c (63 - d) false)) M).2, (put d (fun c => f (Dg.set c (63 - d) true)) (put d (fun c => f (Dg.set c (63 - d) false)) M).1).2)).1 := hb
      split at hb'
      · exact key b hb'
      · unfold ins at hb'
        split at hb'
        · exact key b hb'
        · rcases List.mem_append.1 hb' with q | q
          · exact key b q
          · rw [List.mem_singleton] at q
            right; rw [q]; exact fun e => hv e.symm
/-- a branch has condition v -/
def sv (M : List Br) (v : Nat) : Bool := M.any fun b => b.1 == v
theorem sv_iff {M : List Br} {v : Nat} : sv M v = true ↔ ∃ b ∈ M, b.1 = v := by
  unfold sv
  rw [List.any_eq_true]
  simp
theorem sup_iff {f : Cfg → Bool} (hf : D64 f) (v : Nat) : sv (cn f).1 v = true ↔ ¬ (fun x => f (Dg.set x v true)) = (fun x => f (Dg.set x v false)) := by
  have hg := put_ind 64 v f [] (Nat.le_refl _) hf
  have hden := cn_den hf
  have hv := cn_valid hf
  rw [sv_iff]
  unfold cn at *
  generalize put 64 f [] = P at *
  constructor
  · rintro ⟨b, hb, e⟩ h
    have hi : Ind v f := fun c b => by
      have hc := congrFun h c
      rw [set_cases f c v]
      cases b
      · rw [hc]; split <;> rfl
      · rw [← hc]; split <;> rfl
    rcases hg hi Dg.good_nil b hb with q | q
    · simp at q
    · exact q e
  · intro h
    refine Classical.byContradiction fun hn => h ?_
    have hm : ∀ b, P.1.map (fxb v b) = P.1 := fun b => by
      have : P.1.map (fxb v b) = P.1.map id := List.map_congr_left fun x hx => by
        unfold fxb
        rw [if_neg (fun e => hn ⟨x, hx, e⟩)]; rfl
      rw [this, List.map_id]
    have h1 := fxb_Den hv.good.ord v true hv.lt
    have h2 := fxb_Den hv.good.ord v false hv.lt
    rw [hm, hden] at h1 h2
    exact h1.symm.trans h2
/-- the conditions below n, in their order -/
def supn (M : List Br) (n : Nat) : List Nat := (List.range n).filter (sv M)
theorem supn_succ (M : List Br) (n : Nat) : supn M (n + 1) = supn M n ++ if sv M n then [n] else [] := by
  unfold supn
  rw [List.range_succ, List.filter_append]
  congr 1
  simp only [List.filter_cons, List.filter_nil]
theorem supn_yes {M : List Br} {n : Nat} (h : sv M n = true) : supn M (n + 1) = supn M n ++ [n] := by rw [supn_succ, if_pos h]
theorem supn_no {M : List Br} {n : Nat} (h : sv M n = false) : supn M (n + 1) = supn M n := by rw [supn_succ, h, if_neg (by simp), List.append_nil]
theorem supn_len (M : List Br) (n : Nat) : (supn M n).length ≤ n := by
  have := List.length_filter_le (sv M) (List.range n)
  rw [List.length_range] at this
  exact this
theorem supn_pre (M : List Br) {n : Nat} : ∀ k, ∃ X, supn M (n + k) = supn M n ++ X := by
  intro k
  induction k with
  | zero => exact ⟨[], by simp⟩
  | succ k ih =>
    obtain ⟨X, hX⟩ := ih
    exact ⟨X ++ (if sv M (n + k) then [n + k] else []), by rw [← Nat.add_assoc, supn_succ, hX, List.append_assoc]⟩
theorem supn_at {M : List Br} {n m : Nat} (h : sv M n = true) (hn : n < m) : (supn M n).length < (supn M m).length ∧ (supn M m).getD (supn M n).length 0 = n := by
  obtain ⟨X, hX⟩ := supn_pre M (n := n + 1) (m - (n + 1))
  rw [show n + 1 + (m - (n + 1)) = m by omega, supn_yes h] at hX
  rw [hX]
  refine ⟨?_, ?_⟩
  · simp
  · simp

/-! the configurations one by one -/
/-- the first v literals of configuration k, the last one first -/
def klit (k : Nat) : Nat → List (Nat × Bool)
  | 0 => []
  | v + 1 => (v, k.testBit v) :: klit k v
theorem klit_lt (k : Nat) : ∀ v, ∀ p ∈ klit k v, p.1 < v := by
  intro v
  induction v with
  | zero => intro p hp; simp [klit] at hp
  | succ v ih =>
    intro p hp
    rcases List.mem_cons.1 hp with rfl | h
    · show v < v + 1; omega
    · have := ih p h; omega
theorem klit_true (k : Nat) : ∀ (v : Nat) (c : Cfg), cube (klit k v) c = true ↔ ∀ i, i < v → c i = k.testBit i := by
  intro v c
  induction v with
  | zero => simp [klit, cube]
  | succ v ih =>
    have e : cube (klit k (v + 1)) c = ((c v == k.testBit v) && cube (klit k v) c) := by simp [klit, cube]
    rw [e, Bool.and_eq_true, ih, beq_iff_eq]
    constructor
    · rintro ⟨h1, h2⟩ i hi
      by_cases e : i = v
      · subst e; exact h1
      · exact h2 i (by omega)
    · intro h
      exact ⟨h v (by omega), fun i hi => h i (by omega)⟩
theorem cube_low {L : List (Nat × Bool)} {n : Nat} (h : ∀ p ∈ L, p.1 < n) : Low n (cube L) := by
  intro c c' hc
  induction L with
  | nil => rfl
  | cons p L ih =>
    have e : ∀ c, cube (p :: L) c = ((c p.1 == p.2) && cube L c) := fun c => by simp [cube]
    rw [e, e, ih (fun q hq => h q (List.mem_cons_of_mem _ hq)), hc p.1 (h p (List.mem_cons_self ..))]
/-- the union of the first k configurations that are in f -/
def uni (f : Cfg → Bool) (n : Nat) : Nat → Cfg → Bool
  | 0 => fun _ => false
  | k + 1 => fun x => (f (cf k) && cube (klit k n) x) || uni f n k x
theorem uni_low (f : Cfg → Bool) (n : Nat) : ∀ k, Low n (uni f n k) := by
  intro k
  induction k with
  | zero => exact Low.const n false
  | succ k ih =>
    intro c c' hc
    show ((f (cf k) && cube (klit k n) c) || uni f n k c) = ((f (cf k) && cube (klit k n) c') || uni f n k c')
    rw [cube_low (klit_lt k n) c c' hc, ih c c' hc]
theorem uni_yes {f : Cfg → Bool} {n k : Nat} (h : f (cf k) = true) : uni f n (k + 1) = fun x => cube (klit k n) x || uni f n k x := by
  funext x
  show ((f (cf k) && cube (klit k n) x) || uni f n k x) = _
  rw [h, Bool.true_and]
theorem uni_no {f : Cfg → Bool} {n k : Nat} (h : f (cf k) = false) : uni f n (k + 1) = uni f n k := by
  funext x
  show ((f (cf k) && cube (klit k n) x) || uni f n k x) = _
  rw [h, Bool.false_and, Bool.false_or]
theorem uni_true {f : Cfg → Bool} {n : Nat} : ∀ k x, uni f n k x = true ↔ ∃ j, j < k ∧ f (cf j) = true ∧ ∀ i, i < n → x i = j.testBit i := by
  intro k x
  induction k with
  | zero => simp [uni]
  | succ k ih =>
    show ((f (cf k) && cube (klit k n) x) || uni f n k x) = true ↔ _
    rw [Bool.or_eq_true, Bool.and_eq_true, ih, klit_true]
    constructor
    · rintro (⟨h1, h2⟩ | ⟨j, h1, h2⟩)
      · exact ⟨k, by omega, h1, h2⟩
      · exact ⟨j, by omega, h2⟩
    · rintro ⟨j, h1, h2⟩
      by_cases e : j = k
      · subst e; exact .inl h2
      · exact .inr ⟨j, by omega, h2⟩
/-- the number of the first n conditions of a configuration -/
def num (c : Cfg) : Nat → Nat
  | 0 => 0
  | n + 1 => num c n + if c n then 2 ^ n else 0
theorem num_lt (c : Cfg) : ∀ n, num c n < 2 ^ n := by
  intro n
  induction n with
  | zero => exact Nat.one_pos
  | succ n ih =>
    unfold num
    rw [Nat.pow_succ]
    split <;> omega
theorem num_bit (c : Cfg) : ∀ n i, i < n → (num c n).testBit i = c i := by
  intro n
  induction n with
  | zero => intro i h; omega
  | succ n ih =>
    intro i hi
    have hlt := num_lt c n
    unfold num
    by_cases hc : c n = true
    · rw [if_pos hc, show num c n + 2 ^ n = 2 ^ n * 1 + num c n by omega, Nat.testBit_two_pow_mul_add 1 hlt]
      by_cases e : i < n
      · rw [if_pos e]; exact ih i e
      · obtain rfl : i = n := by omega
        rw [if_neg e, hc]; simp
    · have hc' : c n = false := by cases h : c n <;> simp_all
      rw [if_neg hc, Nat.add_zero]
      by_cases e : i < n
      · exact ih i e
      · obtain rfl : i = n := by omega
        rw [hc', Nat.testBit_lt_two_pow hlt]
theorem uni_all {f : Cfg → Bool} {n : Nat} (h : Low n f) : uni f n (2 ^ n) = f := by
  funext x
  rw [Bool.eq_iff_iff, uni_true]
  constructor
  · rintro ⟨j, _, h2, h3⟩
    rw [h x (cf j) h3]; exact h2
  · intro hx
    refine ⟨num x n, num_lt x n, ?_, fun i hi => (num_bit x n i hi).symm⟩
    rw [h (cf (num x n)) x (fun i hi => num_bit x n i hi)]; exact hx
/-- the first k configurations do not tell f and g apart -/
def agr (f g : Cfg → Bool) (k : Nat) : Bool := decide (∀ j, j < k → f (cf j) = g (cf j))
theorem agr_zero (f g : Cfg → Bool) : agr f g 0 = true := by unfold agr; rw [decide_eq_true_iff]; intro j hj; omega
theorem agr_succ (f g : Cfg → Bool) (k : Nat) : agr f g (k + 1) = (agr f g k && (f (cf k) == g (cf k))) := by
  unfold agr
  rw [Bool.eq_iff_iff, Bool.and_eq_true, decide_eq_true_iff, decide_eq_true_iff, beq_iff_eq]
  constructor
  · intro h; exact ⟨fun j hj => h j (by omega), h k (by omega)⟩
  · rintro ⟨h1, h2⟩ j hj
    by_cases e : j = k
    · subst e; exact h2
    · exact h1 j (by omega)
theorem agr_all {f g : Cfg → Bool} {n : Nat} (hf : Low n f) (hg : Low n g) : agr f g (2 ^ n) = true ↔ f = g := by
  unfold agr
  rw [decide_eq_true_iff]
  constructor
  · intro h; funext x
    have e : ∀ i, i < n → x i = cf (num x n) i := fun i hi => (num_bit x n i hi).symm
    rw [hf x _ e, hg x _ e]; exact h _ (num_lt x n)
  · intro h j _; rw [h]

end Go.Proofs.YtmfinkaphglmjaaDoor

/-! The operations on sets over six conditions: the sizes are known, so that no size is asked. -/
namespace Go.Proofs.YtmfinkaphglmjaaDoor
open Go.RowKit Dg St

theorem Dn.s33 {w : World} {A : Option Addr} {m c r : Nat} {f : Cfg → Bool} (h : Dn w A m c r f) (hl : Low 6 f) : m ≤ 33 := by rw [← h.len]; exact hl.size33
set_option maxRecDepth 100000 in
theorem pr6 {a b : Nat} (ha : a ≤ 33) (hb : b ≤ 33) : (a + 2) * (b + 2) ≤ 4096 := Nat.le_trans (Nat.mul_le_mul (show a + 2 ≤ 35 by omega) (show b + 2 ≤ 35 by omega)) (by omega)
theorem s4096 {f : Cfg → Bool} (hl : Low 6 f) : (cn f).1.length ≤ 4096 := Nat.le_trans hl.size33 (by omega)
/-- what a bool says (kept from simp) -/
def BIff (x : Bool) (P : Prop) : Prop := x = true ↔ P
theorem BIff.iff {x : Bool} {P : Prop} (h : BIff x P) : x = true ↔ P := h
theorem BIff.hid {x : Bool} {P : Prop} (h : Hid (BIff x P)) : Hid (x = true ↔ P) := Lib.hid h.out
section
variable {w : World} {A0 A1 : Option Addr} {m0 c0 r0 m1 c1 r1 : Nat} {fa fb g : Cfg → Bool}
theorem six_and (h0 : Hid (Dn w A0 m0 c0 r0 fa)) (h1 : Hid (Dn w A1 m1 c1 r1 fb)) (l0 : Hid (Low 6 fa)) (l1 : Hid (Low 6 fb)) (hin : Hid (Ins w 0)) (hg : Hid ((fun x => fa x && fb x) = g)) :
    Calls Tryd.prog 17 #[.agg #[.slice A0 m0 c0, .int .i64 (r0 : Int)], .agg #[.slice A1 m1 c1, .int .i64 (r1 : Int)]] w fun e w' => BinOk w w' g e :=
  (and_ok m0 c0 m1 c1 r0 r1 A0 A1 fa fb w h0 h1 hin (Lib.hid (s4096 (Low.bin and l0.out l1.out))) (Lib.hid (pr6 (h0.out.s33 l0.out) (h1.out.s33 l1.out)))).mono fun _ _ h => h.congr hg.out
theorem six_or (h0 : Hid (Dn w A0 m0 c0 r0 fa)) (h1 : Hid (Dn w A1 m1 c1 r1 fb)) (l0 : Hid (Low 6 fa)) (l1 : Hid (Low 6 fb)) (hin : Hid (Ins w 0)) (hg : Hid ((fun x => fa x || fb x) = g)) :
    Calls Tryd.prog 19 #[.agg #[.slice A0 m0 c0, .int .i64 (r0 : Int)], .agg #[.slice A1 m1 c1, .int .i64 (r1 : Int)]] w fun e w' => BinOk w w' g e :=
  (or_ok m0 c0 m1 c1 r0 r1 A0 A1 fa fb w h0 h1 hin (Lib.hid (s4096 (Low.bin or l0.out l1.out))) (Lib.hid (pr6 (h0.out.s33 l0.out) (h1.out.s33 l1.out)))).mono fun _ _ h => h.congr hg.out
theorem six_xor (h0 : Hid (Dn w A0 m0 c0 r0 fa)) (h1 : Hid (Dn w A1 m1 c1 r1 fb)) (l0 : Hid (Low 6 fa)) (l1 : Hid (Low 6 fb)) (hin : Hid (Ins w 0)) (hg : Hid ((fun x => fa x != fb x) = g)) :
    Calls Tryd.prog 25 #[.agg #[.slice A0 m0 c0, .int .i64 (r0 : Int)], .agg #[.slice A1 m1 c1, .int .i64 (r1 : Int)]] w fun e w' => BinOk w w' g e :=
  (xor_ok m0 c0 m1 c1 r0 r1 A0 A1 fa fb w h0 h1 hin (Lib.hid (s4096 (Low.bin (fun p q => p != q) l0.out l1.out))) (Lib.hid (pr6 (h0.out.s33 l0.out) (h1.out.s33 l1.out)))).mono fun _ _ h => h.congr hg.out
theorem six_not (h0 : Hid (Dn w A0 m0 c0 r0 fa)) (hg : Hid ((fun x => !fa x) = g)) :
    Calls Tryd.prog 29 #[.agg #[.slice A0 m0 c0, .int .i64 (r0 : Int)]] w fun e w' => BinOk w w' g e :=
  (not_ok m0 c0 r0 A0 fa w h0).mono fun _ _ h => h.congr hg.out
set_option maxRecDepth 100000 in
theorem six_restrict (v : Nat) (b : Bool) (h0 : Hid (Dn w A0 m0 c0 r0 fa)) (l0 : Hid (Low 6 fa)) (hv : v < 64) (hin : Hid (Ins w 0)) (hg : Hid ((fun x => fa (Dg.set x v b)) = g)) :
    Calls Tryd.prog 35 #[.agg #[.slice A0 m0 c0, .int .i64 (r0 : Int)], .int .i64 (v : Int), .bool b] w fun e w' => BinOk w w' g e :=
  (restrict_ok m0 c0 r0 v A0 b fa w h0 (Lib.hid (by unfold conB; simp; omega)) hin (Lib.hid (s4096 (l0.out.set v b))) (Lib.hid (by have := h0.out.s33 l0.out; omega))).mono fun _ _ h => h.congr hg.out
theorem low_ex {f : Cfg → Bool} (h : Low 6 f) (v : Nat) : Low 6 (fun x => f (Dg.set x v false) || f (Dg.set x v true)) := Low.bin or (h.set v false) (h.set v true)
set_option maxRecDepth 100000 in
theorem six_exists (v : Nat) (h0 : Hid (Dn w A0 m0 c0 r0 fa)) (l0 : Hid (Low 6 fa)) (hv : v < 64) (hin : Hid (Ins w 0)) (hg : Hid ((fun x => fa (Dg.set x v false) || fa (Dg.set x v true)) = g)) :
    Calls Tryd.prog 37 #[.agg #[.slice A0 m0 c0, .int .i64 (r0 : Int)], .int .i64 (v : Int)] w fun e w' => BinOk w w' g e :=
  (exists_ok m0 c0 r0 v A0 fa w h0 (Lib.hid (by unfold conB; simp; omega)) hin (Lib.hid (s4096 (low_ex l0.out v))) (Lib.hid (pr6 (h0.out.s33 l0.out) (h0.out.s33 l0.out)))).mono fun _ _ h => h.congr hg.out
theorem six_within (x : Bool) (h0 : Hid (Dn w A0 m0 c0 r0 fa)) (h1 : Hid (Dn w A1 m1 c1 r1 fb)) (l0 : Hid (Low 6 fa)) (l1 : Hid (Low 6 fb)) (hin : Hid (Ins w 0)) (hx : Hid (decide ((cn (fun x => fa x && !fb x)).2 = 0) = x)) :
    Calls Tryd.prog 31 #[.agg #[.slice A0 m0 c0, .int .i64 (r0 : Int)], .agg #[.slice A1 m1 c1, .int .i64 (r1 : Int)]] w fun e w' => e = .returned (.bool x) ∧ Below w.heap.size w w' :=
  within_ok m0 c0 m1 c1 r0 r1 A0 A1 fa fb w h0 h1 hin (Lib.hid (pr6 (h0.out.s33 l0.out) (h1.out.s33 l1.out))) x hx
theorem six_disjoint (x : Bool) (h0 : Hid (Dn w A0 m0 c0 r0 fa)) (h1 : Hid (Dn w A1 m1 c1 r1 fb)) (l0 : Hid (Low 6 fa)) (l1 : Hid (Low 6 fb)) (hin : Hid (Ins w 0)) (hx : Hid (decide ((cn (fun x => fa x && fb x)).2 = 0) = x)) :
    Calls Tryd.prog 33 #[.agg #[.slice A0 m0 c0, .int .i64 (r0 : Int)], .agg #[.slice A1 m1 c1, .int .i64 (r1 : Int)]] w fun e w' => e = .returned (.bool x) ∧ Below w.heap.size w w' :=
  disjoint_ok m0 c0 m1 c1 r0 r1 A0 A1 fa fb w h0 h1 hin (Lib.hid (pr6 (h0.out.s33 l0.out) (h1.out.s33 l1.out))) x hx
/-- the count, over at least six conditions -/
theorem six_count (d N : Nat) (h0 : Hid (Dn w A0 m0 c0 r0 fa)) (l0 : Hid (Low 6 fa)) (hd : 6 ≤ d) (hd64 : d ≤ 64) (hN : Hid (cnt d fa = N)) :
    Calls Tryd.prog 39 #[.agg #[.slice A0 m0 c0, .int .i64 (r0 : Int)], .int .i64 (d : Int)] w fun e w' => CtOk w w' N e := by
  have hN' := hN.out
  subst hN'
  have hlt := h0.out.lt
  by_cases e0 : r0 = 0
  · exact count_zero m0 c0 r0 d A0 fa w h0 hd64 (Lib.hid e0)
  · by_cases e1 : r0 = 1
    · exact count_all m0 c0 r0 d A0 fa w h0 hd64 (Lib.hid e1)
    · have hv := h0.out.valid
      have hl := h0.out.len
      exact count_br m0 c0 r0 d A0 fa w h0 hd64 (by omega) (by omega) (Lib.hid (fun k hk => by have := l0.out.vars (by omega) k (by rw [hl]; exact hk); omega))
end

end Go.Proofs.YtmfinkaphglmjaaDoor
