/-
  Plain mathematics and contracts of package diagram, several texts in one: PFm, PTz, PMd, PRx, PSr, PSt, PMc, PTx, PPt, PTb, PPo, PVa, PTy, PCm, PJn, PPr, PMa, PBi, PCo, PRd2, PMt, PSc, PSy, PLn, PBh, PSw, POf.
-/
import Derived.Lib.TrailingZeros

/-! Formulas in plain mathematics: which lists of nodes are formulas, and their values. -/
namespace Go.Proofs.YtfkljlncnfeklaaGreatDoor

/-- a node of any four ints: operator, condition, two operands -/
abbrev Fi := Int × Int × Int × Int
def fo (l : List Fi) (k : Nat) : Int := (l.getD k (0, 0, 0, 0)).1
def fv (l : List Fi) (k : Nat) : Int := (l.getD k (0, 0, 0, 0)).2.1
def fa (l : List Fi) (k : Nat) : Int := (l.getD k (0, 0, 0, 0)).2.2.1
def fb (l : List Fi) (k : Nat) : Int := (l.getD k (0, 0, 0, 0)).2.2.2
/-- each number is an int of 64 bits -/
def Wf (l : List Fi) : Prop := ∀ k, k < l.length → (-9223372036854775808 ≤ fo l k ∧ fo l k ≤ 9223372036854775807) ∧ (-9223372036854775808 ≤ fv l k ∧ fv l k ≤ 9223372036854775807) ∧ (-9223372036854775808 ≤ fa l k ∧ fa l k ≤ 9223372036854775807) ∧ (-9223372036854775808 ≤ fb l k ∧ fb l k ≤ 9223372036854775807)
/-- how many operands an operator has -/
def ar (o : Int) : Nat := if o = 3 then 1 else if o = 4 then 2 else if o = 5 then 2 else 0
theorem ar_le (o : Int) : ar o ≤ 2 := by unfold ar; repeat (split <;> try omega)
/-- a node has an operator, a condition in range, and 0 in the fields that are not used -/
def plN (o v a b : Int) : Bool := decide (0 ≤ o) && decide (o ≤ 5) && decide (0 ≤ v) && decide (v < 64) && (decide (o = 2) || decide (v = 0)) && (decide (1 ≤ ar o) || decide (a = 0)) && (decide (ar o = 2) || decide (b = 0))
/-- its operands are earlier nodes -/
def opN (o a b : Int) (i : Nat) : Bool := (decide (ar o = 0) || (decide (0 ≤ a) && decide (a < (i : Int)))) && (decide (ar o < 2) || (decide (0 ≤ b) && decide (b < (i : Int))))
def okN (l : List Fi) (i : Nat) : Prop := plN (fo l i) (fv l i) (fa l i) (fb l i) = true ∧ opN (fo l i) (fa l i) (fb l i) i = true
/-- how often node k is an operand of the first n nodes -/
def us (l : List Fi) (k : Nat) : Nat → Nat
  | 0 => 0
  | n + 1 => us l k n + (if 1 ≤ ar (fo l n) ∧ fa l n = (k : Int) then 1 else 0) + (if ar (fo l n) = 2 ∧ fb l n = (k : Int) then 1 else 0)
def tot (l : List Fi) : Nat → Nat
  | 0 => 0
  | n + 1 => tot l n + ar (fo l n)
def sm (f : Nat → Nat) : Nat → Nat
  | 0 => 0
  | n + 1 => sm f n + f n
/-- a formula -/
def okF (l : List Fi) : Prop := 1 ≤ l.length ∧ l.length ≤ 512 ∧ (∀ i, i < l.length → okN l i) ∧ ∀ k, k < l.length - 1 → us l k l.length = 1

theorem us_mono (l : List Fi) (k : Nat) {n m : Nat} (h : n ≤ m) : us l k n ≤ us l k m := by
  induction m with
  | zero => have : n = 0 := by omega
            subst this; exact Nat.le_refl _
  | succ m ih =>
    by_cases e : n = m + 1
    · subst e; exact Nat.le_refl _
    · have := ih (by omega)
      have q : us l k m ≤ us l k (m + 1) := by
        show us l k m ≤ us l k m + _ + _
        omega
      omega
theorem sm_add (f g : Nat → Nat) (m : Nat) : sm (fun k => f k + g k) m = sm f m + sm g m := by
  induction m with
  | zero => rfl
  | succ m ih => show sm (fun k => f k + g k) m + (f m + g m) = sm f m + f m + (sm g m + g m); omega
theorem sm_zero (f : Nat → Nat) (m : Nat) (h : ∀ k, k < m → f k = 0) : sm f m = 0 := by
  induction m with
  | zero => rfl
  | succ m ih => show sm f m + f m = 0; rw [ih fun k hk => h k (by omega), h m (by omega)]
theorem sm_congr (f g : Nat → Nat) (m : Nat) (h : ∀ k, k < m → f k = g k) : sm f m = sm g m := by
  induction m with
  | zero => rfl
  | succ m ih => show sm f m + f m = sm g m + g m; rw [ih fun k hk => h k (by omega), h m (by omega)]
theorem sm_one (x : Int) (P : Prop) [Decidable P] (m : Nat) (h : P → 0 ≤ x ∧ x < (m : Int)) : sm (fun k => if P ∧ x = (k : Int) then 1 else 0) m = if P then 1 else 0 := by
  by_cases hp : P
  · rw [if_pos hp]
    obtain ⟨h0, h1⟩ := h hp
    obtain ⟨j, rfl⟩ : ∃ j : Nat, x = (j : Int) := ⟨x.toNat, by omega⟩
    have hj : j < m := by omega
    clear h h0 h1
    induction m with
    | zero => omega
    | succ m ih =>
      show sm _ m + (if P ∧ (j : Int) = (m : Int) then 1 else 0) = 1
      by_cases e : j = m
      · subst e
        rw [if_pos ⟨hp, rfl⟩, sm_zero _ _ (fun k hk => by rw [if_neg (by omega)])]
      · rw [if_neg (by omega), ih (by omega)]
  · rw [if_neg hp]
    exact sm_zero _ _ (fun k _ => by rw [if_neg (fun q => hp q.1)])
theorem sm_le (f : Nat → Nat) (m : Nat) (h : ∀ k, k < m → f k ≤ 1) : sm f m ≤ m := by
  induction m with
  | zero => exact Nat.le_refl _
  | succ m ih =>
    have q := ih fun k hk => h k (by omega)
    have r := h m (by omega)
    show sm f m + f m ≤ m + 1
    omega
theorem sm_all (f : Nat → Nat) (m : Nat) (h : ∀ k, k < m → f k ≤ 1) : sm f m = m ↔ ∀ k, k < m → f k = 1 := by
  induction m with
  | zero => exact ⟨fun _ k hk => by omega, fun _ => rfl⟩
  | succ m ih =>
    have q := sm_le f m fun k hk => h k (by omega)
    have r := h m (by omega)
    have i := ih fun k hk => h k (by omega)
    constructor
    · intro e k hk
      have e' : sm f m + f m = m + 1 := e
      by_cases hkm : k = m
      · subst hkm; omega
      · exact i.1 (by omega) k (by omega)
    · intro e
      show sm f m + f m = m + 1
      rw [i.2 fun k hk => e k (by omega), e m (by omega)]
theorem opN_a {o a b : Int} {i : Nat} (h : opN o a b i = true) : 1 ≤ ar o → 0 ≤ a ∧ a < (i : Int) := by
  simp only [opN, Bool.and_eq_true, Bool.or_eq_true, decide_eq_true_eq] at h
  omega
theorem opN_b {o a b : Int} {i : Nat} (h : opN o a b i = true) : ar o = 2 → 0 ≤ b ∧ b < (i : Int) := by
  simp only [opN, Bool.and_eq_true, Bool.or_eq_true, decide_eq_true_eq] at h
  omega
/-- the uses of all nodes are the operands -/
theorem sm_us (l : List Fi) (m n : Nat) (hm : n ≤ m + 1) (h : ∀ i, i < n → opN (fo l i) (fa l i) (fb l i) i = true) : sm (fun k => us l k n) m = tot l n := by
  induction n with
  | zero => exact sm_zero _ _ (fun _ _ => rfl)
  | succ n ih =>
    show sm (fun k => us l k n + (if 1 ≤ ar (fo l n) ∧ fa l n = (k : Int) then 1 else 0) + (if ar (fo l n) = 2 ∧ fb l n = (k : Int) then 1 else 0)) m = tot l n + ar (fo l n)
    have ha := opN_a (h n (by omega))
    have hb := opN_b (h n (by omega))
    rw [sm_add (fun k => us l k n + (if 1 ≤ ar (fo l n) ∧ fa l n = (k : Int) then 1 else 0)), sm_add (fun k => us l k n), ih (by omega) (fun i hi => h i (by omega)), sm_one _ _ _ (fun q => by have := ha q; omega), sm_one _ _ _ (fun q => by have := hb q; omega)]
    have := ar_le (fo l n)
    split <;> split <;> omega
/-- what the program counts at the end -/
theorem okF_iff (l : List Fi) (h1 : 1 ≤ l.length) (h2 : l.length ≤ 512) (hn : ∀ i, i < l.length → okN l i) (hu : ∀ k, us l k l.length ≤ 1) : okF l ↔ tot l l.length = l.length - 1 := by
  have e := sm_us l (l.length - 1) l.length (by omega) (fun i hi => (hn i hi).2)
  have a := sm_all (fun k => us l k l.length) (l.length - 1) (fun k _ => hu k)
  rw [e] at a
  constructor
  · intro h; exact a.2 h.2.2.2
  · intro h; exact ⟨h1, h2, hn, a.1 h⟩
theorem tot_le (l : List Fi) (n : Nat) : tot l n ≤ 2 * n := by
  induction n with
  | zero => exact Nat.le_refl _
  | succ n ih => have := ar_le (fo l n); show tot l n + ar (fo l n) ≤ _; omega
/-- a node that is used twice -/
theorem okF_no (l : List Fi) {k n : Nat} (hk : k + 1 < l.length) (hn : n ≤ l.length) (h : 2 ≤ us l k n) : ¬ okF l := fun q => by
  have := q.2.2.2 k (by omega)
  have := us_mono l k hn
  omega
theorem okF_node (l : List Fi) {i : Nat} (hi : i < l.length) (h : ¬ okN l i) : ¬ okF l := fun q => h (q.2.2.1 i hi)

/-! ### Values -/
def nv (vs : List Bool) (c : Nat → Bool) (x : Fi) : Bool :=
  if x.1 = 1 then true else if x.1 = 2 then c x.2.1.toNat else if x.1 = 3 then !(vs.getD x.2.2.1.toNat false) else if x.1 = 4 then vs.getD x.2.2.1.toNat false && vs.getD x.2.2.2.toNat false else if x.1 = 5 then vs.getD x.2.2.1.toNat false || vs.getD x.2.2.2.toNat false else false
/-- the values of the first n nodes -/
def vls (l : List Fi) (c : Nat → Bool) : Nat → List Bool
  | 0 => []
  | n + 1 => vls l c n ++ [nv (vls l c n) c (l.getD n (0, 0, 0, 0))]
/-- the value of node i -/
def val (l : List Fi) (c : Nat → Bool) (i : Nat) : Bool := nv (vls l c i) c (l.getD i (0, 0, 0, 0))
theorem vls_len (l : List Fi) (c : Nat → Bool) (n : Nat) : (vls l c n).length = n := by
  induction n with
  | zero => rfl
  | succ n ih => show (vls l c n ++ [_]).length = n + 1; simp [ih]
theorem vls_at (l : List Fi) (c : Nat → Bool) {i n : Nat} (h : i < n) : (vls l c n).getD i false = val l c i := by
  induction n with
  | zero => omega
  | succ n ih =>
    show (vls l c n ++ [_]).getD i false = _
    rw [List.getD_eq_getElem?_getD]
    by_cases e : i = n
    · subst e
      rw [List.getElem?_append_right (by rw [vls_len]; exact Nat.le_refl _), vls_len, Nat.sub_self]; rfl
    · rw [List.getElem?_append_left (by rw [vls_len]; omega), ← List.getD_eq_getElem?_getD, ih (by omega)]
theorem val_true (l : List Fi) (c : Nat → Bool) {i : Nat} (h : fo l i = 1) : val l c i = true := by
  have h' : (l.getD i (0, 0, 0, 0)).1 = 1 := h
  unfold val nv; rw [if_pos h']
theorem val_var (l : List Fi) (c : Nat → Bool) {i : Nat} (h : fo l i = 2) : val l c i = c (fv l i).toNat := by
  have h' : (l.getD i (0, 0, 0, 0)).1 = 2 := h
  unfold val nv; rw [if_neg (by omega), if_pos h']; rfl
theorem val_not (l : List Fi) (c : Nat → Bool) {i : Nat} (h : fo l i = 3) (ha : (fa l i).toNat < i) : val l c i = !(val l c (fa l i).toNat) := by
  have h' : (l.getD i (0, 0, 0, 0)).1 = 3 := h
  have q := vls_at l c ha
  unfold fa at q ha
  unfold fa
  rw [← q]
  conv => lhs; unfold val nv
  rw [if_neg (by omega), if_neg (by omega), if_pos h']
theorem val_and (l : List Fi) (c : Nat → Bool) {i : Nat} (h : fo l i = 4) (ha : (fa l i).toNat < i) (hb : (fb l i).toNat < i) : val l c i = (val l c (fa l i).toNat && val l c (fb l i).toNat) := by
  have h' : (l.getD i (0, 0, 0, 0)).1 = 4 := h
  have q := vls_at l c ha
  have r := vls_at l c hb
  unfold fa at q ha
  unfold fb at r hb
  unfold fa fb
  rw [← q, ← r]
  conv => lhs; unfold val nv
  rw [if_neg (by omega), if_neg (by omega), if_neg (by omega), if_pos h']
theorem val_or (l : List Fi) (c : Nat → Bool) {i : Nat} (h : fo l i = 5) (ha : (fa l i).toNat < i) (hb : (fb l i).toNat < i) : val l c i = (val l c (fa l i).toNat || val l c (fb l i).toNat) := by
  have h' : (l.getD i (0, 0, 0, 0)).1 = 5 := h
  have q := vls_at l c ha
  have r := vls_at l c hb
  unfold fa at q ha
  unfold fb at r hb
  unfold fa fb
  rw [← q, ← r]
  conv => lhs; unfold val nv
  rw [if_neg (by omega), if_neg (by omega), if_neg (by omega), if_neg (by omega), if_pos h']
theorem val_false (l : List Fi) (c : Nat → Bool) {i : Nat} (h : fo l i = 0) : val l c i = false := by
  have h' : (l.getD i (0, 0, 0, 0)).1 = 0 := h
  unfold val nv; rw [if_neg (by omega), if_neg (by omega), if_neg (by omega), if_neg (by omega), if_neg (by omega)]

end Go.Proofs.YtfkljlncnfeklaaGreatDoor

/-! The size of a formula's tree, and the length of its text. -/
namespace Go.Proofs.YtfkljlncnfeklaaGreatDoor

/-- the number of nodes of the tree of node k; n: fuel -/
def tz (l : List Fi) : Nat → Nat → Nat
  | 0, _ => 0
  | n + 1, k => 1 + (if 1 ≤ ar (fo l k) then tz l n (fa l k).toNat else 0) + (if ar (fo l k) = 2 then tz l n (fb l k).toNat else 0)
def ty (l : List Fi) (k : Nat) : Nat := tz l (k + 1) k
theorem kid_a {l : List Fi} {k : Nat} (h : okN l k) (h1 : 1 ≤ ar (fo l k)) : 0 ≤ fa l k ∧ (fa l k).toNat < k := by
  have := opN_a h.2 h1; omega
theorem kid_b {l : List Fi} {k : Nat} (h : okN l k) (h1 : ar (fo l k) = 2) : 0 ≤ fb l k ∧ (fb l k).toNat < k := by
  have := opN_b h.2 h1; omega
theorem tz_fuel (l : List Fi) (m : Nat) (HN : ∀ i, i < m → okN l i) : ∀ a, a < m → ∀ n, a < n → tz l n a = ty l a := by
  intro a
  induction a using Nat.strongRecOn with
  | _ a ih =>
    intro ha n hn
    obtain ⟨n, rfl⟩ : ∃ j, n = j + 1 := ⟨n - 1, by omega⟩
    show 1 + _ + _ = 1 + _ + _
    congr 1
    · congr 1
      by_cases h : 1 ≤ ar (fo l a)
      · have := kid_a (HN a ha) h
        rw [if_pos h, if_pos h, ih _ this.2 (by omega) n (by omega), ih _ this.2 (by omega) a this.2]
      · rw [if_neg h, if_neg h]
    · by_cases h : ar (fo l a) = 2
      · have := kid_b (HN a ha) h
        rw [if_pos h, if_pos h, ih _ this.2 (by omega) n (by omega), ih _ this.2 (by omega) a this.2]
      · rw [if_neg h, if_neg h]
theorem ty_eq (l : List Fi) (m : Nat) (HN : ∀ i, i < m → okN l i) {k : Nat} (hk : k < m) : ty l k = 1 + (if 1 ≤ ar (fo l k) then ty l (fa l k).toNat else 0) + (if ar (fo l k) = 2 then ty l (fb l k).toNat else 0) := by
  show 1 + (if 1 ≤ ar (fo l k) then tz l k (fa l k).toNat else 0) + (if ar (fo l k) = 2 then tz l k (fb l k).toNat else 0) = _
  congr 1
  · congr 1
    by_cases h : 1 ≤ ar (fo l k)
    · have := kid_a (HN k hk) h
      rw [if_pos h, if_pos h, tz_fuel l m HN _ (by omega) k this.2]
    · rw [if_neg h, if_neg h]
  · by_cases h : ar (fo l k) = 2
    · have := kid_b (HN k hk) h
      rw [if_pos h, if_pos h, tz_fuel l m HN _ (by omega) k this.2]
    · rw [if_neg h, if_neg h]
theorem sm_pick (x : Int) (P : Prop) [Decidable P] (T : Nat → Nat) (m : Nat) (h : P → 0 ≤ x ∧ x < (m : Int)) : sm (fun k => if P ∧ x = (k : Int) then T k else 0) m = if P then T x.toNat else 0 := by
  by_cases hp : P
  · rw [if_pos hp]
    obtain ⟨h0, h1⟩ := h hp
    obtain ⟨j, rfl⟩ : ∃ j : Nat, x = (j : Int) := ⟨x.toNat, by omega⟩
    have hj : j < m := by omega
    rw [Int.toNat_natCast]
    clear h h0 h1
    induction m with
    | zero => omega
    | succ m ih =>
      show sm _ m + (if P ∧ (j : Int) = (m : Int) then T m else 0) = T j
      by_cases e : j = m
      · subst e
        rw [if_pos ⟨hp, rfl⟩, sm_zero _ _ (fun k hk => by rw [if_neg (by omega)]), Nat.zero_add]
      · rw [if_neg (by omega), ih (by omega)]
        rfl
  · rw [if_neg hp]
    exact sm_zero _ _ (fun k _ => by rw [if_neg (fun q => hp q.1)])
theorem us_early (l : List Fi) (m : Nat) (HN : ∀ i, i < m → okN l i) (j n : Nat) (hn : n ≤ m) (h : n ≤ j + 1) : us l j n = 0 := by
  induction n with
  | zero => rfl
  | succ n ih =>
    show us l j n + _ + _ = 0
    rw [ih (by omega) (by omega), if_neg, if_neg]
    · rintro ⟨a, b⟩
      have := kid_b (HN n (by omega)) a
      omega
    · rintro ⟨a, b⟩
      have := kid_a (HN n (by omega)) a
      omega
/-- the trees that are no operands yet have all the nodes -/
theorem roots_sum (l : List Fi) (m : Nat) (HN : ∀ i, i < m → okN l i) (HU : ∀ j, us l j m ≤ 1) : ∀ n, n ≤ m → sm (fun j => if us l j n = 0 then ty l j else 0) n = n := by
  intro n
  induction n with
  | zero => intro _; rfl
  | succ n ih =>
    intro hn
    have hs := ih (by omega)
    have e : sm (fun j => if us l j n = 0 then ty l j else 0) n = sm (fun j => (if us l j (n + 1) = 0 then ty l j else 0) + ((if 1 ≤ ar (fo l n) ∧ fa l n = (j : Int) then ty l j else 0) + (if ar (fo l n) = 2 ∧ fb l n = (j : Int) then ty l j else 0))) n := by
      refine sm_congr _ _ _ (fun j hj => ?_)
      have h1 := HU j
      have h2 := us_mono l j (show n + 1 ≤ m by omega)
      have h3 : us l j (n + 1) = us l j n + (if 1 ≤ ar (fo l n) ∧ fa l n = (j : Int) then 1 else 0) + (if ar (fo l n) = 2 ∧ fb l n = (j : Int) then 1 else 0) := rfl
      rw [h3] at h2 ⊢
      by_cases p : 1 ≤ ar (fo l n) ∧ fa l n = (j : Int) <;> by_cases q : ar (fo l n) = 2 ∧ fb l n = (j : Int)
      · rw [if_pos p, if_pos q] at h2
        omega
      · rw [if_pos p, if_neg q] at h2 ⊢
        rw [if_pos p, if_neg q, if_pos (show us l j n = 0 by omega), if_neg (by omega)]
        omega
      · rw [if_neg p, if_pos q] at h2 ⊢
        rw [if_neg p, if_pos q, if_pos (show us l j n = 0 by omega), if_neg (by omega)]
        omega
      · rw [if_neg p, if_neg q, if_neg p, if_neg q]
        rfl
    rw [e, sm_add, sm_add, sm_pick, sm_pick] at hs
    · show sm _ n + (if us l n (n + 1) = 0 then ty l n else 0) = n + 1
      rw [if_pos (us_early l m HN n (n + 1) hn (Nat.le_refl _)), ty_eq l m HN (show n < m by omega)]
      omega
    · intro h
      have := kid_b (HN n (by omega)) h; omega
    · intro h
      have := kid_a (HN n (by omega)) h; omega
theorem ty_le (l : List Fi) (h : okF l) : ty l (l.length - 1) ≤ l.length := by
  obtain ⟨h1, h2, hn, hu⟩ := h
  have HU : ∀ j, us l j l.length ≤ 1 := by
    intro j
    by_cases q : j < l.length - 1
    · rw [hu j q]; exact Nat.le_refl _
    · rw [us_early l l.length hn j l.length (Nat.le_refl _) (by omega)]; omega
  have := roots_sum l l.length hn HU l.length (Nat.le_refl _)
  obtain ⟨m, hm⟩ : ∃ m, l.length = m + 1 := ⟨l.length - 1, by omega⟩
  rw [hm] at this ⊢
  have e : us l m (m + 1) = 0 := us_early l l.length hn m (m + 1) (by omega) (Nat.le_refl _)
  have t : sm (fun j => if us l j (m + 1) = 0 then ty l j else 0) m + (if us l m (m + 1) = 0 then ty l m else 0) = m + 1 := this
  rw [if_pos e] at t
  show ty l m ≤ m + 1
  omega

end Go.Proofs.YtfkljlncnfeklaaGreatDoor

/-! Formulas that are made node by node: the roots are the nodes that are no operands yet. -/
namespace Go.Proofs.YtfkljlncnfeklaaGreatDoor
set_option linter.unusedVariables false
set_option linter.unusedSimpArgs false

theorem getD_snF (f : List Fi) (x : Fi) (i : Nat) (h : i < f.length) : (f ++ [x]).getD i (0, 0, 0, 0) = f.getD i (0, 0, 0, 0) := by
  rw [List.getD_eq_getElem?_getD, List.getElem?_append_left h, List.getD_eq_getElem?_getD]
theorem getD_snL (f : List Fi) (x : Fi) : (f ++ [x]).getD f.length (0, 0, 0, 0) = x := by
  rw [List.getD_eq_getElem?_getD, List.getElem?_append_right (Nat.le_refl _)]
  simp
theorem okN_sn {f : List Fi} {x : Fi} {i : Nat} (h : i < f.length) : okN (f ++ [x]) i ↔ okN f i := by
  unfold okN fo fv fa fb
  rw [getD_snF f x i h]
theorem us_sn (f : List Fi) (x : Fi) (k : Nat) : ∀ n, n ≤ f.length → us (f ++ [x]) k n = us f k n
  | 0, _ => rfl
  | n + 1, h => by
    show us (f ++ [x]) k n + _ + _ = us f k n + _ + _
    rw [us_sn f x k n (by omega)]
    unfold fo fa fb
    rw [getD_snF f x n (by omega)]
theorem us_snL (f : List Fi) (x : Fi) (k : Nat) : us (f ++ [x]) k (f.length + 1) = us f k f.length + (if 1 ≤ ar x.1 ∧ x.2.2.1 = (k : Int) then 1 else 0) + (if ar x.1 = 2 ∧ x.2.2.2 = (k : Int) then 1 else 0) := by
  show us (f ++ [x]) k f.length + _ + _ = _
  rw [us_sn f x k _ (Nat.le_refl _)]
  unfold fo fa fb
  rw [getD_snL]

/-- a list of nodes with its roots -/
structure Md (f : List Fi) (R : List Nat) : Prop where
  lt : ∀ r ∈ R, r < f.length
  nd : R.Nodup
  ok : ∀ i, i < f.length → okN f i
  us : ∀ k, k < f.length → us f k f.length = if k ∈ R then 0 else 1
theorem Md.nil : Md [] [] := ⟨by simp, by simp, by simp, by simp⟩
theorem md_add {f : List Fi} {R R0 K : List Nat} {x : Fi} (h : Md f R) (hok : plN x.1 x.2.1 x.2.2.1 x.2.2.2 = true ∧ opN x.1 x.2.2.1 x.2.2.2 f.length = true) (hR : R = R0 ++ K)
    (hk : ∀ k : Nat, (if 1 ≤ ar x.1 ∧ x.2.2.1 = (k : Int) then 1 else 0) + (if ar x.1 = 2 ∧ x.2.2.2 = (k : Int) then 1 else 0) = if k ∈ K then 1 else 0) : Md (f ++ [x]) (R0 ++ [f.length]) := by
  subst hR
  have hnd := h.nd
  rw [List.nodup_append] at hnd
  obtain ⟨n1, n2, n3⟩ := hnd
  refine ⟨fun r hr => ?_, ?_, fun i hi => ?_, fun k hkl => ?_⟩
  · rw [List.length_append, List.length_singleton]
    rcases List.mem_append.1 hr with q | q
    · have := h.lt r (List.mem_append_left _ q); omega
    · rw [List.mem_singleton] at q; omega
  · rw [List.nodup_append]
    refine ⟨n1, by simp, fun a ha b hb => ?_⟩
    rw [List.mem_singleton] at hb
    have := h.lt a (List.mem_append_left _ ha)
    omega
  · rw [List.length_append, List.length_singleton] at hi
    by_cases e : i = f.length
    · subst e
      unfold okN fo fv fa fb
      rw [getD_snL]
      exact hok
    · exact (okN_sn (by omega)).2 (h.ok i (by omega))
  · rw [List.length_append, List.length_singleton] at hkl ⊢
    rw [us_snL, Nat.add_assoc, hk k]
    by_cases e : k = f.length
    · subst e
      have e1 : us f f.length f.length = 0 := us_early f f.length h.ok f.length f.length (Nat.le_refl _) (by omega)
      have e2 : ¬ f.length ∈ K := fun q => by have := h.lt _ (List.mem_append_right _ q); omega
      rw [e1, if_neg e2, if_pos (by simp)]
    · rw [h.us k (by omega)]
      by_cases q : k ∈ K
      · have q2 : ¬ k ∈ R0 := fun q2 => n3 k q2 k q rfl
        rw [if_pos (List.mem_append_right _ q), if_pos q, if_neg (by simp [q2, e])]
      · by_cases q2 : k ∈ R0
        · rw [if_pos (List.mem_append_left _ q2), if_neg q, if_pos (by simp [q2])]
        · rw [if_neg (by simp [q, q2]), if_neg q, if_neg (by simp [q2, e])]
theorem md_ok {f : List Fi} (h : Md f [f.length - 1]) (h1 : 1 ≤ f.length) (h2 : f.length ≤ 512) : okF f :=
  ⟨h1, h2, h.ok, fun k hk => by rw [h.us k (by omega), if_neg (by simp; omega)]⟩

theorem two_kids (op : Int) (hop : ar op = 2) (a b : Nat) (hab : a ≠ b) (k : Nat) : (if 1 ≤ ar op ∧ (a : Int) = (k : Int) then 1 else 0) + (if ar op = 2 ∧ (b : Int) = (k : Int) then 1 else 0) = if k ∈ [a, b] then 1 else 0 := by
  rw [hop]
  by_cases e : k = a
  · subst e
    rw [if_pos ⟨by omega, rfl⟩, if_neg (by rintro ⟨_, q⟩; omega), if_pos (by simp)]
  · by_cases e2 : k = b
    · subst e2
      rw [if_neg (by rintro ⟨_, q⟩; omega), if_pos ⟨rfl, rfl⟩, if_pos (by simp)]
    · rw [if_neg (by rintro ⟨_, q⟩; omega), if_neg (by rintro ⟨_, q⟩; omega), if_neg (by simp [e, e2])]
theorem opN_1 {o a b : Int} {i : Nat} (h : ar o = 1) (h0 : 0 ≤ a) (h1 : a < (i : Int)) : opN o a b i = true := by
  unfold opN
  simp only [Bool.and_eq_true, Bool.or_eq_true, decide_eq_true_eq]
  omega
theorem opN_2 {o a b : Int} {i : Nat} (h0 : 0 ≤ a) (h1 : a < (i : Int)) (h2 : 0 ≤ b) (h3 : b < (i : Int)) : opN o a b i = true := by
  unfold opN
  simp only [Bool.and_eq_true, Bool.or_eq_true, decide_eq_true_eq]
  omega

end Go.Proofs.YtfkljlncnfeklaaGreatDoor

/-! Regular expressions over bytes in plain mathematics: the words of an expression, the places of its machine, and that the machine accepts the words. -/
namespace Go.Proofs.YtfkljlncnfeklaaGreatDoor
set_option linter.unusedVariables false

inductive Rx where
  | emp
  | rng (lo hi : Nat)
  | seq (a b : Rx)
  | alt (a b : Rx)
  | rep (a : Rx)
/-- any number of words -/
inductive Star (P : List UInt8 → Prop) : List UInt8 → Prop
  | nil : Star P []
  | app {u v : List UInt8} (hu : P u) (hv : Star P v) : Star P (u ++ v)
/-- the words -/
def Rx.mt : Rx → List UInt8 → Prop
  | .emp, s => s = []
  | .rng lo hi, s => ∃ b : UInt8, s = [b] ∧ lo ≤ b.toNat ∧ b.toNat ≤ hi
  | .seq a b, s => ∃ u v, s = u ++ v ∧ a.mt u ∧ b.mt v
  | .alt a b, s => a.mt s ∨ b.mt s
  | .rep a, s => Star a.mt s
/-- how many places -/
def Rx.pl : Rx → Nat
  | .emp => 0
  | .rng _ _ => 1
  | .seq a b => a.pl + b.pl
  | .alt a b => a.pl + b.pl
  | .rep a => a.pl
def Rx.nul : Rx → Bool
  | .emp => true
  | .rng _ _ => false
  | .seq a b => a.nul && b.nul
  | .alt a b => a.nul || b.nul
  | .rep _ => true
/-- the places that can read the first byte; the first place of the expression is n -/
def Rx.fst : Rx → Nat → Nat → Bool
  | .emp, _, _ => false
  | .rng _ _, n, p => p == n
  | .seq a b, n, p => a.fst n p || (a.nul && b.fst (n + a.pl) p)
  | .alt a b, n, p => a.fst n p || b.fst (n + a.pl) p
  | .rep a, n, p => a.fst n p
def Rx.lst : Rx → Nat → Nat → Bool
  | .emp, _, _ => false
  | .rng _ _, n, p => p == n
  | .seq a b, n, p => b.lst (n + a.pl) p || (b.nul && a.lst n p)
  | .alt a b, n, p => a.lst n p || b.lst (n + a.pl) p
  | .rep a, n, p => a.lst n p
/-- q can read the byte behind that of p -/
def Rx.fol : Rx → Nat → Nat → Nat → Bool
  | .emp, _, _, _ => false
  | .rng _ _, _, _, _ => false
  | .seq a b, n, p, q => a.fol n p q || b.fol (n + a.pl) p q || (a.lst n p && b.fst (n + a.pl) q)
  | .alt a b, n, p, q => a.fol n p q || b.fol (n + a.pl) p q
  | .rep a, n, p, q => a.fol n p q || (a.lst n p && a.fst n q)
/-- place p can read byte b -/
def Rx.rd : Rx → Nat → Nat → UInt8 → Bool
  | .emp, _, _, _ => false
  | .rng lo hi, n, p, b => p == n && decide (lo ≤ b.toNat) && decide (b.toNat ≤ hi)
  | .seq a b, n, p, c => a.rd n p c || b.rd (n + a.pl) p c
  | .alt a b, n, p, c => a.rd n p c || b.rd (n + a.pl) p c
  | .rep a, n, p, c => a.rd n p c

theorem Rx.fst_in : ∀ (r : Rx) (n p : Nat), r.fst n p = true → n ≤ p ∧ p < n + r.pl
  | .emp, n, p, h => by cases h
  | .rng _ _, n, p, h => by
    have : p = n := by simpa [Rx.fst] using h
    show n ≤ p ∧ p < n + 1
    omega
  | .seq a b, n, p, h => by
    unfold Rx.pl
    simp only [Rx.fst, Bool.or_eq_true, Bool.and_eq_true] at h
    rcases h with h | ⟨_, h⟩
    · have := Rx.fst_in a n p h; omega
    · have := Rx.fst_in b _ p h; omega
  | .alt a b, n, p, h => by
    unfold Rx.pl
    simp only [Rx.fst, Bool.or_eq_true] at h
    rcases h with h | h
    · have := Rx.fst_in a n p h; omega
    · have := Rx.fst_in b _ p h; omega
  | .rep a, n, p, h => Rx.fst_in a n p h
theorem Rx.lst_in : ∀ (r : Rx) (n p : Nat), r.lst n p = true → n ≤ p ∧ p < n + r.pl
  | .emp, n, p, h => by cases h
  | .rng _ _, n, p, h => by
    have : p = n := by simpa [Rx.lst] using h
    show n ≤ p ∧ p < n + 1
    omega
  | .seq a b, n, p, h => by
    unfold Rx.pl
    simp only [Rx.lst, Bool.or_eq_true, Bool.and_eq_true] at h
    rcases h with h | ⟨_, h⟩
    · have := Rx.lst_in b _ p h; omega
    · have := Rx.lst_in a n p h; omega
  | .alt a b, n, p, h => by
    unfold Rx.pl
    simp only [Rx.lst, Bool.or_eq_true] at h
    rcases h with h | h
    · have := Rx.lst_in a n p h; omega
    · have := Rx.lst_in b _ p h; omega
  | .rep a, n, p, h => Rx.lst_in a n p h
theorem Rx.fol_in : ∀ (r : Rx) (n p q : Nat), r.fol n p q = true → (n ≤ p ∧ p < n + r.pl) ∧ n ≤ q ∧ q < n + r.pl
  | .emp, n, p, q, h => by cases h
  | .rng _ _, n, p, q, h => by cases h
  | .seq a b, n, p, q, h => by
    unfold Rx.pl
    simp only [Rx.fol, Bool.or_eq_true, Bool.and_eq_true] at h
    rcases h with (h | h) | ⟨h1, h2⟩
    · have := Rx.fol_in a n p q h; omega
    · have := Rx.fol_in b _ p q h; omega
    · have := Rx.lst_in a n p h1; have := Rx.fst_in b _ q h2; omega
  | .alt a b, n, p, q, h => by
    unfold Rx.pl
    simp only [Rx.fol, Bool.or_eq_true] at h
    rcases h with h | h
    · have := Rx.fol_in a n p q h; omega
    · have := Rx.fol_in b _ p q h; omega
  | .rep a, n, p, q, h => by
    show (n ≤ p ∧ p < n + a.pl) ∧ n ≤ q ∧ q < n + a.pl
    simp only [Rx.fol, Bool.or_eq_true, Bool.and_eq_true] at h
    rcases h with h | ⟨h1, h2⟩
    · exact Rx.fol_in a n p q h
    · exact ⟨Rx.lst_in a n p h1, Rx.fst_in a n q h2⟩
theorem Rx.rd_in : ∀ (r : Rx) (n p : Nat) (c : UInt8), r.rd n p c = true → n ≤ p ∧ p < n + r.pl
  | .emp, n, p, c, h => by cases h
  | .rng _ _, n, p, c, h => by
    simp only [Rx.rd, Bool.and_eq_true, beq_iff_eq] at h
    unfold Rx.pl
    omega
  | .seq a b, n, p, c, h => by
    unfold Rx.pl
    simp only [Rx.rd, Bool.or_eq_true] at h
    rcases h with h | h
    · have := Rx.rd_in a n p c h; omega
    · have := Rx.rd_in b _ p c h; omega
  | .alt a b, n, p, c, h => by
    unfold Rx.pl
    simp only [Rx.rd, Bool.or_eq_true] at h
    rcases h with h | h
    · have := Rx.rd_in a n p c h; omega
    · have := Rx.rd_in b _ p c h; omega
  | .rep a, n, p, c, h => Rx.rd_in a n p c h

/-- from place p, which reads the first byte, to place e, which reads the last one -/
inductive Run (F : Nat → Nat → Bool) (R : Nat → UInt8 → Bool) : Nat → List UInt8 → Nat → Prop
  | one {p : Nat} {b : UInt8} (h : R p b = true) : Run F R p [b] p
  | more {p q e : Nat} {b : UInt8} {s : List UInt8} (h : R p b = true) (hf : F p q = true) (hr : Run F R q s e) : Run F R p (b :: s) e
theorem Run.mono {F F' : Nat → Nat → Bool} {R R' : Nat → UInt8 → Bool} {p e : Nat} {s : List UInt8} (h : Run F R p s e) (hF : ∀ p q, F p q = true → F' p q = true) (hR : ∀ p b, R p b = true → R' p b = true) : Run F' R' p s e := by
  induction h with
  | one h => exact .one (hR _ _ h)
  | more h hf _ ih => exact .more (hR _ _ h) (hF _ _ hf) ih
theorem Run.join {F : Nat → Nat → Bool} {R : Nat → UInt8 → Bool} {p e p' e' : Nat} {s t : List UInt8} (h : Run F R p s e) (hf : F e p' = true) (h' : Run F R p' t e') : Run F R p (s ++ t) e' := by
  induction h with
  | one h => exact .more h hf h'
  | more h hf' _ ih => exact .more h hf' (ih hf)
theorem Run.ne {F : Nat → Nat → Bool} {R : Nat → UInt8 → Bool} {p e : Nat} {s : List UInt8} (h : Run F R p s e) : s ≠ [] := by cases h <;> simp
/-- a run stays within a set of places that its steps do not leave -/
theorem Run.stay {F F' : Nat → Nat → Bool} {R R' : Nat → UInt8 → Bool} {p e : Nat} {s : List UInt8} {I : Nat → Prop} (h : Run F R p s e) (hp : I p) (hF : ∀ p q, I p → F p q = true → F' p q = true ∧ I q) (hR : ∀ p b, I p → R p b = true → R' p b = true) : Run F' R' p s e ∧ I e := by
  induction h with
  | one h => exact ⟨.one (hR _ _ hp h), hp⟩
  | more h hf _ ih =>
    obtain ⟨h1, h2⟩ := hF _ _ hp hf
    obtain ⟨h3, h4⟩ := ih h2
    exact ⟨.more (hR _ _ hp h) h1 h3, h4⟩

/-- the expression's words, and the runs of its machine -/
def Acc (r : Rx) (n : Nat) (s : List UInt8) : Prop := ∃ p e, r.fst n p = true ∧ r.lst n e = true ∧ Run (r.fol n) (r.rd n) p s e
theorem Star.snoc {P : List UInt8 → Prop} {u v : List UInt8} (hu : Star P u) (hv : P v) : Star P (u ++ v) := by
  induction hu with
  | nil => have := Star.app hv Star.nil; simpa using this
  | app h _ ih => rw [List.append_assoc]; exact .app h ih
theorem Rx.nul_mt : ∀ r : Rx, r.nul = true ↔ r.mt []
  | .emp => by simp [Rx.nul, Rx.mt]
  | .rng _ _ => by simp [Rx.nul, Rx.mt]
  | .seq a b => by
    simp only [Rx.nul, Rx.mt, Bool.and_eq_true, a.nul_mt, b.nul_mt]
    constructor
    · rintro ⟨h1, h2⟩; exact ⟨[], [], rfl, h1, h2⟩
    · rintro ⟨u, v, h, h1, h2⟩
      obtain ⟨rfl, rfl⟩ := List.append_eq_nil_iff.1 h.symm
      exact ⟨h1, h2⟩
  | .alt a b => by simp [Rx.nul, Rx.mt, a.nul_mt, b.nul_mt]
  | .rep a => by simp only [Rx.nul, Rx.mt, true_iff]; exact .nil
/-- a step of the machine of a sequence out of its first part -/
theorem seq_fst {a b : Rx} {n p e : Nat} {s : List UInt8} (h : Run ((Rx.seq a b).fol n) ((Rx.seq a b).rd n) p s e) (hp : n ≤ p ∧ p < n + a.pl) :
    (Run (a.fol n) (a.rd n) p s e ∧ e < n + a.pl) ∨ ∃ u v e1 p1, s = u ++ v ∧ Run (a.fol n) (a.rd n) p u e1 ∧ a.lst n e1 = true ∧ b.fst (n + a.pl) p1 = true ∧ Run (b.fol (n + a.pl)) (b.rd (n + a.pl)) p1 v e ∧ n + a.pl ≤ e := by
  have hrd : ∀ {p : Nat} {c : UInt8}, (Rx.seq a b).rd n p c = true → p < n + a.pl → a.rd n p c = true := fun h hp => by
    simp only [Rx.rd, Bool.or_eq_true] at h
    rcases h with h | h
    · exact h
    · have := b.rd_in _ _ _ h; omega
  induction h with
  | one h => exact .inl ⟨.one (hrd h hp.2), hp.2⟩
  | @more p q e c s h hf hr ih =>
    have hf' := hf
    simp only [Rx.fol, Bool.or_eq_true, Bool.and_eq_true] at hf'
    rcases hf' with (g | g) | ⟨g1, g2⟩
    · have := a.fol_in _ _ _ g
      rcases ih (by omega) with ⟨k1, k2⟩ | ⟨u, v, e1, p1, k0, k1, k2, k3, k4, k5⟩
      · exact .inl ⟨.more (hrd h hp.2) g k1, k2⟩
      · exact .inr ⟨c :: u, v, e1, p1, by rw [k0]; rfl, .more (hrd h hp.2) g k1, k2, k3, k4, k5⟩
    · have := b.fol_in _ _ _ g; omega
    · have hq := b.fst_in _ _ g2
      obtain ⟨k1, k2⟩ := hr.stay (F' := b.fol (n + a.pl)) (R' := b.rd (n + a.pl)) (I := fun x => n + a.pl ≤ x) hq.1 (fun x y hx hxy => by
        simp only [Rx.fol, Bool.or_eq_true, Bool.and_eq_true] at hxy
        rcases hxy with (g | g) | ⟨g1, g2⟩
        · have := a.fol_in _ _ _ g; omega
        · exact ⟨g, (b.fol_in _ _ _ g).2.1⟩
        · have := a.lst_in _ _ g1; omega) (fun x c hx hc => by
        simp only [Rx.rd, Bool.or_eq_true] at hc
        rcases hc with g | g
        · have := a.rd_in _ _ _ g; omega
        · exact g)
      exact .inr ⟨[c], s, p, q, rfl, .one (hrd h hp.2), g1, g2, k1, k2⟩
theorem seq_snd {a b : Rx} {n p e : Nat} {s : List UInt8} (h : Run ((Rx.seq a b).fol n) ((Rx.seq a b).rd n) p s e) (hp : n + a.pl ≤ p) : Run (b.fol (n + a.pl)) (b.rd (n + a.pl)) p s e ∧ n + a.pl ≤ e :=
  h.stay (I := fun x => n + a.pl ≤ x) hp (fun x y hx hxy => by
    simp only [Rx.fol, Bool.or_eq_true, Bool.and_eq_true] at hxy
    rcases hxy with (g | g) | ⟨g1, g2⟩
    · have := a.fol_in _ _ _ g; omega
    · exact ⟨g, (b.fol_in _ _ _ g).2.1⟩
    · have := a.lst_in _ _ g1; omega) (fun x c hx hc => by
    simp only [Rx.rd, Bool.or_eq_true] at hc
    rcases hc with g | g
    · have := a.rd_in _ _ _ g; omega
    · exact g)
theorem alt_stay {a b : Rx} {n p e : Nat} {s : List UInt8} (h : Run ((Rx.alt a b).fol n) ((Rx.alt a b).rd n) p s e) : (p < n + a.pl → Run (a.fol n) (a.rd n) p s e ∧ e < n + a.pl) ∧ (n + a.pl ≤ p → Run (b.fol (n + a.pl)) (b.rd (n + a.pl)) p s e ∧ n + a.pl ≤ e) := by
  refine ⟨fun hp => h.stay (I := fun x => x < n + a.pl) hp (fun x y hx hxy => ?_) (fun x c hx hc => ?_), fun hp => h.stay (I := fun x => n + a.pl ≤ x) hp (fun x y hx hxy => ?_) (fun x c hx hc => ?_)⟩
  all_goals simp only [Rx.fol, Rx.rd, Bool.or_eq_true] at *
  · rcases hxy with g | g
    · exact ⟨g, (a.fol_in _ _ _ g).2.2⟩
    · have := b.fol_in _ _ _ g; omega
  · rcases hc with g | g
    · exact g
    · have := b.rd_in _ _ _ g; omega
  · rcases hxy with g | g
    · have := a.fol_in _ _ _ g; omega
    · exact ⟨g, (b.fol_in _ _ _ g).2.1⟩
  · rcases hc with g | g
    · have := a.rd_in _ _ _ g; omega
    · exact g
/-- a run of a repetition's machine: a word of the operand, and others -/
theorem rep_run {a : Rx} {n : Nat} (ha : ∀ s, s ≠ [] → Acc a n s → a.mt s) {p e : Nat} {s : List UInt8} (h : Run ((Rx.rep a).fol n) ((Rx.rep a).rd n) p s e) (he : a.lst n e = true) : ∃ u v e1, s = u ++ v ∧ Run (a.fol n) (a.rd n) p u e1 ∧ a.lst n e1 = true ∧ Star a.mt v := by
  induction h with
  | @one p c h => exact ⟨[c], [], p, rfl, .one h, he, .nil⟩
  | @more p q e c s h hf hr ih =>
    obtain ⟨u, v, e1, k0, k1, k2, k3⟩ := ih he
    simp only [Rx.fol, Bool.or_eq_true, Bool.and_eq_true] at hf
    rcases hf with g | ⟨g1, g2⟩
    · exact ⟨c :: u, v, e1, by rw [k0]; rfl, .more h g k1, k2, k3⟩
    · refine ⟨[c], s, p, rfl, .one h, g1, ?_⟩
      rw [k0]
      exact .app (ha u k1.ne ⟨q, e1, g2, k2, k1⟩) k3
/-- the machine accepts the words -/
theorem Rx.acc : ∀ (r : Rx) (n : Nat) (s : List UInt8), s ≠ [] → (r.mt s ↔ Acc r n s)
  | .emp, n, s, hs => ⟨fun h => absurd h hs, fun ⟨p, e, h, _⟩ => by cases h⟩
  | .rng lo hi, n, s, hs => by
    constructor
    · rintro ⟨b, rfl, h1, h2⟩
      exact ⟨n, n, by simp [Rx.fst], by simp [Rx.lst], .one (by simp [Rx.rd, h1, h2])⟩
    · rintro ⟨p, e, h1, h2, h⟩
      cases h with
      | one h =>
        simp only [Rx.rd, Bool.and_eq_true, decide_eq_true_eq] at h
        exact ⟨_, rfl, h.1.2, h.2⟩
      | more h hf hr => cases hf
  | .seq a b, n, s, hs => by
    have ia := fun s hs => a.acc n s hs
    have ib := fun s hs => b.acc (n + a.pl) s hs
    have fa : ∀ p q, a.fol n p q = true → (Rx.seq a b).fol n p q = true := fun p q h => by simp [Rx.fol, h]
    have fb : ∀ p q, b.fol (n + a.pl) p q = true → (Rx.seq a b).fol n p q = true := fun p q h => by simp [Rx.fol, h]
    have ra : ∀ p c, a.rd n p c = true → (Rx.seq a b).rd n p c = true := fun p q h => by simp [Rx.rd, h]
    have rb : ∀ p c, b.rd (n + a.pl) p c = true → (Rx.seq a b).rd n p c = true := fun p q h => by simp [Rx.rd, h]
    constructor
    · rintro ⟨u, v, rfl, hu, hv⟩
      by_cases u0 : u = []
      · subst u0
        have hn := a.nul_mt.2 hu
        obtain ⟨p, e, h1, h2, h3⟩ := (ib v (by simpa using hs)).1 hv
        exact ⟨p, e, by simp [Rx.fst, hn, h1], by simp [Rx.lst, h2], h3.mono fb rb⟩
      obtain ⟨p, e, h1, h2, h3⟩ := (ia u u0).1 hu
      by_cases v0 : v = []
      · subst v0
        have hn := b.nul_mt.2 hv
        rw [List.append_nil]
        exact ⟨p, e, by simp [Rx.fst, h1], by simp [Rx.lst, hn, h2], h3.mono fa ra⟩
      obtain ⟨p', e', h1', h2', h3'⟩ := (ib v v0).1 hv
      exact ⟨p, e', by simp [Rx.fst, h1], by simp [Rx.lst, h2'], (h3.mono fa ra).join (by simp [Rx.fol, h2, h1']) (h3'.mono fb rb)⟩
    · rintro ⟨p, e, h1, h2, h3⟩
      simp only [Rx.fst, Rx.lst, Bool.or_eq_true, Bool.and_eq_true] at h1 h2
      rcases h1 with h1 | ⟨h0, h1⟩
      · have hp := a.fst_in _ _ h1
        rcases seq_fst h3 hp with ⟨k1, k2⟩ | ⟨u, v, e1, p1, k0, k1, k2, k3, k4, k5⟩
        · rcases h2 with h2 | ⟨h2, h2'⟩
          · have := b.lst_in _ _ h2; omega
          · exact ⟨s, [], (List.append_nil s).symm, (ia s hs).2 ⟨p, e, h1, h2', k1⟩, b.nul_mt.1 h2⟩
        · rcases h2 with h2 | ⟨h2, h2'⟩
          · exact ⟨u, v, k0, (ia u k1.ne).2 ⟨p, e1, h1, k2, k1⟩, (ib v k4.ne).2 ⟨p1, e, k3, h2, k4⟩⟩
          · have := a.lst_in _ _ h2'; omega
      · have hp := b.fst_in _ _ h1
        obtain ⟨k1, k2⟩ := seq_snd h3 hp.1
        rcases h2 with h2 | ⟨h2, h2'⟩
        · exact ⟨[], s, rfl, a.nul_mt.1 h0, (ib s hs).2 ⟨p, e, h1, h2, k1⟩⟩
        · have := a.lst_in _ _ h2'; omega
  | .alt a b, n, s, hs => by
    have ia := a.acc n s hs
    have ib := b.acc (n + a.pl) s hs
    constructor
    · rintro (h | h)
      · obtain ⟨p, e, h1, h2, h3⟩ := ia.1 h
        exact ⟨p, e, by simp [Rx.fst, h1], by simp [Rx.lst, h2], h3.mono (fun p q h => by simp [Rx.fol, h]) (fun p q h => by simp [Rx.rd, h])⟩
      · obtain ⟨p, e, h1, h2, h3⟩ := ib.1 h
        exact ⟨p, e, by simp [Rx.fst, h1], by simp [Rx.lst, h2], h3.mono (fun p q h => by simp [Rx.fol, h]) (fun p q h => by simp [Rx.rd, h])⟩
    · rintro ⟨p, e, h1, h2, h3⟩
      have hst := alt_stay h3
      simp only [Rx.fst, Rx.lst, Bool.or_eq_true] at h1 h2
      rcases h1 with h1 | h1
      · have hp := a.fst_in _ _ h1
        obtain ⟨k1, k2⟩ := hst.1 hp.2
        rcases h2 with h2 | h2
        · exact .inl (ia.2 ⟨p, e, h1, h2, k1⟩)
        · have := b.lst_in _ _ h2; omega
      · have hp := b.fst_in _ _ h1
        obtain ⟨k1, k2⟩ := hst.2 hp.1
        rcases h2 with h2 | h2
        · have := a.lst_in _ _ h2; omega
        · exact .inr (ib.2 ⟨p, e, h1, h2, k1⟩)
  | .rep a, n, s, hs => by
    have ia := fun s hs => a.acc n s hs
    constructor
    · intro h
      have : s = [] ∨ Acc (.rep a) n s := by
        clear hs
        have h' : Star a.mt s := h
        induction h' with
        | nil => exact .inl rfl
        | @app u v hu hv ih =>
          have ih := ih hv
          by_cases u0 : u = []
          · subst u0; simpa using ih
          obtain ⟨p, e, h1, h2, h3⟩ := (ia u u0).1 hu
          have h3' : Run ((Rx.rep a).fol n) ((Rx.rep a).rd n) p u e := h3.mono (fun p q h => by simp [Rx.fol, h]) (fun p q h => h)
          rcases ih with rfl | ⟨p', e', h1', h2', h4⟩
          · right
            rw [List.append_nil]
            exact ⟨p, e, h1, h2, h3'⟩
          · right
            exact ⟨p, e', h1, h2', h3'.join (by
              have h1'' : a.fst n p' = true := h1'
              simp [Rx.fol, h2, h1'']) h4⟩
      exact this.resolve_left hs
    · rintro ⟨p, e, h1, h2, h3⟩
      obtain ⟨u, v, e1, k0, k1, k2, k3⟩ := rep_run (fun s hs h => (ia s hs).2 h) h3 h2
      show Star a.mt s
      rw [k0]
      exact .app ((ia u k1.ne).2 ⟨p, e1, h1, k2, k1⟩) k3

/-! ### Reading byte by byte -/
/-- place p can read the byte behind s -/
inductive Rch (r : Rx) (n : Nat) : List UInt8 → Nat → Prop
  | nil {p : Nat} (h : r.fst n p = true) : Rch r n [] p
  | snoc {s : List UInt8} {p q : Nat} {b : UInt8} (h : Rch r n s p) (hb : r.rd n p b = true) (hf : r.fol n p q = true) : Rch r n (s ++ [b]) q
theorem Rch.run {r : Rx} {n : Nat} {s t : List UInt8} {p e : Nat} (h : Rch r n s p) (hr : Run (r.fol n) (r.rd n) p t e) : ∃ p0, r.fst n p0 = true ∧ Run (r.fol n) (r.rd n) p0 (s ++ t) e := by
  induction h generalizing t e with
  | nil h => exact ⟨_, h, hr⟩
  | snoc h hb hf ih =>
    obtain ⟨p0, h1, h2⟩ := ih (.more hb hf hr)
    exact ⟨p0, h1, by rw [List.append_assoc]; exact h2⟩
theorem Run.rch {r : Rx} {n : Nat} {t : List UInt8} {p e : Nat} (hr : Run (r.fol n) (r.rd n) p t e) : ∀ {s : List UInt8}, Rch r n s p → ∃ u b, s ++ t = u ++ [b] ∧ Rch r n u e ∧ r.rd n e b = true := by
  induction hr with
  | one h => exact fun {s} hs => ⟨s, _, rfl, hs, h⟩
  | @more p q e b t h hf _ ih =>
    intro s hs
    obtain ⟨u, c, h1, h2, h3⟩ := ih (.snoc hs h hf)
    exact ⟨u, c, by rw [← h1]; simp, h2, h3⟩
/-- a word ends with the byte b behind s -/
theorem mt_snoc (r : Rx) (n : Nat) (s : List UInt8) (b : UInt8) : r.mt (s ++ [b]) ↔ ∃ p, Rch r n s p ∧ r.rd n p b = true ∧ r.lst n p = true := by
  rw [r.acc n (s ++ [b]) (by simp)]
  constructor
  · rintro ⟨p, e, h1, h2, h3⟩
    obtain ⟨u, c, k1, k2, k3⟩ := h3.rch (.nil h1)
    rw [List.nil_append] at k1
    obtain ⟨rfl, k4⟩ := List.append_inj' k1 rfl
    injection k4 with k4
    subst k4
    exact ⟨e, k2, k3, h2⟩
  · rintro ⟨p, h1, h2, h3⟩
    obtain ⟨p0, k1, k2⟩ := h1.run (.one h2)
    exact ⟨p0, p, k1, h3, k2⟩
theorem rch_snoc {r : Rx} {n : Nat} {s : List UInt8} {b : UInt8} {q : Nat} : Rch r n (s ++ [b]) q ↔ ∃ p, Rch r n s p ∧ r.rd n p b = true ∧ r.fol n p q = true := by
  constructor
  · intro h
    generalize ht : s ++ [b] = t at h
    cases h with
    | nil h => simp at ht
    | snoc h hb hf =>
      obtain ⟨rfl, k4⟩ := List.append_inj' ht rfl
      injection k4 with k4
      subst k4
      exact ⟨_, h, hb, hf⟩
  · rintro ⟨p, h1, h2, h3⟩
    exact .snoc h1 h2 h3
theorem rch_nil {r : Rx} {n p : Nat} : Rch r n [] p ↔ r.fst n p = true := by
  constructor
  · intro h
    generalize ht : ([] : List UInt8) = t at h
    cases h with
    | nil h => exact h
    | snoc h hb hf => simp at ht
  · exact .nil
theorem rch_in {r : Rx} {n p : Nat} {s : List UInt8} (h : Rch r n s p) : n ≤ p ∧ p < n + r.pl := by
  cases h with
  | nil h => exact r.fst_in _ _ h
  | snoc h hb hf => exact (r.fol_in _ _ _ hf).2

end Go.Proofs.YtfkljlncnfeklaaGreatDoor

/-! The order of strings, and a search for the first accepted one in plain mathematics: fronts of places, each with the first string that leads to it. -/
namespace Go.Proofs.YtfkljlncnfeklaaGreatDoor
set_option linter.unusedVariables false

/-- before, among strings of one length -/
def lxS : List UInt8 → List UInt8 → Prop
  | a :: u, b :: v => a.toNat < b.toNat ∨ (a = b ∧ lxS u v)
  | _, _ => False
/-- the order of strings -/
def ltS (u v : List UInt8) : Prop := u.length < v.length ∨ (u.length = v.length ∧ lxS u v)
def leS (u v : List UInt8) : Prop := ltS u v ∨ u = v
theorem lxS_irr : ∀ u, ¬ lxS u u
  | [], h => h
  | a :: u, h => by
    rcases h with h | ⟨_, h⟩
    · omega
    · exact lxS_irr u h
theorem lxS_trans : ∀ u v w, lxS u v → lxS v w → lxS u w
  | [], _, _, h, _ => h.elim
  | _ :: _, [], _, h, _ => h.elim
  | _ :: _, _ :: _, [], _, h => h.elim
  | a :: u, b :: v, c :: w, h1, h2 => by
    rcases h1 with h1 | ⟨rfl, h1⟩
    · rcases h2 with h2 | ⟨rfl, h2⟩
      · left; omega
      · left; exact h1
    · rcases h2 with h2 | ⟨rfl, h2⟩
      · left; exact h2
      · right; exact ⟨rfl, lxS_trans u v w h1 h2⟩
theorem lxS_tri : ∀ u v, u.length = v.length → lxS u v ∨ u = v ∨ lxS v u
  | [], [], _ => .inr (.inl rfl)
  | [], _ :: _, h => by simp at h
  | _ :: _, [], h => by simp at h
  | a :: u, b :: v, h => by
    have ih := lxS_tri u v (by simpa using h)
    rcases Nat.lt_trichotomy a.toNat b.toNat with h1 | h1 | h1
    · exact .inl (.inl h1)
    · have : a = b := UInt8.toNat_inj.1 h1
      subst this
      rcases ih with ih | ih | ih
      · exact .inl (.inr ⟨rfl, ih⟩)
      · exact .inr (.inl (by rw [ih]))
      · exact .inr (.inr (.inr ⟨rfl, ih⟩))
    · exact .inr (.inr (.inl h1))
theorem ltS_irr (u : List UInt8) : ¬ ltS u u := fun h => by
  rcases h with h | ⟨_, h⟩
  · omega
  · exact lxS_irr u h
theorem ltS_trans {u v w : List UInt8} (h1 : ltS u v) (h2 : ltS v w) : ltS u w := by
  rcases h1 with h1 | ⟨e1, h1⟩
  · rcases h2 with h2 | ⟨e2, h2⟩
    · left; omega
    · left; omega
  · rcases h2 with h2 | ⟨e2, h2⟩
    · left; omega
    · right; exact ⟨by omega, lxS_trans u v w h1 h2⟩
theorem ltS_tri (u v : List UInt8) : ltS u v ∨ u = v ∨ ltS v u := by
  rcases Nat.lt_trichotomy u.length v.length with h | h | h
  · exact .inl (.inl h)
  · rcases lxS_tri u v h with k | k | k
    · exact .inl (.inr ⟨h, k⟩)
    · exact .inr (.inl k)
    · exact .inr (.inr (.inr ⟨h.symm, k⟩))
  · exact .inr (.inr (.inl h))
theorem leS_trans {u v w : List UInt8} (h1 : leS u v) (h2 : leS v w) : leS u w := by
  rcases h1 with h1 | rfl
  · rcases h2 with h2 | rfl
    · exact .inl (ltS_trans h1 h2)
    · exact .inl h1
  · exact h2
theorem leS_lt {u v w : List UInt8} (h1 : leS u v) (h2 : ltS v w) : ltS u w := by
  rcases h1 with h1 | rfl
  · exact ltS_trans h1 h2
  · exact h2
theorem leS_refl (u : List UInt8) : leS u u := .inr rfl
theorem lxS_snoc : ∀ (u v : List UInt8) (a b : UInt8), u.length = v.length → (lxS (u ++ [a]) (v ++ [b]) ↔ lxS u v ∨ (u = v ∧ a.toNat < b.toNat))
  | [], [], a, b, _ => by simp [lxS]
  | [], _ :: _, _, _, h => by simp at h
  | _ :: _, [], _, _, h => by simp at h
  | c :: u, d :: v, a, b, h => by
    have ih := lxS_snoc u v a b (by simpa using h)
    show (c.toNat < d.toNat ∨ (c = d ∧ lxS (u ++ [a]) (v ++ [b]))) ↔ (c.toNat < d.toNat ∨ (c = d ∧ lxS u v)) ∨ (c :: u = d :: v ∧ a.toNat < b.toNat)
    rw [ih]
    constructor
    · rintro (k | ⟨rfl, k | ⟨rfl, k⟩⟩)
      · exact .inl (.inl k)
      · exact .inl (.inr ⟨rfl, k⟩)
      · exact .inr ⟨rfl, k⟩
    · rintro ((k | ⟨rfl, k⟩) | ⟨e, k⟩)
      · exact .inl k
      · exact .inr ⟨rfl, .inl k⟩
      · injection e with e1 e2
        subst e1; subst e2
        exact .inr ⟨rfl, .inr ⟨rfl, k⟩⟩
theorem ltS_snoc (u v : List UInt8) (a b : UInt8) : ltS (u ++ [a]) (v ++ [b]) ↔ ltS u v ∨ (u = v ∧ a.toNat < b.toNat) := by
  unfold ltS
  simp only [List.length_append, List.length_singleton]
  rcases Nat.lt_trichotomy u.length v.length with h | h | h
  · constructor
    · intro _; exact .inl (.inl h)
    · intro _; left; omega
  · rw [lxS_snoc u v a b h]
    constructor
    · rintro (k | ⟨_, k | ⟨rfl, k⟩⟩)
      · omega
      · exact .inl (.inr ⟨h, k⟩)
      · exact .inr ⟨rfl, k⟩
    · rintro ((k | ⟨_, k⟩) | ⟨rfl, k⟩)
      · omega
      · exact .inr ⟨by omega, .inl k⟩
      · exact .inr ⟨rfl, .inr ⟨rfl, k⟩⟩
  · constructor
    · rintro (k | ⟨k, _⟩) <;> omega
    · rintro ((k | ⟨k, _⟩) | ⟨rfl, k⟩) <;> omega
theorem leS_snoc {u v : List UInt8} {a b : UInt8} (h : leS u v) (hb : a.toNat ≤ b.toNat) : leS (u ++ [a]) (v ++ [b]) := by
  rcases h with h | rfl
  · exact .inl ((ltS_snoc u v a b).2 (.inl h))
  · rcases Nat.lt_or_eq_of_le hb with k | k
    · exact .inl ((ltS_snoc u u a b).2 (.inr ⟨rfl, k⟩))
    · have : a = b := UInt8.toNat_inj.1 k
      subst this
      exact .inr rfl
theorem ltS_grow (u : List UInt8) (a : UInt8) : ltS u (u ++ [a]) := .inl (by simp)
theorem ltS_nil {u : List UInt8} : ¬ ltS u [] := fun h => by
  rcases h with h | ⟨h, k⟩
  · simp at h
  · have : u = [] := by simpa using h
    subst this
    exact k

/-! ### The search -/
section
variable {π : Type} (st : π → Prop) (nx : π → π → Prop) (rd : π → UInt8 → Prop) (ac : π → Prop) (le : π → UInt8)
/-- x can read the byte behind u -/
inductive Rc : List UInt8 → π → Prop
  | nil {x : π} (h : st x) : Rc [] x
  | snoc {u : List UInt8} {x y : π} {c : UInt8} (h : Rc u x) (hc : rd x c) (hn : nx x y) : Rc (u ++ [c]) y
def AcS (v : List UInt8) : Prop := ∃ u c x, v = u ++ [c] ∧ Rc st nx rd u x ∧ rd x c ∧ ac x
/-- the fronts: the first string, and the places; P: which are done -/
structure Sv (Fs : List (List UInt8 × List π)) (P : Nat → π → Prop) : Prop where
  reach : ∀ (k : Nat) (t : List UInt8) (l : List π), Fs[k]? = some (t, l) → ∀ x ∈ l, Rc st nx rd t x
  start : ∀ x, st x → ∃ (k : Nat) (t : List UInt8) (l : List π), Fs[k]? = some (t, l) ∧ x ∈ l ∧ t = []
  proc : ∀ (k : Nat) (t : List UInt8) (l : List π), Fs[k]? = some (t, l) → ∀ x ∈ l, P k x → ¬ ac x ∧ ∀ y, nx x y → ∃ (j : Nat) (t' : List UInt8) (l' : List π), Fs[j]? = some (t', l') ∧ y ∈ l' ∧ leS t' (t ++ [le x])
variable {st nx rd ac le}
/-- what has been read leads to a front -/
theorem Sv.found {Fs : List (List UInt8 × List π)} {P : Nat → π → Prop} (h : Sv st nx rd ac le Fs P) (hle : ∀ x c, rd x c → (le x).toNat ≤ c.toNat) (W : List UInt8 → Prop)
    (hW : ∀ a b, leS a b → W b → W a) (hP : ∀ (k : Nat) (t : List UInt8) (l : List π), Fs[k]? = some (t, l) → ∀ x ∈ l, W (t ++ [le x]) → P k x) {u : List UInt8} {x : π} (hr : Rc st nx rd u x) : (u = [] ∨ W u) → ∃ (k : Nat) (t : List UInt8) (l : List π), Fs[k]? = some (t, l) ∧ x ∈ l ∧ leS t u := by
  induction hr with
  | nil hx =>
    intro _
    obtain ⟨k, t, l, h1, h2, rfl⟩ := h.start _ hx
    exact ⟨k, [], l, h1, h2, leS_refl _⟩
  | @snoc u x y c hu hc hn ih =>
    intro hw
    have hw : W (u ++ [c]) := hw.resolve_left (by simp)
    obtain ⟨k, t, l, h1, h2, h3⟩ := ih (.inr (hW _ _ (.inl (ltS_grow u c)) hw))
    have h4 := leS_snoc h3 (hle x c hc)
    obtain ⟨_, h5⟩ := h.proc k t l h1 x h2 (hP k t l h1 x h2 (hW _ _ h4 hw))
    obtain ⟨j, t', l', k1, k2, k3⟩ := h5 y hn
    exact ⟨j, t', l', k1, k2, leS_trans k3 h4⟩
/-- nothing that has been passed is accepted -/
theorem Sv.none {Fs : List (List UInt8 × List π)} {P : Nat → π → Prop} (h : Sv st nx rd ac le Fs P) (hle : ∀ x c, rd x c → (le x).toNat ≤ c.toNat) (W : List UInt8 → Prop)
    (hW : ∀ a b, leS a b → W b → W a) (hP : ∀ (k : Nat) (t : List UInt8) (l : List π), Fs[k]? = some (t, l) → ∀ x ∈ l, W (t ++ [le x]) → P k x) {v : List UInt8} (hv : W v) : ¬ AcS st nx rd ac v := by
  rintro ⟨u, c, x, rfl, hr, hc, ha⟩
  obtain ⟨k, t, l, h1, h2, h3⟩ := h.found hle W hW hP hr (.inr (hW _ _ (.inl (ltS_grow u c)) hv))
  exact (h.proc k t l h1 x h2 (hP k t l h1 x h2 (hW _ _ (leS_snoc h3 (hle x c hc)) hv))).1 ha
/-- the first accepted string -/
theorem Sv.first {Fs : List (List UInt8 × List π)} {P : Nat → π → Prop} (h : Sv st nx rd ac le Fs P) (hle : ∀ x c, rd x c → (le x).toNat ≤ c.toNat) {w : List UInt8}
    (hP : ∀ (k : Nat) (t : List UInt8) (l : List π), Fs[k]? = some (t, l) → ∀ x ∈ l, ltS (t ++ [le x]) w → P k x) {v : List UInt8} (hv : AcS st nx rd ac v) : ¬ ltS v w :=
  fun hw => h.none hle (fun a => ltS a w) (fun a b h1 h2 => leS_lt h1 h2) hP hw hv
end

end Go.Proofs.YtfkljlncnfeklaaGreatDoor

/-! The steps of the search: a place is passed, a front is added; the texts of the fronts ascend. -/
namespace Go.Proofs.YtfkljlncnfeklaaGreatDoor
set_option linter.unusedVariables false

section
variable {π : Type} {st : π → Prop} {nx : π → π → Prop} {rd : π → UInt8 → Prop} {ac : π → Prop} {le : π → UInt8}
/-- x stands in a front -/
def InF (Fs : List (List UInt8 × List π)) (x : π) : Prop := ∃ (k : Nat) (t : List UInt8) (l : List π), Fs[k]? = some (t, l) ∧ x ∈ l
theorem get_app {α : Type} (l : List α) (x : α) (k : Nat) (y : α) : (l ++ [x])[k]? = some y ↔ l[k]? = some y ∨ (k = l.length ∧ y = x) := by
  rcases Nat.lt_trichotomy k l.length with h | h | h
  · rw [List.getElem?_append_left h]
    constructor
    · intro q; exact .inl q
    · rintro (q | ⟨q, _⟩)
      · exact q
      · omega
  · subst h
    rw [List.getElem?_append_right (Nat.le_refl _), Nat.sub_self, List.getElem?_eq_none (l := l) (Nat.le_refl _)]
    constructor
    · intro q; injection q with q; exact .inr ⟨rfl, q.symm⟩
    · rintro (q | ⟨_, q⟩)
      · cases q
      · rw [q]; rfl
  · rw [List.getElem?_eq_none (by simp; omega), List.getElem?_eq_none (by omega)]
    constructor
    · intro q; cases q
    · rintro (q | ⟨q, _⟩)
      · cases q
      · omega
theorem lt_of_get {α : Type} {l : List α} {k : Nat} {y : α} (h : l[k]? = some y) : k < l.length := by
  rcases Nat.lt_or_ge k l.length with q | q
  · exact q
  · rw [List.getElem?_eq_none q] at h; cases h
/-- an empty front at the end goes -/
theorem Sv.drop {Fs : List (List UInt8 × List π)} {t : List UInt8} {P : Nat → π → Prop} (h : Sv st nx rd ac le (Fs ++ [(t, [])]) P) : Sv st nx rd ac le Fs P := by
  refine ⟨fun k t l hk => h.reach k t l ((get_app _ _ _ _).2 (.inl hk)), fun x hx => ?_, fun k t l hk x hx hp => ?_⟩
  · obtain ⟨k, t', l, h1, h2, h3⟩ := h.start x hx
    rcases (get_app _ _ _ _).1 h1 with q | ⟨_, q⟩
    · exact ⟨k, t', l, q, h2, h3⟩
    · injection q with _ q; subst q; cases h2
  · obtain ⟨h1, h2⟩ := h.proc k t l ((get_app _ _ _ _).2 (.inl hk)) x hx hp
    refine ⟨h1, fun y hy => ?_⟩
    obtain ⟨j, t', l', k1, k2, k3⟩ := h2 y hy
    rcases (get_app _ _ _ _).1 k1 with q | ⟨_, q⟩
    · exact ⟨j, t', l', q, k2, k3⟩
    · injection q with _ q; subst q; cases k2
/-- an empty front may be added -/
theorem Sv.add {Fs : List (List UInt8 × List π)} (t : List UInt8) {P : Nat → π → Prop} (h : Sv st nx rd ac le Fs P) : Sv st nx rd ac le (Fs ++ [(t, [])]) P := by
  refine ⟨fun k t' l hk x hx => ?_, fun x hx => ?_, fun k t' l hk x hx hp => ?_⟩
  · rcases (get_app _ _ _ _).1 hk with q | ⟨_, q⟩
    · exact h.reach k t' l q x hx
    · injection q with _ q; subst q; cases hx
  · obtain ⟨k, t', l, h1, h2, h3⟩ := h.start x hx
    exact ⟨k, t', l, (get_app _ _ _ _).2 (.inl h1), h2, h3⟩
  · rcases (get_app _ _ _ _).1 hk with q | ⟨_, q⟩
    · obtain ⟨h1, h2⟩ := h.proc k t' l q x hx hp
      refine ⟨h1, fun y hy => ?_⟩
      obtain ⟨j, t'', l', k1, k2, k3⟩ := h2 y hy
      exact ⟨j, t'', l', (get_app _ _ _ _).2 (.inl k1), k2, k3⟩
    · injection q with _ q; subst q; cases hx
/-- the last front's places in another order -/
theorem Sv.perm {Fs : List (List UInt8 × List π)} {t : List UInt8} {l l' : List π} {P : Nat → π → Prop} (h : Sv st nx rd ac le (Fs ++ [(t, l)]) P) (hl : ∀ x, x ∈ l' ↔ x ∈ l) : Sv st nx rd ac le (Fs ++ [(t, l')]) P := by
  have up : ∀ (j : Nat) (t1 : List UInt8) (l1 : List π) (y : π), (Fs ++ [(t, l)])[j]? = some (t1, l1) → y ∈ l1 → ∃ l2, (Fs ++ [(t, l')])[j]? = some (t1, l2) ∧ y ∈ l2 := fun j t1 l1 y hj hy => by
    rcases (get_app _ _ _ _).1 hj with q | ⟨q1, q⟩
    · exact ⟨l1, (get_app _ _ _ _).2 (.inl q), hy⟩
    · injection q with q2 q; subst q; subst q2
      exact ⟨l', (get_app _ _ _ _).2 (.inr ⟨q1, rfl⟩), (hl y).2 hy⟩
  have dn : ∀ (j : Nat) (t1 : List UInt8) (l1 : List π) (y : π), (Fs ++ [(t, l')])[j]? = some (t1, l1) → y ∈ l1 → ∃ l2, (Fs ++ [(t, l)])[j]? = some (t1, l2) ∧ y ∈ l2 := fun j t1 l1 y hj hy => by
    rcases (get_app _ _ _ _).1 hj with q | ⟨q1, q⟩
    · exact ⟨l1, (get_app _ _ _ _).2 (.inl q), hy⟩
    · injection q with q2 q; subst q; subst q2
      exact ⟨l, (get_app _ _ _ _).2 (.inr ⟨q1, rfl⟩), (hl y).1 hy⟩
  refine ⟨fun k t1 l1 hk x hx => ?_, fun x hx => ?_, fun k t1 l1 hk x hx hp => ?_⟩
  · obtain ⟨l2, h1, h2⟩ := dn k t1 l1 x hk hx
    exact h.reach k t1 l2 h1 x h2
  · obtain ⟨k, t', l1, h1, h2, h3⟩ := h.start x hx
    obtain ⟨l2, k1, k2⟩ := up k t' l1 x h1 h2
    exact ⟨k, t', l2, k1, k2, h3⟩
  · obtain ⟨l2, h1, h2⟩ := dn k t1 l1 x hk hx
    obtain ⟨p1, p2⟩ := h.proc k t1 l2 h1 x h2 hp
    refine ⟨p1, fun y hy => ?_⟩
    obtain ⟨j, t', l', k1, k2, k3⟩ := p2 y hy
    obtain ⟨l3, m1, m2⟩ := up j t' l' y k1 k2
    exact ⟨j, t', l3, m1, m2, k3⟩
/-- place x of front n is passed: what follows it is in a front, or comes into the last one -/
theorem Sv.pass {Fs : List (List UInt8 × List π)} {u : List UInt8} {l l0 nw : List π} {P : Nat → π → Prop} {n : Nat} {x : π} (h : Sv st nx rd ac le (Fs ++ [(u ++ [le x], l)]) P)
    (hn : Fs[n]? = some (u, l0)) (hx : x ∈ l0) (hr : rd x (le x)) (ha : ¬ ac x) (hw : ∀ y ∈ nw, nx x y) (hs : ∀ y, nx x y → InF (Fs ++ [(u ++ [le x], l)]) y ∨ y ∈ nw)
    (hP : ∀ (k : Nat) (y : π), k = Fs.length → ¬ P k y) (ht : ∀ (k : Nat) (t' : List UInt8) (l' : List π), Fs[k]? = some (t', l') → leS t' (u ++ [le x])) : Sv st nx rd ac le (Fs ++ [(u ++ [le x], l ++ nw)]) (fun k y => P k y ∨ (k = n ∧ y = x)) := by
  have up : ∀ (j : Nat) (t1 : List UInt8) (l1 : List π) (y : π), (Fs ++ [(u ++ [le x], l)])[j]? = some (t1, l1) → y ∈ l1 → ∃ l2, (Fs ++ [(u ++ [le x], l ++ nw)])[j]? = some (t1, l2) ∧ y ∈ l2 := fun j t1 l1 y hj hy => by
    rcases (get_app _ _ _ _).1 hj with q | ⟨q1, q⟩
    · exact ⟨l1, (get_app _ _ _ _).2 (.inl q), hy⟩
    · injection q with q2 q; subst q; subst q2
      exact ⟨_, (get_app _ _ _ _).2 (.inr ⟨q1, rfl⟩), List.mem_append_left _ hy⟩
  have hrx : Rc st nx rd u x := h.reach n u l0 ((get_app _ _ _ _).2 (.inl hn)) x hx
  have le0 : ∀ (j : Nat) (t1 : List UInt8) (l1 : List π), (Fs ++ [(u ++ [le x], l)])[j]? = some (t1, l1) → leS t1 (u ++ [le x]) := fun j t1 l1 hj => by
    rcases (get_app _ _ _ _).1 hj with q | ⟨q1, q⟩
    · exact ht j t1 l1 q
    · injection q with q2 q; subst q2; exact leS_refl _
  have suc : ∀ y, nx x y → ∃ (j : Nat) (t' : List UInt8) (l' : List π), (Fs ++ [(u ++ [le x], l ++ nw)])[j]? = some (t', l') ∧ y ∈ l' ∧ leS t' (u ++ [le x]) := fun y hy => by
    rcases hs y hy with ⟨j, t1, l1, k1, k2⟩ | k
    · obtain ⟨l2, m1, m2⟩ := up j t1 l1 y k1 k2
      exact ⟨j, t1, l2, m1, m2, le0 j t1 l1 k1⟩
    · exact ⟨Fs.length, _, _, (get_app _ _ _ _).2 (.inr ⟨rfl, rfl⟩), List.mem_append_right _ k, leS_refl _⟩
  refine ⟨fun k t1 l1 hk y hy => ?_, fun y hy => ?_, fun k t1 l1 hk y hy hp => ?_⟩
  · rcases (get_app _ _ _ _).1 hk with q | ⟨q1, q⟩
    · exact h.reach k t1 l1 ((get_app _ _ _ _).2 (.inl q)) y hy
    · injection q with q2 q; subst q; subst q2
      rcases List.mem_append.1 hy with m | m
      · exact h.reach k _ l ((get_app _ _ _ _).2 (.inr ⟨q1, rfl⟩)) y m
      · exact .snoc hrx hr (hw y m)
  · obtain ⟨k, t', l1, h1, h2, h3⟩ := h.start y hy
    obtain ⟨l2, k1, k2⟩ := up k t' l1 y h1 h2
    exact ⟨k, t', l2, k1, k2, h3⟩
  · rcases (get_app _ _ _ _).1 hk with q | ⟨q1, q⟩
    · rcases hp with hp | ⟨rfl, rfl⟩
      · obtain ⟨p1, p2⟩ := h.proc k t1 l1 ((get_app _ _ _ _).2 (.inl q)) y hy hp
        refine ⟨p1, fun z hz => ?_⟩
        obtain ⟨j, t', l', k1, k2, k3⟩ := p2 z hz
        obtain ⟨l3, m1, m2⟩ := up j t' l' z k1 k2
        exact ⟨j, t', l3, m1, m2, k3⟩
      · rw [hn] at q
        injection q with q
        injection q with q1 q2
        subst q1
        exact ⟨ha, suc⟩
    · injection q with q2 q; subst q; subst q2
      rcases hp with hp | ⟨rfl, _⟩
      · rcases List.mem_append.1 hy with m | m
        · obtain ⟨p1, p2⟩ := h.proc k _ l ((get_app _ _ _ _).2 (.inr ⟨q1, rfl⟩)) y m hp
          refine ⟨p1, fun z hz => ?_⟩
          obtain ⟨j, t', l', k1, k2, k3⟩ := p2 z hz
          obtain ⟨l3, m1, m2⟩ := up j t' l' z k1 k2
          exact ⟨j, t', l3, m1, m2, k3⟩
        · exact absurd hp (hP k y q1)
      · exact absurd (lt_of_get hn) (by omega)
end

/-! ### The texts ascend -/
section
variable {π : Type}
/-- the fronts before n are done, and of front n the places whose least byte is less than B -/
structure Txs (Fs : List (List UInt8 × List π)) (n B : Nat) : Prop where
  asc : ∀ (k k' : Nat) (t t' : List UInt8) (l l' : List π), k < k' → Fs[k]? = some (t, l) → Fs[k']? = some (t', l') → ltS t t'
  src : ∀ (k : Nat) (t : List UInt8) (l : List π), Fs[k]? = some (t, l) → (t = [] ∧ k = 0) ∨ ∃ (m : Nat) (u : List UInt8) (l' : List π) (c : UInt8), m < k ∧ Fs[m]? = some (u, l') ∧ t = u ++ [c] ∧ (m < n ∨ (m = n ∧ c.toNat < B))
/-- each text comes before that of front n and a byte that is not passed -/
theorem Txs.lt {Fs : List (List UInt8 × List π)} {n B : Nat} (h : Txs Fs n B) {u : List UInt8} {l : List π} (hn : Fs[n]? = some (u, l)) {b : UInt8} (hb : B ≤ b.toNat) {k : Nat} {t : List UInt8} {l' : List π} (hk : Fs[k]? = some (t, l')) : ltS t (u ++ [b]) := by
  rcases h.src k t l' hk with ⟨rfl, _⟩ | ⟨m, v, l2, c, h1, h2, rfl, h3 | ⟨rfl, h3⟩⟩
  · exact .inl (by simp)
  · exact (ltS_snoc v u c b).2 (.inl (h.asc m n v u l2 l h3 h2 hn))
  · rw [hn] at h2
    injection h2 with h2
    injection h2 with h2 _
    subst h2
    exact (ltS_snoc u u c b).2 (.inr ⟨rfl, by omega⟩)
theorem Txs.nil (t : List UInt8) (ht : t = []) (l : List π) : Txs [(t, l)] 0 0 := by
  subst ht
  refine ⟨fun k k' t t' l l' hk h1 h2 => ?_, fun k t l' h => ?_⟩
  · have := lt_of_get h2
    simp at this
    omega
  · have := lt_of_get h
    obtain rfl : k = 0 := by simpa using this
    injection h with h
    injection h with h _
    exact .inl ⟨h.symm, rfl⟩
theorem Txs.up {Fs : List (List UInt8 × List π)} {n B B' : Nat} (h : Txs Fs n B) (hB : B ≤ B') : Txs Fs n B' := by
  refine ⟨h.asc, fun k t l hk => ?_⟩
  rcases h.src k t l hk with q | ⟨m, u, l', c, h1, h2, h3, h4⟩
  · exact .inl q
  · exact .inr ⟨m, u, l', c, h1, h2, h3, by omega⟩
/-- the next front -/
theorem Txs.next {Fs : List (List UInt8 × List π)} {n B : Nat} (h : Txs Fs n B) : Txs Fs (n + 1) 0 := by
  refine ⟨h.asc, fun k t l hk => ?_⟩
  rcases h.src k t l hk with q | ⟨m, u, l', c, h1, h2, h3, h4⟩
  · exact .inl q
  · exact .inr ⟨m, u, l', c, h1, h2, h3, .inl (by omega)⟩
/-- a front is added behind the group of byte b -/
theorem Txs.app {Fs : List (List UInt8 × List π)} {n B : Nat} (h : Txs Fs n B) {u : List UInt8} {l : List π} (hn : Fs[n]? = some (u, l)) {b : UInt8} (hb : B ≤ b.toNat) (nw : List π) : Txs (Fs ++ [(u ++ [b], nw)]) n (b.toNat + 1) := by
  refine ⟨fun k k' t t' l l' hk h1 h2 => ?_, fun k t l' hk => ?_⟩
  · rcases (get_app _ _ _ _).1 h2 with q | ⟨q1, q⟩
    · have := lt_of_get q
      rcases (get_app _ _ _ _).1 h1 with p | ⟨p1, _⟩
      · exact h.asc k k' t t' l l' hk p q
      · omega
    · injection q with q2 q; subst q2; subst q
      rcases (get_app _ _ _ _).1 h1 with p | ⟨p1, _⟩
      · exact h.lt hn hb p
      · omega
  · rcases (get_app _ _ _ _).1 hk with q | ⟨q1, q⟩
    · rcases h.src k t l' q with q | ⟨m, v, l2, c, h1, h2, h3, h4⟩
      · exact .inl q
      · exact .inr ⟨m, v, l2, c, h1, (get_app _ _ _ _).2 (.inl h2), h3, by omega⟩
    · injection q with q2 q; subst q2; subst q
      exact .inr ⟨n, u, l, b, by have := lt_of_get hn; omega, (get_app _ _ _ _).2 (.inl hn), rfl, .inr ⟨rfl, by omega⟩⟩
/-- what lies before the text of front n and byte b has been passed -/
theorem Txs.passed {Fs : List (List UInt8 × List π)} {n B : Nat} (h : Txs Fs n B) {u : List UInt8} {l : List π} (hn : Fs[n]? = some (u, l)) {b : UInt8} {k : Nat} {t : List UInt8} {l' : List π} (hk : Fs[k]? = some (t, l')) {c : UInt8} (hc : ltS (t ++ [c]) (u ++ [b])) : k < n ∨ (k = n ∧ c.toNat < b.toNat) := by
  rcases (ltS_snoc t u c b).1 hc with q | ⟨rfl, q⟩
  · rcases Nat.lt_trichotomy k n with r | r | r
    · exact .inl r
    · subst r
      rw [hn] at hk
      injection hk with hk
      injection hk with hk _
      subst hk
      exact absurd q (ltS_irr _)
    · exact absurd (ltS_trans q (h.asc n k u t l l' r hn hk)) (ltS_irr _)
  · rcases Nat.lt_trichotomy k n with r | r | r
    · exact .inl r
    · exact .inr ⟨r, q⟩
    · exact absurd (h.asc n k t t l l' r hn hk) (ltS_irr _)
end

end Go.Proofs.YtfkljlncnfeklaaGreatDoor

/-! The machine of an expression as the code keeps it: the bytes of its places in a list, and what each place is followed by; reading a string, the longest match. -/
namespace Go.Proofs.YtfkljlncnfeklaaGreatDoor
set_option linter.unusedVariables false

/-- the bytes of the places -/
def Rx.rgs : Rx → List (Nat × Nat)
  | .emp => []
  | .rng lo hi => [(lo, hi)]
  | .seq a b => a.rgs ++ b.rgs
  | .alt a b => a.rgs ++ b.rgs
  | .rep a => a.rgs
theorem Rx.rgs_len : ∀ r : Rx, r.rgs.length = r.pl
  | .emp => rfl
  | .rng _ _ => rfl
  | .seq a b => by show (a.rgs ++ b.rgs).length = a.pl + b.pl; rw [List.length_append, a.rgs_len, b.rgs_len]
  | .alt a b => by show (a.rgs ++ b.rgs).length = a.pl + b.pl; rw [List.length_append, a.rgs_len, b.rgs_len]
  | .rep a => a.rgs_len
/-- byte b lies in a place's bytes -/
def inR (x : Nat × Nat) (b : UInt8) : Bool := decide (x.1 ≤ b.toNat) && decide (b.toNat ≤ x.2)
theorem app_rgs {a b : List (Nat × Nat)} {i : Nat} (h : i < a.length) : (a ++ b).getD i (0, 0) = a.getD i (0, 0) := by
  rw [List.getD_eq_getElem?_getD, List.getElem?_append_left h, List.getD_eq_getElem?_getD]
theorem app_rgs2 {a b : List (Nat × Nat)} {i : Nat} (h : a.length ≤ i) : (a ++ b).getD i (0, 0) = b.getD (i - a.length) (0, 0) := by
  rw [List.getD_eq_getElem?_getD, List.getElem?_append_right h, List.getD_eq_getElem?_getD]
theorem Rx.rd_rgs : ∀ (r : Rx) (n p : Nat) (b : UInt8), n ≤ p → p < n + r.pl → r.rd n p b = inR (r.rgs.getD (p - n) (0, 0)) b
  | .emp, n, p, b, h1, h2 => by change p < n + 0 at h2; omega
  | .rng lo hi, n, p, b, h1, h2 => by
    change p < n + 1 at h2
    obtain rfl : p = n := by omega
    simp [Rx.rd, Rx.rgs, inR]
  | .seq x y, n, p, b, h1, h2 => by
    change p < n + (x.pl + y.pl) at h2
    show (x.rd n p b || y.rd (n + x.pl) p b) = inR ((x.rgs ++ y.rgs).getD (p - n) (0, 0)) b
    by_cases c : p < n + x.pl
    · rw [app_rgs (by rw [x.rgs_len]; omega), ← x.rd_rgs n p b h1 c]
      have : y.rd (n + x.pl) p b = false := by
        rw [Bool.eq_false_iff]; intro q; have := y.rd_in _ _ _ q; omega
      rw [this, Bool.or_false]
    · rw [app_rgs2 (by rw [x.rgs_len]; omega), x.rgs_len, show p - n - x.pl = p - (n + x.pl) by omega, ← y.rd_rgs (n + x.pl) p b (by omega) (by omega)]
      have : x.rd n p b = false := by
        rw [Bool.eq_false_iff]; intro q; have := x.rd_in _ _ _ q; omega
      rw [this, Bool.false_or]
  | .alt x y, n, p, b, h1, h2 => by
    change p < n + (x.pl + y.pl) at h2
    show (x.rd n p b || y.rd (n + x.pl) p b) = inR ((x.rgs ++ y.rgs).getD (p - n) (0, 0)) b
    by_cases c : p < n + x.pl
    · rw [app_rgs (by rw [x.rgs_len]; omega), ← x.rd_rgs n p b h1 c]
      have : y.rd (n + x.pl) p b = false := by
        rw [Bool.eq_false_iff]; intro q; have := y.rd_in _ _ _ q; omega
      rw [this, Bool.or_false]
    · rw [app_rgs2 (by rw [x.rgs_len]; omega), x.rgs_len, show p - n - x.pl = p - (n + x.pl) by omega, ← y.rd_rgs (n + x.pl) p b (by omega) (by omega)]
      have : x.rd n p b = false := by
        rw [Bool.eq_false_iff]; intro q; have := x.rd_in _ _ _ q; omega
      rw [this, Bool.false_or]
  | .rep x, n, p, b, h1, h2 => x.rd_rgs n p b h1 h2

/-! ### Following places, part by part -/
theorem fst_out {r : Rx} {n p : Nat} (h : p < n ∨ n + r.pl ≤ p) : r.fst n p = false := by
  rw [Bool.eq_false_iff]; intro q; have := r.fst_in _ _ q; omega
theorem lst_out {r : Rx} {n p : Nat} (h : p < n ∨ n + r.pl ≤ p) : r.lst n p = false := by
  rw [Bool.eq_false_iff]; intro q; have := r.lst_in _ _ q; omega
theorem fol_out {r : Rx} {n p : Nat} (q : Nat) (h : p < n ∨ n + r.pl ≤ p) : r.fol n p q = false := by
  rw [Bool.eq_false_iff]; intro k; have := r.fol_in _ _ _ k; omega
/-- the function F on the first n places, that of an expression behind them -/
def ext (F : Nat → Nat → Bool) (n : Nat) (r : Rx) (p q : Nat) : Bool := if p < n then F p q else r.fol n p q
theorem ext_seq (F : Nat → Nat → Bool) (n : Nat) (a b : Rx) (p q : Nat) : (ext (ext F n a) (n + a.pl) b p q || (a.lst n p && b.fst (n + a.pl) q)) = ext F n (.seq a b) p q := by
  unfold ext
  by_cases c1 : p < n
  · rw [if_pos (by omega), if_pos c1, if_pos c1, lst_out (.inl c1)]; simp
  rw [if_neg c1, if_neg c1]
  show _ = (a.fol n p q || b.fol (n + a.pl) p q || (a.lst n p && b.fst (n + a.pl) q))
  by_cases c2 : p < n + a.pl
  · rw [if_pos c2, fol_out (r := b) q (.inl c2), Bool.or_false]
  · rw [if_neg c2, fol_out (r := a) q (.inr (by omega)), Bool.false_or]
theorem ext_alt (F : Nat → Nat → Bool) (n : Nat) (a b : Rx) (p q : Nat) : ext (ext F n a) (n + a.pl) b p q = ext F n (.alt a b) p q := by
  unfold ext
  by_cases c1 : p < n
  · rw [if_pos (by omega), if_pos c1, if_pos c1]
  rw [if_neg c1, if_neg c1]
  show _ = (a.fol n p q || b.fol (n + a.pl) p q)
  by_cases c2 : p < n + a.pl
  · rw [if_pos c2, fol_out (r := b) q (.inl c2), Bool.or_false]
  · rw [if_neg c2, fol_out (r := a) q (.inr (by omega)), Bool.false_or]
theorem ext_rep (F : Nat → Nat → Bool) (n : Nat) (a : Rx) (p q : Nat) : (ext F n a p q || (a.lst n p && a.fst n q)) = ext F n (.rep a) p q := by
  unfold ext
  by_cases c1 : p < n
  · rw [if_pos c1, if_pos c1, lst_out (.inl c1)]; simp
  rw [if_neg c1, if_neg c1]
  rfl

/-! ### Reading -/
/-- one byte: the places that can read the next one, and whether a word can end -/
def stp (r : Rx) (S : Nat → Bool) (b : UInt8) (q : Nat) : Bool := (List.range r.pl).any fun p => S p && r.rd 0 p b && r.fol 0 p q
def fin' (r : Rx) (S : Nat → Bool) (b : UInt8) : Bool := (List.range r.pl).any fun p => S p && r.rd 0 p b && r.lst 0 p
/-- the longest match: from place set S, i bytes read, n the best so far -/
def lgo (r : Rx) : (Nat → Bool) → List UInt8 → Nat → Int → Int
  | _, [], _, n => n
  | S, b :: s, i, n => lgo r (stp r S b) s (i + 1) (if fin' r S b then ((i + 1 : Nat) : Int) else n)
def lng (r : Rx) (s : List UInt8) : Int := lgo r (r.fst 0) s 0 (if r.nul then 0 else -1)
/-- S is the places that can read the byte behind u -/
def AtS (r : Rx) (u : List UInt8) (S : Nat → Bool) : Prop := ∀ p, S p = true ↔ Rch r 0 u p
theorem AtS.start (r : Rx) : AtS r [] (r.fst 0) := fun p => rch_nil.symm
theorem AtS.step {r : Rx} {u : List UInt8} {S : Nat → Bool} (h : AtS r u S) (b : UInt8) : AtS r (u ++ [b]) (stp r S b) := fun q => by
  rw [rch_snoc]
  unfold stp
  rw [List.any_eq_true]
  constructor
  · rintro ⟨p, _, hp⟩
    simp only [Bool.and_eq_true] at hp
    exact ⟨p, (h p).1 hp.1.1, hp.1.2, hp.2⟩
  · rintro ⟨p, h1, h2, h3⟩
    refine ⟨p, ?_, by simp only [Bool.and_eq_true]; exact ⟨⟨(h p).2 h1, h2⟩, h3⟩⟩
    have := r.rd_in _ _ _ h2
    rw [List.mem_range]; omega
theorem AtS.fin {r : Rx} {u : List UInt8} {S : Nat → Bool} (h : AtS r u S) (b : UInt8) : fin' r S b = true ↔ r.mt (u ++ [b]) := by
  rw [mt_snoc r 0]
  unfold fin'
  rw [List.any_eq_true]
  constructor
  · rintro ⟨p, _, hp⟩
    simp only [Bool.and_eq_true] at hp
    exact ⟨p, (h p).1 hp.1.1, hp.1.2, hp.2⟩
  · rintro ⟨p, h1, h2, h3⟩
    refine ⟨p, ?_, by simp only [Bool.and_eq_true]; exact ⟨⟨(h p).2 h1, h2⟩, h3⟩⟩
    have := r.rd_in _ _ _ h2
    rw [List.mem_range]; omega
/-- n is the greatest length of a match among the first k bytes, -1 if there is none -/
def BestL (r : Rx) (s : List UInt8) (k : Nat) (n : Int) : Prop := (n = -1 ∧ ∀ j, j ≤ k → ¬ r.mt (s.take j)) ∨ ∃ m : Nat, n = (m : Int) ∧ m ≤ k ∧ r.mt (s.take m) ∧ ∀ j, m < j → j ≤ k → ¬ r.mt (s.take j)
theorem BestL.uniq {r : Rx} {s : List UInt8} {k : Nat} {n n' : Int} (h : BestL r s k n) (h' : BestL r s k n') : n = n' := by
  rcases h with ⟨rfl, h⟩ | ⟨m, rfl, h1, h2, h3⟩ <;> rcases h' with ⟨rfl, h'⟩ | ⟨m', rfl, h1', h2', h3'⟩
  · rfl
  · exact absurd h2' (h m' h1')
  · exact absurd h2 (h' m h1)
  · rcases Nat.lt_trichotomy m m' with c | c | c
    · exact absurd h2' (h3 m' c h1')
    · rw [c]
    · exact absurd h2 (h3' m c h1)
theorem lgo_best (r : Rx) (s : List UInt8) : ∀ (t u : List UInt8) (S : Nat → Bool) (n : Int), u ++ t = s → AtS r u S → BestL r s u.length n → BestL r s s.length (lgo r S t u.length n)
  | [], u, S, n, e, _, hb => by
    rw [List.append_nil] at e
    subst e
    exact hb
  | b :: t, u, S, n, e, hS, hb => by
    have e' : (u ++ [b]) ++ t = s := by rw [← e]; simp
    have ih := lgo_best r s t (u ++ [b]) (stp r S b) (if fin' r S b then ((u.length + 1 : Nat) : Int) else n) e' (hS.step b) ?_
    · rw [List.length_append, List.length_singleton] at ih
      exact ih
    · have htk : s.take (u.length + 1) = u ++ [b] := by
        rw [← e', List.take_append_of_le_length (by simp), List.take_of_length_le (by simp)]
      rw [List.length_append, List.length_singleton]
      by_cases c : fin' r S b = true
      · rw [if_pos c]
        exact .inr ⟨u.length + 1, rfl, Nat.le_refl _, by rw [htk]; exact (hS.fin b).1 c, fun j h1 h2 => by omega⟩
      · rw [if_neg c]
        have hno : ¬ r.mt (s.take (u.length + 1)) := by rw [htk]; exact fun q => c ((hS.fin b).2 q)
        rcases hb with ⟨h1, h2⟩ | ⟨m, h0, h1, h2, h3⟩
        · refine .inl ⟨h1, fun j hj => ?_⟩
          by_cases q : j = u.length + 1
          · rw [q]; exact hno
          · exact h2 j (by omega)
        · refine .inr ⟨m, h0, by omega, h2, fun j k1 k2 => ?_⟩
          by_cases q : j = u.length + 1
          · rw [q]; exact hno
          · exact h3 j k1 (by omega)
theorem lng_best (r : Rx) (s : List UInt8) : BestL r s s.length (lng r s) := by
  refine lgo_best r s s [] (r.fst 0) _ rfl (AtS.start r) ?_
  by_cases c : r.nul = true
  · rw [if_pos c]
    exact .inr ⟨0, rfl, Nat.le_refl _, by rw [List.take_zero]; exact r.nul_mt.1 c, fun j h1 h2 => by simp at h2; omega⟩
  · rw [if_neg c]
    exact .inl ⟨rfl, fun j hj => by
      obtain rfl : j = 0 := by simpa using hj
      rw [List.take_zero]
      exact fun q => c (r.nul_mt.2 q)⟩
/-- nothing more is matched once no place is reached -/
theorem lgo_dead (r : Rx) : ∀ (t : List UInt8) (S : Nat → Bool) (i : Nat) (n : Int), (∀ p, S p = false) → lgo r S t i n = n
  | [], _, _, _, _ => rfl
  | b :: t, S, i, n, h => by
    have h1 : fin' r S b = false := by unfold fin'; simp [h]
    have h2 : ∀ q, stp r S b q = false := fun q => by unfold stp; simp [h]
    rw [lgo, h1, lgo_dead r t _ _ _ h2]
    rfl

end Go.Proofs.YtfkljlncnfeklaaGreatDoor

/-! Patterns as strings: the tokens of an expression's text, and that the parser reads them as the expression. -/
namespace Go.Proofs.YtfkljlncnfeklaaGreatDoor
set_option linter.unusedVariables false

/-- how tightly an expression binds -/
def Rx.sg : Rx → Nat
  | .alt _ _ => 1
  | .seq _ _ => 2
  | .rep _ => 3
  | _ => 4
abbrev Tok := Bool × Nat
/-- the tokens of the text of an expression where a place demands that it binds as tightly as least -/
def Rx.tks : Rx → Nat → List Tok
  | .emp, _ => [(true, 40), (true, 41)]
  | .rng lo hi, _ => if lo = hi then [(false, lo)] else [(true, 91), (false, lo), (true, 45), (false, hi), (true, 93)]
  | .seq a b, least => if 2 < least then (true, 40) :: (a.tks 2 ++ b.tks 3) ++ [(true, 41)] else a.tks 2 ++ b.tks 3
  | .alt a b, least => if 1 < least then (true, 40) :: (a.tks 1 ++ (true, 124) :: b.tks 2) ++ [(true, 41)] else a.tks 1 ++ (true, 124) :: b.tks 2
  | .rep a, least => if 3 < least then (true, 40) :: (a.tks 3 ++ [(true, 42)]) ++ [(true, 41)] else a.tks 3 ++ [(true, 42)]
/-- an atom can begin with the next token -/
def atA : List Tok → Bool
  | (false, _) :: _ => true
  | (true, v) :: _ => v == 91 || v == 40
  | [] => false
/-- asterisks -/
def strs (r : Rx) : List Tok → Rx × List Tok
  | (true, v) :: t => if v = 42 then strs (.rep r) t else (r, (true, v) :: t)
  | t => (r, t)
section
variable (G : List Tok → Option (Rx × List Tok))
def brG : List Tok → Option (Rx × List Tok)
  | (false, lo) :: (true, d) :: (false, hi) :: (true, e) :: t' => if d = 45 ∧ e = 93 ∧ lo ≤ hi then some (.rng lo hi, t') else none
  | _ => none
def parG (t : List Tok) : Option (Rx × List Tok) := if t.head? = some (true, 41) then some (.emp, t.tail) else match G t with
  | some (r, (true, c) :: t') => if c = 41 then some (r, t') else none
  | _ => none
def atmG : List Tok → Option (Rx × List Tok)
  | (false, v) :: t => some (.rng v v, t)
  | (true, v) :: t =>
    if v = 91 then brG t else
    if v = 40 then parG G t else none
  | [] => none
def repG (t : List Tok) : Option (Rx × List Tok) := (atmG G t).map fun p => strs p.1 p.2
def seqL : Nat → Rx → List Tok → Option (Rx × List Tok)
  | 0, _, _ => none
  | k + 1, r, t => if atA t then (repG G t).bind fun p => seqL k (.seq r p.1) p.2 else some (r, t)
def seqG (t : List Tok) : Option (Rx × List Tok) := (repG G t).bind fun p => seqL G (p.2.length + 1) p.1 p.2
def altL : Nat → Rx → List Tok → Option (Rx × List Tok)
  | 0, _, _ => none
  | k + 1, r, t => match t with
    | (true, v) :: t' => if v = 124 then (seqG G t').bind fun p => altL k (.alt r p.1) p.2 else some (r, (true, v) :: t')
    | t => some (r, t)
def altG (t : List Tok) : Option (Rx × List Tok) := (seqG G t).bind fun p => altL G (p.2.length + 1) p.1 p.2
end
/-- the rule alt, parentheses at most n deep -/
def pAlt : Nat → List Tok → Option (Rx × List Tok)
  | 0, _ => none
  | n + 1, t => altG (pAlt n) t

/-! ### Tokens are used up -/
def Eats (G : List Tok → Option (Rx × List Tok)) : Prop := ∀ t r t', G t = some (r, t') → t'.length < t.length
theorem strs_le : ∀ (t : List Tok) (r : Rx), (strs r t).2.length ≤ t.length
  | [], r => Nat.le_refl _
  | (false, v) :: t, r => Nat.le_refl _
  | (true, v) :: t, r => by
    unfold strs
    split
    · have := strs_le t (.rep r); simp; omega
    · exact Nat.le_refl _
section
variable {G : List Tok → Option (Rx × List Tok)}
theorem atm_eats (hG : Eats G) : Eats (atmG G) := fun t r t' h => by
  unfold atmG at h
  split at h
  · injection h with h; injection h with h1 h2; subst h2; simp
  · rename_i v t
    split at h
    · unfold brG at h
      split at h
      · split at h
        · injection h with h; injection h with h1 h2; subst h2; simp; omega
        · cases h
      · cases h
    · split at h
      · unfold parG at h
        split at h
        · injection h with h; injection h with h1 h2; subst h2; simp; omega
        · split at h
          · rename_i hg
            have := hG _ _ _ hg
            split at h
            · injection h with h; injection h with h1 h2; subst h2; simp at this ⊢; omega
            · cases h
          · cases h
      · cases h
  · cases h
theorem rep_eats (hG : Eats G) : Eats (repG G) := fun t r t' h => by
  unfold repG at h
  rcases ha : atmG G t with _ | ⟨q, u⟩
  · rw [ha] at h; cases h
  · rw [ha] at h
    injection h with h
    have h2 := congrArg Prod.snd h
    have := atm_eats hG _ _ _ ha
    have := strs_le u q
    change (strs q u).2 = t' at h2
    rw [← h2]
    omega
theorem seqL_fuel (hG : Eats G) : ∀ k k' r t, t.length < k → t.length < k' → seqL G k r t = seqL G k' r t
  | 0, _, _, _, h, _ => by omega
  | _, 0, _, _, _, h => by omega
  | k + 1, k' + 1, r, t, h, h' => by
    unfold seqL
    split
    · rcases hr : repG G t with _ | ⟨q, u⟩
      · rfl
      · have := rep_eats hG _ _ _ hr
        exact seqL_fuel hG k k' (.seq r q) u (by omega) (by omega)
    · rfl
theorem seqL_le (hG : Eats G) : ∀ k r t r' t', seqL G k r t = some (r', t') → t'.length ≤ t.length
  | 0, _, _, _, _, h => by cases h
  | k + 1, r, t, r', t', h => by
    unfold seqL at h
    split at h
    · rcases hr : repG G t with _ | ⟨q, u⟩
      · rw [hr] at h; cases h
      · rw [hr] at h
        have := rep_eats hG _ _ _ hr
        have := seqL_le hG k (.seq r q) u r' t' h
        omega
    · injection h with h; injection h with h1 h2; subst h2; exact Nat.le_refl _
theorem seq_eats (hG : Eats G) : Eats (seqG G) := fun t r t' h => by
  unfold seqG at h
  rcases hr : repG G t with _ | ⟨q, u⟩
  · rw [hr] at h; cases h
  · rw [hr] at h
    have := rep_eats hG _ _ _ hr
    have := seqL_le hG _ q u r t' h
    omega
theorem altL_fuel (hG : Eats G) : ∀ k k' r t, t.length < k → t.length < k' → altL G k r t = altL G k' r t
  | 0, _, _, _, h, _ => by omega
  | _, 0, _, _, _, h => by omega
  | k + 1, k' + 1, r, [], h, h' => rfl
  | k + 1, k' + 1, r, (false, v) :: t, h, h' => rfl
  | k + 1, k' + 1, r, (true, v) :: t, h, h' => by
    show (if v = 124 then _ else _) = (if v = 124 then _ else _)
    split
    · rcases hr : seqG G t with _ | ⟨q, u⟩
      · rfl
      · have := seq_eats hG _ _ _ hr
        simp at h h'
        exact altL_fuel hG k k' (.alt r q) u (by omega) (by omega)
    · rfl
theorem altL_le (hG : Eats G) : ∀ k r t r' t', altL G k r t = some (r', t') → t'.length ≤ t.length
  | 0, _, _, _, _, h => by cases h
  | k + 1, r, [], r', t', h => by injection h with h; injection h with h1 h2; subst h2; exact Nat.le_refl _
  | k + 1, r, (false, v) :: t, r', t', h => by injection h with h; injection h with h1 h2; subst h2; exact Nat.le_refl _
  | k + 1, r, (true, v) :: t, r', t', h => by
    change (if v = 124 then _ else _) = _ at h
    split at h
    · rcases hr : seqG G t with _ | ⟨q, u⟩
      · rw [hr] at h; cases h
      · rw [hr] at h
        have := seq_eats hG _ _ _ hr
        have := altL_le hG k (.alt r q) u r' t' h
        simp; omega
    · injection h with h; injection h with h1 h2; subst h2; exact Nat.le_refl _
theorem alt_eats (hG : Eats G) : Eats (altG G) := fun t r t' h => by
  unfold altG at h
  rcases hr : seqG G t with _ | ⟨q, u⟩
  · rw [hr] at h; cases h
  · rw [hr] at h
    have := seq_eats hG _ _ _ hr
    have := altL_le hG _ q u r t' h
    omega
end
theorem pAlt_eats : ∀ n, Eats (pAlt n)
  | 0 => fun t r t' h => by cases h
  | n + 1 => alt_eats (pAlt_eats n)

/-! ### The text is read as the expression -/
def nStar (t : List Tok) : Prop := ∀ t', t ≠ (true, 42) :: t'
def nAlt (t : List Tok) : Prop := ∀ t', t ≠ (true, 124) :: t'
theorem tok_ne {a b : Tok} {t u : List Tok} (h : a ≠ b) : a :: t ≠ b :: u := fun e => h (by injection e)
theorem strs_no {r : Rx} {t : List Tok} (h : nStar t) : strs r t = (r, t) := by
  rcases t with _ | ⟨⟨b, v⟩, t⟩
  · rfl
  · cases b
    · rfl
    · unfold strs
      rw [if_neg (fun q => h t (by rw [q]))]
theorem strs_star (r : Rx) (t : List Tok) : strs r ((true, 42) :: t) = strs (.rep r) t := by
  rw [strs, if_pos rfl]
/-- an expression's text begins an atom -/
theorem tks_at : ∀ (r : Rx) (least : Nat) (t : List Tok), atA (r.tks least ++ t) = true ∧ nStar (r.tks least ++ t) ∧ ∀ u, r.tks least ++ t ≠ (true, 41) :: u
  | .emp, least, t => ⟨rfl, fun t' => tok_ne (by simp), fun t' => tok_ne (by simp)⟩
  | .rng lo hi, least, t => by
    unfold Rx.tks
    split
    · exact ⟨rfl, fun t' => tok_ne (by simp), fun t' => tok_ne (by simp)⟩
    · exact ⟨rfl, fun t' => tok_ne (by simp), fun t' => tok_ne (by simp)⟩
  | .seq a b, least, t => by
    unfold Rx.tks
    split
    · exact ⟨rfl, fun t' => tok_ne (by simp), fun t' => tok_ne (by simp)⟩
    · rw [List.append_assoc]; exact tks_at a 2 _
  | .alt a b, least, t => by
    unfold Rx.tks
    split
    · exact ⟨rfl, fun t' => tok_ne (by simp), fun t' => tok_ne (by simp)⟩
    · rw [List.append_assoc]; exact tks_at a 1 _
  | .rep a, least, t => by
    unfold Rx.tks
    split
    · exact ⟨rfl, fun t' => tok_ne (by simp), fun t' => tok_ne (by simp)⟩
    · rw [List.append_assoc]; exact tks_at a 3 _
/-- how deep the parentheses are at most -/
def Rx.dp : Rx → Nat
  | .seq a b => a.dp + b.dp + 2
  | .alt a b => a.dp + b.dp + 2
  | .rep a => a.dp + 2
  | _ => 1
theorem Rx.dp_pos (r : Rx) : 1 ≤ r.dp := by cases r <;> simp [Rx.dp]
theorem Rx.tks_pos (r : Rx) (least : Nat) : 1 ≤ (r.tks least).length := by
  have := (tks_at r least []).1
  rw [List.append_nil] at this
  cases h : r.tks least with
  | nil => rw [h] at this; cases this
  | cons a l => simp
/-- bytes in order -/
def Rx.ok : Rx → Prop
  | .emp => True
  | .rng lo hi => lo ≤ hi
  | .seq a b => a.ok ∧ b.ok
  | .alt a b => a.ok ∧ b.ok
  | .rep a => a.ok
theorem atm_par {n : Nat} {r : Rx} {body t : List Tok} (hb : ∀ u, body ++ (true, 41) :: t ≠ (true, 41) :: u) (h : pAlt n (body ++ (true, 41) :: t) = some (r, (true, 41) :: t)) : atmG (pAlt n) ((true, 40) :: body ++ [(true, 41)] ++ t) = some (r, t) := by
  have e : (true, 40) :: body ++ [(true, 41)] ++ t = (true, 40) :: (body ++ (true, 41) :: t) := by simp
  rw [e, atmG, if_neg (by decide), if_pos rfl]
  unfold parG
  rw [if_neg, h]
  · simp
  · intro q
    cases hx : body ++ (true, 41) :: t with
    | nil => rw [hx] at q; cases q
    | cons a u =>
      rw [hx] at q
      injection q with q
      exact hb u (by rw [hx, q])
/-- the four rules -/
structure Rds (r : Rx) (n : Nat) : Prop where
  atm : ∀ t, atmG (pAlt n) (r.tks 4 ++ t) = some (r, t)
  rep : ∀ t, repG (pAlt n) (r.tks 3 ++ t) = some (strs r t)
  seq : ∀ t, nStar t → seqG (pAlt n) (r.tks 2 ++ t) = seqL (pAlt n) (t.length + 1) r t
  alt : ∀ t, nStar t → atA t = false → altG (pAlt n) (r.tks 1 ++ t) = altL (pAlt n) (t.length + 1) r t
section
variable {n : Nat} {r : Rx}
theorem rep_of_atm (h : ∀ t, atmG (pAlt n) (r.tks 3 ++ t) = some (r, t)) (t : List Tok) : repG (pAlt n) (r.tks 3 ++ t) = some (strs r t) := by
  unfold repG; rw [h]; rfl
theorem seq_of_rep (h : ∀ t, repG (pAlt n) (r.tks 2 ++ t) = some (strs r t)) (t : List Tok) (hs : nStar t) : seqG (pAlt n) (r.tks 2 ++ t) = seqL (pAlt n) (t.length + 1) r t := by
  unfold seqG; rw [h, strs_no hs]; rfl
theorem alt_of_seq (h : ∀ t, nStar t → seqG (pAlt n) (r.tks 1 ++ t) = seqL (pAlt n) (t.length + 1) r t) (t : List Tok) (hs : nStar t) (ha : atA t = false) : altG (pAlt n) (r.tks 1 ++ t) = altL (pAlt n) (t.length + 1) r t := by
  unfold altG
  rw [h t hs, seqL, if_neg (by rw [ha]; decide)]
  rfl
theorem alt_end (t : List Tok) (ha : nAlt t) (k : Nat) : altL (pAlt n) (k + 1) r t = some (r, t) := by
  rcases t with _ | ⟨⟨b, v⟩, t⟩
  · rfl
  · cases b
    · rfl
    · show (if v = 124 then _ else _) = _
      rw [if_neg (fun q => ha t (by rw [q]))]
theorem n41 (t : List Tok) : nStar ((true, 41) :: t) ∧ nAlt ((true, 41) :: t) ∧ atA ((true, 41) :: t) = false :=
  ⟨fun t' => tok_ne (by simp), fun t' => tok_ne (by simp), rfl⟩
end
theorem rds_all : ∀ (r : Rx), r.ok → ∀ n, r.dp ≤ n + 1 → Rds r n
  | .emp, _, n, hn => by
    have h : ∀ least t, atmG (pAlt n) (Rx.emp.tks least ++ t) = some (.emp, t) := fun least t => by
      show atmG (pAlt n) ((true, 40) :: (true, 41) :: t) = _
      rw [atmG, if_neg (by decide), if_pos rfl]
      rfl
    have h3 := rep_of_atm (n := n) (r := .emp) (h 3)
    have h2 := seq_of_rep (n := n) (r := .emp) h3
    exact ⟨h 4, h3, h2, alt_of_seq h2⟩
  | .rng lo hi, hok, n, hn => by
    have h : ∀ least t, atmG (pAlt n) ((Rx.rng lo hi).tks least ++ t) = some (.rng lo hi, t) := fun least t => by
      unfold Rx.tks
      split
      · rename_i e
        subst e
        rfl
      · show atmG (pAlt n) ((true, 91) :: (false, lo) :: (true, 45) :: (false, hi) :: (true, 93) :: t) = _
        rw [atmG, if_pos rfl, brG, if_pos ⟨rfl, rfl, hok⟩]
    have h3 := rep_of_atm (n := n) (r := .rng lo hi) (h 3)
    have h2 := seq_of_rep (n := n) (r := .rng lo hi) h3
    exact ⟨h 4, h3, h2, alt_of_seq h2⟩
  | .seq a b, hok, n, hn => by
    have ha : ∀ m, a.dp ≤ m + 1 → Rds a m := fun m hm => rds_all a hok.1 m hm
    have hb : ∀ m, b.dp ≤ m + 1 → Rds b m := fun m hm => rds_all b hok.2 m hm
    change a.dp + b.dp + 2 ≤ n + 1 at hn
    have sq : ∀ m, a.dp + b.dp ≤ m → ∀ t, nStar t → seqG (pAlt m) (a.tks 2 ++ (b.tks 3 ++ t)) = seqL (pAlt m) (t.length + 1) (.seq a b) t := fun m hm t hs => by
      have k := tks_at b 3 t
      rw [(ha m (by omega)).seq _ k.2.1, seqL, if_pos k.1, (hb m (by omega)).rep t, strs_no hs]
      show seqL (pAlt m) _ (.seq a b) t = _
      exact seqL_fuel (pAlt_eats m) _ _ _ _ (by rw [List.length_append]; have := b.tks_pos 3; omega) (by omega)
    have h2 : ∀ t, nStar t → seqG (pAlt n) ((Rx.seq a b).tks 2 ++ t) = seqL (pAlt n) (t.length + 1) (.seq a b) t := fun t hs => by
      show seqG (pAlt n) ((a.tks 2 ++ b.tks 3) ++ t) = _
      rw [List.append_assoc]
      exact sq n (by omega) t hs
    have h1 : ∀ t, nStar t → seqG (pAlt n) ((Rx.seq a b).tks 1 ++ t) = seqL (pAlt n) (t.length + 1) (.seq a b) t := h2
    have hp : ∀ t, atmG (pAlt n) ((true, 40) :: (a.tks 2 ++ b.tks 3) ++ [(true, 41)] ++ t) = some (.seq a b, t) := fun t => by
      obtain ⟨m, rfl⟩ : ∃ m, n = m + 1 := ⟨n - 1, by have := a.dp_pos; omega⟩
      refine atm_par (fun u => by rw [List.append_assoc]; exact (tks_at a 2 _).2.2 u) ?_
      show altG (pAlt m) _ = _
      obtain ⟨e1, e2, e3⟩ := n41 t
      have h1' : ∀ t, nStar t → seqG (pAlt m) ((Rx.seq a b).tks 1 ++ t) = seqL (pAlt m) (t.length + 1) (.seq a b) t := fun t hs => by
        show seqG (pAlt m) ((a.tks 2 ++ b.tks 3) ++ t) = _
        rw [List.append_assoc]
        exact sq m (by omega) t hs
      exact (alt_of_seq h1' _ e1 e3).trans (alt_end _ e2 _)
    exact ⟨hp, rep_of_atm hp, h2, alt_of_seq h1⟩
  | .alt a b, hok, n, hn => by
    have ha : ∀ m, a.dp ≤ m + 1 → Rds a m := fun m hm => rds_all a hok.1 m hm
    have hb : ∀ m, b.dp ≤ m + 1 → Rds b m := fun m hm => rds_all b hok.2 m hm
    change a.dp + b.dp + 2 ≤ n + 1 at hn
    have al : ∀ m, a.dp + b.dp ≤ m → ∀ t, nStar t → atA t = false → altG (pAlt m) (a.tks 1 ++ (true, 124) :: b.tks 2 ++ t) = altL (pAlt m) (t.length + 1) (.alt a b) t := fun m hm t hs hat => by
      have e9 : a.tks 1 ++ (true, 124) :: b.tks 2 ++ t = a.tks 1 ++ (true, 124) :: (b.tks 2 ++ t) := by simp
      rw [e9, (ha m (by omega)).alt _ (fun t' => tok_ne (by simp)) rfl]
      rw [altL, if_pos rfl, (hb m (by omega)).seq t hs, seqL, if_neg (by rw [hat]; decide)]
      show altL (pAlt m) _ (.alt a b) t = _
      exact altL_fuel (pAlt_eats m) _ _ _ _ (by simp; omega) (by omega)
    have h1 : ∀ t, nStar t → atA t = false → altG (pAlt n) ((Rx.alt a b).tks 1 ++ t) = altL (pAlt n) (t.length + 1) (.alt a b) t := fun t hs hat => al n (by omega) t hs hat
    have hp : ∀ t, atmG (pAlt n) ((true, 40) :: (a.tks 1 ++ (true, 124) :: b.tks 2) ++ [(true, 41)] ++ t) = some (.alt a b, t) := fun t => by
      obtain ⟨m, rfl⟩ : ∃ m, n = m + 1 := ⟨n - 1, by have := a.dp_pos; omega⟩
      refine atm_par (fun u => by rw [List.append_assoc]; exact (tks_at a 1 _).2.2 u) ?_
      show altG (pAlt m) _ = _
      obtain ⟨e1, e2, e3⟩ := n41 t
      exact (al m (by omega) _ e1 e3).trans (alt_end _ e2 _)
    have h3 : ∀ t, repG (pAlt n) ((Rx.alt a b).tks 3 ++ t) = some (strs (.alt a b) t) := rep_of_atm hp
    exact ⟨hp, h3, seq_of_rep h3, h1⟩
  | .rep a, hok, n, hn => by
    have ha : ∀ m, a.dp ≤ m + 1 → Rds a m := fun m hm => rds_all a hok m hm
    change a.dp + 2 ≤ n + 1 at hn
    have rp : ∀ m, a.dp ≤ m → ∀ t, repG (pAlt m) (a.tks 3 ++ [(true, 42)] ++ t) = some (strs (.rep a) t) := fun m hm t => by
      rw [List.append_assoc, (ha m (by omega)).rep]
      show some (strs a ((true, 42) :: t)) = _
      rw [strs_star]
    have h3 : ∀ t, repG (pAlt n) ((Rx.rep a).tks 3 ++ t) = some (strs (.rep a) t) := rp n (by omega)
    have h2 : ∀ t, nStar t → seqG (pAlt n) ((Rx.rep a).tks 2 ++ t) = seqL (pAlt n) (t.length + 1) (.rep a) t := seq_of_rep (r := .rep a) h3
    have hp : ∀ t, atmG (pAlt n) ((true, 40) :: (a.tks 3 ++ [(true, 42)]) ++ [(true, 41)] ++ t) = some (.rep a, t) := fun t => by
      obtain ⟨m, rfl⟩ : ∃ m, n = m + 1 := ⟨n - 1, by have := a.dp_pos; omega⟩
      refine atm_par (fun u => by rw [List.append_assoc]; exact (tks_at a 3 _).2.2 u) ?_
      show altG (pAlt m) _ = _
      obtain ⟨e1, e2, e3⟩ := n41 t
      have h3' : ∀ t, repG (pAlt m) ((Rx.rep a).tks 2 ++ t) = some (strs (.rep a) t) := rp m (by omega)
      have h2' : ∀ t, nStar t → seqG (pAlt m) ((Rx.rep a).tks 1 ++ t) = seqL (pAlt m) (t.length + 1) (.rep a) t := seq_of_rep (r := .rep a) h3'
      exact (alt_of_seq (r := .rep a) h2' _ e1 e3).trans (alt_end _ e2 _)
    exact ⟨hp, h3, h2, alt_of_seq (r := .rep a) h2⟩
/-- the whole text -/
theorem pAlt_tks (r : Rx) (h : r.ok) {n : Nat} (hn : r.dp ≤ n + 1) : pAlt (n + 1) (r.tks 1) = some (r, []) := by
  have := (rds_all r h n hn).alt [] (fun t' h => by cases h) rfl
  rw [List.append_nil] at this
  show altG (pAlt n) (r.tks 1) = _
  rw [this]
  exact alt_end [] (fun t' h => by cases h) _

end Go.Proofs.YtfkljlncnfeklaaGreatDoor

/-! Patterns in plain mathematics: which lists of nodes are valid, and the expression of a node. -/
namespace Go.Proofs.YtfkljlncnfeklaaGreatDoor
set_option linter.unusedVariables false

/-- a node of any five ints: kind, bytes from and to, two operands -/
abbrev Pn := Int × Int × Int × Int × Int
def pk (l : List Pn) (k : Nat) : Int := (l.getD k (0, 0, 0, 0, 0)).1
def plo (l : List Pn) (k : Nat) : Int := (l.getD k (0, 0, 0, 0, 0)).2.1
def phi (l : List Pn) (k : Nat) : Int := (l.getD k (0, 0, 0, 0, 0)).2.2.1
def pa (l : List Pn) (k : Nat) : Int := (l.getD k (0, 0, 0, 0, 0)).2.2.2.1
def pb (l : List Pn) (k : Nat) : Int := (l.getD k (0, 0, 0, 0, 0)).2.2.2.2
/-- the formula's node with the same operands -/
def ph (x : Pn) : Fi := (if x.1 = 2 then 4 else if x.1 = 3 then 5 else if x.1 = 4 then 3 else 0, 0, x.2.2.2.1, x.2.2.2.2)
/-- how many operands a kind has -/
def arP (k : Int) : Nat := if k = 2 then 2 else if k = 3 then 2 else if k = 4 then 1 else 0
/-- kind and bytes -/
def rgP (x : Pn) : Bool := decide (0 ≤ x.1) && decide (x.1 ≤ 4) && (decide (x.1 = 1) || (decide (x.2.1 = 0) && decide (x.2.2.1 = 0))) && decide (0 ≤ x.2.1) && decide (x.2.1 ≤ x.2.2.1) && decide (x.2.2.1 ≤ 255)
def okP (l : List Pn) : Prop := okF (l.map ph) ∧ ∀ i, i < l.length → rgP (l.getD i (0, 0, 0, 0, 0)) = true
/-- what Check answers -/
noncomputable def chP (l : List Pn) : Int := open Classical in if 512 < l.length then 2 else if okP l then 0 else 40
theorem ph_get (l : List Pn) (k : Nat) : (l.map ph).getD k (0, 0, 0, 0) = ph (l.getD k (0, 0, 0, 0, 0)) := by
  rw [List.getD_eq_getElem?_getD, List.getD_eq_getElem?_getD, List.getElem?_map]
  cases l[k]? <;> rfl
theorem ph_ar (x : Pn) : ar (ph x).1 = arP x.1 := by
  unfold ph arP
  by_cases h2 : x.1 = 2
  · simp only [h2, if_true]; rfl
  by_cases h3 : x.1 = 3
  · simp only [h3]; rfl
  by_cases h4 : x.1 = 4
  · simp only [h4]; rfl
  simp only [h2, h3, h4, if_false]
  rfl
theorem fo_ph (l : List Pn) (k : Nat) : ar (fo (l.map ph) k) = arP (pk l k) := by
  unfold fo pk
  rw [ph_get, ph_ar]
theorem fa_ph (l : List Pn) (k : Nat) : fa (l.map ph) k = pa l k := by
  unfold fa pa
  rw [ph_get]
  rfl
theorem fb_ph (l : List Pn) (k : Nat) : fb (l.map ph) k = pb l k := by
  unfold fb pb
  rw [ph_get]
  rfl
/-- the expression of node k -/
def rx (l : List Pn) : Nat → Nat → Rx
  | 0, _ => .emp
  | n + 1, k =>
    if pk l k = 1 then .rng (plo l k).toNat (phi l k).toNat else
    if pk l k = 2 then .seq (rx l n (pa l k).toNat) (rx l n (pb l k).toNat) else
    if pk l k = 3 then .alt (rx l n (pa l k).toNat) (rx l n (pb l k).toNat) else
    if pk l k = 4 then .rep (rx l n (pa l k).toNat) else .emp
/-- what a node of a valid list is -/
structure NdP (l : List Pn) (k : Nat) : Prop where
  kd : 0 ≤ pk l k ∧ pk l k ≤ 4
  by' : 0 ≤ plo l k ∧ plo l k ≤ phi l k ∧ phi l k ≤ 255
  b0 : pk l k ≠ 1 → plo l k = 0 ∧ phi l k = 0
  a1 : 2 ≤ pk l k → 0 ≤ pa l k ∧ (pa l k).toNat < k
  b1 : pk l k = 2 ∨ pk l k = 3 → 0 ≤ pb l k ∧ (pb l k).toNat < k
  a0 : pk l k < 2 → pa l k = 0
  b00 : pk l k ≠ 2 → pk l k ≠ 3 → pb l k = 0
theorem okP.nd {l : List Pn} (h : okP l) {k : Nat} (hk : k < l.length) : NdP l k := by
  have h1 := h.2 k hk
  have h2 := h.1.2.2.1 k (by rw [List.length_map]; exact hk)
  unfold rgP at h1
  simp only [Bool.and_eq_true, Bool.or_eq_true, decide_eq_true_eq] at h1
  have ha := kid_a h2
  have hb := kid_b h2
  have hp := h2.1
  unfold plN at hp
  simp only [Bool.and_eq_true, Bool.or_eq_true, decide_eq_true_eq] at hp
  rw [fo_ph, fa_ph] at ha
  rw [fo_ph, fb_ph] at hb
  rw [fo_ph, fa_ph, fb_ph] at hp
  obtain ⟨⟨⟨⟨⟨q1, q2⟩, q3⟩, q4⟩, q5⟩, q6⟩ := h1
  have e1 : (l.getD k (0, 0, 0, 0, 0)).1 = pk l k := rfl
  have e2 : (l.getD k (0, 0, 0, 0, 0)).2.1 = plo l k := rfl
  have e3 : (l.getD k (0, 0, 0, 0, 0)).2.2.1 = phi l k := rfl
  rw [e1] at q1 q2 q3
  rw [e2] at q3 q4 q5
  rw [e3] at q3 q5 q6
  have har : (pk l k = 2 ∨ pk l k = 3 → arP (pk l k) = 2) ∧ (pk l k = 4 → arP (pk l k) = 1) ∧ (pk l k < 2 → arP (pk l k) = 0) := by
    refine ⟨fun q => ?_, fun q => ?_, fun q => ?_⟩
    · rcases q with q | q <;> rw [q] <;> rfl
    · rw [q]; rfl
    · unfold arP
      rw [if_neg (by omega), if_neg (by omega), if_neg (by omega)]
  generalize arP (pk l k) = A at *
  refine ⟨⟨q1, q2⟩, ⟨q4, q5, q6⟩, fun q => by omega, fun q => ?_, fun q => hb (har.1 q), fun q => ?_, fun q q' => ?_⟩
  · have : 1 ≤ A := by
      rcases (show pk l k = 2 ∨ pk l k = 3 ∨ pk l k = 4 by omega) with r | r | r
      · rw [har.1 (.inl r)]; omega
      · rw [har.1 (.inr r)]; omega
      · rw [har.2.1 r]; omega
    exact ha this
  · have := har.2.2 q; omega
  · rcases (show pk l k < 2 ∨ pk l k = 4 by omega) with r | r
    · have := har.2.2 r; omega
    · have := har.2.1 r; omega
section
variable {l : List Pn}
theorem rx_fuel (h : okP l) : ∀ n n' k, k < n → k < n' → k < l.length → rx l n k = rx l n' k
  | 0, _, _, h1, _, _ => by omega
  | _, 0, _, _, h2, _ => by omega
  | n + 1, n' + 1, k, h1, h2, hk => by
    have nd := h.nd hk
    unfold rx
    by_cases c1 : pk l k = 1
    · rw [if_pos c1, if_pos c1]
    rw [if_neg c1, if_neg c1]
    by_cases c2 : pk l k = 2
    · have ha := nd.a1 (by omega)
      have hb := nd.b1 (.inl c2)
      rw [if_pos c2, if_pos c2, rx_fuel h n n' (pa l k).toNat (by omega) (by omega) (by omega), rx_fuel h n n' (pb l k).toNat (by omega) (by omega) (by omega)]
    rw [if_neg c2, if_neg c2]
    by_cases c3 : pk l k = 3
    · have ha := nd.a1 (by omega)
      have hb := nd.b1 (.inr c3)
      rw [if_pos c3, if_pos c3, rx_fuel h n n' (pa l k).toNat (by omega) (by omega) (by omega), rx_fuel h n n' (pb l k).toNat (by omega) (by omega) (by omega)]
    rw [if_neg c3, if_neg c3]
    by_cases c4 : pk l k = 4
    · have ha := nd.a1 (by omega)
      rw [if_pos c4, if_pos c4, rx_fuel h n n' (pa l k).toNat (by omega) (by omega) (by omega)]
    rw [if_neg c4, if_neg c4]
/-- the expression of a node -/
def rxN (l : List Pn) (k : Nat) : Rx := rx l (k + 1) k
theorem rxN_1 {k : Nat} (c : pk l k = 1) : rxN l k = .rng (plo l k).toNat (phi l k).toNat := by unfold rxN rx; rw [if_pos c]
theorem rxN_0 {k : Nat} (c : pk l k = 0) : rxN l k = .emp := by unfold rxN rx; rw [if_neg (by omega), if_neg (by omega), if_neg (by omega), if_neg (by omega)]
theorem rxN_2 (h : okP l) {k : Nat} (hk : k < l.length) (c : pk l k = 2) : rxN l k = .seq (rxN l (pa l k).toNat) (rxN l (pb l k).toNat) := by
  have ha := (h.nd hk).a1 (by omega)
  have hb := (h.nd hk).b1 (.inl c)
  unfold rxN
  rw [rx, if_neg (by omega), if_pos c, rx_fuel h k ((pa l k).toNat + 1) _ (by omega) (by omega) (by omega), rx_fuel h k ((pb l k).toNat + 1) _ (by omega) (by omega) (by omega)]
theorem rxN_3 (h : okP l) {k : Nat} (hk : k < l.length) (c : pk l k = 3) : rxN l k = .alt (rxN l (pa l k).toNat) (rxN l (pb l k).toNat) := by
  have ha := (h.nd hk).a1 (by omega)
  have hb := (h.nd hk).b1 (.inr c)
  unfold rxN
  rw [rx, if_neg (by omega), if_neg (by omega), if_pos c, rx_fuel h k ((pa l k).toNat + 1) _ (by omega) (by omega) (by omega), rx_fuel h k ((pb l k).toNat + 1) _ (by omega) (by omega) (by omega)]
theorem rxN_4 (h : okP l) {k : Nat} (hk : k < l.length) (c : pk l k = 4) : rxN l k = .rep (rxN l (pa l k).toNat) := by
  have ha := (h.nd hk).a1 (by omega)
  unfold rxN
  rw [rx, if_neg (by omega), if_neg (by omega), if_neg (by omega), if_pos c, rx_fuel h k ((pa l k).toNat + 1) _ (by omega) (by omega) (by omega)]
/-- there are at most half as many places as nodes -/
theorem rx_pl (h : okP l) : ∀ k, k < l.length → 2 * (rxN l k).pl ≤ ty (l.map ph) k + 1 := by
  intro k
  induction k using Nat.strongRecOn with
  | _ k ih =>
    intro hk
    have nd := h.nd hk
    have hty := ty_eq (l.map ph) l.length (fun i hi => h.1.2.2.1 i (by rw [List.length_map]; exact hi)) hk
    rw [fo_ph, fa_ph, fb_ph] at hty
    rcases (show pk l k = 0 ∨ pk l k = 1 ∨ pk l k = 2 ∨ pk l k = 3 ∨ pk l k = 4 by have := nd.kd; omega) with c | c | c | c | c
    · rw [rxN_0 c]; show 2 * 0 ≤ _; omega
    · rw [rxN_1 c, hty, c]; show 2 * 1 ≤ _ + 1; omega
    · have ha := nd.a1 (by omega)
      have hb := nd.b1 (.inl c)
      have i1 := ih _ ha.2 (by omega)
      have i2 := ih _ hb.2 (by omega)
      rw [rxN_2 h hk c]
      rw [if_pos (by rw [c]; decide), if_pos (by rw [c]; rfl)] at hty
      show 2 * ((rxN l (pa l k).toNat).pl + (rxN l (pb l k).toNat).pl) ≤ _
      omega
    · have ha := nd.a1 (by omega)
      have hb := nd.b1 (.inr c)
      have i1 := ih _ ha.2 (by omega)
      have i2 := ih _ hb.2 (by omega)
      rw [rxN_3 h hk c]
      rw [if_pos (by rw [c]; decide), if_pos (by rw [c]; rfl)] at hty
      show 2 * ((rxN l (pa l k).toNat).pl + (rxN l (pb l k).toNat).pl) ≤ _
      omega
    · have ha := nd.a1 (by omega)
      have i1 := ih _ ha.2 (by omega)
      rw [rxN_4 h hk c]
      rw [if_pos (by rw [c]; decide), if_neg (by rw [c]; decide)] at hty
      show 2 * (rxN l (pa l k).toNat).pl ≤ _
      omega
theorem rx_256 (h : okP l) : (rxN l (l.length - 1)).pl ≤ 256 := by
  have h1 := h.1.1
  have h2 := h.1.2.1
  rw [List.length_map] at h1 h2
  have h3 := rx_pl h (l.length - 1) (by omega)
  have h4 := ty_le (l.map ph) h.1
  rw [List.length_map] at h4
  omega
end

end Go.Proofs.YtfkljlncnfeklaaGreatDoor

/-! Patterns as strings: the bytes of tokens, and the tokens of bytes. -/
namespace Go.Proofs.YtfkljlncnfeklaaGreatDoor
set_option linter.unusedVariables false

/-- a byte that stands for itself -/
def plainB (b : Nat) : Bool := decide (33 ≤ b) && decide (b ≤ 126) && !(b == 40 || b == 41 || b == 42 || b == 45 || b == 91 || b == 92 || b == 93 || b == 124)
def resB (b : Nat) : Bool := b == 40 || b == 41 || b == 42 || b == 45 || b == 91 || b == 93 || b == 124
/-- the value of a digit -/
def hexV (b : UInt8) : Option Nat := if 48 ≤ b.toNat ∧ b.toNat ≤ 57 then some (b.toNat - 48) else if 97 ≤ b.toNat ∧ b.toNat ≤ 102 then some (b.toNat - 87) else none
/-- the byte whose number is at the beginning -/
def escV : List UInt8 → Option Nat
  | _ :: x :: h :: l :: _ => if x = 120 then (hexV h).bind fun a => (hexV l).map fun b => a * 16 + b else none
  | _ => none
/-- the tokens of a string, k bytes of which are to be skipped -/
def tkS : Nat → List UInt8 → Option (List Tok)
  | _, [] => some []
  | k + 1, _ :: s => tkS k s
  | 0, b :: s =>
    if b = 92 then (match escV (b :: s) with
      | some v => (tkS 3 s).map ((false, v) :: ·)
      | none => none) else
    if plainB b.toNat then (tkS 0 s).map ((false, b.toNat) :: ·) else
    if resB b.toNat then (tkS 0 s).map ((true, b.toNat) :: ·) else none
def hexD (n : Nat) : UInt8 := UInt8.ofNat (if n < 10 then 48 + n else 87 + n)
def chB (b : Nat) : List UInt8 := if plainB b then [UInt8.ofNat b] else [92, 120, hexD (b / 16), hexD (b % 16)]
def tokB : Tok → List UInt8
  | (true, v) => [UInt8.ofNat v]
  | (false, v) => chB v
/-- the canonical string of an expression -/
def Rx.txt (r : Rx) (least : Nat) : List UInt8 := (r.tks least).flatMap tokB
def okT : Tok → Prop
  | (true, v) => resB v = true
  | (false, v) => v < 256
theorem hex_val (n : Nat) (h : n < 16) : hexV (hexD n) = some n := by
  have : ∀ n, n < 16 → hexV (hexD n) = some n := by decide
  exact this n h
theorem plain_lt {b : Nat} (h : plainB b = true) : b < 256 := by
  unfold plainB at h
  simp only [Bool.and_eq_true, decide_eq_true_eq] at h
  omega
theorem res_lt {b : Nat} (h : resB b = true) : b < 256 ∧ b ≠ 92 ∧ plainB b = false := by
  unfold resB at h
  simp only [Bool.or_eq_true, beq_iff_eq] at h
  rcases h with (((((h | h) | h) | h) | h) | h) | h <;> subst h <;> exact ⟨by decide, by decide, by decide⟩
theorem plain_92 {b : Nat} (h : plainB b = true) : b ≠ 92 := by rintro rfl; revert h; decide
theorem ofN_val {b : Nat} (h : b < 256) : (UInt8.ofNat b).toNat = b := by
  rw [UInt8.toNat_ofNat']; exact Nat.mod_eq_of_lt h
theorem ofN_92 {b : Nat} (h : b < 256) (h2 : b ≠ 92) : UInt8.ofNat b ≠ 92 := fun e => h2 (by
  have := congrArg UInt8.toNat e
  rw [ofN_val h] at this
  exact this)
/-- a token's bytes are read as the token -/
theorem tok_read (t : Tok) (h : okT t) (s : List UInt8) : tkS 0 (tokB t ++ s) = (tkS 0 s).map (t :: ·) := by
  obtain ⟨b, v⟩ := t
  cases b
  · change v < 256 at h
    show tkS 0 (chB v ++ s) = _
    unfold chB
    by_cases c : plainB v = true
    · rw [if_pos c]
      show tkS 0 (UInt8.ofNat v :: s) = _
      rw [tkS, if_neg (ofN_92 h (plain_92 c)), ofN_val h, if_pos c]
    · rw [if_neg c]
      show tkS 0 (92 :: 120 :: hexD (v / 16) :: hexD (v % 16) :: s) = _
      rw [tkS, if_pos rfl]
      have e : escV (92 :: 120 :: hexD (v / 16) :: hexD (v % 16) :: s) = some v := by
        show (if (120 : UInt8) = 120 then (hexV (hexD (v / 16))).bind fun a => (hexV (hexD (v % 16))).map fun b => a * 16 + b else none) = some v
        rw [if_pos rfl, hex_val _ (by omega), hex_val _ (by omega)]
        show some (v / 16 * 16 + v % 16) = some v
        congr 1
        omega
      rw [e]
      rfl
  · change resB v = true at h
    obtain ⟨h1, h2, h3⟩ := res_lt h
    show tkS 0 (UInt8.ofNat v :: s) = _
    rw [tkS, if_neg (ofN_92 h1 h2), ofN_val h1, if_neg (by rw [h3]; decide), if_pos h]
theorem toks_read : ∀ ts : List Tok, (∀ t ∈ ts, okT t) → tkS 0 (ts.flatMap tokB) = some ts
  | [], _ => rfl
  | t :: ts, h => by
    rw [List.flatMap_cons, tok_read t (h t (by simp)), toks_read ts (fun u hu => h u (by simp [hu]))]
    rfl
/-- bytes are bytes -/
def Rx.by8 : Rx → Prop
  | .emp => True
  | .rng lo hi => lo ≤ hi ∧ hi < 256
  | .seq a b => a.by8 ∧ b.by8
  | .alt a b => a.by8 ∧ b.by8
  | .rep a => a.by8
theorem Rx.by8.ok : ∀ {r : Rx}, r.by8 → r.ok
  | .emp, _ => trivial
  | .rng _ _, h => h.1
  | .seq _ _, h => ⟨h.1.ok, h.2.ok⟩
  | .alt _ _, h => ⟨h.1.ok, h.2.ok⟩
  | .rep a, h => Rx.by8.ok (r := a) h
theorem tks_ok : ∀ (r : Rx), r.by8 → ∀ least, ∀ t ∈ r.tks least, okT t
  | .emp, _, least, t, ht => by
    simp only [Rx.tks, List.mem_cons, List.not_mem_nil, or_false] at ht
    rcases ht with rfl | rfl <;> (show resB _ = true; decide)
  | .rng lo hi, h, least, t, ht => by
    have h1 := h.1
    have h2 := h.2
    unfold Rx.tks at ht
    split at ht
    · simp only [List.mem_singleton] at ht
      subst ht
      show lo < 256
      omega
    · simp only [List.mem_cons, List.not_mem_nil, or_false] at ht
      rcases ht with rfl | rfl | rfl | rfl | rfl
      · (show resB _ = true; decide)
      · show lo < 256; omega
      · (show resB _ = true; decide)
      · show hi < 256; omega
      · (show resB _ = true; decide)
  | .seq a b, h, least, t, ht => by
    have ha := tks_ok a h.1 2
    have hb := tks_ok b h.2 3
    unfold Rx.tks at ht
    split at ht
    · simp only [List.mem_append, List.mem_cons, List.not_mem_nil, or_false] at ht
      rcases ht with (rfl | ht | ht) | rfl
      · (show resB _ = true; decide)
      · exact ha t ht
      · exact hb t ht
      · (show resB _ = true; decide)
    · rcases List.mem_append.1 ht with ht | ht
      · exact ha t ht
      · exact hb t ht
  | .alt a b, h, least, t, ht => by
    have ha := tks_ok a h.1 1
    have hb := tks_ok b h.2 2
    unfold Rx.tks at ht
    split at ht
    · simp only [List.mem_append, List.mem_cons, List.not_mem_nil, or_false] at ht
      rcases ht with (rfl | ht | rfl | ht) | rfl
      · (show resB _ = true; decide)
      · exact ha t ht
      · (show resB _ = true; decide)
      · exact hb t ht
      · (show resB _ = true; decide)
    · simp only [List.mem_append, List.mem_cons] at ht
      rcases ht with ht | rfl | ht
      · exact ha t ht
      · (show resB _ = true; decide)
      · exact hb t ht
  | .rep a, h, least, t, ht => by
    have ha := tks_ok a h 3
    unfold Rx.tks at ht
    split at ht
    · simp only [List.mem_append, List.mem_cons, List.not_mem_nil, or_false] at ht
      rcases ht with (rfl | ht | rfl) | rfl
      · (show resB _ = true; decide)
      · exact ha t ht
      · (show resB _ = true; decide)
      · (show resB _ = true; decide)
    · simp only [List.mem_append, List.mem_cons, List.not_mem_nil, or_false] at ht
      rcases ht with ht | rfl
      · exact ha t ht
      · (show resB _ = true; decide)
theorem txt_read {r : Rx} (h : r.by8) (least : Nat) : tkS 0 (r.txt least) = some (r.tks least) := toks_read _ (tks_ok r h least)

end Go.Proofs.YtfkljlncnfeklaaGreatDoor

/-! The nodes of an expression in postorder: they are a valid pattern, and its root's expression is the expression. -/
namespace Go.Proofs.YtfkljlncnfeklaaGreatDoor
set_option linter.unusedVariables false

/-- the nodes of an expression behind a list of nodes -/
def Rx.po : Rx → List Pn → List Pn
  | .emp, o => o ++ [(0, 0, 0, 0, 0)]
  | .rng lo hi, o => o ++ [(1, (lo : Int), (hi : Int), 0, 0)]
  | .seq a b, o => b.po (a.po o) ++ [(2, 0, 0, (((a.po o).length - 1 : Nat) : Int), (((b.po (a.po o)).length - 1 : Nat) : Int))]
  | .alt a b, o => b.po (a.po o) ++ [(3, 0, 0, (((a.po o).length - 1 : Nat) : Int), (((b.po (a.po o)).length - 1 : Nat) : Int))]
  | .rep a, o => a.po o ++ [(4, 0, 0, (((a.po o).length - 1 : Nat) : Int), 0)]
/-- how many nodes -/
def Rx.nn : Rx → Nat
  | .emp => 1
  | .rng _ _ => 1
  | .seq a b => a.nn + b.nn + 1
  | .alt a b => a.nn + b.nn + 1
  | .rep a => a.nn + 1
theorem Rx.nn_pos (r : Rx) : 1 ≤ r.nn := by cases r <;> simp [Rx.nn]
theorem po_len : ∀ (r : Rx) (o : List Pn), (r.po o).length = o.length + r.nn
  | .emp, o => by simp [Rx.po, Rx.nn]
  | .rng _ _, o => by simp [Rx.po, Rx.nn]
  | .seq a b, o => by
    show (_ ++ [_]).length = o.length + (a.nn + b.nn + 1)
    rw [List.length_append, po_len b, po_len a, List.length_singleton]; omega
  | .alt a b, o => by
    show (_ ++ [_]).length = o.length + (a.nn + b.nn + 1)
    rw [List.length_append, po_len b, po_len a, List.length_singleton]; omega
  | .rep a, o => by
    show (_ ++ [_]).length = o.length + (a.nn + 1)
    rw [List.length_append, po_len a, List.length_singleton]; omega
theorem po_pre : ∀ (r : Rx) (o : List Pn), o <+: r.po o
  | .emp, o => List.prefix_append _ _
  | .rng _ _, o => List.prefix_append _ _
  | .seq a b, o => ((po_pre a o).trans (po_pre b _)).trans (List.prefix_append _ _)
  | .alt a b, o => ((po_pre a o).trans (po_pre b _)).trans (List.prefix_append _ _)
  | .rep a, o => (po_pre a o).trans (List.prefix_append _ _)
/-- the roots behind an expression's nodes -/
theorem po_md : ∀ (r : Rx) (o : List Pn) (R : List Nat), Md (o.map ph) R → Md ((r.po o).map ph) (R ++ [(r.po o).length - 1])
  | .emp, o, R, h => by
    show Md ((o ++ [(0, 0, 0, 0, 0)]).map ph) (R ++ [(o ++ [(0, 0, 0, 0, 0)]).length - 1])
    rw [List.map_append, List.length_append, List.length_singleton, Nat.add_sub_cancel]
    have := md_add (x := ((0, 0, 0, 0) : Fi)) (R0 := R) (K := []) h ⟨rfl, rfl⟩ (by simp) (fun k => by rw [if_neg (by rintro ⟨q, _⟩; exact absurd q (by decide)), if_neg (by rintro ⟨q, _⟩; exact absurd q (by decide))]; simp)
    rw [List.length_map] at this
    exact this
  | .rng lo hi, o, R, h => by
    show Md ((o ++ [(1, (lo : Int), (hi : Int), 0, 0)]).map ph) (R ++ [(o ++ [(1, (lo : Int), (hi : Int), 0, 0)]).length - 1])
    rw [List.map_append, List.length_append, List.length_singleton, Nat.add_sub_cancel]
    have := md_add (x := ((0, 0, 0, 0) : Fi)) (R0 := R) (K := []) h ⟨rfl, rfl⟩ (by simp) (fun k => by rw [if_neg (by rintro ⟨q, _⟩; exact absurd q (by decide)), if_neg (by rintro ⟨q, _⟩; exact absurd q (by decide))]; simp)
    rw [List.length_map] at this
    exact this
  | .seq a b, o, R, h => by
    have ia := po_md a o R h
    have ib := po_md b (a.po o) _ ia
    have la := po_len a o
    have lb := po_len b (a.po o)
    have pa := a.nn_pos
    have pb := b.nn_pos
    show Md ((b.po (a.po o) ++ [_]).map ph) (R ++ [(b.po (a.po o) ++ [_]).length - 1])
    rw [List.map_append, List.length_append, List.length_singleton, Nat.add_sub_cancel]
    generalize b.po (a.po o) = ob at *
    generalize a.po o = oa at *
    have ho : opN 4 ((oa.length - 1 : Nat) : Int) ((ob.length - 1 : Nat) : Int) (ob.map ph).length = true := opN_2 (by omega) (by rw [List.length_map]; omega) (by omega) (by rw [List.length_map]; omega)
    have := md_add (x := ((4, 0, ((oa.length - 1 : Nat) : Int), ((ob.length - 1 : Nat) : Int)) : Fi)) (R0 := R) (K := [oa.length - 1, ob.length - 1]) ib ⟨by unfold plN; simp [ar], ho⟩ (by simp) (two_kids 4 rfl _ _ (by omega))
    rw [List.length_map] at this
    exact this
  | .alt a b, o, R, h => by
    have ia := po_md a o R h
    have ib := po_md b (a.po o) _ ia
    have la := po_len a o
    have lb := po_len b (a.po o)
    have pa := a.nn_pos
    have pb := b.nn_pos
    show Md ((b.po (a.po o) ++ [_]).map ph) (R ++ [(b.po (a.po o) ++ [_]).length - 1])
    rw [List.map_append, List.length_append, List.length_singleton, Nat.add_sub_cancel]
    generalize b.po (a.po o) = ob at *
    generalize a.po o = oa at *
    have ho : opN 5 ((oa.length - 1 : Nat) : Int) ((ob.length - 1 : Nat) : Int) (ob.map ph).length = true := opN_2 (by omega) (by rw [List.length_map]; omega) (by omega) (by rw [List.length_map]; omega)
    have := md_add (x := ((5, 0, ((oa.length - 1 : Nat) : Int), ((ob.length - 1 : Nat) : Int)) : Fi)) (R0 := R) (K := [oa.length - 1, ob.length - 1]) ib ⟨by unfold plN; simp [ar], ho⟩ (by simp) (two_kids 5 rfl _ _ (by omega))
    rw [List.length_map] at this
    exact this
  | .rep a, o, R, h => by
    have ia := po_md a o R h
    have la := po_len a o
    have pa := a.nn_pos
    show Md ((a.po o ++ [_]).map ph) (R ++ [(a.po o ++ [_]).length - 1])
    rw [List.map_append, List.length_append, List.length_singleton, Nat.add_sub_cancel]
    generalize a.po o = oa at *
    have ho : opN 3 ((oa.length - 1 : Nat) : Int) 0 (oa.map ph).length = true := opN_1 rfl (by omega) (by rw [List.length_map]; omega)
    have := md_add (x := ((3, 0, ((oa.length - 1 : Nat) : Int), 0) : Fi)) (R0 := R) (K := [oa.length - 1]) ia ⟨by unfold plN; simp [ar], ho⟩ rfl (fun j => by
      show (if 1 ≤ ar 3 ∧ ((oa.length - 1 : Nat) : Int) = (j : Int) then 1 else 0) + (if ar 3 = 2 ∧ (0 : Int) = (j : Int) then 1 else 0) = _
      rw [if_neg (c := ar 3 = 2 ∧ _) (by rintro ⟨q, _⟩; cases q)]
      by_cases q : j = oa.length - 1
      · rw [if_pos ⟨by decide, by omega⟩, if_pos (by simp [q])]
      · rw [if_neg (by omega), if_neg (by simpa using q)])
    rw [List.length_map] at this
    exact this
/-- each node has a kind and bytes -/
theorem po_rg : ∀ (r : Rx), r.by8 → ∀ o : List Pn, (∀ x ∈ o, rgP x = true) → ∀ x ∈ r.po o, rgP x = true
  | .emp, _, o, h, x, hx => by
    rcases List.mem_append.1 hx with q | q
    · exact h x q
    · rw [List.mem_singleton] at q; subst q; rfl
  | .rng lo hi, hb, o, h, x, hx => by
    rcases List.mem_append.1 hx with q | q
    · exact h x q
    · rw [List.mem_singleton] at q
      subst q
      have h1 := hb.1
      have h2 := hb.2
      unfold rgP
      simp
      omega
  | .seq a b, hb, o, h, x, hx => by
    rcases List.mem_append.1 hx with q | q
    · exact po_rg b hb.2 _ (po_rg a hb.1 o h) x q
    · rw [List.mem_singleton] at q; subst q; rfl
  | .alt a b, hb, o, h, x, hx => by
    rcases List.mem_append.1 hx with q | q
    · exact po_rg b hb.2 _ (po_rg a hb.1 o h) x q
    · rw [List.mem_singleton] at q; subst q; rfl
  | .rep a, hb, o, h, x, hx => by
    rcases List.mem_append.1 hx with q | q
    · exact po_rg a hb o h x q
    · rw [List.mem_singleton] at q; subst q; rfl
theorem po_ok {r : Rx} (hb : r.by8) (hl : r.nn ≤ 512) : okP (r.po []) := by
  have h := po_md r [] [] Md.nil
  have hn := po_len r []
  have hp := r.nn_pos
  rw [List.length_nil, Nat.zero_add] at hn
  refine ⟨?_, fun i hi => ?_⟩
  · refine md_ok ?_ ?_ ?_
    · rw [List.length_map]; exact h
    · rw [List.length_map, hn]; exact hp
    · rw [List.length_map, hn]; exact hl
  · rw [List.getD_eq_getElem?_getD, List.getElem?_eq_getElem hi]
    exact po_rg r hb [] (by simp) _ (List.getElem_mem hi)
/-- a node's parts in a longer list -/
theorem at_snoc {F X t : List Pn} {x : Pn} (h : X ++ [x] ++ t = F) : F.getD X.length (0, 0, 0, 0, 0) = x := by
  subst h
  rw [List.getD_eq_getElem?_getD, List.append_assoc, List.getElem?_append_right (Nat.le_refl _)]
  simp
/-- the root's expression, in whatever list the nodes stand -/
theorem rx_po : ∀ (r : Rx) (o F : List Pn) (n : Nat), r.po o <+: F → r.nn ≤ n → rx F n ((r.po o).length - 1) = r
  | r, _, _, 0, _, h => by have := r.nn_pos; omega
  | .emp, o, F, n + 1, ⟨t, hF⟩, _ => by
    have e := at_snoc (X := o) (x := ((0, 0, 0, 0, 0) : Pn)) hF
    show rx F (n + 1) ((o ++ [(0, 0, 0, 0, 0)]).length - 1) = _
    rw [List.length_append, List.length_singleton, Nat.add_sub_cancel]
    have k : pk F o.length = 0 := by unfold pk; rw [e]
    rw [rx, k]; rfl
  | .rng lo hi, o, F, n + 1, ⟨t, hF⟩, _ => by
    have e := at_snoc (X := o) (x := ((1, (lo : Int), (hi : Int), 0, 0) : Pn)) hF
    show rx F (n + 1) ((o ++ [(1, (lo : Int), (hi : Int), 0, 0)]).length - 1) = _
    rw [List.length_append, List.length_singleton, Nat.add_sub_cancel]
    have k : pk F o.length = 1 := by unfold pk; rw [e]
    have k1 : plo F o.length = (lo : Int) := by unfold plo; rw [e]
    have k2 : phi F o.length = (hi : Int) := by unfold phi; rw [e]
    rw [rx, if_pos k, k1, k2, Int.toNat_natCast, Int.toNat_natCast]
  | .seq a b, o, F, n + 1, hF, hn => by
    change a.nn + b.nn + 1 ≤ n + 1 at hn
    have ia := rx_po a o F n (((po_pre b _).trans (List.prefix_append _ _)).trans hF) (by omega)
    have ib := rx_po b (a.po o) F n ((List.prefix_append _ _).trans hF) (by omega)
    obtain ⟨t, hF⟩ := hF
    have e := at_snoc (X := b.po (a.po o)) (x := ((2, 0, 0, (((a.po o).length - 1 : Nat) : Int), (((b.po (a.po o)).length - 1 : Nat) : Int)) : Pn)) hF
    show rx F (n + 1) ((b.po (a.po o) ++ [_]).length - 1) = _
    rw [List.length_append, List.length_singleton, Nat.add_sub_cancel]
    generalize b.po (a.po o) = ob at *
    generalize a.po o = oa at *
    have k : pk F ob.length = 2 := by unfold pk; rw [e]
    have k1 : pa F ob.length = ((oa.length - 1 : Nat) : Int) := by unfold pa; rw [e]
    have k2 : pb F ob.length = ((ob.length - 1 : Nat) : Int) := by unfold pb; rw [e]
    rw [rx, if_neg (by omega), if_pos k, k1, k2, Int.toNat_natCast, Int.toNat_natCast, ia, ib]
  | .alt a b, o, F, n + 1, hF, hn => by
    change a.nn + b.nn + 1 ≤ n + 1 at hn
    have ia := rx_po a o F n (((po_pre b _).trans (List.prefix_append _ _)).trans hF) (by omega)
    have ib := rx_po b (a.po o) F n ((List.prefix_append _ _).trans hF) (by omega)
    obtain ⟨t, hF⟩ := hF
    have e := at_snoc (X := b.po (a.po o)) (x := ((3, 0, 0, (((a.po o).length - 1 : Nat) : Int), (((b.po (a.po o)).length - 1 : Nat) : Int)) : Pn)) hF
    show rx F (n + 1) ((b.po (a.po o) ++ [_]).length - 1) = _
    rw [List.length_append, List.length_singleton, Nat.add_sub_cancel]
    generalize b.po (a.po o) = ob at *
    generalize a.po o = oa at *
    have k : pk F ob.length = 3 := by unfold pk; rw [e]
    have k1 : pa F ob.length = ((oa.length - 1 : Nat) : Int) := by unfold pa; rw [e]
    have k2 : pb F ob.length = ((ob.length - 1 : Nat) : Int) := by unfold pb; rw [e]
    rw [rx, if_neg (by omega), if_neg (by omega), if_pos k, k1, k2, Int.toNat_natCast, Int.toNat_natCast, ia, ib]
  | .rep a, o, F, n + 1, hF, hn => by
    change a.nn + 1 ≤ n + 1 at hn
    have ia := rx_po a o F n ((List.prefix_append _ _).trans hF) (by omega)
    obtain ⟨t, hF⟩ := hF
    have e := at_snoc (X := a.po o) (x := ((4, 0, 0, (((a.po o).length - 1 : Nat) : Int), 0) : Pn)) hF
    show rx F (n + 1) ((a.po o ++ [_]).length - 1) = _
    rw [List.length_append, List.length_singleton, Nat.add_sub_cancel]
    generalize a.po o = oa at *
    have k : pk F oa.length = 4 := by unfold pk; rw [e]
    have k1 : pa F oa.length = ((oa.length - 1 : Nat) : Int) := by unfold pa; rw [e]
    rw [rx, if_neg (by omega), if_neg (by omega), if_neg (by omega), if_pos k, k1, Int.toNat_natCast, ia]
/-- the postorder of an expression has the expression -/
theorem rxN_po {r : Rx} : rxN (r.po []) ((r.po []).length - 1) = r := by
  have hn := po_len r []
  have hp := r.nn_pos
  rw [List.length_nil, Nat.zero_add] at hn
  exact rx_po r [] (r.po []) _ (List.prefix_refl _) (by omega)

end Go.Proofs.YtfkljlncnfeklaaGreatDoor

/-! Valid patterns: their expressions have bytes in order and as many nodes as the tree; what Print and Parse answer. -/
namespace Go.Proofs.YtfkljlncnfeklaaGreatDoor
set_option linter.unusedVariables false

section
variable {l : List Pn}
theorem rx_by8 (h : okP l) : ∀ k, k < l.length → (rxN l k).by8 := by
  intro k
  induction k using Nat.strongRecOn with
  | _ k ih =>
    intro hk
    have nd := h.nd hk
    rcases (show pk l k = 0 ∨ pk l k = 1 ∨ pk l k = 2 ∨ pk l k = 3 ∨ pk l k = 4 by have := nd.kd; omega) with c | c | c | c | c
    · rw [rxN_0 c]; trivial
    · rw [rxN_1 c]
      have := nd.by'
      show (plo l k).toNat ≤ (phi l k).toNat ∧ (phi l k).toNat < 256
      omega
    · have ha := nd.a1 (by omega)
      have hb := nd.b1 (.inl c)
      rw [rxN_2 h hk c]
      exact ⟨ih _ ha.2 (by omega), ih _ hb.2 (by omega)⟩
    · have ha := nd.a1 (by omega)
      have hb := nd.b1 (.inr c)
      rw [rxN_3 h hk c]
      exact ⟨ih _ ha.2 (by omega), ih _ hb.2 (by omega)⟩
    · have ha := nd.a1 (by omega)
      rw [rxN_4 h hk c]
      exact ih _ ha.2 (by omega)
theorem rx_nn (h : okP l) : ∀ k, k < l.length → (rxN l k).nn = ty (l.map ph) k := by
  intro k
  induction k using Nat.strongRecOn with
  | _ k ih =>
    intro hk
    have nd := h.nd hk
    have hty := ty_eq (l.map ph) l.length (fun i hi => h.1.2.2.1 i (by rw [List.length_map]; exact hi)) hk
    rw [fo_ph, fa_ph, fb_ph] at hty
    rcases (show pk l k = 0 ∨ pk l k = 1 ∨ pk l k = 2 ∨ pk l k = 3 ∨ pk l k = 4 by have := nd.kd; omega) with c | c | c | c | c
    · rw [rxN_0 c, hty, c]; rfl
    · rw [rxN_1 c, hty, c]; rfl
    · have ha := nd.a1 (by omega)
      have hb := nd.b1 (.inl c)
      rw [rxN_2 h hk c, hty, if_pos (by rw [c]; decide), if_pos (by rw [c]; rfl)]
      show (rxN l (pa l k).toNat).nn + (rxN l (pb l k).toNat).nn + 1 = _
      rw [ih _ ha.2 (by omega), ih _ hb.2 (by omega)]
      omega
    · have ha := nd.a1 (by omega)
      have hb := nd.b1 (.inr c)
      rw [rxN_3 h hk c, hty, if_pos (by rw [c]; decide), if_pos (by rw [c]; rfl)]
      show (rxN l (pa l k).toNat).nn + (rxN l (pb l k).toNat).nn + 1 = _
      rw [ih _ ha.2 (by omega), ih _ hb.2 (by omega)]
      omega
    · have ha := nd.a1 (by omega)
      rw [rxN_4 h hk c, hty, if_pos (by rw [c]; decide), if_neg (by rw [c]; decide)]
      show (rxN l (pa l k).toNat).nn + 1 = _
      rw [ih _ ha.2 (by omega)]
      omega
/-- the expression of a pattern -/
def rxP (l : List Pn) : Rx := rxN l (l.length - 1)
theorem okP.len (h : okP l) : 1 ≤ l.length ∧ l.length ≤ 512 := by
  have h1 := h.1.1
  have h2 := h.1.2.1
  rw [List.length_map] at h1 h2
  exact ⟨h1, h2⟩
theorem rxP_by8 (h : okP l) : (rxP l).by8 := rx_by8 h _ (by have := h.len; omega)
theorem rxP_nn (h : okP l) : (rxP l).nn ≤ l.length := by
  have := ty_le (l.map ph) h.1
  rw [List.length_map] at this
  unfold rxP
  rw [rx_nn h _ (by have := h.len; omega)]
  exact this
end
theorem dp_nn : ∀ r : Rx, r.dp ≤ 2 * r.nn
  | .emp => by decide
  | .rng _ _ => by show 1 ≤ 2 * 1; omega
  | .seq a b => by have := dp_nn a; have := dp_nn b; show a.dp + b.dp + 2 ≤ 2 * (a.nn + b.nn + 1); omega
  | .alt a b => by have := dp_nn a; have := dp_nn b; show a.dp + b.dp + 2 ≤ 2 * (a.nn + b.nn + 1); omega
  | .rep a => by have := dp_nn a; show a.dp + 2 ≤ 2 * (a.nn + 1); omega
/-- more depth gives no other answer -/
def Same (G H : List Tok → Option (Rx × List Tok)) : Prop := ∀ t p, G t = some p → H t = some p
section
variable {G H : List Tok → Option (Rx × List Tok)}
theorem atm_same (h : Same G H) : Same (atmG G) (atmG H) := fun t p q => by
  unfold atmG at q ⊢
  split at q
  · exact q
  · split at q
    · rename_i c; rw [if_pos c]; exact q
    · rename_i c
      rw [if_neg c]
      split at q
      · rename_i c2
        rw [if_pos c2]
        unfold parG at q ⊢
        split at q
        · rename_i c3; rw [if_pos c3]; exact q
        · rename_i c3
          rw [if_neg c3]
          split at q
          · rename_i hg
            rw [h _ _ hg]
            exact q
          · cases q
      · cases q
  · cases q
theorem rep_same (h : Same G H) : Same (repG G) (repG H) := fun t p q => by
  unfold repG at q ⊢
  rcases ha : atmG G t with _ | u
  · rw [ha] at q; cases q
  · rw [ha] at q
    rw [atm_same h _ _ ha]
    exact q
theorem seqL_same (h : Same G H) : ∀ k r t p, seqL G k r t = some p → seqL H k r t = some p
  | 0, _, _, _, q => by cases q
  | k + 1, r, t, p, q => by
    unfold seqL at q ⊢
    split at q
    · rename_i c
      rw [if_pos c]
      rcases ha : repG G t with _ | u
      · rw [ha] at q; cases q
      · rw [ha] at q
        rw [rep_same h _ _ ha]
        exact seqL_same h k _ _ _ q
    · rename_i c; rw [if_neg c]; exact q
theorem seq_same (h : Same G H) : Same (seqG G) (seqG H) := fun t p q => by
  unfold seqG at q ⊢
  rcases ha : repG G t with _ | u
  · rw [ha] at q; cases q
  · rw [ha] at q
    rw [rep_same h _ _ ha]
    exact seqL_same h _ _ _ _ q
theorem altL_same (h : Same G H) : ∀ k r t p, altL G k r t = some p → altL H k r t = some p
  | 0, _, _, _, q => by cases q
  | k + 1, r, [], p, q => q
  | k + 1, r, (false, v) :: t, p, q => q
  | k + 1, r, (true, v) :: t, p, q => by
    change (if v = 124 then _ else _) = _ at q
    show (if v = 124 then _ else _) = _
    split at q
    · rename_i c
      rw [if_pos c]
      rcases ha : seqG G t with _ | u
      · rw [ha] at q; cases q
      · rw [ha] at q
        rw [seq_same h _ _ ha]
        exact altL_same h k _ _ _ q
    · rename_i c; rw [if_neg c]; exact q
theorem alt_same (h : Same G H) : Same (altG G) (altG H) := fun t p q => by
  unfold altG at q ⊢
  rcases ha : seqG G t with _ | u
  · rw [ha] at q; cases q
  · rw [ha] at q
    rw [seq_same h _ _ ha]
    exact altL_same h _ _ _ _ q
end
theorem pAlt_up : ∀ n m, n ≤ m → Same (pAlt n) (pAlt m)
  | 0, m, _ => fun t p q => by cases q
  | n + 1, 0, h => by omega
  | n + 1, m + 1, h => alt_same (pAlt_up n m (by omega))
theorem nn_tks : ∀ (r : Rx) (least : Nat), r.nn + 1 ≤ 2 * (r.tks least).length
  | .emp, _ => by show 1 + 1 ≤ 2 * 2; omega
  | .rng lo hi, _ => by
    unfold Rx.tks
    split
    · show 1 + 1 ≤ 2 * 1; omega
    · show 1 + 1 ≤ 2 * 5; omega
  | .seq a b, least => by
    have ha := nn_tks a 2
    have hb := nn_tks b 3
    show a.nn + b.nn + 1 + 1 ≤ _
    unfold Rx.tks
    split
    · simp only [List.length_append, List.length_cons, List.length_nil]; omega
    · simp only [List.length_append]; omega
  | .alt a b, least => by
    have ha := nn_tks a 1
    have hb := nn_tks b 2
    show a.nn + b.nn + 1 + 1 ≤ _
    unfold Rx.tks
    split
    · simp only [List.length_append, List.length_cons, List.length_nil]; omega
    · simp only [List.length_append, List.length_cons]; omega
  | .rep a, least => by
    have ha := nn_tks a 3
    show a.nn + 1 + 1 ≤ _
    unfold Rx.tks
    split
    · simp only [List.length_append, List.length_cons, List.length_nil]; omega
    · simp only [List.length_append, List.length_cons, List.length_nil]; omega
theorem chB_len (b : Nat) : (chB b).length ≤ 4 := by unfold chB; split <;> simp
theorem txt_len : ∀ (r : Rx) (least : Nat), (r.txt least).length ≤ 11 * r.nn
  | .emp, _ => by show 2 ≤ 11 * 1; omega
  | .rng lo hi, _ => by
    have h1 := chB_len lo
    have h2 := chB_len hi
    unfold Rx.txt Rx.tks
    split
    · show (chB lo ++ []).length ≤ 11 * 1
      rw [List.append_nil]; omega
    · show ([91] ++ (chB lo ++ ([45] ++ (chB hi ++ ([93] ++ []))))).length ≤ 11 * 1
      simp only [List.length_append, List.length_cons, List.length_nil]; omega
  | .seq a b, least => by
    have ha := txt_len a 2
    have hb := txt_len b 3
    unfold Rx.txt at *
    show _ ≤ 11 * (a.nn + b.nn + 1)
    unfold Rx.tks
    split
    · simp only [List.flatMap_append, List.flatMap_cons, List.flatMap_nil, List.length_append, tokB, List.length_cons, List.length_nil]; omega
    · simp only [List.flatMap_append, List.length_append]; omega
  | .alt a b, least => by
    have ha := txt_len a 1
    have hb := txt_len b 2
    unfold Rx.txt at *
    show _ ≤ 11 * (a.nn + b.nn + 1)
    unfold Rx.tks
    split
    · simp only [List.flatMap_append, List.flatMap_cons, List.flatMap_nil, List.length_append, tokB, List.length_cons, List.length_nil]; omega
    · simp only [List.flatMap_append, List.flatMap_cons, List.length_append, tokB, List.length_cons, List.length_nil]; omega
  | .rep a, least => by
    have ha := txt_len a 3
    unfold Rx.txt at *
    show _ ≤ 11 * (a.nn + 1)
    unfold Rx.tks
    split
    · simp only [List.flatMap_append, List.flatMap_cons, List.flatMap_nil, List.length_append, tokB, List.length_cons, List.length_nil]; omega
    · simp only [List.flatMap_append, List.flatMap_cons, List.flatMap_nil, List.length_append, tokB, List.length_cons, List.length_nil]; omega
/-- what Parse answers -/
def prsP (s : List UInt8) : List Pn × Int := if 8192 < s.length then ([], 2) else match tkS 0 s with
  | none => ([], 40)
  | some ts => match pAlt (4 * ts.length + 4) ts with
    | some (r, []) => if 512 < r.nn then ([], 2) else (r.po [], 0)
    | _ => ([], 40)
/-- Parse of the canonical string: the postorder -/
theorem prsP_txt {r : Rx} (h : r.by8) (hl : r.nn ≤ 512) : prsP (r.txt 1) = (r.po [], 0) := by
  have h1 := txt_len r 1
  have h2 := nn_tks r 1
  have h3 := dp_nn r
  unfold prsP
  rw [if_neg (by omega), txt_read h 1]
  show (match pAlt (4 * (r.tks 1).length + 4) (r.tks 1) with
    | some (r, []) => if 512 < r.nn then (([] : List Pn), (2 : Int)) else (r.po [], 0)
    | _ => ([], 40)) = _
  rw [pAlt_tks r h.ok (n := 4 * (r.tks 1).length + 3) (by omega)]
  show (if 512 < r.nn then (([] : List Pn), (2 : Int)) else (r.po [], 0)) = _
  rw [if_neg (by omega)]

end Go.Proofs.YtfkljlncnfeklaaGreatDoor

/-! The canonical string, node by node. -/
namespace Go.Proofs.YtfkljlncnfeklaaGreatDoor
set_option linter.unusedVariables false

theorem txt_emp (least : Nat) : Rx.emp.txt least = [40, 41] := rfl
theorem txt_one (lo least : Nat) : (Rx.rng lo lo).txt least = chB lo := by simp [Rx.txt, Rx.tks, tokB]
theorem txt_rng {lo hi : Nat} (h : lo ≠ hi) (least : Nat) : (Rx.rng lo hi).txt least = [91] ++ chB lo ++ [45] ++ chB hi ++ [93] := by simp [Rx.txt, Rx.tks, tokB, h]
theorem txt_seq (a b : Rx) (least : Nat) : (Rx.seq a b).txt least = if 2 < least then [40] ++ (a.txt 2 ++ b.txt 3) ++ [41] else a.txt 2 ++ b.txt 3 := by
  by_cases h : 2 < least <;> simp [Rx.txt, Rx.tks, tokB, h] <;> rfl
theorem txt_alt (a b : Rx) (least : Nat) : (Rx.alt a b).txt least = if 1 < least then [40] ++ (a.txt 1 ++ [124] ++ b.txt 2) ++ [41] else a.txt 1 ++ [124] ++ b.txt 2 := by
  by_cases h : 1 < least <;> simp [Rx.txt, Rx.tks, tokB, h] <;> rfl
theorem txt_rep (a : Rx) (least : Nat) : (Rx.rep a).txt least = if 3 < least then [40] ++ (a.txt 3 ++ [42]) ++ [41] else a.txt 3 ++ [42] := by
  by_cases h : 3 < least <;> simp [Rx.txt, Rx.tks, tokB, h] <;> rfl
theorem chB_ne (b : Nat) : chB b ≠ [] := by unfold chB; split <;> simp
theorem txt_ne (r : Rx) (least : Nat) : r.txt least ≠ [] := by
  cases r with
  | emp => simp [txt_emp]
  | rng lo hi =>
    by_cases h : lo = hi
    · subst h; rw [txt_one]; exact chB_ne lo
    · rw [txt_rng h]; simp
  | seq a b => rw [txt_seq]; split; simp; exact fun e => txt_ne a 2 (List.append_eq_nil_iff.1 e).1
  | alt a b => rw [txt_alt]; split <;> simp
  | rep a => rw [txt_rep]; split <;> simp

end Go.Proofs.YtfkljlncnfeklaaGreatDoor

/-! Two machines that read the same string: the search's places are pairs; what is accepted are the strings that both expressions match. -/
namespace Go.Proofs.YtfkljlncnfeklaaGreatDoor
set_option linter.unusedVariables false

/-- two places can read one byte -/
def agr2 (x y : Nat × Nat) : Bool := decide (x.1 ≤ y.2) && decide (y.1 ≤ x.2)
section
variable (a b : Rx)
def rgA (i : Nat) : Nat × Nat := a.rgs.getD i (0, 0)
def agP (x : Nat × Nat) : Bool := decide (x.1 < a.pl) && decide (x.2 < b.pl) && agr2 (rgA a x.1) (rgA b x.2)
def stP (x : Nat × Nat) : Prop := a.fst 0 x.1 = true ∧ b.fst 0 x.2 = true ∧ agP a b x = true
def nxP (x y : Nat × Nat) : Prop := a.fol 0 x.1 y.1 = true ∧ b.fol 0 x.2 y.2 = true ∧ agP a b y = true
def rdP (x : Nat × Nat) (c : UInt8) : Prop := a.rd 0 x.1 c = true ∧ b.rd 0 x.2 c = true
def acP (x : Nat × Nat) : Prop := a.lst 0 x.1 = true ∧ b.lst 0 x.2 = true
def leN (x : Nat × Nat) : Nat := max (rgA a x.1).1 (rgA b x.2).1
def leP (x : Nat × Nat) : UInt8 := UInt8.ofNat (leN a b x)
variable {a b}
theorem rdP_iff {x : Nat × Nat} {c : UInt8} (h1 : x.1 < a.pl) (h2 : x.2 < b.pl) : rdP a b x c ↔ inR (rgA a x.1) c = true ∧ inR (rgA b x.2) c = true := by
  unfold rdP rgA
  rw [a.rd_rgs 0 x.1 c (by omega) (by omega), b.rd_rgs 0 x.2 c (by omega) (by omega), Nat.sub_zero, Nat.sub_zero]
theorem rd_agr {x : Nat × Nat} {c : UInt8} (h : rdP a b x c) : agP a b x = true := by
  have h1 := a.rd_in _ _ _ h.1
  have h2 := b.rd_in _ _ _ h.2
  obtain ⟨k1, k2⟩ := (rdP_iff (by omega) (by omega)).1 h
  unfold inR at k1 k2
  simp only [Bool.and_eq_true, decide_eq_true_eq] at k1 k2
  unfold agP agr2
  simp only [Bool.and_eq_true, decide_eq_true_eq]
  omega
/-- the least byte that both can read -/
theorem le_least {x : Nat × Nat} (hb : ∀ i, i < a.pl → (rgA a i).1 ≤ (rgA a i).2 ∧ (rgA a i).2 < 256) (hb' : ∀ i, i < b.pl → (rgA b i).1 ≤ (rgA b i).2 ∧ (rgA b i).2 < 256) (h : agP a b x = true) : (leP a b x).toNat = leN a b x ∧ leN a b x < 256 ∧ rdP a b x (leP a b x) := by
  unfold agP agr2 at h
  simp only [Bool.and_eq_true, decide_eq_true_eq] at h
  obtain ⟨⟨h1, h2⟩, h3, h4⟩ := h
  have k1 := hb _ h1
  have k2 := hb' _ h2
  have hl : leN a b x < 256 := by unfold leN; omega
  have ht : (leP a b x).toNat = leN a b x := by
    unfold leP
    rw [UInt8.toNat_ofNat']; exact Nat.mod_eq_of_lt hl
  refine ⟨ht, hl, (rdP_iff h1 h2).2 ?_⟩
  unfold inR
  rw [ht]
  simp only [Bool.and_eq_true, decide_eq_true_eq]
  unfold leN
  omega
theorem le_rd {x : Nat × Nat} (hb : ∀ i, i < a.pl → (rgA a i).1 ≤ (rgA a i).2 ∧ (rgA a i).2 < 256) (hb' : ∀ i, i < b.pl → (rgA b i).1 ≤ (rgA b i).2 ∧ (rgA b i).2 < 256) {c : UInt8} (h : rdP a b x c) : (leP a b x).toNat ≤ c.toNat := by
  have h1 := a.rd_in _ _ _ h.1
  have h2 := b.rd_in _ _ _ h.2
  rw [(le_least hb hb' (rd_agr h)).1]
  obtain ⟨k1, k2⟩ := (rdP_iff (by omega) (by omega)).1 h
  unfold inR at k1 k2
  simp only [Bool.and_eq_true, decide_eq_true_eq] at k1 k2
  unfold leN
  omega
theorem rc_both {u : List UInt8} {x : Nat × Nat} (h : Rc (stP a b) (nxP a b) (rdP a b) u x) : Rch a 0 u x.1 ∧ Rch b 0 u x.2 := by
  induction h with
  | nil h => exact ⟨.nil h.1, .nil h.2.1⟩
  | snoc _ hc hn ih => exact ⟨.snoc ih.1 hc.1 hn.1, .snoc ih.2 hc.2 hn.2.1⟩
theorem both_rc : ∀ (k : Nat) (u : List UInt8), u.length = k → ∀ x : Nat × Nat, Rch a 0 u x.1 → Rch b 0 u x.2 → agP a b x = true → Rc (stP a b) (nxP a b) (rdP a b) u x
  | 0, u, hu, x, h1, h2, hx => by
    obtain rfl : u = [] := List.length_eq_zero_iff.1 hu
    exact .nil ⟨rch_nil.1 h1, rch_nil.1 h2, hx⟩
  | k + 1, u, hu, x, h1, h2, hx => by
    have hne : u ≠ [] := by rintro rfl; simp at hu
    obtain ⟨v, c, rfl⟩ : ∃ v c, u = v ++ [c] := ⟨u.dropLast, u.getLast hne, (List.dropLast_concat_getLast hne).symm⟩
    obtain ⟨p, p1, p2, p3⟩ := rch_snoc.1 h1
    obtain ⟨q, q1, q2, q3⟩ := rch_snoc.1 h2
    have hr : rdP a b (p, q) c := ⟨p2, q2⟩
    exact .snoc (both_rc k v (by simpa using hu) (p, q) p1 q1 (rd_agr hr)) hr ⟨p3, q3, hx⟩
/-- what is accepted -/
theorem acs_iff {v : List UInt8} : AcS (stP a b) (nxP a b) (rdP a b) (acP a b) v ↔ v ≠ [] ∧ a.mt v ∧ b.mt v := by
  constructor
  · rintro ⟨u, c, x, rfl, h1, h2, h3⟩
    have h := rc_both h1
    exact ⟨by simp, (mt_snoc a 0 u c).2 ⟨_, h.1, h2.1, h3.1⟩, (mt_snoc b 0 u c).2 ⟨_, h.2, h2.2, h3.2⟩⟩
  · rintro ⟨hne, h1, h2⟩
    obtain ⟨u, c, rfl⟩ : ∃ u c, v = u ++ [c] := ⟨v.dropLast, v.getLast hne, (List.dropLast_concat_getLast hne).symm⟩
    obtain ⟨p, p1, p2, p3⟩ := (mt_snoc a 0 u c).1 h1
    obtain ⟨q, q1, q2, q3⟩ := (mt_snoc b 0 u c).1 h2
    have hr : rdP a b (p, q) c := ⟨p2, q2⟩
    exact ⟨u, c, (p, q), rfl, both_rc _ u rfl (p, q) p1 q1 (rd_agr hr), hr, p3, q3⟩
end
/-- w is the first string that both match -/
def FirstB (a b : Rx) (w : List UInt8) : Prop := w ≠ [] ∧ a.mt w ∧ b.mt w ∧ ∀ v, v ≠ [] → a.mt v → b.mt v → leS w v
theorem firstB_uniq {a b : Rx} {w w' : List UInt8} (h : FirstB a b w) (h' : FirstB a b w') : w = w' := by
  have h1 := h.2.2.2 w' h'.1 h'.2.1 h'.2.2.1
  have h2 := h'.2.2.2 w h.1 h.2.1 h.2.2.1
  rcases h1 with h1 | h1
  · rcases h2 with h2 | h2
    · exact absurd (ltS_trans h1 h2) (ltS_irr _)
    · exact h2.symm
  · exact h1

end Go.Proofs.YtfkljlncnfeklaaGreatDoor

/-! What Parse answers to canonical strings that are joined: (S)(T), (S)|(T), (S)*. -/
namespace Go.Proofs.YtfkljlncnfeklaaGreatDoor
set_option linter.unusedVariables false

section
variable {a b : Rx} {n : Nat}
theorem par_atm (h : a.ok) (hn : a.dp ≤ n) (t : List Tok) : atmG (pAlt n) ((true, 40) :: a.tks 1 ++ [(true, 41)] ++ t) = some (a, t) := by
  obtain ⟨m, rfl⟩ : ∃ m, n = m + 1 := ⟨n - 1, by have := a.dp_pos; omega⟩
  refine atm_par (fun u => (tks_at a 1 _).2.2 u) ?_
  obtain ⟨e1, e2, e3⟩ := n41 t
  show altG (pAlt m) _ = _
  exact ((rds_all a h m (by omega)).alt _ e1 e3).trans (alt_end _ e2 _)
theorem par_rep (h : a.ok) (hn : a.dp ≤ n) (t : List Tok) : repG (pAlt n) ((true, 40) :: a.tks 1 ++ [(true, 41)] ++ t) = some (strs a t) := by
  unfold repG; rw [par_atm h hn]; rfl
theorem jn_seq (ha : a.ok) (hb : b.ok) (h1 : a.dp ≤ n) (h2 : b.dp ≤ n) : pAlt (n + 1) ((true, 40) :: a.tks 1 ++ [(true, 41)] ++ ((true, 40) :: b.tks 1 ++ [(true, 41)])) = some (.seq a b, []) := by
  show altG (pAlt n) _ = _
  unfold altG
  have e : seqG (pAlt n) ((true, 40) :: a.tks 1 ++ [(true, 41)] ++ ((true, 40) :: b.tks 1 ++ [(true, 41)])) = some (.seq a b, []) := by
    have k := par_rep hb h2 []
    rw [List.append_nil] at k
    unfold seqG
    have hs : nStar ((true, 40) :: b.tks 1 ++ [(true, 41)]) := fun t' => tok_ne (by simp)
    rw [par_rep ha h1, strs_no hs]
    show seqL (pAlt n) _ a ((true, 40) :: b.tks 1 ++ [(true, 41)]) = _
    have hA : atA ((true, 40) :: b.tks 1 ++ [(true, 41)]) = true := rfl
    rw [seqL, if_pos hA, k]
    show seqL (pAlt n) _ (.seq a b) [] = _
    simp only [List.length_append, List.length_cons, List.length_nil]
    rw [seqL, if_neg (by decide)]
  rw [e]
  rfl
theorem jn_alt (ha : a.ok) (hb : b.ok) (h1 : a.dp ≤ n) (h2 : b.dp ≤ n) : pAlt (n + 1) ((true, 40) :: a.tks 1 ++ [(true, 41)] ++ (true, 124) :: ((true, 40) :: b.tks 1 ++ [(true, 41)])) = some (.alt a b, []) := by
  show altG (pAlt n) _ = _
  unfold altG
  have k := par_rep hb h2 []
  rw [List.append_nil] at k
  have e : seqG (pAlt n) ((true, 40) :: a.tks 1 ++ [(true, 41)] ++ (true, 124) :: ((true, 40) :: b.tks 1 ++ [(true, 41)])) = some (a, (true, 124) :: ((true, 40) :: b.tks 1 ++ [(true, 41)])) := by
    unfold seqG
    rw [par_rep ha h1, strs_no (fun t' => tok_ne (by simp))]
    show seqL (pAlt n) _ a ((true, 124) :: _) = _
    have ht : ¬ atA ((true, 124) :: ((true, 40) :: b.tks 1 ++ [(true, 41)])) = true := fun q => by cases q
    rw [seqL, if_neg ht]
  have e2 : seqG (pAlt n) ((true, 40) :: b.tks 1 ++ [(true, 41)]) = some (b, []) := by
    unfold seqG
    rw [k]
    rfl
  rw [e]
  show altL (pAlt n) _ a ((true, 124) :: ((true, 40) :: b.tks 1 ++ [(true, 41)])) = _
  rw [altL, if_pos rfl, e2]
  rfl
theorem jn_rep (ha : a.ok) (h1 : a.dp ≤ n) : pAlt (n + 1) ((true, 40) :: a.tks 1 ++ [(true, 41)] ++ [(true, 42)]) = some (.rep a, []) := by
  show altG (pAlt n) _ = _
  unfold altG
  have e : seqG (pAlt n) ((true, 40) :: a.tks 1 ++ [(true, 41)] ++ [(true, 42)]) = some (.rep a, []) := by
    unfold seqG
    rw [par_rep ha h1]
    rfl
  rw [e]
  rfl
end
section
variable {a b : Rx}
theorem prs_of {T : List UInt8} {ts : List Tok} {r : Rx} (hT : T.length ≤ 8192) (h1 : tkS 0 T = some ts) (h2 : pAlt (4 * ts.length + 4) ts = some (r, [])) (hl : r.nn ≤ 512) : prsP T = (r.po [], 0) := by
  unfold prsP
  rw [if_neg (by omega), h1]
  show (match pAlt (4 * ts.length + 4) ts with
    | some (r, []) => if 512 < r.nn then (([] : List Pn), (2 : Int)) else (r.po [], 0)
    | _ => ([], 40)) = _
  rw [h2]
  show (if 512 < r.nn then (([] : List Pn), (2 : Int)) else (r.po [], 0)) = _
  rw [if_neg (by omega)]
theorem toks_txt (ts : List Tok) (h : ∀ t ∈ ts, okT t) (T : List UInt8) (e : T = ts.flatMap tokB) : tkS 0 T = some ts := by rw [e]; exact toks_read ts h
theorem ok_res {v : Nat} (h : resB v = true) : okT (true, v) := h
theorem prs_seq (ha : a.by8) (hb : b.by8) (hl : a.nn + b.nn ≤ 300) : prsP ([40] ++ a.txt 1 ++ [41, 40] ++ b.txt 1 ++ [41]) = ((Rx.seq a b).po [], 0) := by
  have d1 := dp_nn a
  have d2 := dp_nn b
  have t1 := nn_tks a 1
  have t2 := nn_tks b 1
  have l1 := txt_len a 1
  have l2 := txt_len b 1
  refine prs_of (ts := (true, 40) :: a.tks 1 ++ [(true, 41)] ++ ((true, 40) :: b.tks 1 ++ [(true, 41)])) ?_ (toks_txt _ ?_ _ ?_) ?_ ?_
  · simp only [List.length_append, List.length_cons, List.length_nil]; omega
  · intro t ht
    simp only [List.mem_append, List.mem_cons, List.not_mem_nil, or_false] at ht
    rcases ht with ((rfl | ht) | rfl) | (rfl | ht) | rfl
    · exact ok_res (by decide)
    · exact tks_ok a ha 1 t ht
    · exact ok_res (by decide)
    · exact ok_res (by decide)
    · exact tks_ok b hb 1 t ht
    · exact ok_res (by decide)
  · unfold Rx.txt
    simp only [List.flatMap_append, List.flatMap_cons, List.flatMap_nil, List.append_nil, tokB]
    simp
  · exact jn_seq ha.ok hb.ok (by simp only [List.length_append, List.length_cons, List.length_nil]; omega) (by simp only [List.length_append, List.length_cons, List.length_nil]; omega)
  · show a.nn + b.nn + 1 ≤ 512
    omega
theorem prs_alt (ha : a.by8) (hb : b.by8) (hl : a.nn + b.nn ≤ 300) : prsP ([40] ++ a.txt 1 ++ [41, 124, 40] ++ b.txt 1 ++ [41]) = ((Rx.alt a b).po [], 0) := by
  have d1 := dp_nn a
  have d2 := dp_nn b
  have t1 := nn_tks a 1
  have t2 := nn_tks b 1
  have l1 := txt_len a 1
  have l2 := txt_len b 1
  refine prs_of (ts := (true, 40) :: a.tks 1 ++ [(true, 41)] ++ (true, 124) :: ((true, 40) :: b.tks 1 ++ [(true, 41)])) ?_ (toks_txt _ ?_ _ ?_) ?_ ?_
  · simp only [List.length_append, List.length_cons, List.length_nil]; omega
  · intro t ht
    simp only [List.mem_append, List.mem_cons, List.not_mem_nil, or_false] at ht
    rcases ht with ((rfl | ht) | rfl) | rfl | (rfl | ht) | rfl
    · exact ok_res (by decide)
    · exact tks_ok a ha 1 t ht
    · exact ok_res (by decide)
    · exact ok_res (by decide)
    · exact ok_res (by decide)
    · exact tks_ok b hb 1 t ht
    · exact ok_res (by decide)
  · unfold Rx.txt
    simp only [List.flatMap_append, List.flatMap_cons, List.flatMap_nil, List.append_nil, tokB]
    simp
  · exact jn_alt ha.ok hb.ok (by simp only [List.length_append, List.length_cons, List.length_nil]; omega) (by simp only [List.length_append, List.length_cons, List.length_nil]; omega)
  · show a.nn + b.nn + 1 ≤ 512
    omega
theorem prs_rep (ha : a.by8) (hl : a.nn ≤ 300) : prsP ([40] ++ a.txt 1 ++ [41, 42]) = ((Rx.rep a).po [], 0) := by
  have d1 := dp_nn a
  have t1 := nn_tks a 1
  have l1 := txt_len a 1
  refine prs_of (ts := (true, 40) :: a.tks 1 ++ [(true, 41)] ++ [(true, 42)]) ?_ (toks_txt _ ?_ _ ?_) ?_ ?_
  · simp only [List.length_append, List.length_cons, List.length_nil]; omega
  · intro t ht
    simp only [List.mem_append, List.mem_cons, List.not_mem_nil, or_false] at ht
    rcases ht with ((rfl | ht) | rfl) | rfl
    · exact ok_res (by decide)
    · exact tks_ok a ha 1 t ht
    · exact ok_res (by decide)
    · exact ok_res (by decide)
  · unfold Rx.txt
    simp only [List.flatMap_append, List.flatMap_cons, List.flatMap_nil, List.append_nil, tokB]
    simp
  · exact jn_rep ha.ok (by simp only [List.length_append, List.length_cons, List.length_nil]; omega)
  · show a.nn + 1 ≤ 512
    omega
end

end Go.Proofs.YtfkljlncnfeklaaGreatDoor

/-! No string of a pattern has fewer parentheses than the canonical one. -/
namespace Go.Proofs.YtfkljlncnfeklaaGreatDoor
set_option linter.unusedVariables false

/-- how many opening parentheses -/
def ct : List Tok → Nat
  | [] => 0
  | t :: ts => (if t = (true, 40) then 1 else 0) + ct ts
theorem ct_app : ∀ a b : List Tok, ct (a ++ b) = ct a + ct b
  | [], b => by simp [ct]
  | t :: a, b => by show _ + ct (a ++ b) = _ + ct a + ct b; rw [ct_app a b]; omega
theorem ct_41 (v : Nat) (h : v ≠ 40) (t : List Tok) : ct ((true, v) :: t) = ct t := by
  show (if ((true, v) : Tok) = (true, 40) then 1 else 0) + ct t = ct t
  rw [if_neg (fun q => h (by injection q))]; omega
theorem ct_f (v : Nat) (t : List Tok) : ct ((false, v) :: t) = ct t := by
  show (if ((false, v) : Tok) = (true, 40) then 1 else 0) + ct t = ct t
  rw [if_neg (fun q => by cases q)]; omega
theorem ct_40 (t : List Tok) : ct ((true, 40) :: t) = 1 + ct t := by
  show (if ((true, 40) : Tok) = (true, 40) then 1 else 0) + ct t = _
  rw [if_pos rfl]
/-- the canonical text's, without outer parentheses -/
def Rx.pn : Rx → Nat
  | .emp => 1
  | .rng _ _ => 0
  | .seq a b => (a.pn + if a.sg < 2 then 1 else 0) + (b.pn + if b.sg < 3 then 1 else 0)
  | .alt a b => a.pn + (b.pn + if b.sg < 2 then 1 else 0)
  | .rep a => a.pn + if a.sg < 3 then 1 else 0
theorem sg_pos : ∀ r : Rx, 1 ≤ r.sg ∧ r.sg ≤ 4
  | .emp => by decide
  | .rng _ _ => by show 1 ≤ 4 ∧ 4 ≤ 4; omega
  | .seq _ _ => by show 1 ≤ 2 ∧ 2 ≤ 4; omega
  | .alt _ _ => by show 1 ≤ 1 ∧ 1 ≤ 4; omega
  | .rep _ => by show 1 ≤ 3 ∧ 3 ≤ 4; omega
theorem ct_tks : ∀ (r : Rx) (least : Nat), least ≤ 4 → ct (r.tks least) = r.pn + if r.sg < least then 1 else 0
  | .emp, least, h => by
    show ct [(true, 40), (true, 41)] = 1 + if 4 < least then 1 else 0
    rw [if_neg (by omega)]; rfl
  | .rng lo hi, least, h => by
    unfold Rx.tks
    show ct (if lo = hi then _ else _) = 0 + if 4 < least then 1 else 0
    rw [if_neg (c := 4 < least) (by omega)]
    split
    · rw [ct_f]; rfl
    · rw [ct_41 _ (by decide), ct_f, ct_41 _ (by decide), ct_f, ct_41 _ (by decide)]; rfl
  | .seq a b, least, h => by
    have ha := ct_tks a 2 (by omega)
    have hb := ct_tks b 3 (by omega)
    show ct (if 2 < least then _ else _) = (a.pn + if a.sg < 2 then 1 else 0) + (b.pn + if b.sg < 3 then 1 else 0) + if 2 < least then 1 else 0
    split
    · rw [ct_app, ct_40, ct_app, ha, hb, ct_41 _ (by decide)]
      show _ + 0 = _
      omega
    · rw [ct_app, ha, hb]; omega
  | .alt a b, least, h => by
    have ha := ct_tks a 1 (by omega)
    have hb := ct_tks b 2 (by omega)
    rw [if_neg (by have := sg_pos a; omega)] at ha
    show ct (if 1 < least then _ else _) = a.pn + (b.pn + if b.sg < 2 then 1 else 0) + if 1 < least then 1 else 0
    split
    · rw [ct_app, ct_40, ct_app, ha, ct_41 _ (by decide), hb, ct_41 _ (by decide)]
      show _ + 0 = _
      omega
    · rw [ct_app, ha, ct_41 _ (by decide), hb]; omega
  | .rep a, least, h => by
    have ha := ct_tks a 3 (by omega)
    show ct (if 3 < least then _ else _) = a.pn + (if a.sg < 3 then 1 else 0) + if 3 < least then 1 else 0
    split
    · have e0 : ct ([] : List Tok) = 0 := rfl
      rw [ct_app, ct_40, ct_app, ha, ct_41 _ (by decide), ct_41 _ (by decide), e0]
      omega
    · rw [ct_app, ha, ct_41 _ (by decide)]; rfl
/-- what is read has at least the canonical text's parentheses -/
def Pars (G : List Tok → Option (Rx × List Tok)) (L : Nat) : Prop := ∀ t r t', G t = some (r, t') → ct (r.tks L) + ct t' ≤ ct t
theorem ct_mono (r : Rx) {l m : Nat} (h : l ≤ m) (hm : m ≤ 4) : ct (r.tks l) ≤ ct (r.tks m) := by
  rw [ct_tks r l (by omega), ct_tks r m hm]
  repeat' split
  all_goals omega
theorem strs_ct : ∀ (t : List Tok) (r : Rx), ct ((strs r t).1.tks 3) + ct (strs r t).2 ≤ ct (r.tks 3) + ct t
  | [], r => Nat.le_refl _
  | (false, v) :: t, r => Nat.le_refl _
  | (true, v) :: t, r => by
    unfold strs
    split
    · rename_i c
      subst c
      have h := strs_ct t (.rep r)
      have e : ct ((Rx.rep r).tks 3) = ct (r.tks 3) := by
        rw [ct_tks _ 3 (by omega), ct_tks r 3 (by omega)]
        rw [if_neg (c := (Rx.rep r).sg < 3) (by show ¬ 3 < 3; omega)]
        rfl
      rw [ct_41 _ (by decide)]
      omega
    · exact Nat.le_refl _
section
variable {G : List Tok → Option (Rx × List Tok)}
theorem atm_pars (hG : Pars G 1) : Pars (atmG G) 4 := fun t r t' h => by
  unfold atmG at h
  split at h
  · injection h with h; injection h with h1 h2; subst h1; subst h2
    rename_i v t
    rw [ct_f, ct_tks _ 4 (by omega), if_neg (c := (Rx.rng v v).sg < 4) (by show ¬ 4 < 4; omega)]
    show 0 + 0 + ct t ≤ ct t
    omega
  · rename_i v t
    split at h
    · rename_i hv
      subst hv
      unfold brG at h
      split at h
      · rename_i lo d hi e t2
        split at h
        · rename_i hd
          injection h with h; injection h with h1 h2; subst h1; subst h2
          rw [ct_41 _ (by decide), ct_f, ct_41 _ (by omega), ct_f, ct_41 _ (by omega), ct_tks _ 4 (by omega), if_neg (c := (Rx.rng lo hi).sg < 4) (by show ¬ 4 < 4; omega)]
          show 0 + 0 + ct t2 ≤ ct t2
          omega
        · cases h
      · cases h
    · split at h
      · rename_i hv
        subst hv
        rw [ct_40]
        unfold parG at h
        split at h
        · rename_i h41
          injection h with h; injection h with h1 h2; subst h1; subst h2
          rcases t with _ | ⟨x, u⟩
          · cases h41
          · injection h41 with h41
            subst h41
            rw [ct_41 _ (by decide)]
            show 1 + ct u ≤ 1 + ct u
            omega
        · split at h
          · rename_i hg
            have hh := hG _ _ _ hg
            split at h
            · rename_i hc
              subst hc
              injection h with h; injection h with h1 h2; subst h1; subst h2
              rw [ct_41 _ (by decide), ct_tks _ 1 (by omega)] at hh
              rw [ct_tks _ 4 (by omega)]
              split <;> omega
            · cases h
          · cases h
      · cases h
  · cases h
theorem rep_pars (hG : Pars G 1) : Pars (repG G) 3 := fun t r t' h => by
  unfold repG at h
  rcases ha : atmG G t with _ | ⟨q, u⟩
  · rw [ha] at h; cases h
  · rw [ha] at h
    injection h with h
    have e1 := congrArg Prod.fst h
    have e2 := congrArg Prod.snd h
    change (strs q u).1 = r at e1
    change (strs q u).2 = t' at e2
    have h1 := atm_pars hG _ _ _ ha
    have h2 := strs_ct u q
    have h3 := ct_mono q (l := 3) (m := 4) (by omega) (by omega)
    rw [e1, e2] at h2
    omega
theorem seqL_pars (hG : Pars G 1) : ∀ k r t r' t', seqL G k r t = some (r', t') → ct (r'.tks 2) + ct t' ≤ ct (r.tks 2) + ct t
  | 0, _, _, _, _, h => by cases h
  | k + 1, r, t, r', t', h => by
    unfold seqL at h
    split at h
    · rcases ha : repG G t with _ | ⟨q, u⟩
      · rw [ha] at h; cases h
      · rw [ha] at h
        have h1 := rep_pars hG _ _ _ ha
        have h2 := seqL_pars hG k (.seq r q) u r' t' h
        have e : ct ((Rx.seq r q).tks 2) = ct (r.tks 2) + ct (q.tks 3) := by
          show ct (if 2 < 2 then _ else _) = _
          rw [if_neg (by omega), ct_app]
        omega
    · injection h with h; injection h with h1 h2; subst h1; subst h2; exact Nat.le_refl _
theorem seq_pars (hG : Pars G 1) : Pars (seqG G) 2 := fun t r t' h => by
  unfold seqG at h
  rcases ha : repG G t with _ | ⟨q, u⟩
  · rw [ha] at h; cases h
  · rw [ha] at h
    have h1 := rep_pars hG _ _ _ ha
    have h2 := seqL_pars hG _ q u r t' h
    have h3 := ct_mono q (l := 2) (m := 3) (by omega) (by omega)
    omega
theorem altL_pars (hG : Pars G 1) : ∀ k r t r' t', altL G k r t = some (r', t') → ct (r'.tks 1) + ct t' ≤ ct (r.tks 1) + ct t
  | 0, _, _, _, _, h => by cases h
  | k + 1, r, [], r', t', h => by injection h with h; injection h with h1 h2; subst h1; subst h2; exact Nat.le_refl _
  | k + 1, r, (false, v) :: t, r', t', h => by injection h with h; injection h with h1 h2; subst h1; subst h2; exact Nat.le_refl _
  | k + 1, r, (true, v) :: t, r', t', h => by
    change (if v = 124 then _ else _) = _ at h
    split at h
    · rename_i hv
      subst hv
      rcases ha : seqG G t with _ | ⟨q, u⟩
      · rw [ha] at h; cases h
      · rw [ha] at h
        have h1 := seq_pars hG _ _ _ ha
        have h2 := altL_pars hG k (.alt r q) u r' t' h
        have e : ct ((Rx.alt r q).tks 1) = ct (r.tks 1) + ct (q.tks 2) := by
          show ct (if 1 < 1 then _ else _) = _
          rw [if_neg (by omega), ct_app, ct_41 _ (by decide)]
        rw [ct_41 _ (by decide)]
        omega
    · injection h with h; injection h with h1 h2; subst h1; subst h2; exact Nat.le_refl _
theorem alt_pars (hG : Pars G 1) : Pars (altG G) 1 := fun t r t' h => by
  unfold altG at h
  rcases ha : seqG G t with _ | ⟨q, u⟩
  · rw [ha] at h; cases h
  · rw [ha] at h
    have h1 := seq_pars hG _ _ _ ha
    have h2 := altL_pars hG _ q u r t' h
    have h3 := ct_mono q (l := 1) (m := 2) (by omega) (by omega)
    omega
end
theorem pAlt_pars : ∀ n, Pars (pAlt n) 1
  | 0 => fun t r t' h => by cases h
  | n + 1 => alt_pars (pAlt_pars n)

/-! ### Bytes -/
def cb : List UInt8 → Nat
  | [] => 0
  | b :: s => (if b = 40 then 1 else 0) + cb s
theorem cb_app : ∀ a b : List UInt8, cb (a ++ b) = cb a + cb b
  | [], b => by simp [cb]
  | t :: a, b => by show _ + cb (a ++ b) = _ + cb a + cb b; rw [cb_app a b]; omega
theorem hex_40 {b : UInt8} {n : Nat} (h : hexV b = some n) : b ≠ 40 := by
  rintro rfl
  have e : hexV 40 = none := by decide
  rw [e] at h
  cases h
/-- the tokens' opening parentheses are the string's -/
theorem cb_ct : ∀ (m : Nat) (s : List UInt8) (ts : List Tok), s.length ≤ m → tkS 0 s = some ts → cb s = ct ts
  | _, [], ts, _, h => by injection h with h; subst h; rfl
  | 0, b :: s, ts, hm, h => by simp at hm
  | m + 1, b :: s, ts, hm, h => by
    have hm' : s.length ≤ m := by simpa using hm
    rw [tkS] at h
    split at h
    · rename_i h92
      rcases he : escV (b :: s) with _ | v
      · rw [he] at h; cases h
      · rw [he] at h
        change (tkS 3 s).map _ = _ at h
        rcases s with _ | ⟨x, _ | ⟨y, _ | ⟨z, u⟩⟩⟩
        · cases he
        · cases he
        · cases he
        · change (tkS 0 u).map _ = _ at h
          change (if x = 120 then (hexV y).bind fun a => (hexV z).map fun b => a * 16 + b else none) = some v at he
          split at he
          · rename_i h120
            rcases hy : hexV y with _ | p
            · rw [hy] at he; cases he
            · rcases hz : hexV z with _ | q
              · rw [hy, hz] at he; cases he
              · rcases hu : tkS 0 u with _ | us
                · rw [hu] at h; cases h
                · rw [hu] at h
                  injection h with h
                  subst h
                  have ih := cb_ct m u us (by simp at hm'; omega) hu
                  have n1 := hex_40 hy
                  have n2 := hex_40 hz
                  show (if b = 40 then 1 else 0) + ((if x = 40 then 1 else 0) + ((if y = 40 then 1 else 0) + ((if z = 40 then 1 else 0) + cb u))) = ct ((false, v) :: us)
                  rw [if_neg (by rw [h92]; decide), if_neg (by rw [h120]; decide), if_neg n1, if_neg n2, ct_f, ih]
                  omega
          · cases he
    · split at h
      · rename_i h92 hp
        rcases hu : tkS 0 s with _ | us
        · rw [hu] at h; cases h
        · rw [hu] at h
          injection h with h
          subst h
          have ih := cb_ct m s us hm' hu
          show (if b = 40 then 1 else 0) + cb s = ct ((false, b.toNat) :: us)
          rw [if_neg (by rintro rfl; revert hp; decide), ct_f, ih]; omega
      · split at h
        · rcases hu : tkS 0 s with _ | us
          · rw [hu] at h; cases h
          · rw [hu] at h
            injection h with h
            subst h
            have ih := cb_ct m s us hm' hu
            by_cases h40 : b = 40
            · subst h40
              show (if (40 : UInt8) = 40 then 1 else 0) + cb s = ct ((true, 40) :: us)
              rw [if_pos rfl, ct_40, ih]
            · show (if b = 40 then 1 else 0) + cb s = ct ((true, b.toNat) :: us)
              rw [if_neg h40, ct_41 _ (fun q => h40 (UInt8.toNat_inj.1 q)), ih]; omega
        · cases h
/-- a string with fewer parentheses is not of the pattern -/
theorem prs_fewer {r : Rx} (h : r.by8) (T : List UInt8) (hT : cb T < cb (r.txt 1)) (q : Rx) (e : prsP T = (q.po [], 0)) : q.po [] ≠ r.po [] := by
  intro he
  have hq : q = r := by
    have h1 := rxN_po (r := q)
    have h2 := rxN_po (r := r)
    rw [he] at h1
    exact h1.symm.trans h2
  subst hq
  unfold prsP at e
  split at e
  · exact absurd (congrArg Prod.snd e) (by show ¬ (2 : Int) = 0; decide)
  · rcases ht : tkS 0 T with _ | ts
    · rw [ht] at e; exact absurd (congrArg Prod.snd e) (by show ¬ (40 : Int) = 0; decide)
    · rw [ht] at e
      have c1 := cb_ct _ T ts (Nat.le_refl _) ht
      have c2 := cb_ct _ (q.txt 1) (q.tks 1) (Nat.le_refl _) (txt_read h 1)
      change (match pAlt (4 * ts.length + 4) ts with
        | some (r, []) => if 512 < r.nn then (([] : List Pn), (2 : Int)) else (r.po [], 0)
        | _ => ([], 40)) = _ at e
      split at e
      · rename_i r hp
        have c3 := pAlt_pars _ _ _ _ hp
        split at e
        · exact absurd (congrArg Prod.snd e) (by show ¬ (2 : Int) = 0; decide)
        · injection e with e _
          have hr : r = q := by
            have h1 := rxN_po (r := r)
            have h2 := rxN_po (r := q)
            rw [e] at h1
            exact h1.symm.trans h2
          subst hr
          have : ct ([] : List Tok) = 0 := rfl
          omega
      · exact absurd (congrArg Prod.snd e) (by show ¬ (40 : Int) = 0; decide)

end Go.Proofs.YtfkljlncnfeklaaGreatDoor

/-! The expressions that the reference makes of numbers; joined lists of nodes. -/
namespace Go.Proofs.YtfkljlncnfeklaaGreatDoor
set_option linter.unusedVariables false

/-- nodes whose operands' numbers are raised -/
def shN (d : Nat) (x : Pn) : Pn := (x.1, x.2.1, x.2.2.1, if 1 ≤ arP x.1 then x.2.2.2.1 + (d : Int) else x.2.2.2.1, if arP x.1 = 2 then x.2.2.2.2 + (d : Int) else x.2.2.2.2)
theorem po_shift : ∀ (r : Rx) (o : List Pn), r.po o = o ++ (r.po []).map (shN o.length)
  | .emp, o => by
    show o ++ [_] = o ++ [shN o.length (0, 0, 0, 0, 0)]
    rfl
  | .rng lo hi, o => rfl
  | .seq a b, o => by
    have pa := a.nn_pos
    have pb := b.nn_pos
    have la := po_len a []
    have lb := po_len b []
    rw [List.length_nil, Nat.zero_add] at la lb
    have ha := po_shift a o
    have hb1 := po_shift b (a.po o)
    have hb2 := po_shift b (a.po [])
    have l1 := po_len a o
    show b.po (a.po o) ++ [_] = o ++ (b.po (a.po []) ++ [_]).map (shN o.length)
    have e1 : (b.po (a.po o)) = o ++ (b.po (a.po [])).map (shN o.length) := by
      rw [hb1, hb2, ha, List.map_append, List.append_assoc, List.map_map]
      congr 2
      refine List.map_congr_left fun x _ => ?_
      rw [List.length_append, List.length_map, la]
      unfold shN
      simp only [Function.comp]
      have hx : ∀ (p : Prop) [Decidable p] (y : Int), (if p then y + ((o.length + a.nn : Nat) : Int) else y) = if p then (if p then y + (a.nn : Int) else y) + (o.length : Int) else (if p then y + (a.nn : Int) else y) := fun p _ y => by
        split
        · push_cast; omega
        · rfl
      rw [hx, hx]
    have l2 : (b.po (a.po o)).length = o.length + (b.po (a.po [])).length := by rw [e1]; simp
    have l3 : (a.po o).length = o.length + (a.po []).length := by rw [l1, la]
    have l4 := po_len b (a.po [])
    rw [List.map_append, ← List.append_assoc, ← e1, l2, l3]
    congr 1
    unfold shN
    simp only [List.map_cons, List.map_nil]
    rw [if_pos (by decide), if_pos (by decide)]
    congr 5
    · have : ((a.po []).length : Int) - 1 = (((a.po []).length - 1 : Nat) : Int) := by omega
      omega
    · omega
  | .alt a b, o => by
    have pa := a.nn_pos
    have pb := b.nn_pos
    have la := po_len a []
    have lb := po_len b []
    rw [List.length_nil, Nat.zero_add] at la lb
    have ha := po_shift a o
    have hb1 := po_shift b (a.po o)
    have hb2 := po_shift b (a.po [])
    have l1 := po_len a o
    show b.po (a.po o) ++ [_] = o ++ (b.po (a.po []) ++ [_]).map (shN o.length)
    have e1 : (b.po (a.po o)) = o ++ (b.po (a.po [])).map (shN o.length) := by
      rw [hb1, hb2, ha, List.map_append, List.append_assoc, List.map_map]
      congr 2
      refine List.map_congr_left fun x _ => ?_
      rw [List.length_append, List.length_map, la]
      unfold shN
      simp only [Function.comp]
      have hx : ∀ (p : Prop) [Decidable p] (y : Int), (if p then y + ((o.length + a.nn : Nat) : Int) else y) = if p then (if p then y + (a.nn : Int) else y) + (o.length : Int) else (if p then y + (a.nn : Int) else y) := fun p _ y => by
        split
        · push_cast; omega
        · rfl
      rw [hx, hx]
    have l2 : (b.po (a.po o)).length = o.length + (b.po (a.po [])).length := by rw [e1]; simp
    have l3 : (a.po o).length = o.length + (a.po []).length := by rw [l1, la]
    have l4 := po_len b (a.po [])
    rw [List.map_append, ← List.append_assoc, ← e1, l2, l3]
    congr 1
    unfold shN
    simp only [List.map_cons, List.map_nil]
    rw [if_pos (by decide), if_pos (by decide)]
    congr 5
    · omega
    · omega
  | .rep a, o => by
    have pa := a.nn_pos
    have la := po_len a []
    rw [List.length_nil, Nat.zero_add] at la
    have ha := po_shift a o
    have l1 := po_len a o
    show a.po o ++ [_] = o ++ (a.po [] ++ [_]).map (shN o.length)
    have l3 : (a.po o).length = o.length + (a.po []).length := by rw [l1, la]
    rw [List.map_append, ← List.append_assoc, ← ha, l3]
    congr 1
    unfold shN
    simp only [List.map_cons, List.map_nil]
    rw [if_pos (by decide), if_neg (by decide)]
    congr 5
    omega

/-! ### Made -/
/-- one number: the stack, the last expression first; how much is used -/
def mkS (x : Nat) (s : List Rx × Nat) : List Rx × Nat :=
  if x % 9 < 5 ∨ s.1.length = 0 ∨ (s.1.length = 1 ∧ x % 9 < 8) then
    ((if x % 9 = 4 then .emp else .rng (97 + x / 9 % 3) (min 99 (97 + x / 9 % 3 + x / 27 % 2))) :: s.1, s.2 + 2)
  else if x % 9 = 8 then ((match s.1 with | a :: t => .rep a :: t | [] => []), s.2 + 1)
  else ((match s.1 with | b :: a :: t => (if x % 9 % 2 = 0 then .seq a b else .alt a b) :: t | t => t), s.2)
def mkL (most : Nat) : List Nat → List Rx × Nat → List Rx × Nat
  | [], s => s
  | x :: l, s => if s.2 + 2 < most then mkL most l (mkS x s) else s
def mkR : List Rx → Rx
  | [] => .emp
  | a :: t => t.foldl (fun out r => .seq out r) a
def madeR (l : List Nat) (most : Nat) : Rx := mkR (mkL most l ([], 0)).1.reverse
/-- the letters' bytes -/
def Rx.abc : Rx → Prop
  | .emp => True
  | .rng lo hi => 97 ≤ lo ∧ lo ≤ hi ∧ hi ≤ 99
  | .seq a b => a.abc ∧ b.abc
  | .alt a b => a.abc ∧ b.abc
  | .rep a => a.abc
theorem Rx.abc.by8 : ∀ {r : Rx}, r.abc → r.by8
  | .emp, _ => trivial
  | .rng lo hi, h => by
    have h1 := h.1; have h2 := h.2.1; have h3 := h.2.2
    exact ⟨h2, by omega⟩
  | .seq _ _, h => ⟨h.1.by8, h.2.by8⟩
  | .alt _ _, h => ⟨h.1.by8, h.2.by8⟩
  | .rep a, h => Rx.abc.by8 (r := a) h
def sumN : List Rx → Nat
  | [] => 0
  | r :: t => r.nn + 1 + sumN t
theorem mkS_ok (x : Nat) {s : List Rx × Nat} (h : ∀ r ∈ s.1, r.abc) (hs : sumN s.1 ≤ s.2) : (∀ r ∈ (mkS x s).1, r.abc) ∧ sumN (mkS x s).1 ≤ (mkS x s).2 ∧ (mkS x s).2 ≤ s.2 + 2 := by
  unfold mkS
  split
  · refine ⟨fun r hr => ?_, ?_, Nat.le_refl _⟩
    · rcases List.mem_cons.1 hr with q | q
      · rw [q]
        split
        · trivial
        · show 97 ≤ _ ∧ _ ≤ min 99 _ ∧ min 99 _ ≤ 99
          omega
      · exact h r q
    · show Rx.nn _ + 1 + sumN s.1 ≤ s.2 + 2
      split
      · show 1 + 1 + _ ≤ _; omega
      · show 1 + 1 + _ ≤ _; omega
  · split
    · rcases e : s.1 with _ | ⟨a, t⟩
      · exact ⟨fun r hr => (by cases hr), Nat.zero_le _, by show s.2 + 1 ≤ s.2 + 2; omega⟩
      · rw [e] at h hs
        refine ⟨fun r hr => ?_, ?_, by show s.2 + 1 ≤ s.2 + 2; omega⟩
        · rcases List.mem_cons.1 hr with q | q
          · rw [q]; exact h a (by simp)
          · exact h r (by simp [q])
        · show a.nn + 1 + 1 + sumN t ≤ s.2 + 1
          change a.nn + 1 + sumN t ≤ s.2 at hs
          omega
    · rcases e : s.1 with _ | ⟨b, _ | ⟨a, t⟩⟩
      · exact ⟨fun r hr => (by cases hr), Nat.zero_le _, by show s.2 ≤ s.2 + 2; omega⟩
      · rw [e] at h hs
        exact ⟨h, hs, by show s.2 ≤ s.2 + 2; omega⟩
      · rw [e] at h hs
        refine ⟨fun r hr => ?_, ?_, by show s.2 ≤ s.2 + 2; omega⟩
        · rcases List.mem_cons.1 hr with q | q
          · rw [q]
            have ha := h a (by simp)
            have hb := h b (by simp)
            split
            · exact ⟨ha, hb⟩
            · exact ⟨ha, hb⟩
          · exact h r (by simp [q])
        · change b.nn + 1 + (a.nn + 1 + sumN t) ≤ s.2 at hs
          show Rx.nn _ + 1 + sumN t ≤ s.2
          split
          · show a.nn + b.nn + 1 + 1 + _ ≤ _; omega
          · show a.nn + b.nn + 1 + 1 + _ ≤ _; omega
theorem mkL_ok (most : Nat) : ∀ (l : List Nat) (s : List Rx × Nat), (∀ r ∈ s.1, r.abc) → sumN s.1 ≤ s.2 → s.2 ≤ most → (∀ r ∈ (mkL most l s).1, r.abc) ∧ sumN (mkL most l s).1 ≤ most
  | [], s, h, hs, hm => ⟨h, by show sumN s.1 ≤ most; omega⟩
  | x :: l, s, h, hs, hm => by
    unfold mkL
    split
    · obtain ⟨h1, h2, h3⟩ := mkS_ok x h hs
      exact mkL_ok most l _ h1 h2 (by omega)
    · exact ⟨h, by omega⟩
theorem sumN_app : ∀ a b : List Rx, sumN (a ++ b) = sumN a + sumN b
  | [], b => by simp [sumN]
  | r :: a, b => by show r.nn + 1 + sumN (a ++ b) = r.nn + 1 + sumN a + sumN b; rw [sumN_app a b]; omega
theorem sumN_rev : ∀ a : List Rx, sumN a.reverse = sumN a
  | [] => rfl
  | r :: a => by
    rw [List.reverse_cons, sumN_app, sumN_rev a]
    show sumN a + (r.nn + 1 + 0) = r.nn + 1 + sumN a
    omega
theorem fold_ok : ∀ (t : List Rx) (a : Rx), a.abc → (∀ r ∈ t, r.abc) → (t.foldl (fun out r => Rx.seq out r) a).abc ∧ (t.foldl (fun out r => Rx.seq out r) a).nn = a.nn + sumN t
  | [], a, ha, _ => ⟨ha, rfl⟩
  | r :: t, a, ha, h => by
    have := fold_ok t (.seq a r) ⟨ha, h r (by simp)⟩ (fun q hq => h q (by simp [hq]))
    refine ⟨this.1, this.2.trans ?_⟩
    show a.nn + r.nn + 1 + sumN t = a.nn + (r.nn + 1 + sumN t)
    omega
theorem madeR_ok (l : List Nat) {most : Nat} (hm : 1 ≤ most) : (madeR l most).abc ∧ (madeR l most).nn ≤ most := by
  obtain ⟨h1, h2⟩ := mkL_ok most l ([], 0) (fun r hr => by cases hr) (Nat.le_refl _) (Nat.zero_le _)
  unfold madeR
  rw [← sumN_rev] at h2
  have h1' : ∀ r ∈ (mkL most l ([], 0)).1.reverse, r.abc := fun r hr => h1 r (List.mem_reverse.1 hr)
  generalize (mkL most l ([], 0)).1.reverse = s at *
  rcases s with _ | ⟨a, t⟩
  · exact ⟨trivial, hm⟩
  · obtain ⟨k1, k2⟩ := fold_ok t a (h1' a (by simp)) (fun r hr => h1' r (by simp [hr]))
    refine ⟨k1, ?_⟩
    show (t.foldl (fun out r => Rx.seq out r) a).nn ≤ most
    rw [k2]
    change a.nn + 1 + sumN t ≤ most at h2
    omega

end Go.Proofs.YtfkljlncnfeklaaGreatDoor

/-! Sets of places as four words of 64 bits: which places, joined, met, taken away, one after the other. -/
namespace Go.Proofs.YtfkljlncnfeklaaGreatDoor
open Go.Lib (ctz ctzFrom ctzFrom_spec)
set_option linter.unusedVariables false

/-- the bits of a word, ascending -/
def elW (w : Nat) : List Nat := (List.range 64).filter fun i => w.testBit i
theorem elW_mem {w i : Nat} (h : w < 18446744073709551616) : i ∈ elW w ↔ w.testBit i = true := by
  unfold elW
  rw [List.mem_filter, List.mem_range]
  constructor
  · exact fun q => q.2
  · intro q
    refine ⟨?_, q⟩
    rcases Nat.lt_or_ge i 64 with c | c
    · exact c
    · rw [Nat.testBit_lt_two_pow (Nat.lt_of_lt_of_le h (show 18446744073709551616 ≤ 2 ^ i from Nat.le_trans (by decide : (18446744073709551616 : Nat) ≤ 2 ^ 64) (Nat.pow_le_pow_right (by decide) c)))] at q
      cases q
theorem elW_zero : elW 0 = [] := by unfold elW; simp
/-- the lowest bit, and the word without it -/
theorem low_bit {w : Nat} (h0 : w ≠ 0) (h : w < 18446744073709551616) : ctz 64 w < 64 ∧ w.testBit (ctz 64 w) = true ∧ (∀ i, i < ctz 64 w → w.testBit i = false) ∧ ∀ i, (w &&& (w - 1)).testBit i = (w.testBit i && !decide (i = ctz 64 w)) := by
  have e : ctz 64 w = ctzFrom 64 w := by unfold ctz; rw [if_neg h0]
  rw [e]
  obtain ⟨m, hm, hk⟩ := ctzFrom_spec 64 w (by omega) h
  generalize ctzFrom 64 w = k at *
  have b0 : ∀ i, w.testBit i = (decide (k ≤ i) && (2 * m + 1).testBit (i - k)) := fun i => by rw [hm, Nat.mul_comm, Nat.testBit_mul_two_pow]
  have hp : 1 ≤ 2 ^ k := Nat.one_le_two_pow
  have w1 : w - 1 = 2 ^ k * (2 * m) + (2 ^ k - 1) := by
    have : 2 ^ k * (2 * m + 1) = 2 ^ k * (2 * m) + 2 ^ k := by rw [Nat.mul_add, Nat.mul_one]
    omega
  have b1 : ∀ i, (w - 1).testBit i = if i < k then true else (2 * m).testBit (i - k) := fun i => by
    rw [w1, Nat.testBit_two_pow_mul_add _ (by omega)]
    split
    · rename_i c
      rw [Nat.testBit_two_pow_sub_one]
      simp [c]
    · rfl
  refine ⟨hk, ?_, fun i hi => ?_, fun i => ?_⟩
  · rw [b0]
    simp
  · rw [b0, decide_eq_false (by omega)]; rfl
  · rw [Nat.testBit_and, b0, b1]
    by_cases c : i < k
    · rw [if_pos c, decide_eq_false (by omega : ¬ k ≤ i)]; rfl
    · rw [if_neg c, decide_eq_true (by omega : k ≤ i)]
      by_cases c2 : i = k
      · subst c2
        simp
      · rw [decide_eq_false c2]
        obtain ⟨j, rfl⟩ : ∃ j, i = k + (j + 1) := ⟨i - k - 1, by omega⟩
        rw [show k + (j + 1) - k = j + 1 by omega, Nat.testBit_succ, Nat.testBit_succ, show (2 * m + 1) / 2 = m by omega, show 2 * m / 2 = m by omega]
        simp
theorem elW_step {w : Nat} (h0 : w ≠ 0) (h : w < 18446744073709551616) : elW w = ctz 64 w :: elW (w &&& (w - 1)) := by
  obtain ⟨hk, h1, h2, h3⟩ := low_bit h0 h
  generalize ctz 64 w = k at *
  unfold elW
  have hr : List.range 64 = List.range k ++ k :: List.range' (k + 1) (63 - k) := by
    rw [List.range_eq_range', List.range_eq_range', ← List.range'_succ]
    have := (List.range'_append_1 (s := 0) (m := k) (n := 63 - k + 1)).symm
    rw [Nat.zero_add] at this
    rw [← this, show k + (63 - k + 1) = 64 by omega]
  rw [hr, List.filter_append, List.filter_append, List.filter_cons, if_pos h1, List.filter_cons]
  have n1 : (List.range k).filter (fun i => w.testBit i) = [] := List.filter_eq_nil_iff.2 fun i hi => by rw [h2 i (List.mem_range.1 hi)]; decide
  have n2 : (List.range k).filter (fun i => (w &&& (w - 1)).testBit i) = [] := List.filter_eq_nil_iff.2 fun i hi => by rw [h3, h2 i (List.mem_range.1 hi)]; simp
  have n3 : ¬ (w &&& (w - 1)).testBit k = true := by rw [h3]; simp
  rw [n1, n2, if_neg n3, List.nil_append, List.nil_append]
  congr 1
  refine List.filter_congr fun i hi => ?_
  have : i ≠ k := by
    have := List.mem_range'_1.1 hi
    omega
  rw [h3]
  simp [this]
theorem elW_lt {w i : Nat} (h : i ∈ elW w) : i < 64 := List.mem_range.1 (List.mem_filter.1 h).1
theorem elW_nodup (w : Nat) : (elW w).Nodup := List.Pairwise.filter _ List.nodup_range
theorem and_less {w : Nat} (h0 : w ≠ 0) : w &&& (w - 1) < w := Nat.lt_of_le_of_lt Nat.and_le_right (by omega)

/-! ### Four words -/
/-- place p is in the set -/
def hasW (ws : List Nat) (p : Nat) : Bool := (ws.getD (p / 64) 0).testBit (p % 64)
/-- four words of 64 bits -/
def W4 (ws : List Nat) : Prop := ws.length = 4 ∧ ∀ i, ws.getD i 0 < 18446744073709551616
/-- the places from word i on, ascending -/
def elF (ws : List Nat) (i : Nat) : List Nat := ((List.range' i (4 - i)).map fun j => (elW (ws.getD j 0)).map fun b => j * 64 + b).flatten
def els (ws : List Nat) : List Nat := elF ws 0
theorem elF_end (ws : List Nat) : elF ws 4 = [] := rfl
theorem elF_step (ws : List Nat) {i : Nat} (h : i < 4) : elF ws i = ((elW (ws.getD i 0)).map fun b => i * 64 + b) ++ elF ws (i + 1) := by
  unfold elF
  obtain ⟨k, hk⟩ : ∃ k, 4 - i = k + 1 := ⟨3 - i, by omega⟩
  rw [hk, List.range'_succ, List.map_cons, List.flatten_cons, show 4 - (i + 1) = k by omega]
theorem els_mem {ws : List Nat} (h : W4 ws) {p : Nat} : p ∈ els ws ↔ p < 256 ∧ hasW ws p = true := by
  unfold els elF hasW
  rw [List.mem_flatten]
  constructor
  · rintro ⟨l, hl, hp⟩
    obtain ⟨j, hj, rfl⟩ := List.mem_map.1 hl
    obtain ⟨b, hb, rfl⟩ := List.mem_map.1 hp
    have hj' := List.mem_range'_1.1 hj
    have hb' := elW_lt hb
    refine ⟨by omega, ?_⟩
    rw [show (j * 64 + b) / 64 = j by omega, show (j * 64 + b) % 64 = b by omega]
    exact (elW_mem (h.2 j)).1 hb
  · rintro ⟨h1, h2⟩
    refine ⟨_, List.mem_map.2 ⟨p / 64, List.mem_range'_1.2 (by omega), rfl⟩, List.mem_map.2 ⟨p % 64, (elW_mem (h.2 _)).2 h2, by omega⟩⟩
theorem els_lt {ws : List Nat} (h : W4 ws) {p : Nat} (hp : p ∈ els ws) : p < 256 := ((els_mem h).1 hp).1
theorem has_big {ws : List Nat} (h : W4 ws) {p : Nat} (hp : 256 ≤ p) : hasW ws p = false := by
  unfold hasW
  rw [List.getD_eq_getElem?_getD, List.getElem?_eq_none (by rw [h.1]; omega)]
  exact Nat.zero_testBit _
/-- the set is empty -/
theorem els_nil {ws : List Nat} (h : W4 ws) : (∀ p, hasW ws p = false) ↔ ∀ i, i < 4 → ws.getD i 0 = 0 := by
  constructor
  · intro q i hi
    refine Nat.eq_of_testBit_eq fun b => ?_
    rw [Nat.zero_testBit]
    by_cases c : b < 64
    · have := q (i * 64 + b)
      unfold hasW at this
      rwa [show (i * 64 + b) / 64 = i by omega, show (i * 64 + b) % 64 = b by omega] at this
    · exact Nat.testBit_lt_two_pow (Nat.lt_of_lt_of_le (h.2 i) (Nat.le_trans (by decide : (18446744073709551616 : Nat) ≤ 2 ^ 64) (Nat.pow_le_pow_right (by decide) (by omega))))
  · intro q p
    unfold hasW
    by_cases c : p / 64 < 4
    · rw [q _ c]; exact Nat.zero_testBit _
    · rw [List.getD_eq_getElem?_getD, List.getElem?_eq_none (by rw [h.1]; omega)]
      exact Nat.zero_testBit _
/-- word by word -/
def zipW (f : Nat → Nat → Nat) (a b : List Nat) : List Nat := (List.range 4).map fun i => f (a.getD i 0) (b.getD i 0)
theorem zipW_get (f : Nat → Nat → Nat) (a b : List Nat) {i : Nat} (h : i < 4) : (zipW f a b).getD i 0 = f (a.getD i 0) (b.getD i 0) := by
  unfold zipW
  rw [List.getD_eq_getElem?_getD, List.getElem?_map, List.getElem?_range h]
  rfl
theorem zipW_len (f : Nat → Nat → Nat) (a b : List Nat) : (zipW f a b).length = 4 := by unfold zipW; simp
theorem zipW_w4 {f : Nat → Nat → Nat} {a b : List Nat} (hf : ∀ x y, x < 18446744073709551616 → y < 18446744073709551616 → f x y < 18446744073709551616) (ha : W4 a) (hb : W4 b) : W4 (zipW f a b) := by
  refine ⟨zipW_len f a b, fun i => ?_⟩
  by_cases h : i < 4
  · rw [zipW_get f a b h]; exact hf _ _ (ha.2 i) (hb.2 i)
  · rw [List.getD_eq_getElem?_getD, List.getElem?_eq_none (by rw [zipW_len]; omega)]; decide
def uniW := zipW (· ||| ·)
def intW := zipW (· &&& ·)
/-- a and not b, for 64 bits -/
def subW := zipW (fun x y => x &&& (18446744073709551615 ^^^ y))
theorem has_zip {f : Nat → Nat → Nat} {g : Bool → Bool → Bool} (hfg : ∀ x y i, i < 64 → (f x y).testBit i = g (x.testBit i) (y.testBit i)) {a b : List Nat} {p : Nat} (hp : p < 256) : hasW (zipW f a b) p = g (hasW a p) (hasW b p) := by
  unfold hasW
  rw [zipW_get f a b (by omega), hfg _ _ _ (by omega)]
theorem has_uni {a b : List Nat} {p : Nat} (hp : p < 256) : hasW (uniW a b) p = (hasW a p || hasW b p) := has_zip (fun x y i _ => Nat.testBit_or x y i) hp
theorem has_int {a b : List Nat} {p : Nat} (hp : p < 256) : hasW (intW a b) p = (hasW a p && hasW b p) := has_zip (fun x y i _ => Nat.testBit_and x y i) hp
theorem has_sub {a b : List Nat} {p : Nat} (hp : p < 256) : hasW (subW a b) p = (hasW a p && !hasW b p) := has_zip (g := fun x y => x && !y) (fun x y i hi => by
  rw [Nat.testBit_and, Nat.testBit_xor, show (18446744073709551615 : Nat) = 2 ^ 64 - 1 from rfl, Nat.testBit_two_pow_sub_one]
  simp [hi]) hp
theorem uni_w4 {a b : List Nat} (ha : W4 a) (hb : W4 b) : W4 (uniW a b) := zipW_w4 (fun x y hx hy => Nat.or_lt_two_pow (n := 64) hx hy) ha hb
theorem int_w4 {a b : List Nat} (ha : W4 a) (hb : W4 b) : W4 (intW a b) := zipW_w4 (fun x y hx hy => Nat.lt_of_le_of_lt Nat.and_le_left hx) ha hb
theorem sub_w4 {a b : List Nat} (ha : W4 a) (hb : W4 b) : W4 (subW a b) := zipW_w4 (fun x y hx hy => Nat.lt_of_le_of_lt Nat.and_le_left hx) ha hb
/-- a place more -/
def addW (a : List Nat) (p : Nat) : List Nat := a.set (p / 64) (a.getD (p / 64) 0 ||| 2 ^ (p % 64))
theorem add_w4 {a : List Nat} (ha : W4 a) (p : Nat) : W4 (addW a p) := by
  refine ⟨by unfold addW; rw [List.length_set]; exact ha.1, fun i => ?_⟩
  unfold addW
  rw [List.getD_eq_getElem?_getD, List.getElem?_set]
  have h2 : 2 ^ (p % 64) < 18446744073709551616 := Nat.lt_of_lt_of_le (Nat.pow_lt_pow_right (by decide) (show p % 64 < 64 by omega)) (by decide)
  split
  · split
    · exact Nat.or_lt_two_pow (n := 64) (ha.2 _) h2
    · decide
  · rw [← List.getD_eq_getElem?_getD]; exact ha.2 i
theorem has_add {a : List Nat} (ha : W4 a) {p q : Nat} (hp : p < 256) (hq : q < 256) : hasW (addW a p) q = (hasW a q || decide (q = p)) := by
  unfold hasW addW
  have hl := ha.1
  rw [List.getD_eq_getElem?_getD, List.getElem?_set]
  by_cases c : p / 64 = q / 64
  · rw [if_pos c, if_pos (by omega)]
    show (a.getD (p / 64) 0 ||| 2 ^ (p % 64)).testBit (q % 64) = _
    rw [Nat.testBit_or, Nat.testBit_two_pow, c]
    congr 1
    rw [decide_eq_decide]
    omega
  · rw [if_neg c, ← List.getD_eq_getElem?_getD, decide_eq_false (by rintro rfl; exact c rfl), Bool.or_false]
/-- no place -/
def noW : List Nat := [0, 0, 0, 0]
theorem no_w4 : W4 noW := ⟨rfl, fun i => by
  rcases i with _ | _ | _ | _ | i
  · decide
  · decide
  · decide
  · decide
  · show (0 : Nat) < _
    decide⟩
theorem has_no (p : Nat) : hasW noW p = false := (els_nil no_w4).2 (fun i hi => by
  rcases i with _ | _ | _ | _ | i
  · rfl
  · rfl
  · rfl
  · rfl
  · omega) p

end Go.Proofs.YtfkljlncnfeklaaGreatDoor

/-! What follows each place, as words: the words of one part behind another. -/
namespace Go.Proofs.YtfkljlncnfeklaaGreatDoor
set_option linter.unusedVariables false

/-- one place more that the first places of b follow -/
def con1 (b : List Nat) (fl : List (List Nat)) (p : Nat) : List (List Nat) := fl.set p (uniW (fl.getD p noW) b)
def conW (b : List Nat) (fl : List (List Nat)) (l : List Nat) : List (List Nat) := l.foldl (con1 b) fl
theorem con1_len (b : List Nat) (fl : List (List Nat)) (p : Nat) : (con1 b fl p).length = fl.length := by unfold con1; rw [List.length_set]
theorem conW_len (b : List Nat) : ∀ (l : List Nat) (fl : List (List Nat)), (conW b fl l).length = fl.length
  | [], fl => rfl
  | p :: l, fl => (conW_len b l (con1 b fl p)).trans (con1_len b fl p)
theorem con1_get (b : List Nat) (fl : List (List Nat)) (p q : Nat) (h : q < fl.length) : (con1 b fl p).getD q noW = if q = p then uniW (fl.getD p noW) b else fl.getD q noW := by
  unfold con1
  rw [List.getD_eq_getElem?_getD, List.getElem?_set]
  by_cases c : p = q
  · rw [if_pos c, if_pos (by omega), if_pos c.symm]; rfl
  · rw [if_neg c, if_neg (fun e => c e.symm), ← List.getD_eq_getElem?_getD]
/-- each element is a set -/
def AllW (fl : List (List Nat)) : Prop := ∀ p, p < fl.length → W4 (fl.getD p noW)
theorem con1_w {b : List Nat} (hb : W4 b) {fl : List (List Nat)} (h : AllW fl) (p : Nat) (hp : p < fl.length) : AllW (con1 b fl p) := fun q hq => by
  rw [con1_len] at hq
  rw [con1_get b fl p q hq]
  split
  · exact uni_w4 (h p hp) hb
  · exact h q hq
theorem conW_all {b : List Nat} (hb : W4 b) : ∀ (l : List Nat) (fl : List (List Nat)), AllW fl → (∀ p ∈ l, p < fl.length) → AllW (conW b fl l)
  | [], fl, h, _ => h
  | p :: l, fl, h, hl => conW_all hb l _ (con1_w hb h p (hl p (by simp))) (fun q hq => by rw [con1_len]; exact hl q (by simp [hq]))
theorem conW_has {b : List Nat} : ∀ (l : List Nat) (fl : List (List Nat)) (p q : Nat), p < fl.length → q < 256 → hasW ((conW b fl l).getD p noW) q = (hasW (fl.getD p noW) q || (decide (p ∈ l) && hasW b q))
  | [], fl, p, q, hp, hq => by
    show hasW (fl.getD p noW) q = _
    simp
  | x :: l, fl, p, q, hp, hq => by
    show hasW ((conW b (con1 b fl x) l).getD p noW) q = _
    rw [conW_has l (con1 b fl x) p q (by rw [con1_len]; exact hp) hq, con1_get b fl x p hp]
    by_cases c : p = x
    · subst c
      rw [if_pos rfl, has_uni hq]
      simp only [List.mem_cons, true_or, decide_true, Bool.true_and]
      cases hasW (fl.getD p noW) q <;> cases hasW b q <;> simp
    · rw [if_neg c]
      simp [c]
/-- the machine of an expression whose places begin at n: what follows, and the part -/
structure FlR (F : Nat → Nat → Bool) (n : Nat) (r : Rx) (fl : List (List Nat)) : Prop where
  len : fl.length = n + r.pl
  all : AllW fl
  has : ∀ p q, p < n + r.pl → q < 256 → hasW (fl.getD p noW) q = ext F n r p q
structure PrR (n : Nat) (r : Rx) (f l : List Nat) : Prop where
  f4 : W4 f
  l4 : W4 l
  fst : ∀ p, p < 256 → hasW f p = r.fst n p
  lst : ∀ p, p < 256 → hasW l p = r.lst n p
section
variable {F : Nat → Nat → Bool} {n : Nat} {a b : Rx} {fl fa la fb lb : List Nat}
theorem PrR.emp : PrR n .emp noW noW := ⟨no_w4, no_w4, fun p _ => has_no p, fun p _ => has_no p⟩
theorem PrR.rng (lo hi : Nat) (hn : n < 256) : PrR n (.rng lo hi) (addW noW n) (addW noW n) := by
  have h : ∀ p, p < 256 → hasW (addW noW n) p = (p == n) := fun p hp => by
    rw [has_add no_w4 hn hp, has_no, Bool.false_or]
    by_cases c : p = n <;> simp [c]
  exact ⟨add_w4 no_w4 n, add_w4 no_w4 n, h, h⟩
theorem PrR.seq (ha : PrR n a fa la) (hb : PrR (n + a.pl) b fb lb) : PrR n (.seq a b) (if a.nul then uniW fa fb else fa) (if b.nul then uniW lb la else lb) := by
  refine ⟨?_, ?_, fun p hp => ?_, fun p hp => ?_⟩
  · split
    · exact uni_w4 ha.f4 hb.f4
    · exact ha.f4
  · split
    · exact uni_w4 hb.l4 ha.l4
    · exact hb.l4
  · show _ = (a.fst n p || (a.nul && b.fst (n + a.pl) p))
    split
    · rename_i c; rw [has_uni hp, ha.fst p hp, hb.fst p hp, c, Bool.true_and]
    · rename_i c; rw [ha.fst p hp, Bool.eq_false_iff.2 c, Bool.false_and, Bool.or_false]
  · show _ = (b.lst (n + a.pl) p || (b.nul && a.lst n p))
    split
    · rename_i c; rw [has_uni hp, hb.lst p hp, ha.lst p hp, c, Bool.true_and]
    · rename_i c; rw [hb.lst p hp, Bool.eq_false_iff.2 c, Bool.false_and, Bool.or_false]
theorem PrR.alt (ha : PrR n a fa la) (hb : PrR (n + a.pl) b fb lb) : PrR n (.alt a b) (uniW fa fb) (uniW la lb) :=
  ⟨uni_w4 ha.f4 hb.f4, uni_w4 ha.l4 hb.l4, fun p hp => by rw [has_uni hp, ha.fst p hp, hb.fst p hp]; rfl, fun p hp => by rw [has_uni hp, ha.lst p hp, hb.lst p hp]; rfl⟩
theorem PrR.rep (ha : PrR n a fa la) : PrR n (.rep a) fa la := ⟨ha.f4, ha.l4, ha.fst, ha.lst⟩
theorem els_pr (ha : PrR n a fa la) (h256 : n + a.pl ≤ 256) {p : Nat} : p ∈ els la ↔ a.lst n p = true := by
  rw [els_mem ha.l4]
  constructor
  · rintro ⟨h1, h2⟩; rw [← ha.lst p h1]; exact h2
  · intro h
    have := a.lst_in _ _ h
    exact ⟨by omega, by rw [ha.lst p (by omega)]; exact h⟩
theorem FlR.seq {fl : List (List Nat)} (hf : FlR (ext F n a) (n + a.pl) b fl) (ha : PrR n a fa la) (hb : PrR (n + a.pl) b fb lb) (h256 : n + a.pl + b.pl ≤ 256) : FlR F n (.seq a b) (conW fb fl (els la)) := by
  have hin : ∀ p ∈ els la, p < fl.length := fun p hp => by
    have := a.lst_in _ _ ((els_pr ha (by omega)).1 hp)
    rw [hf.len]; omega
  refine ⟨by rw [conW_len, hf.len]; show n + a.pl + b.pl = n + (a.pl + b.pl); omega, conW_all hb.f4 _ _ hf.all hin, fun p q hp hq => ?_⟩
  change p < n + (a.pl + b.pl) at hp
  rw [conW_has _ _ p q (by rw [hf.len]; omega) hq, hf.has p q (by omega) hq, ← ext_seq]
  congr 1
  rw [hb.fst q hq]
  congr 1
  rw [Bool.eq_iff_iff, decide_eq_true_iff]
  exact els_pr ha (by omega)
theorem FlR.alt {fl : List (List Nat)} (hf : FlR (ext F n a) (n + a.pl) b fl) : FlR F n (.alt a b) fl :=
  ⟨by rw [hf.len]; show n + a.pl + b.pl = n + (a.pl + b.pl); omega, hf.all, fun p q hp hq => by
    change p < n + (a.pl + b.pl) at hp
    rw [hf.has p q (by omega) hq, ext_alt]⟩
theorem FlR.rep {fl : List (List Nat)} (hf : FlR F n a fl) (ha : PrR n a fa la) (h256 : n + a.pl ≤ 256) : FlR F n (.rep a) (conW fa fl (els la)) := by
  have hin : ∀ p ∈ els la, p < fl.length := fun p hp => by
    have := a.lst_in _ _ ((els_pr ha h256).1 hp)
    rw [hf.len]; omega
  refine ⟨by rw [conW_len, hf.len]; rfl, conW_all ha.f4 _ _ hf.all hin, fun p q hp hq => ?_⟩
  change p < n + a.pl at hp
  rw [conW_has _ _ p q (by rw [hf.len]; omega) hq, hf.has p q (by omega) hq, ← ext_rep]
  congr 1
  rw [ha.fst q hq]
  congr 1
  rw [Bool.eq_iff_iff, decide_eq_true_iff]
  exact els_pr ha h256
end

end Go.Proofs.YtfkljlncnfeklaaGreatDoor

/-! The finished machine in words: reading a byte, and a string. -/
namespace Go.Proofs.YtfkljlncnfeklaaGreatDoor
set_option linter.unusedVariables false

section
variable {F : Nat → Nat → Bool} {n : Nat} {a : Rx} {fl : List (List Nat)}
theorem FlR.to (h : FlR F n a fl) : FlR (ext F n a) (n + a.pl) .emp fl := by
  refine ⟨h.len, h.all, fun p q hp hq => ?_⟩
  change p < n + a.pl + 0 at hp
  rw [h.has p q (by omega) hq]
  show _ = if p < n + a.pl then _ else _
  rw [if_pos (by omega)]
theorem FlR.start : FlR (fun _ _ => false) 0 .emp [] := ⟨rfl, fun p hp => by simp at hp, fun p q hp _ => by change p < 0 + 0 at hp; omega⟩
theorem FlR.rng (h : FlR F n .emp fl) (lo hi : Nat) : FlR F n (.rng lo hi) (fl ++ [noW]) := by
  have hl : fl.length = n := h.len
  refine ⟨by rw [List.length_append, hl]; rfl, fun p hp => ?_, fun p q hp hq => ?_⟩
  · rw [List.length_append, List.length_singleton] at hp
    rw [List.getD_eq_getElem?_getD]
    by_cases c : p < fl.length
    · rw [List.getElem?_append_left c, ← List.getD_eq_getElem?_getD]; exact h.all p c
    · obtain rfl : p = fl.length := by omega
      rw [List.getElem?_append_right (Nat.le_refl _)]; simp; exact no_w4
  · change p < n + 1 at hp
    rw [List.getD_eq_getElem?_getD]
    show _ = if p < n then F p q else false
    by_cases c : p < n
    · rw [List.getElem?_append_left (by omega), ← List.getD_eq_getElem?_getD, if_pos c]
      have := h.has p q (by show p < n + 0; omega) hq
      rw [this]
      show (if p < n then F p q else _) = _
      rw [if_pos c]
    · obtain rfl : p = fl.length := by omega
      rw [List.getElem?_append_right (Nat.le_refl _), if_neg c]
      simp
      exact has_no q
/-- the machine of an expression -/
structure McW (r : Rx) (fl : List (List Nat)) (f l : List Nat) : Prop where
  pl : r.pl ≤ 256
  len : fl.length = r.pl
  all : AllW fl
  fol : ∀ p q, p < r.pl → q < 256 → hasW (fl.getD p noW) q = r.fol 0 p q
  pr : PrR 0 r f l
theorem McW.of {r : Rx} {f l : List Nat} (h : FlR (fun _ _ => false) 0 r fl) (hp : PrR 0 r f l) (h256 : r.pl ≤ 256) : McW r fl f l :=
  ⟨h256, by rw [h.len]; omega, h.all, fun p q h1 h2 => by
    rw [h.has p q (by omega) h2]
    show (if p < 0 then _ else _) = _
    rw [if_neg (by omega)], hp⟩
end
/-- one reached place -/
def rd1 (rg : List (Nat × Nat)) (fl : List (List Nat)) (la : List Nat) (b : UInt8) (s : List Nat × Bool) (p : Nat) : List Nat × Bool := if inR (rg.getD p (0, 0)) b then (uniW s.1 (fl.getD p noW), s.2 || hasW la p) else s
def rdW (rg : List (Nat × Nat)) (fl : List (List Nat)) (la : List Nat) (b : UInt8) (s : List Nat × Bool) (l : List Nat) : List Nat × Bool := l.foldl (rd1 rg fl la b) s
section
variable {r : Rx} {fl : List (List Nat)} {f l : List Nat}
theorem rdW_w4 (h : McW r fl f l) (b : UInt8) : ∀ (ps : List Nat) (s : List Nat × Bool), W4 s.1 → (∀ p ∈ ps, p < r.pl) → W4 (rdW r.rgs fl l b s ps).1
  | [], s, hs, _ => hs
  | p :: ps, s, hs, hp => rdW_w4 h b ps _ (by
      unfold rd1
      split
      · exact uni_w4 hs (h.all p (by rw [h.len]; exact hp p (by simp)))
      · exact hs) (fun q hq => hp q (by simp [hq]))
theorem rdW_fst (h : McW r fl f l) (b : UInt8) : ∀ (ps : List Nat) (s : List Nat × Bool), (∀ p ∈ ps, p < r.pl) → ∀ q, q < 256 → hasW (rdW r.rgs fl l b s ps).1 q = (hasW s.1 q || ps.any fun p => r.rd 0 p b && r.fol 0 p q)
  | [], s, _, q, _ => by show hasW s.1 q = _; simp
  | p :: ps, s, hp, q, hq => by
    have hpp := hp p (by simp)
    show hasW (rdW r.rgs fl l b (rd1 r.rgs fl l b s p) ps).1 q = _
    rw [rdW_fst h b ps _ (fun q hq => hp q (by simp [hq])) q hq, List.any_cons]
    have e := r.rd_rgs 0 p b (Nat.zero_le _) (by omega)
    rw [Nat.sub_zero] at e
    unfold rd1
    rw [← e]
    cases hc : r.rd 0 p b
    · rw [if_neg (by decide), Bool.false_and, Bool.false_or]
    · rw [if_pos rfl]
      show (hasW (uniW s.1 (fl.getD p noW)) q || _) = _
      rw [has_uni hq, h.fol p q hpp hq, Bool.true_and, Bool.or_assoc]
theorem rdW_snd (h : McW r fl f l) (b : UInt8) : ∀ (ps : List Nat) (s : List Nat × Bool), (∀ p ∈ ps, p < r.pl) → (rdW r.rgs fl l b s ps).2 = (s.2 || ps.any fun p => r.rd 0 p b && r.lst 0 p)
  | [], s, _ => by show s.2 = _; simp
  | p :: ps, s, hp => by
    have hpp := hp p (by simp)
    show (rdW r.rgs fl l b (rd1 r.rgs fl l b s p) ps).2 = _
    rw [rdW_snd h b ps _ (fun q hq => hp q (by simp [hq])), List.any_cons]
    have e := r.rd_rgs 0 p b (Nat.zero_le _) (by omega)
    rw [Nat.sub_zero] at e
    unfold rd1
    rw [← e]
    cases hc : r.rd 0 p b
    · rw [if_neg (by decide), Bool.false_and, Bool.false_or]
    · rw [if_pos rfl]
      have := h.pl
      show ((s.2 || hasW l p) || _) = _
      rw [h.pr.lst p (by omega), Bool.true_and, Bool.or_assoc]
/-- the words hold a set of the machine's places -/
structure IsS (r : Rx) (w : List Nat) (S : Nat → Bool) : Prop where
  w4 : W4 w
  has : ∀ p, p < 256 → hasW w p = S p
  inn : ∀ p, S p = true → p < r.pl
theorem IsS.els {w : List Nat} {S : Nat → Bool} (h : IsS r w S) (h256 : r.pl ≤ 256) {p : Nat} : p ∈ els w ↔ S p = true := by
  rw [els_mem h.w4]
  constructor
  · rintro ⟨h1, h2⟩; rw [← h.has p h1]; exact h2
  · intro q
    have := h.inn p q
    exact ⟨by omega, by rw [h.has p (by omega)]; exact q⟩
theorem any_els {w : List Nat} {S : Nat → Bool} (h : IsS r w S) (h256 : r.pl ≤ 256) (g : Nat → Bool) : (els w).any g = (List.range r.pl).any fun p => S p && g p := by
  rw [Bool.eq_iff_iff, List.any_eq_true, List.any_eq_true]
  constructor
  · rintro ⟨p, h1, h2⟩
    have hs := (h.els h256).1 h1
    exact ⟨p, List.mem_range.2 (h.inn p hs), by rw [hs, h2]; rfl⟩
  · rintro ⟨p, h1, h2⟩
    simp only [Bool.and_eq_true] at h2
    exact ⟨p, (h.els h256).2 h2.1, h2.2⟩
/-- reading a byte -/
theorem read_ok (h : McW r fl f l) {w : List Nat} {S : Nat → Bool} (hs : IsS r w S) (b : UInt8) : IsS r (rdW r.rgs fl l b (noW, false) (els w)).1 (stp r S b) ∧ (rdW r.rgs fl l b (noW, false) (els w)).2 = fin' r S b := by
  have hin : ∀ p ∈ els w, p < r.pl := fun p hp => hs.inn p ((hs.els h.pl).1 hp)
  refine ⟨⟨rdW_w4 h b _ _ no_w4 hin, fun q hq => ?_, fun q hq => ?_⟩, ?_⟩
  · rw [rdW_fst h b _ _ hin q hq]
    show (hasW noW q || _) = _
    rw [has_no, Bool.false_or, any_els hs h.pl]
    unfold stp
    congr 1
    funext p
    rw [Bool.and_assoc]
  · unfold stp at hq
    obtain ⟨p, _, hp⟩ := List.any_eq_true.1 hq
    simp only [Bool.and_eq_true] at hp
    have := r.fol_in _ _ _ hp.2
    omega
  · rw [rdW_snd h b _ _ hin, any_els hs h.pl, Bool.false_or]
    unfold fin'
    congr 1
    funext p
    rw [Bool.and_assoc]
theorem McW.start (h : McW r fl f l) : IsS r f (r.fst 0) := ⟨h.pr.f4, h.pr.fst, fun p hp => by have := r.fst_in _ _ hp; omega⟩
end
/-- all words are 0: no place is reached -/
theorem IsS.dead {r : Rx} {w : List Nat} {S : Nat → Bool} (h : IsS r w S) (h256 : r.pl ≤ 256) (hz : ∀ i, i < 4 → w.getD i 0 = 0) : ∀ p, S p = false := fun p => by
  rw [Bool.eq_false_iff]
  intro q
  have := h.inn p q
  rw [← h.has p (by omega), (els_nil h.w4).2 hz p] at q
  cases q

end Go.Proofs.YtfkljlncnfeklaaGreatDoor

/-! The search in words: meeting the places that can read the next byte, and counting what has been seen. -/
namespace Go.Proofs.YtfkljlncnfeklaaGreatDoor
set_option linter.unusedVariables false

/-- the new partners of place i -/
def frW (ag : List (List Nat)) (qs : List Nat) (seen : List (List Nat)) (i : Nat) : List Nat := subW (intW qs (ag.getD i noW)) (seen.getD i noW)
/-- place i meets -/
def mt1 (ag : List (List Nat)) (qs : List Nat) (s : List (Nat × Nat) × List (List Nat)) (i : Nat) : List (Nat × Nat) × List (List Nat) :=
  (s.1 ++ (els (frW ag qs s.2 i)).map fun j => (i, j), s.2.set i (uniW (s.2.getD i noW) (frW ag qs s.2 i)))
def mtW (ag : List (List Nat)) (qs : List Nat) (s : List (Nat × Nat) × List (List Nat)) (l : List Nat) : List (Nat × Nat) × List (List Nat) := l.foldl (mt1 ag qs) s
/-- how many are seen -/
def cnS : List (List Nat) → Nat
  | [] => 0
  | w :: l => (els w).length + cnS l
theorem filter_two {α : Type} (p q : α → Bool) (h : ∀ x, ¬ (p x = true ∧ q x = true)) : ∀ l : List α, (l.filter fun x => p x || q x).length = (l.filter p).length + (l.filter q).length
  | [] => rfl
  | x :: l => by
    have ih := filter_two p q h l
    have hx := h x
    simp only [List.filter_cons]
    cases hp : p x <;> cases hq : q x
    · simpa using ih
    · simp [ih]; omega
    · simp [ih]; omega
    · exact absurd ⟨hp, hq⟩ hx
theorem elF_len (ws : List Nat) : ∀ k i, i + k = 4 → (elF ws i).length = ((List.range' i k).map fun j => (elW (ws.getD j 0)).length).sum
  | 0, i, h => by
    obtain rfl : i = 4 := by omega
    rfl
  | k + 1, i, h => by
    rw [elF_step ws (by omega), List.length_append, List.length_map, elF_len ws k (i + 1) (by omega), List.range'_succ, List.map_cons, List.sum_cons]
theorem els_len (ws : List Nat) : (els ws).length = ((List.range 4).map fun j => (elW (ws.getD j 0)).length).sum := by
  rw [List.range_eq_range']
  exact elF_len ws 4 0 rfl
theorem els_uni {a b : List Nat} (h : ∀ p, p < 256 → ¬ (hasW a p = true ∧ hasW b p = true)) : (els (uniW a b)).length = (els a).length + (els b).length := by
  rw [els_len, els_len, els_len]
  have e : ∀ j, j < 4 → (elW ((uniW a b).getD j 0)).length = (elW (a.getD j 0)).length + (elW (b.getD j 0)).length := fun j hj => by
    unfold uniW
    rw [zipW_get _ _ _ hj]
    unfold elW
    have hf : (fun i => (a.getD j 0 ||| b.getD j 0).testBit i) = fun i => (a.getD j 0).testBit i || (b.getD j 0).testBit i := by funext i; rw [Nat.testBit_or]
    rw [hf]
    have : ((List.range 64).filter fun i => (a.getD j 0).testBit i || (b.getD j 0).testBit i) = ((List.range 64).filter fun i => ((a.getD j 0).testBit i && decide (i < 64)) || ((b.getD j 0).testBit i && decide (i < 64))) := List.filter_congr fun i hi => by rw [decide_eq_true (List.mem_range.1 hi), Bool.and_true, Bool.and_true]
    rw [this, filter_two]
    · congr 2 <;> refine List.filter_congr fun i hi => ?_ <;> rw [decide_eq_true (List.mem_range.1 hi), Bool.and_true]
    · rintro i ⟨h1, h2⟩
      simp only [Bool.and_eq_true, decide_eq_true_eq] at h1 h2
      refine h (j * 64 + i) (by omega) ?_
      unfold hasW
      rw [show (j * 64 + i) / 64 = j by omega, show (j * 64 + i) % 64 = i by omega]
      exact ⟨h1.1, h2.1⟩
  show (([0, 1, 2, 3] : List Nat).map _).sum = (([0, 1, 2, 3] : List Nat).map _).sum + (([0, 1, 2, 3] : List Nat).map _).sum
  simp only [List.map_cons, List.map_nil, List.sum_cons, List.sum_nil]
  rw [e 0 (by omega), e 1 (by omega), e 2 (by omega), e 3 (by omega)]
  omega
theorem cnS_set : ∀ (l : List (List Nat)) (i : Nat) (w : List Nat), i < l.length → cnS (l.set i w) + (els (l.getD i noW)).length = cnS l + (els w).length
  | [], i, w, h => by simp at h
  | x :: l, 0, w, h => by
    show (els w).length + cnS l + (els x).length = (els x).length + cnS l + (els w).length
    omega
  | x :: l, i + 1, w, h => by
    have := cnS_set l i w (by simpa using h)
    show (els x).length + cnS (l.set i w) + (els (l.getD i noW)).length = (els x).length + cnS l + (els w).length
    omega
theorem els_256 {w : List Nat} : (els w).length ≤ 256 := by
  rw [els_len]
  have e : ∀ j, (elW (w.getD j 0)).length ≤ 64 := fun j => by
    unfold elW
    have := List.length_filter_le (fun i => (w.getD j 0).testBit i) (List.range 64)
    rwa [List.length_range] at this
  show (([0, 1, 2, 3] : List Nat).map _).sum ≤ 256
  simp only [List.map_cons, List.map_nil, List.sum_cons, List.sum_nil]
  have := e 0; have := e 1; have := e 2; have := e 3
  omega
theorem cnS_le : ∀ l : List (List Nat), cnS l ≤ 256 * l.length
  | [] => Nat.le_refl _
  | w :: l => by
    have := cnS_le l
    have := @els_256 w
    show (els w).length + cnS l ≤ 256 * (l.length + 1)
    omega
section
variable {ag : List (List Nat)} {qs : List Nat}
theorem fr_w4 (hq : W4 qs) (hag : ∀ i, W4 (ag.getD i noW)) {seen : List (List Nat)} (hs : AllW seen) {i : Nat} (hi : i < seen.length) : W4 (frW ag qs seen i) := sub_w4 (int_w4 hq (hag i)) (hs i hi)
theorem fr_has {seen : List (List Nat)} {i j : Nat} (hj : j < 256) : hasW (frW ag qs seen i) j = (hasW qs j && hasW (ag.getD i noW) j && !hasW (seen.getD i noW) j) := by
  unfold frW
  rw [has_sub hj, has_int hj]
theorem mt1_len (s : List (Nat × Nat) × List (List Nat)) (i : Nat) : (mt1 ag qs s i).2.length = s.2.length := by unfold mt1; simp
theorem mt1_get (s : List (Nat × Nat) × List (List Nat)) (i k : Nat) (hk : k < s.2.length) : (mt1 ag qs s i).2.getD k noW = if k = i then uniW (s.2.getD i noW) (frW ag qs s.2 i) else s.2.getD k noW := by
  unfold mt1
  show (s.2.set i _).getD k noW = _
  rw [List.getD_eq_getElem?_getD, List.getElem?_set]
  by_cases c : i = k
  · rw [if_pos c, if_pos (by omega), if_pos c.symm]; rfl
  · rw [if_neg c, if_neg (fun e => c e.symm), ← List.getD_eq_getElem?_getD]
theorem mt1_all (hq : W4 qs) (hag : ∀ i, W4 (ag.getD i noW)) {s : List (Nat × Nat) × List (List Nat)} (hs : AllW s.2) {i : Nat} (hi : i < s.2.length) : AllW (mt1 ag qs s i).2 := fun k hk => by
  rw [mt1_len] at hk
  rw [mt1_get s i k hk]
  split
  · exact uni_w4 (hs i hi) (fr_w4 hq hag hs hi)
  · exact hs k hk
theorem mtW_len : ∀ (l : List Nat) (s : List (Nat × Nat) × List (List Nat)), (mtW ag qs s l).2.length = s.2.length
  | [], s => rfl
  | i :: l, s => (mtW_len l _).trans (mt1_len s i)
theorem mtW_all (hq : W4 qs) (hag : ∀ i, W4 (ag.getD i noW)) : ∀ (l : List Nat) (s : List (Nat × Nat) × List (List Nat)), AllW s.2 → (∀ i ∈ l, i < s.2.length) → AllW (mtW ag qs s l).2
  | [], s, h, _ => h
  | i :: l, s, h, hl => mtW_all hq hag l _ (mt1_all hq hag h (hl i (by simp))) (fun k hk => by rw [mt1_len]; exact hl k (by simp [hk]))
/-- what is met -/
theorem mtW_ok (hq : W4 qs) (hag : ∀ i, W4 (ag.getD i noW)) : ∀ (l : List Nat) (s : List (Nat × Nat) × List (List Nat)), AllW s.2 → (∀ i ∈ l, i < s.2.length) →
    ∃ nw, (mtW ag qs s l).1 = s.1 ++ nw ∧ cnS (mtW ag qs s l).2 = cnS s.2 + nw.length ∧
      (∀ y ∈ nw, y.1 ∈ l ∧ y.2 < 256 ∧ hasW qs y.2 = true ∧ hasW (ag.getD y.1 noW) y.2 = true ∧ hasW (s.2.getD y.1 noW) y.2 = false) ∧
      ∀ i j, i < s.2.length → j < 256 → (hasW ((mtW ag qs s l).2.getD i noW) j = true ↔ hasW (s.2.getD i noW) j = true ∨ (i, j) ∈ nw) ∧ (i ∈ l → hasW qs j = true → hasW (ag.getD i noW) j = true → hasW ((mtW ag qs s l).2.getD i noW) j = true)
  | [], s, h, _ => ⟨[], (List.append_nil _).symm, rfl, fun y hy => (by cases hy), fun i j hi hj => ⟨⟨fun q => .inl q, fun q => q.resolve_right (by simp)⟩, fun q => (by cases q)⟩⟩
  | i :: l, s, h, hl => by
    have hi := hl i (by simp)
    obtain ⟨nw, e1, e2, e3, e4⟩ := mtW_ok hq hag l (mt1 ag qs s i) (mt1_all hq hag h hi) (fun k hk => by rw [mt1_len]; exact hl k (by simp [hk]))
    have hfr := fr_w4 hq hag h hi
    refine ⟨(els (frW ag qs s.2 i)).map (fun j => (i, j)) ++ nw, ?_, ?_, fun y hy => ?_, fun k j hk hj => ?_⟩
    · show (mtW ag qs (mt1 ag qs s i) l).1 = _
      rw [e1]
      show (s.1 ++ _) ++ nw = _
      rw [List.append_assoc]
    · show cnS (mtW ag qs (mt1 ag qs s i) l).2 = _
      rw [e2, List.length_append, List.length_map]
      have c1 := cnS_set s.2 i (uniW (s.2.getD i noW) (frW ag qs s.2 i)) hi
      have c2 := els_uni (a := s.2.getD i noW) (b := frW ag qs s.2 i) (fun p hp => by
        rintro ⟨q1, q2⟩
        rw [fr_has hp, q1] at q2
        simp at q2)
      show cnS (s.2.set i _) + nw.length = _
      omega
    · rcases List.mem_append.1 hy with q | q
      · obtain ⟨j, hj, rfl⟩ := List.mem_map.1 q
        obtain ⟨j1, j2⟩ := (els_mem hfr).1 hj
        rw [fr_has j1] at j2
        simp only [Bool.and_eq_true, Bool.not_eq_true'] at j2
        exact ⟨by simp, j1, j2.1.1, j2.1.2, j2.2⟩
      · obtain ⟨q1, q2, q3, q4, q5⟩ := e3 y q
        refine ⟨by simp [q1], q2, q3, q4, ?_⟩
        rw [mt1_get s i y.1 (hl _ (by simp [q1]))] at q5
        by_cases c : y.1 = i
        · rw [if_pos c, has_uni q2] at q5
          rw [c]
          exact (Bool.or_eq_false_iff.1 q5).1
        · rwa [if_neg c] at q5
    · obtain ⟨k1, k2⟩ := e4 k j (by rw [mt1_len]; exact hk) hj
      rw [mt1_get s i k hk] at k1
      have hmt : (mtW ag qs s (i :: l)).2 = (mtW ag qs (mt1 ag qs s i) l).2 := rfl
      rw [hmt]
      by_cases c : k = i
      · subst c
        rw [if_pos rfl, has_uni hj] at k1
        have hin : hasW (frW ag qs s.2 k) j = true ↔ (k, j) ∈ (els (frW ag qs s.2 k)).map (fun j => (k, j)) := by
          constructor
          · intro q; exact List.mem_map.2 ⟨j, (els_mem hfr).2 ⟨hj, q⟩, rfl⟩
          · intro q
            obtain ⟨j', hj', e⟩ := List.mem_map.1 q
            injection e with _ e
            subst e
            exact ((els_mem hfr).1 hj').2
        refine ⟨?_, fun _ q1 q2 => ?_⟩
        · rw [k1, Bool.or_eq_true, hin, List.mem_append, or_assoc]
        · rw [k1, Bool.or_eq_true]
          left
          cases hs : hasW (s.2.getD k noW) j
          · right
            rw [fr_has hj, q1, q2, hs]; rfl
          · left; rfl
      · rw [if_neg c] at k1
        have hin : (k, j) ∉ (els (frW ag qs s.2 i)).map (fun j => (i, j)) := fun q => by
          obtain ⟨j', _, e⟩ := List.mem_map.1 q
          injection e with e _
          exact c e.symm
        refine ⟨?_, fun q q1 q2 => k2 ?_ q1 q2⟩
        · rw [k1, List.mem_append]
          constructor
          · rintro (q | q)
            · exact .inl q
            · exact .inr (.inr q)
          · rintro (q | q | q)
            · exact .inl q
            · exact absurd q hin
            · exact .inr q
        · rcases List.mem_cons.1 q with r | r
          · exact absurd r c
          · exact r
end

end Go.Proofs.YtfkljlncnfeklaaGreatDoor

/-! The search of two machines: what is seen are the places of the fronts; passing a pair; the beginning; the end. -/
namespace Go.Proofs.YtfkljlncnfeklaaGreatDoor
set_option linter.unusedVariables false

/-- the words of the places that can read the same byte -/
structure AgW (a b : Rx) (ag : List (List Nat)) : Prop where
  w4 : ∀ i, W4 (ag.getD i noW)
  has : ∀ i j, i < a.pl → j < 256 → hasW (ag.getD i noW) j = agP a b (i, j)
/-- the words of what is seen -/
structure Seen (a b : Rx) (Gs : List (List UInt8 × List (Nat × Nat))) (seen : List (List Nat)) : Prop where
  len : seen.length = a.pl
  all : AllW seen
  iff : ∀ i j, i < a.pl → j < 256 → (hasW (seen.getD i noW) j = true ↔ InF Gs (i, j))
  inn : ∀ x, InF Gs x → agP a b x = true
theorem InF_snoc {Fs : List (List UInt8 × List (Nat × Nat))} {t : List UInt8} {l : List (Nat × Nat)} {x : Nat × Nat} : InF (Fs ++ [(t, l)]) x ↔ InF Fs x ∨ x ∈ l := by
  constructor
  · rintro ⟨k, t', l', h1, h2⟩
    rcases (get_app _ _ _ _).1 h1 with q | ⟨_, q⟩
    · exact .inl ⟨k, t', l', q, h2⟩
    · injection q with _ q; subst q; exact .inr h2
  · rintro (⟨k, t', l', h1, h2⟩ | h)
    · exact ⟨k, t', l', (get_app _ _ _ _).2 (.inl h1), h2⟩
    · exact ⟨Fs.length, t, l, (get_app _ _ _ _).2 (.inr ⟨rfl, rfl⟩), h⟩
section
variable {a b : Rx} {ag fa fb : List (List Nat)} {f1 l1 f2 l2 : List Nat}
theorem agP_lt {x : Nat × Nat} (h : agP a b x = true) : x.1 < a.pl ∧ x.2 < b.pl := by
  unfold agP at h
  simp only [Bool.and_eq_true, decide_eq_true_eq] at h
  exact h.1
theorem Seen.perm {Fs : List (List UInt8 × List (Nat × Nat))} {t : List UInt8} {l l' : List (Nat × Nat)} {seen : List (List Nat)} (h : Seen a b (Fs ++ [(t, l)]) seen) (hl : ∀ x, x ∈ l' ↔ x ∈ l) : Seen a b (Fs ++ [(t, l')]) seen := by
  have e : ∀ x, InF (Fs ++ [(t, l')]) x ↔ InF (Fs ++ [(t, l)]) x := fun x => by rw [InF_snoc, InF_snoc, hl]
  exact ⟨h.len, h.all, fun i j hi hj => (h.iff i j hi hj).trans (e _).symm, fun x hx => h.inn x ((e x).1 hx)⟩
theorem Seen.drop {Fs : List (List UInt8 × List (Nat × Nat))} {t : List UInt8} {seen : List (List Nat)} (h : Seen a b (Fs ++ [(t, [])]) seen) : Seen a b Fs seen := by
  have e : ∀ x, InF (Fs ++ [(t, [])]) x ↔ InF Fs x := fun x => by rw [InF_snoc]; simp
  exact ⟨h.len, h.all, fun i j hi hj => (h.iff i j hi hj).trans (e _), fun x hx => h.inn x ((e x).2 hx)⟩
theorem Seen.add {Fs : List (List UInt8 × List (Nat × Nat))} (t : List UInt8) {seen : List (List Nat)} (h : Seen a b Fs seen) : Seen a b (Fs ++ [(t, [])]) seen := by
  have e : ∀ x, InF (Fs ++ [(t, [])]) x ↔ InF Fs x := fun x => by rw [InF_snoc]; simp
  exact ⟨h.len, h.all, fun i j hi hj => (h.iff i j hi hj).trans (e _).symm, fun x hx => h.inn x ((e x).1 hx)⟩
/-- meeting two sets of places -/
theorem meet_ok (hA : AgW a b ag) {P Q : Nat → Bool} {ps qs : List Nat} (hp : IsS a ps P) (hq : IsS b qs Q) (ha : a.pl ≤ 256) (hb : b.pl ≤ 256) {Fs : List (List UInt8 × List (Nat × Nat))} {t : List UInt8} {l : List (Nat × Nat)} {seen : List (List Nat)} (h : Seen a b (Fs ++ [(t, l)]) seen) :
    ∃ nw, (mtW ag qs (l, seen) (els ps)).1 = l ++ nw ∧ cnS (mtW ag qs (l, seen) (els ps)).2 = cnS seen + nw.length ∧ Seen a b (Fs ++ [(t, l ++ nw)]) (mtW ag qs (l, seen) (els ps)).2 ∧
      (∀ y ∈ nw, P y.1 = true ∧ Q y.2 = true ∧ agP a b y = true) ∧ ∀ y, P y.1 = true → Q y.2 = true → agP a b y = true → InF (Fs ++ [(t, l)]) y ∨ y ∈ nw := by
  have hin : ∀ i ∈ els ps, i < seen.length := fun i hi => by rw [h.len]; exact hp.inn i ((hp.els ha).1 hi)
  obtain ⟨nw, e1, e2, e3, e4⟩ := mtW_ok hq.w4 hA.w4 (els ps) (l, seen) h.all hin
  have hnw : ∀ y ∈ nw, P y.1 = true ∧ Q y.2 = true ∧ agP a b y = true := fun y hy => by
    obtain ⟨k1, k2, k3, k4, _⟩ := e3 y hy
    have hP := (hp.els ha).1 k1
    exact ⟨hP, by rw [← hq.has _ k2]; exact k3, by rw [← hA.has _ _ (hp.inn _ hP) k2]; exact k4⟩
  refine ⟨nw, e1, e2, ⟨?_, mtW_all hq.w4 hA.w4 _ _ h.all hin, fun i j hi hj => ?_, fun x hx => ?_⟩, hnw, fun y h1 h2 h3 => ?_⟩
  · rw [mtW_len]; exact h.len
  · rw [(e4 i j (by show i < seen.length; rw [h.len]; exact hi) hj).1, InF_snoc, List.mem_append]
    have := h.iff i j hi hj
    rw [InF_snoc] at this
    rw [this, or_assoc]
  · rw [InF_snoc, List.mem_append, ← or_assoc] at hx
    rcases hx with hx | hx
    · exact h.inn x (InF_snoc.2 hx)
    · exact (hnw x hx).2.2
  · obtain ⟨y1, y2⟩ := y
    have hl := agP_lt h3
    have hj : y2 < 256 := by have := hl.2; show y2 < 256; simp at this; omega
    obtain ⟨k1, k2⟩ := e4 y1 y2 (by show y1 < seen.length; rw [h.len]; exact hl.1) hj
    have := k2 ((hp.els ha).2 h1) (by rw [hq.has _ hj]; exact h2) (by rw [hA.has _ _ hl.1 hj]; exact h3)
    rw [k1] at this
    rcases this with q | q
    · exact .inl ((h.iff y1 y2 hl.1 hj).1 q)
    · exact .inr q
theorem McW.fols {r : Rx} {fl : List (List Nat)} {f l : List Nat} (h : McW r fl f l) {i : Nat} (hi : i < r.pl) : IsS r (fl.getD i noW) (r.fol 0 i) :=
  ⟨h.all i (by rw [h.len]; exact hi), fun p hp => h.fol i p hi hp, fun p hp => by have := r.fol_in _ _ _ hp; omega⟩
abbrev SvP (a b : Rx) := Sv (stP a b) (nxP a b) (rdP a b) (acP a b) (leP a b)
/-- passing a pair that reads its least byte -/
theorem pass_ok (hA : AgW a b ag) (ma : McW a fa f1 l1) (mb : McW b fb f2 l2) (hba : ∀ i, i < a.pl → (rgA a i).1 ≤ (rgA a i).2 ∧ (rgA a i).2 < 256) (hbb : ∀ i, i < b.pl → (rgA b i).1 ≤ (rgA b i).2 ∧ (rgA b i).2 < 256)
    {Fs : List (List UInt8 × List (Nat × Nat))} {u : List UInt8} {l l0 : List (Nat × Nat)} {seen : List (List Nat)} {P : Nat → Nat × Nat → Prop} {n : Nat} {x : Nat × Nat}
    (hv : SvP a b (Fs ++ [(u ++ [leP a b x], l)]) P) (hs : Seen a b (Fs ++ [(u ++ [leP a b x], l)]) seen) (hn : Fs[n]? = some (u, l0)) (hx : x ∈ l0) (hac : ¬ acP a b x)
    (hP : ∀ (k : Nat) (y : Nat × Nat), k = Fs.length → ¬ P k y) (ht : ∀ (k : Nat) (t' : List UInt8) (l' : List (Nat × Nat)), Fs[k]? = some (t', l') → leS t' (u ++ [leP a b x])) :
    ∃ nw, (mtW ag (fb.getD x.2 noW) (l, seen) (els (fa.getD x.1 noW))).1 = l ++ nw ∧ cnS (mtW ag (fb.getD x.2 noW) (l, seen) (els (fa.getD x.1 noW))).2 = cnS seen + nw.length ∧
      Seen a b (Fs ++ [(u ++ [leP a b x], l ++ nw)]) (mtW ag (fb.getD x.2 noW) (l, seen) (els (fa.getD x.1 noW))).2 ∧ SvP a b (Fs ++ [(u ++ [leP a b x], l ++ nw)]) (fun k y => P k y ∨ (k = n ∧ y = x)) := by
  have hag := hs.inn x (InF_snoc.2 (.inl ⟨n, u, l0, hn, hx⟩))
  have hl := agP_lt hag
  obtain ⟨nw, e1, e2, e3, e4, e5⟩ := meet_ok hA (ma.fols hl.1) (mb.fols hl.2) ma.pl mb.pl hs
  exact ⟨nw, e1, e2, e3, hv.pass hn hx (le_least hba hbb hag).2.2 hac (fun y hy => e4 y hy) (fun y hy => e5 y hy.1 hy.2.1 hy.2.2) hP ht⟩
/-- the beginning -/
theorem Seen.zero {seen : List (List Nat)} (hl : seen.length = a.pl) (hz : ∀ i, i < a.pl → seen.getD i noW = noW) : Seen a b [([], [])] seen := by
  have hn : ∀ x, ¬ InF [(([] : List UInt8), ([] : List (Nat × Nat)))] x := fun x => by
    rintro ⟨k, t, l, h1, h2⟩
    have := lt_of_get h1
    obtain rfl : k = 0 := by simpa using this
    injection h1 with h1
    injection h1 with _ h1
    subst h1
    cases h2
  refine ⟨hl, fun i hi => by rw [hz i (by omega)]; exact no_w4, fun i j hi hj => ?_, fun x hx => absurd hx (hn x)⟩
  rw [hz i hi, has_no]
  exact ⟨fun q => (by cases q), fun q => absurd q (hn _)⟩
theorem start_ok (hA : AgW a b ag) (ma : McW a fa f1 l1) (mb : McW b fb f2 l2) {seen : List (List Nat)} (hl : seen.length = a.pl) (hz : ∀ i, i < a.pl → seen.getD i noW = noW) :
    ∃ nw, (mtW ag f2 ([], seen) (els f1)).1 = nw ∧ cnS (mtW ag f2 ([], seen) (els f1)).2 = cnS seen + nw.length ∧ Seen a b [([], nw)] (mtW ag f2 ([], seen) (els f1)).2 ∧ SvP a b [([], nw)] (fun _ _ => False) := by
  obtain ⟨nw, e1, e2, e3, e4, e5⟩ := meet_ok (Fs := []) (t := []) (l := []) hA ma.start mb.start ma.pl mb.pl (Seen.zero hl hz)
  refine ⟨nw, e1, e2, e3, ⟨fun k t l hk x hx => ?_, fun x hx => ?_, fun k t l hk x hx q => q.elim⟩⟩
  · have := lt_of_get hk
    obtain rfl : k = 0 := by simpa using this
    injection hk with hk
    injection hk with h1 h2
    subst h1; subst h2
    obtain ⟨q1, q2, q3⟩ := e4 x hx
    exact .nil ⟨q1, q2, q3⟩
  · refine ⟨0, [], nw, rfl, ?_, rfl⟩
    rcases e5 x hx.1 hx.2.1 hx.2.2 with q | q
    · obtain ⟨k, t, l, h1, h2⟩ := q
      have := lt_of_get h1
      obtain rfl : k = 0 := by simpa using this
      injection h1 with h1
      injection h1 with _ h1
      subst h1
      cases h2
    · exact q
/-- the string that is found first -/
theorem found_ok (hba : ∀ i, i < a.pl → (rgA a i).1 ≤ (rgA a i).2 ∧ (rgA a i).2 < 256) (hbb : ∀ i, i < b.pl → (rgA b i).1 ≤ (rgA b i).2 ∧ (rgA b i).2 < 256)
    {Fs : List (List UInt8 × List (Nat × Nat))} {P : Nat → Nat × Nat → Prop} (hv : SvP a b Fs P) {n B : Nat} (ht : Txs Fs n B) {u : List UInt8} {l0 : List (Nat × Nat)} (hn : Fs[n]? = some (u, l0)) {x : Nat × Nat} (hx : x ∈ l0) (hag : agP a b x = true) (hac : acP a b x)
    (hP1 : ∀ k y, k < n → P k y) (hP2 : ∀ y ∈ l0, (leP a b y).toNat < (leP a b x).toNat → P n y) : FirstB a b (u ++ [leP a b x]) := by
  have hr := (le_least hba hbb hag).2.2
  have hacs : AcS (stP a b) (nxP a b) (rdP a b) (acP a b) (u ++ [leP a b x]) := ⟨u, _, x, rfl, hv.reach n u l0 hn x hx, hr, hac⟩
  obtain ⟨h1, h2, h3⟩ := acs_iff.1 hacs
  refine ⟨h1, h2, h3, fun v k1 k2 k3 => ?_⟩
  have hno := hv.first (fun x c hc => le_rd hba hbb hc) (w := u ++ [leP a b x]) (fun k t l hk y hy hlt => by
    rcases ht.passed hn hk hlt with q | ⟨rfl, q⟩
    · exact hP1 k y q
    · rw [hn] at hk
      injection hk with hk
      injection hk with _ hk
      subst hk
      exact hP2 y hy q) (acs_iff.2 ⟨k1, k2, k3⟩)
  rcases ltS_tri v (u ++ [leP a b x]) with q | q | q
  · exact absurd q hno
  · exact .inr q.symm
  · exact .inl q
/-- nothing is found -/
theorem none_ok (hba : ∀ i, i < a.pl → (rgA a i).1 ≤ (rgA a i).2 ∧ (rgA a i).2 < 256) (hbb : ∀ i, i < b.pl → (rgA b i).1 ≤ (rgA b i).2 ∧ (rgA b i).2 < 256)
    {Fs : List (List UInt8 × List (Nat × Nat))} {P : Nat → Nat × Nat → Prop} (hv : SvP a b Fs P) (hP : ∀ k t l, Fs[k]? = some (t, l) → ∀ x ∈ l, P k x) : ∀ v, v ≠ [] → ¬ (a.mt v ∧ b.mt v) := fun v hne h =>
  hv.none (fun x c hc => le_rd hba hbb hc) (fun _ => True) (fun _ _ _ _ => trivial) (fun k t l hk x hx _ => hP k t l hk x hx) trivial (acs_iff.2 ⟨hne, h⟩)
end
/-- the bytes of the places are in order -/
theorem by8_rgs : ∀ {r : Rx}, r.by8 → ∀ i, i < r.pl → (rgA r i).1 ≤ (rgA r i).2 ∧ (rgA r i).2 < 256
  | .emp, _, i, h => absurd h (Nat.not_lt_zero _)
  | .rng lo hi, hb, i, h => by
    change i < 1 at h
    obtain rfl : i = 0 := by omega
    exact hb
  | .seq a b, hb, i, h => by
    change i < a.pl + b.pl at h
    unfold rgA
    show ((a.rgs ++ b.rgs).getD i (0, 0)).1 ≤ ((a.rgs ++ b.rgs).getD i (0, 0)).2 ∧ ((a.rgs ++ b.rgs).getD i (0, 0)).2 < 256
    by_cases c : i < a.pl
    · rw [app_rgs (by rw [a.rgs_len]; exact c)]; exact by8_rgs hb.1 i c
    · rw [app_rgs2 (by rw [a.rgs_len]; omega), a.rgs_len]; exact by8_rgs hb.2 (i - a.pl) (by omega)
  | .alt a b, hb, i, h => by
    change i < a.pl + b.pl at h
    unfold rgA
    show ((a.rgs ++ b.rgs).getD i (0, 0)).1 ≤ ((a.rgs ++ b.rgs).getD i (0, 0)).2 ∧ ((a.rgs ++ b.rgs).getD i (0, 0)).2 < 256
    by_cases c : i < a.pl
    · rw [app_rgs (by rw [a.rgs_len]; exact c)]; exact by8_rgs hb.1 i c
    · rw [app_rgs2 (by rw [a.rgs_len]; omega), a.rgs_len]; exact by8_rgs hb.2 (i - a.pl) (by omega)
  | .rep a, hb, i, h => by8_rgs (r := a) hb i h

end Go.Proofs.YtfkljlncnfeklaaGreatDoor

/-! The values of the examples in the laws of package pattern. -/
namespace Go.Proofs.YtfkljlncnfeklaaGreatDoor
set_option linter.unusedVariables false

/-- a(b|c)* -/
def syP : Rx := .seq (.rng 97 97) (.rep (.alt (.rng 98 98) (.rng 99 99)))
/-- [a-z]([a-z])* -/
def syQ : Rx := .seq (.rng 97 122) (.rep (.rng 97 122))
/-- i(f|n) -/
def syR : Rx := .seq (.rng 105 105) (.alt (.rng 102 102) (.rng 110 110))
/-- a(bc) -/
def syS : Rx := .seq (.rng 97 97) (.seq (.rng 98 98) (.rng 99 99))
theorem sy_p : prsP [97, 40, 98, 124, 99, 41, 42] = (syP.po [], 0) := by decide +kernel
theorem sy_q : prsP [91, 97, 45, 122, 93, 40, 91, 97, 45, 122, 93, 41, 42] = (syQ.po [], 0) := by decide +kernel
theorem sy_r : prsP [105, 40, 102, 124, 110, 41] = (syR.po [], 0) := by decide +kernel
theorem sy_no : prsP [91, 98, 45, 97, 93] = ([], 40) := by decide +kernel
theorem sy_txt : syS.txt 1 = [97, 40, 98, 99, 41] := by decide +kernel
theorem sy_by8 : syP.by8 ∧ syQ.by8 ∧ syR.by8 ∧ syS.by8 := by
  refine ⟨⟨⟨?_, ?_⟩, ⟨?_, ?_⟩, ?_, ?_⟩, ⟨⟨?_, ?_⟩, ?_, ?_⟩, ⟨⟨?_, ?_⟩, ⟨?_, ?_⟩, ?_, ?_⟩, ⟨?_, ?_⟩, ⟨?_, ?_⟩, ?_, ?_⟩ <;> decide
theorem sy_nn : (syP.po []).length = 6 := by decide +kernel
theorem sy_pat : [((1 : Int), (97 : Int), (97 : Int), (0 : Int), (0 : Int)), (1, 98, 98, 0, 0), (1, 99, 99, 0, 0), (2, 0, 0, 1, 2), (2, 0, 0, 0, 3)] = syS.po [] := by decide +kernel
theorem sy_lng : lng syP [97, 98, 99, 100] = 3 ∧ lng syP [97, 98, 99, 98] = 4 ∧ lng syP [98, 97] = -1 := by decide +kernel
/-- everything -/
def anyR : Rx := .rep (.rng 0 255)
theorem any_mt : ∀ v : List UInt8, anyR.mt v
  | [] => Star.nil
  | c :: v => by
    have h : Star (Rx.rng 0 255).mt v := any_mt v
    exact Star.app (u := [c]) ⟨c, rfl, Nat.zero_le _, by have := c.toNat_lt; omega⟩ h
theorem u8_eq {b : UInt8} {n : Nat} (hn : n < 256) (h1 : n ≤ b.toNat) (h2 : b.toNat ≤ n) : b = UInt8.ofNat n := by
  apply UInt8.toNat_inj.1
  rw [UInt8.toNat_ofNat']
  omega
theorem sy_short : FirstB syP anyR [97] := by
  refine ⟨by simp, ⟨[97], [], rfl, ⟨97, rfl, by decide, by decide⟩, .nil⟩, any_mt _, ?_⟩
  rintro v hne ⟨u, w, rfl, ⟨b, rfl, h1, h2⟩, _⟩ _
  have hb := u8_eq (by omega) h1 h2
  subst hb
  rcases w with _ | ⟨c, w⟩
  · exact .inr rfl
  · exact .inl (.inl (by simp))
theorem sy_common : FirstB syQ syR [105, 102] := by
  refine ⟨by simp, ⟨[105], [102], rfl, ⟨105, rfl, by decide, by decide⟩, ?_⟩, ⟨[105], [102], rfl, ⟨105, rfl, by decide, by decide⟩, .inl ⟨102, rfl, by decide, by decide⟩⟩, ?_⟩
  · exact Star.app (u := [102]) (v := []) ⟨102, rfl, by decide, by decide⟩ .nil
  · rintro v hne _ ⟨u, w, rfl, ⟨b, rfl, h1, h2⟩, ⟨c, rfl, h3, h4⟩ | ⟨c, rfl, h3, h4⟩⟩
    · have hb := u8_eq (by omega) h1 h2
      have hc := u8_eq (by omega) h3 h4
      subst hb; subst hc
      exact .inr rfl
    · have hb := u8_eq (by omega) h1 h2
      have hc := u8_eq (by omega) h3 h4
      subst hb; subst hc
      exact .inl (.inr ⟨rfl, .inr ⟨rfl, .inl (by decide)⟩⟩)

end Go.Proofs.YtfkljlncnfeklaaGreatDoor

/-! What Matches and Longest answer. -/
namespace Go.Proofs.YtfkljlncnfeklaaGreatDoor
set_option linter.unusedVariables false

theorem mt_lng (r : Rx) (s : List UInt8) : lng r s = (s.length : Int) ↔ r.mt s := by
  have h := lng_best r s
  constructor
  · intro e
    rcases h with ⟨h1, h2⟩ | ⟨m, h0, h1, h2, h3⟩
    · omega
    · have : m = s.length := by omega
      subst this
      rwa [List.take_of_length_le (Nat.le_refl _)] at h2
  · intro hm
    refine h.uniq (.inr ⟨s.length, rfl, Nat.le_refl _, by rwa [List.take_of_length_le (Nat.le_refl _)], fun j h1 h2 => by omega⟩)
theorem lng_range (r : Rx) (s : List UInt8) : -1 ≤ lng r s ∧ lng r s ≤ (s.length : Int) := by
  rcases lng_best r s with ⟨h1, h2⟩ | ⟨m, h0, h1, h2, h3⟩ <;> omega
/-- a match of n > 0 bytes, and no longer one -/
theorem lng_pos {r : Rx} {s : List UInt8} {n : Nat} (h : lng r s = (n : Int)) : r.mt (s.take n) ∧ ∀ j, n < j → j ≤ s.length → ¬ r.mt (s.take j) := by
  rcases lng_best r s with ⟨h1, h2⟩ | ⟨m, h0, h1, h2, h3⟩
  · omega
  · obtain rfl : m = n := by omega
    exact ⟨h2, h3⟩
theorem lng_low {r : Rx} {s : List UInt8} (h : lng r s ≤ 0) : ∀ j, 0 < j → j ≤ s.length → ¬ r.mt (s.take j) := fun j h1 h2 => by
  rcases lng_best r s with ⟨k1, k2⟩ | ⟨m, h0, k1, k2, k3⟩
  · exact k2 j h2
  · exact k3 j (by omega) h2
/-- further bytes never make it smaller -/
theorem lng_grow (r : Rx) (s t : List UInt8) : lng r s ≤ lng r (s ++ t) := by
  rcases lng_best r s with ⟨h1, h2⟩ | ⟨m, h0, h1, h2, h3⟩
  · have := (lng_range r (s ++ t)).1; omega
  · rcases lng_best r (s ++ t) with ⟨k1, k2⟩ | ⟨m', k0, k1, k2, k3⟩
    · exact absurd (by rw [List.take_append_of_le_length h1]; exact h2) (k2 m (by rw [List.length_append]; omega))
    · rw [h0, k0]
      rcases Nat.lt_or_ge m' m with c | c
      · exact absurd (by rw [List.take_append_of_le_length h1]; exact h2) (k3 m c (by rw [List.length_append]; omega))
      · omega

end Go.Proofs.YtfkljlncnfeklaaGreatDoor

/-! The reference's way to match: the offsets at which the matches of an expression end. -/
namespace Go.Proofs.YtfkljlncnfeklaaGreatDoor
set_option linter.unusedVariables false

/-- one number more, if it isn't there -/
def tg1 (o : List Nat) (k : Nat) : List Nat := if k ∈ o then o else o ++ [k]
def tog (o m : List Nat) : List Nat := m.foldl tg1 o
theorem tg1_mem (o : List Nat) (k x : Nat) : x ∈ tg1 o k ↔ x ∈ o ∨ x = k := by
  unfold tg1
  split
  · rename_i h
    constructor
    · exact .inl
    · rintro (q | q)
      · exact q
      · rw [q]; exact h
  · simp
theorem tog_mem : ∀ (m o : List Nat) (x : Nat), x ∈ tog o m ↔ x ∈ o ∨ x ∈ m
  | [], o, x => by simp [tog]
  | k :: m, o, x => by
    show x ∈ tog (tg1 o k) m ↔ _
    rw [tog_mem m, tg1_mem]
    simp [or_assoc]
theorem tg1_len (o : List Nat) (k : Nat) : o.length ≤ (tg1 o k).length ∧ ((tg1 o k).length = o.length → k ∈ o) := by
  unfold tg1
  split
  · rename_i h; exact ⟨Nat.le_refl _, fun _ => h⟩
  · simp
theorem tog_len : ∀ (m o : List Nat), o.length ≤ (tog o m).length ∧ ((tog o m).length = o.length → ∀ k ∈ m, k ∈ o)
  | [], o => ⟨Nat.le_refl _, fun _ k hk => by cases hk⟩
  | x :: m, o => by
    have h1 := tg1_len o x
    have h2 := tog_len m (tg1 o x)
    refine ⟨Nat.le_trans h1.1 h2.1, fun h k hk => ?_⟩
    change (tog (tg1 o x) m).length = o.length at h
    have e : (tg1 o x).length = o.length := by omega
    rcases List.mem_cons.1 hk with q | q
    · rw [q]; exact h1.2 e
    · have := h2.2 (by omega) k q
      rcases (tg1_mem o x k).1 this with r | r
      · exact r
      · rw [r]; exact h1.2 e
/-- until nothing is added -/
def repB (g : List Nat → List Nat) : Nat → List Nat → List Nat
  | 0, o => o
  | n + 1, o => if (tog o (g o)).length = o.length then tog o (g o) else repB g n (tog o (g o))
/-- where the matches that begin at some offsets end -/
def bh (s : List UInt8) : Rx → List Nat → List Nat
  | .emp, f => f
  | .rng lo hi, f => (f.filter fun k => decide (k < s.length) && decide (lo ≤ (s.getD k 0).toNat) && decide ((s.getD k 0).toNat ≤ hi)).map (· + 1)
  | .seq a b, f => bh s b (bh s a f)
  | .alt a b, f => tog (bh s a f) (bh s b f)
  | .rep a, f => repB (bh s a) (s.length + 2) f
/-- a part of the string -/
def sub (s : List UInt8) (i j : Nat) : List UInt8 := (s.take j).drop i
theorem sub_self (s : List UInt8) (i : Nat) : sub s i i = [] := by unfold sub; exact List.drop_eq_nil_of_le (by rw [List.length_take]; omega)
theorem sub_len {s : List UInt8} {i j : Nat} (h : j ≤ s.length) : (sub s i j).length = j - i := by unfold sub; rw [List.length_drop, List.length_take]; omega
theorem sub_app {s : List UInt8} {i j k : Nat} (h1 : i ≤ j) (h2 : j ≤ k) (h3 : k ≤ s.length) : sub s i k = sub s i j ++ sub s j k := by
  unfold sub
  have e : (s.take k).take j = s.take j := by rw [List.take_take, Nat.min_eq_left h2]
  have h := List.take_append_drop j (s.take k)
  rw [e] at h
  generalize (s.take k).drop j = B at h ⊢
  rw [← h, List.drop_append_of_le_length (by rw [List.length_take]; omega)]
theorem sub_split {s : List UInt8} {i k : Nat} (h1 : i ≤ k) (h3 : k ≤ s.length) {u v : List UInt8} (e : sub s i k = u ++ v) : ∃ j, i ≤ j ∧ j ≤ k ∧ sub s i j = u ∧ sub s j k = v := by
  have hl := congrArg List.length e
  rw [sub_len h3, List.length_append] at hl
  refine ⟨i + u.length, by omega, by omega, ?_⟩
  have h := sub_app (s := s) (i := i) (j := i + u.length) (k := k) (by omega) (by omega) h3
  rw [e] at h
  obtain ⟨h4, h5⟩ := List.append_inj h (by rw [sub_len (by omega)]; omega)
  exact ⟨h4.symm, h5.symm⟩
theorem sub_one {s : List UInt8} {k : Nat} (h : k < s.length) : sub s k (k + 1) = [s.getD k 0] := by
  unfold sub
  rw [List.getD_eq_getElem?_getD, List.getElem?_eq_getElem h]
  refine List.ext_getElem? fun n => ?_
  rw [List.getElem?_drop, List.getElem?_take]
  rcases n with _ | n
  · rw [if_pos (by omega), List.getElem?_eq_getElem (by omega)]; rfl
  · rw [if_neg (by omega)]; rfl
/-- the offsets are those of the words -/
def EndsAt (s : List UInt8) (r : Rx) (f o : List Nat) : Prop := ∀ k, k ∈ o ↔ ∃ j, j ∈ f ∧ j ≤ k ∧ k ≤ s.length ∧ r.mt (sub s j k)
def miss (s : List UInt8) (o : List Nat) : Nat := ((List.range (s.length + 1)).filter fun k => !decide (k ∈ o)).length
theorem miss_le (s : List UInt8) (o : List Nat) : miss s o ≤ s.length + 1 := by
  unfold miss
  have := List.length_filter_le (fun k => !decide (k ∈ o)) (List.range (s.length + 1))
  rwa [List.length_range] at this
theorem filter_less {α : Type} (p q : α → Bool) : ∀ (l : List α), (∀ x ∈ l, q x = true → p x = true) → (l.filter q).length ≤ (l.filter p).length ∧ ((∃ x ∈ l, p x = true ∧ q x = false) → (l.filter q).length < (l.filter p).length)
  | [], _ => ⟨Nat.le_refl _, fun ⟨x, hx, _⟩ => by cases hx⟩
  | x :: l, h => by
    obtain ⟨h1, h2⟩ := filter_less p q l (fun y hy => h y (by simp [hy]))
    have hx := h x (by simp)
    simp only [List.filter_cons]
    cases hp : p x <;> cases hq : q x
    · refine ⟨h1, fun ⟨y, hy, k1, k2⟩ => ?_⟩
      rcases List.mem_cons.1 hy with r | r
      · rw [r, hp] at k1; cases k1
      · exact h2 ⟨y, r, k1, k2⟩
    · rw [hq, hp] at hx; exact absurd (hx rfl) (by decide)
    · refine ⟨by simp; omega, fun _ => by simp; omega⟩
    · refine ⟨by simp; omega, fun ⟨y, hy, k1, k2⟩ => ?_⟩
      rcases List.mem_cons.1 hy with r | r
      · rw [r, hq] at k2; cases k2
      · have := h2 ⟨y, r, k1, k2⟩
        simp; omega
theorem miss_less {s : List UInt8} {o o' : List Nat} (h : ∀ k, k ∈ o → k ∈ o') {x : Nat} (hx : x ≤ s.length) (h1 : x ∉ o) (h2 : x ∈ o') : miss s o' < miss s o := by
  refine (filter_less _ _ _ (fun y _ q => ?_)).2 ⟨x, List.mem_range.2 (by omega), by simp [h1], by simp [h2]⟩
  simp only [Bool.not_eq_true', decide_eq_false_iff_not] at q ⊢
  exact fun r => q (h y r)
theorem repB_ok {s : List UInt8} {a : Rx} {g : List Nat → List Nat} {f : List Nat} (hf : ∀ j ∈ f, j ≤ s.length) (hg : ∀ o, (∀ j ∈ o, j ≤ s.length) → EndsAt s a o (g o)) : ∀ (n : Nat) (o : List Nat), miss s o < n → (∀ k ∈ f, k ∈ o) → (∀ k ∈ o, ∃ j, j ∈ f ∧ j ≤ k ∧ k ≤ s.length ∧ Star a.mt (sub s j k)) → EndsAt s (.rep a) f (repB g n o)
  | 0, o, h, _, _ => by omega
  | n + 1, o, hm, h1, h2 => by
    have hle : ∀ j ∈ o, j ≤ s.length := fun j hj => by obtain ⟨i, _, _, h, _⟩ := h2 j hj; exact h
    have hgo := hg o hle
    have h1' : ∀ k ∈ f, k ∈ tog o (g o) := fun k hk => (tog_mem _ _ _).2 (.inl (h1 k hk))
    have h2' : ∀ k ∈ tog o (g o), ∃ j, j ∈ f ∧ j ≤ k ∧ k ≤ s.length ∧ Star a.mt (sub s j k) := fun k hk => by
      rcases (tog_mem _ _ _).1 hk with q | q
      · exact h2 k q
      · obtain ⟨j, k1, k2, k3, k4⟩ := (hgo k).1 q
        obtain ⟨i, m1, m2, m3, m4⟩ := h2 j k1
        exact ⟨i, m1, by omega, k3, by rw [sub_app m2 k2 k3]; exact m4.snoc k4⟩
    unfold repB
    by_cases c : (tog o (g o)).length = o.length
    · rw [if_pos c]
      have hcl := (tog_len (g o) o).2 c
      have hcl' : ∀ k, k ∈ tog o (g o) ↔ k ∈ o := fun k => by
        rw [tog_mem]
        exact ⟨fun q => q.elim id (hcl k), .inl⟩
      intro k
      rw [hcl']
      constructor
      · exact h2 k
      · rintro ⟨j, k1, k2, k3, k4⟩
        have k4 : Star a.mt (sub s j k) := k4
        have key : ∀ (w : List UInt8), Star a.mt w → ∀ j, j ∈ o → j ≤ k → sub s j k = w → k ∈ o := fun w hw => by
          induction hw with
          | nil =>
            intro j hj hjk e
            have hl := congrArg List.length e
            rw [sub_len k3] at hl
            have : j = k := by simp at hl; omega
            rw [← this]; exact hj
          | @app u v hu hv ih =>
            intro j hj hjk e
            obtain ⟨i, i1, i2, i3, i4⟩ := sub_split hjk k3 e
            exact ih i (hcl i ((hgo i).2 ⟨j, hj, i1, by omega, by rw [i3]; exact hu⟩)) i2 i4
        exact key _ k4 j (h1 j k1) k2 rfl
    · rw [if_neg c]
      obtain ⟨x, hx1, hx2⟩ : ∃ x, x ∈ tog o (g o) ∧ x ∉ o := by
        refine Classical.byContradiction fun q => c ?_
        have : ∀ x ∈ g o, x ∈ o := fun x hx => Classical.byContradiction fun r => q ⟨x, (tog_mem _ _ _).2 (.inr hx), r⟩
        have e : ∀ (m : List Nat), (∀ x ∈ m, x ∈ o) → tog o m = o := fun m => by
          induction m with
          | nil => intro _; rfl
          | cons y m ih =>
            intro hm
            show tog (tg1 o y) m = o
            have : tg1 o y = o := by unfold tg1; rw [if_pos (hm y (by simp))]
            rw [this]
            exact ih (fun z hz => hm z (by simp [hz]))
        rw [e _ this]
      obtain ⟨_, _, _, hxl, _⟩ := h2' x hx1
      exact repB_ok hf hg n _ (by have := miss_less (s := s) (fun k hk => (tog_mem (g o) o k).2 (.inl hk)) hxl hx2 hx1; omega) h1' h2'
theorem bh_ok (s : List UInt8) : ∀ (r : Rx) (f : List Nat), (∀ j ∈ f, j ≤ s.length) → EndsAt s r f (bh s r f)
  | .emp, f, hf => fun k => by
    show k ∈ f ↔ _
    constructor
    · intro h; exact ⟨k, h, Nat.le_refl _, hf k h, sub_self s k⟩
    · rintro ⟨j, h1, h2, h3, h4⟩
      have hl := congrArg List.length (show sub s j k = [] from h4)
      rw [sub_len h3] at hl
      have : j = k := by simp at hl; omega
      rw [← this]; exact h1
  | .rng lo hi, f, hf => fun k => by
    show k ∈ (f.filter _).map _ ↔ _
    rw [List.mem_map]
    constructor
    · rintro ⟨j, hj, rfl⟩
      obtain ⟨j1, j2⟩ := List.mem_filter.1 hj
      simp only [Bool.and_eq_true, decide_eq_true_eq] at j2
      exact ⟨j, j1, by omega, by omega, ⟨_, sub_one j2.1.1, j2.1.2, j2.2⟩⟩
    · rintro ⟨j, h1, h2, h3, b, h4, h5, h6⟩
      have hl := congrArg List.length h4
      rw [sub_len h3] at hl
      obtain rfl : k = j + 1 := by simp at hl; omega
      have hb : b = s.getD j 0 := by
        rw [sub_one (by omega)] at h4
        injection h4 with h4
        exact h4.symm
      refine ⟨j, List.mem_filter.2 ⟨h1, ?_⟩, rfl⟩
      simp only [Bool.and_eq_true, decide_eq_true_eq]
      rw [← hb]
      exact ⟨⟨by omega, h5⟩, h6⟩
  | .seq a b, f, hf => fun k => by
    have ia := bh_ok s a f hf
    have hle : ∀ j ∈ bh s a f, j ≤ s.length := fun j hj => by obtain ⟨_, _, _, h, _⟩ := (ia j).1 hj; exact h
    have ib := bh_ok s b (bh s a f) hle
    show k ∈ bh s b (bh s a f) ↔ _
    rw [ib k]
    constructor
    · rintro ⟨j, h1, h2, h3, h4⟩
      obtain ⟨i, i1, i2, i3, i4⟩ := (ia j).1 h1
      exact ⟨i, i1, by omega, h3, _, _, sub_app i2 h2 h3, i4, h4⟩
    · rintro ⟨i, i1, i2, h3, u, v, e, hu, hv⟩
      obtain ⟨j, j1, j2, j3, j4⟩ := sub_split i2 h3 e
      exact ⟨j, (ia j).2 ⟨i, i1, j1, by omega, by rw [j3]; exact hu⟩, j2, h3, by rw [j4]; exact hv⟩
  | .alt a b, f, hf => fun k => by
    show k ∈ tog (bh s a f) (bh s b f) ↔ _
    rw [tog_mem, bh_ok s a f hf k, bh_ok s b f hf k]
    constructor
    · rintro (⟨j, h1, h2, h3, h4⟩ | ⟨j, h1, h2, h3, h4⟩)
      · exact ⟨j, h1, h2, h3, .inl h4⟩
      · exact ⟨j, h1, h2, h3, .inr h4⟩
    · rintro ⟨j, h1, h2, h3, h4 | h4⟩
      · exact .inl ⟨j, h1, h2, h3, h4⟩
      · exact .inr ⟨j, h1, h2, h3, h4⟩
  | .rep a, f, hf => repB_ok hf (fun o ho => bh_ok s a o ho) (s.length + 2) f (by have := miss_le s f; omega) (fun k hk => hk) (fun k hk => ⟨k, hk, Nat.le_refl _, hf k hk, by rw [sub_self]; exact .nil⟩)

end Go.Proofs.YtfkljlncnfeklaaGreatDoor

/-! Two neighbouring nodes of a pattern are exchanged: the pattern is valid still, and its expression is the same. -/
namespace Go.Proofs.YtfkljlncnfeklaaGreatDoor
set_option linter.unusedVariables false

/-- an operand behind the exchange of nodes i and i + 1 -/
def exI (i : Nat) (k : Int) : Int := if k = (i : Int) then (i : Int) + 1 else if k = (i : Int) + 1 then (i : Int) else k
def exN (i k : Nat) : Nat := if k = i then i + 1 else if k = i + 1 then i else k
def swX (i : Nat) (x : Pn) : Pn := (x.1, x.2.1, x.2.2.1, if 1 ≤ arP x.1 then exI i x.2.2.2.1 else x.2.2.2.1, if arP x.1 = 2 then exI i x.2.2.2.2 else x.2.2.2.2)
/-- node k of the list -/
def swG (l : List Pn) (i k : Nat) : Pn := if k = i then l.getD (i + 1) (0, 0, 0, 0, 0) else if k = i + 1 then l.getD i (0, 0, 0, 0, 0) else if k < i then l.getD k (0, 0, 0, 0, 0) else swX i (l.getD k (0, 0, 0, 0, 0))
def swP (l : List Pn) (i : Nat) : List Pn := (List.range l.length).map (swG l i)
theorem swP_len (l : List Pn) (i : Nat) : (swP l i).length = l.length := by unfold swP; simp
theorem swP_get (l : List Pn) (i : Nat) {k : Nat} (h : k < l.length) : (swP l i).getD k (0, 0, 0, 0, 0) = swG l i k := by
  unfold swP
  rw [List.getD_eq_getElem?_getD, List.getElem?_map, List.getElem?_range h]
  rfl
theorem exN_nat (i k : Nat) : exI i (k : Int) = ((exN i k : Nat) : Int) := by
  unfold exI exN
  by_cases c : k = i
  · rw [if_pos (by omega), if_pos c]; omega
  · rw [if_neg (by omega), if_neg c]
    by_cases c2 : k = i + 1
    · rw [if_pos (by omega), if_pos c2]
    · rw [if_neg (by omega), if_neg c2]
theorem exN_exN (i k : Nat) : exN i (exN i k) = k := by
  unfold exN
  repeat' split
  all_goals omega
/-- how often a node is used by another one -/
def cu (x : Pn) (k : Int) : Nat := (if 1 ≤ arP x.1 ∧ x.2.2.2.1 = k then 1 else 0) + (if arP x.1 = 2 ∧ x.2.2.2.2 = k then 1 else 0)
theorem us_ph (l : List Pn) (k n : Nat) : us (l.map ph) k (n + 1) = us (l.map ph) k n + cu (l.getD n (0, 0, 0, 0, 0)) (k : Int) := by
  show us (l.map ph) k n + _ + _ = _
  rw [fo_ph, fa_ph, fb_ph]
  unfold cu pk pa pb
  omega
section
variable {l : List Pn} {i : Nat}
theorem cu_sw (i : Nat) (x : Pn) (k : Nat) : cu (swX i x) (k : Int) = cu x ((exN i k : Nat) : Int) := by
  have h : ∀ y : Int, exI i y = (k : Int) ↔ y = ((exN i k : Nat) : Int) := fun y => by
    rw [← exN_nat]
    unfold exI
    repeat' split
    all_goals omega
  unfold cu swX
  simp only
  by_cases c1 : 1 ≤ arP x.1
  · by_cases c2 : arP x.1 = 2
    · simp only [c2, true_and, if_true, h]
      simp [h]
    · simp only [c1, c2, true_and, if_true, false_and, if_false, h]
  · have c2 : ¬ arP x.1 = 2 := by omega
    simp only [c1, c2, false_and, if_false]
/-- what stands where, for a valid list -/
theorem sw_at (h : okP l) (hi : i + 1 < l.length) {k : Nat} (hk : k < l.length) : swG l i (exN i k) = (if k < i + 2 then l.getD k (0, 0, 0, 0, 0) else swX i (l.getD k (0, 0, 0, 0, 0))) := by
  unfold swG exN
  by_cases c : k = i
  · subst c; rw [if_pos rfl, if_neg (by omega), if_pos rfl, if_pos (by omega)]
  · rw [if_neg c]
    by_cases c2 : k = i + 1
    · subst c2; rw [if_pos rfl, if_pos rfl, if_pos (by omega)]
    · rw [if_neg c2, if_neg c, if_neg c2]
      by_cases c3 : k < i
      · rw [if_pos c3, if_pos (by omega)]
      · rw [if_neg c3, if_neg (by omega)]
theorem exI_small {y : Int} (h : y < (i : Int)) : exI i y = y := by unfold exI; rw [if_neg (by omega), if_neg (by omega)]
/-- the expressions are the same -/
theorem rx_sw (h : okP l) (hi : i + 1 < l.length) (hu : cu (l.getD (i + 1) (0, 0, 0, 0, 0)) (i : Int) = 0) : ∀ n k, k < l.length → rx (swP l i) n (exN i k) = rx l n k
  | 0, k, hk => rfl
  | n + 1, k, hk => by
    have hek : exN i k < l.length := by
      unfold exN
      split
      · omega
      · split <;> omega
    have nd := h.nd hk
    have hg : (swP l i).getD (exN i k) (0, 0, 0, 0, 0) = if k < i + 2 then l.getD k (0, 0, 0, 0, 0) else swX i (l.getD k (0, 0, 0, 0, 0)) := by rw [swP_get l i hek, sw_at h hi hk]
    have e0 : pk (swP l i) (exN i k) = pk l k := by unfold pk; rw [hg]; split <;> rfl
    have e1 : plo (swP l i) (exN i k) = plo l k := by unfold plo; rw [hg]; split <;> rfl
    have e2 : phi (swP l i) (exN i k) = phi l k := by unfold phi; rw [hg]; split <;> rfl
    have hA : 2 ≤ pk l k → pa (swP l i) (exN i k) = exI i (pa l k) := fun q => by
      have ha := nd.a1 q
      unfold pa at ha ⊢
      rw [hg]
      split
      · rename_i c
        refine (exI_small ?_).symm
        have : (l.getD k (0, 0, 0, 0, 0)).2.2.2.1 ≠ (i : Int) := fun e => by
          rcases Nat.lt_or_ge k (i + 1) with r | r
          · omega
          · obtain rfl : k = i + 1 := by omega
            have h1 : 1 ≤ arP (l.getD (i + 1) (0, 0, 0, 0, 0)).1 := by
              change 2 ≤ (l.getD (i + 1) (0, 0, 0, 0, 0)).1 at q
              have h4 : (l.getD (i + 1) (0, 0, 0, 0, 0)).1 ≤ 4 := nd.kd.2
              unfold arP
              repeat' split
              all_goals omega
            unfold cu at hu
            rw [if_pos ⟨h1, e⟩] at hu
            omega
        omega
      · show (if 1 ≤ arP (l.getD k (0, 0, 0, 0, 0)).1 then _ else _) = _
        rw [if_pos]
        change 2 ≤ (l.getD k (0, 0, 0, 0, 0)).1 at q
        have h4 : (l.getD k (0, 0, 0, 0, 0)).1 ≤ 4 := nd.kd.2
        unfold arP
        repeat' split
        all_goals omega
    have hB : pk l k = 2 ∨ pk l k = 3 → pb (swP l i) (exN i k) = exI i (pb l k) := fun q => by
      have hb := nd.b1 q
      have h2 : arP (l.getD k (0, 0, 0, 0, 0)).1 = 2 := by
        have q' : (l.getD k (0, 0, 0, 0, 0)).1 = 2 ∨ (l.getD k (0, 0, 0, 0, 0)).1 = 3 := q
        rcases q' with r | r <;> rw [r] <;> rfl
      unfold pb at hb ⊢
      rw [hg]
      split
      · rename_i c
        refine (exI_small ?_).symm
        have : (l.getD k (0, 0, 0, 0, 0)).2.2.2.2 ≠ (i : Int) := fun e => by
          rcases Nat.lt_or_ge k (i + 1) with r | r
          · omega
          · obtain rfl : k = i + 1 := by omega
            unfold cu at hu
            rw [if_pos (c := arP _ = 2 ∧ _) ⟨h2, e⟩] at hu
            omega
        omega
      · show (if arP (l.getD k (0, 0, 0, 0, 0)).1 = 2 then _ else _) = _
        rw [if_pos h2]
    have up : ∀ y : Int, 0 ≤ y → y.toNat < l.length → rx (swP l i) n (exI i y).toNat = rx l n y.toNat := fun y h0 h1 => by
      obtain ⟨m, rfl⟩ : ∃ m : Nat, y = (m : Int) := ⟨y.toNat, by omega⟩
      rw [exN_nat, Int.toNat_natCast, Int.toNat_natCast]
      exact rx_sw h hi hu n m (by simpa using h1)
    unfold rx
    rw [e0, e1, e2]
    by_cases c1 : pk l k = 1
    · rw [if_pos c1, if_pos c1]
    rw [if_neg c1, if_neg c1]
    by_cases c2 : pk l k = 2
    · have ha := nd.a1 (by omega)
      have hb := nd.b1 (.inl c2)
      rw [if_pos c2, if_pos c2, hA (by omega), hB (.inl c2), up _ ha.1 (by omega), up _ hb.1 (by omega)]
    rw [if_neg c2, if_neg c2]
    by_cases c3 : pk l k = 3
    · have ha := nd.a1 (by omega)
      have hb := nd.b1 (.inr c3)
      rw [if_pos c3, if_pos c3, hA (by omega), hB (.inr c3), up _ ha.1 (by omega), up _ hb.1 (by omega)]
    rw [if_neg c3, if_neg c3]
    by_cases c4 : pk l k = 4
    · have ha := nd.a1 (by omega)
      rw [if_pos c4, if_pos c4, hA (by omega), up _ ha.1 (by omega)]
    rw [if_neg c4, if_neg c4]
/-- the nodes before i + 2 do not use the exchanged ones -/
theorem cu_low (h : okP l) (hi : i + 1 < l.length) (hu : cu (l.getD (i + 1) (0, 0, 0, 0, 0)) (i : Int) = 0) {j : Nat} (hj : j < i + 2) (k : Nat) : cu (l.getD j (0, 0, 0, 0, 0)) ((exN i k : Nat) : Int) = cu (l.getD j (0, 0, 0, 0, 0)) (k : Int) := by
  have nd := h.nd (k := j) (by omega)
  have har : (1 ≤ arP (pk l j) → 2 ≤ pk l j) ∧ (arP (pk l j) = 2 → pk l j = 2 ∨ pk l j = 3) := by
    unfold arP
    have := nd.kd
    constructor
    · repeat' split
      all_goals omega
    · repeat' split
      all_goals omega
  have hne : ∀ y : Int, (1 ≤ arP (pk l j) ∧ y = pa l j ∨ arP (pk l j) = 2 ∧ y = pb l j) → 0 ≤ y ∧ y < (i : Int) := fun y q => by
    have h0 : 0 ≤ y ∧ y < (j : Int) := by
      rcases q with ⟨q1, q2⟩ | ⟨q1, q2⟩
      · have := nd.a1 (har.1 q1); omega
      · have := nd.b1 (har.2 q1); omega
    rcases Nat.lt_or_ge j (i + 1) with r | r
    · omega
    · obtain rfl : j = i + 1 := by omega
      have : y ≠ (i : Int) := by
        rintro rfl
        change (if 1 ≤ arP (pk l (i + 1)) ∧ pa l (i + 1) = (i : Int) then 1 else 0) + (if arP (pk l (i + 1)) = 2 ∧ pb l (i + 1) = (i : Int) then 1 else 0) = 0 at hu
        rcases q with ⟨q1, q2⟩ | ⟨q1, q2⟩
        · rw [if_pos (c := 1 ≤ arP _ ∧ _) ⟨q1, q2.symm⟩] at hu; omega
        · rw [if_pos (c := arP _ = 2 ∧ _) ⟨q1, q2.symm⟩] at hu; omega
      omega
  have key : ∀ y : Int, 0 ≤ y ∧ y < (i : Int) → (y = ((exN i k : Nat) : Int) ↔ y = (k : Int)) := fun y hy => by
    unfold exN
    split
    · omega
    · split <;> omega
  unfold cu
  show (if 1 ≤ arP (pk l j) ∧ pa l j = _ then 1 else 0) + (if arP (pk l j) = 2 ∧ pb l j = _ then 1 else 0) = (if 1 ≤ arP (pk l j) ∧ pa l j = _ then 1 else 0) + (if arP (pk l j) = 2 ∧ pb l j = _ then 1 else 0)
  congr 1
  · by_cases c : 1 ≤ arP (pk l j)
    · simp only [c, true_and, key _ (hne _ (.inl ⟨c, rfl⟩))]
    · simp only [c, false_and]
  · by_cases c : arP (pk l j) = 2
    · simp only [c, true_and, key _ (hne _ (.inr ⟨c, rfl⟩))]
    · simp only [c, false_and]
theorem us_low (h : okP l) (hi : i + 1 < l.length) (hu : cu (l.getD (i + 1) (0, 0, 0, 0, 0)) (i : Int) = 0) (k : Nat) : ∀ n, n ≤ i → us ((swP l i).map ph) (exN i k) n = us (l.map ph) k n
  | 0, _ => rfl
  | n + 1, hn => by
    rw [us_ph, us_ph, us_low h hi hu k n (by omega), swP_get l i (by omega)]
    unfold swG
    rw [if_neg (by omega), if_neg (by omega), if_pos (by omega), cu_low h hi hu (by omega)]
theorem us_sw (h : okP l) (hi : i + 1 < l.length) (hu : cu (l.getD (i + 1) (0, 0, 0, 0, 0)) (i : Int) = 0) (k : Nat) : ∀ m, i + 2 + m ≤ l.length → us ((swP l i).map ph) (exN i k) (i + 2 + m) = us (l.map ph) k (i + 2 + m)
  | 0, hm => by
    show us _ _ (i + 1 + 1) = us _ _ (i + 1 + 1)
    rw [us_ph, us_ph, us_ph, us_ph, us_low h hi hu k i (Nat.le_refl _), swP_get l i (by omega), swP_get l i (by omega)]
    unfold swG
    rw [if_pos rfl, if_neg (by omega), if_pos rfl, cu_low h hi hu (by omega), cu_low h hi hu (by omega)]
    omega
  | m + 1, hm => by
    show us _ _ (i + 2 + m + 1) = us _ _ (i + 2 + m + 1)
    rw [us_ph, us_ph, us_sw h hi hu k m (by omega), swP_get l i (by omega)]
    unfold swG
    rw [if_neg (by omega), if_neg (by omega), if_neg (by omega), cu_sw, exN_exN]
theorem exI_range {y : Int} {k : Nat} (h0 : 0 ≤ y) (h1 : y < (k : Int)) (hk : i + 2 ≤ k) : 0 ≤ exI i y ∧ exI i y < (k : Int) := by
  unfold exI
  split
  · omega
  · split <;> omega
/-- the exchanged list is valid -/
theorem sw_ok (h : okP l) (hi : i + 1 < l.length - 1) (hu : cu (l.getD (i + 1) (0, 0, 0, 0, 0)) (i : Int) = 0) : okP (swP l i) := by
  have hlen := h.len
  have hpl : ∀ (x : Pn), plN (ph x).1 0 (swX i x).2.2.2.1 (swX i x).2.2.2.2 = true ↔ plN (ph x).1 0 x.2.2.2.1 x.2.2.2.2 = true := fun x => by
    unfold plN swX
    rw [ph_ar]
    simp only [Bool.and_eq_true, Bool.or_eq_true, decide_eq_true_eq]
    by_cases c1 : 1 ≤ arP x.1
    · by_cases c2 : arP x.1 = 2
      · simp [c2]
      · simp [c1, c2]
    · have c2 : ¬ arP x.1 = 2 := by omega
      simp [c1, c2]
  have node : ∀ k, k < l.length → okN ((swP l i).map ph) (exN i k) := fun k hk => by
    have hek : exN i k < l.length := by
      unfold exN
      split
      · omega
      · split <;> omega
    have hN := h.1.2.2.1 k (by rw [List.length_map]; exact hk)
    unfold okN fo fv fa fb at hN ⊢
    rw [ph_get] at hN ⊢
    rw [swP_get l i hek, sw_at h (by omega) hk]
    generalize hx : l.getD k (0, 0, 0, 0, 0) = x at *
    obtain ⟨h1, h2⟩ := hN
    have ha := opN_a h2
    have hb := opN_b h2
    by_cases c : k < i + 2
    · rw [if_pos c]
      refine ⟨h1, ?_⟩
      -- operands are below i
      have hlow : ∀ y : Int, (1 ≤ arP x.1 ∧ y = x.2.2.2.1 ∨ arP x.1 = 2 ∧ y = x.2.2.2.2) → 0 ≤ y ∧ y < (k : Int) ∧ (k = i + 1 → y ≠ (i : Int)) := fun y q => by
        rw [ph_ar] at ha hb
        refine ⟨?_, ?_, fun r => ?_⟩
        · rcases q with ⟨q1, q2⟩ | ⟨q1, q2⟩
          · have : 0 ≤ x.2.2.2.1 := (ha q1).1; omega
          · have : 0 ≤ x.2.2.2.2 := (hb q1).1; omega
        · rcases q with ⟨q1, q2⟩ | ⟨q1, q2⟩
          · have : x.2.2.2.1 < (k : Int) := (ha q1).2; omega
          · have : x.2.2.2.2 < (k : Int) := (hb q1).2; omega
        · rintro rfl
          rw [r] at hx
          rw [hx] at hu
          unfold cu at hu
          rcases q with ⟨q1, q2⟩ | ⟨q1, q2⟩
          · rw [if_pos (c := 1 ≤ arP _ ∧ _) ⟨q1, q2.symm⟩] at hu; omega
          · rw [if_pos (c := arP _ = 2 ∧ _) ⟨q1, q2.symm⟩] at hu; omega
      have hek2 : (exN i k = k) ∨ (k = i ∧ exN i k = i + 1) ∨ (k = i + 1 ∧ exN i k = i) := by
        unfold exN
        split
        · rename_i q; exact .inr (.inl ⟨q, rfl⟩)
        · split
          · rename_i q; exact .inr (.inr ⟨q, rfl⟩)
          · exact .inl rfl
      unfold opN
      rw [ph_ar]
      simp only [Bool.and_eq_true, Bool.or_eq_true, decide_eq_true_eq]
      have A := arP x.1
      refine ⟨?_, ?_⟩
      · by_cases c1 : arP x.1 = 0
        · exact .inl c1
        · have := hlow x.2.2.2.1 (.inl ⟨by omega, rfl⟩)
          right
          show 0 ≤ x.2.2.2.1 ∧ x.2.2.2.1 < _
          rcases hek2 with q | ⟨q1, q2⟩ | ⟨q1, q2⟩
          · rw [q]; omega
          · rw [q2]; omega
          · rw [q2]; have := this.2.2 q1; omega
      · by_cases c1 : arP x.1 < 2
        · exact .inl c1
        · have h2' : arP x.1 = 2 := by
            have := ar_le (ph x).1
            rw [ph_ar] at this
            omega
          have := hlow x.2.2.2.2 (.inr ⟨h2', rfl⟩)
          right
          show 0 ≤ x.2.2.2.2 ∧ x.2.2.2.2 < _
          rcases hek2 with q | ⟨q1, q2⟩ | ⟨q1, q2⟩
          · rw [q]; omega
          · rw [q2]; omega
          · rw [q2]; have := this.2.2 q1; omega
    · rw [if_neg c]
      refine ⟨(hpl x).2 h1, ?_⟩
      have hek3 : exN i k = k := by unfold exN; rw [if_neg (by omega), if_neg (by omega)]
      rw [hek3]
      have e1 : (ph (swX i x)).1 = (ph x).1 := rfl
      rw [e1]
      rw [ph_ar] at ha hb
      unfold opN
      rw [ph_ar]
      simp only [Bool.and_eq_true, Bool.or_eq_true, decide_eq_true_eq]
      refine ⟨?_, ?_⟩
      · by_cases c1 : arP x.1 = 0
        · exact .inl c1
        · right
          show 0 ≤ (if 1 ≤ arP x.1 then exI i x.2.2.2.1 else x.2.2.2.1) ∧ (if 1 ≤ arP x.1 then exI i x.2.2.2.1 else x.2.2.2.1) < _
          rw [if_pos (by omega)]
          exact exI_range (ha (by omega)).1 (ha (by omega)).2 (by omega)
      · by_cases c1 : arP x.1 < 2
        · exact .inl c1
        · have h2' : arP x.1 = 2 := by
            have := ar_le (ph x).1
            rw [ph_ar] at this
            omega
          right
          show 0 ≤ (if arP x.1 = 2 then exI i x.2.2.2.2 else x.2.2.2.2) ∧ (if arP x.1 = 2 then exI i x.2.2.2.2 else x.2.2.2.2) < _
          rw [if_pos h2']
          exact exI_range (hb h2').1 (hb h2').2 (by omega)
  have back : ∀ k, k < l.length → ∃ m, m < l.length ∧ exN i m = k := fun k hk => ⟨exN i k, by
    unfold exN
    split
    · omega
    · split <;> omega, exN_exN i k⟩
  refine ⟨⟨by rw [List.length_map, swP_len]; exact hlen.1, by rw [List.length_map, swP_len]; exact hlen.2, fun k hk => ?_, fun k hk => ?_⟩, fun k hk => ?_⟩
  · rw [List.length_map, swP_len] at hk
    obtain ⟨m, hm, rfl⟩ := back k hk
    exact node m hm
  · rw [List.length_map, swP_len] at hk ⊢
    obtain ⟨m, hm, rfl⟩ := back k (by omega)
    have hm' : m < l.length - 1 := by
      unfold exN at hk
      split at hk
      · omega
      · split at hk <;> omega
    have e := us_sw h (by omega) hu m (l.length - (i + 2)) (by omega)
    rw [show i + 2 + (l.length - (i + 2)) = l.length by omega] at e
    rw [e]
    have := h.1.2.2.2 m (by rw [List.length_map]; exact hm')
    rwa [List.length_map] at this
  · rw [swP_len] at hk
    obtain ⟨m, hm, rfl⟩ := back k hk
    rw [swP_get l i hk, sw_at h (by omega) hm]
    have := h.2 m hm
    split
    · exact this
    · exact this
/-- .. and is the same expression -/
theorem sw_rx (h : okP l) (hi : i + 1 < l.length - 1) (hu : cu (l.getD (i + 1) (0, 0, 0, 0, 0)) (i : Int) = 0) : rxP (swP l i) = rxP l := by
  unfold rxP rxN
  rw [swP_len]
  have e : exN i (l.length - 1) = l.length - 1 := by unfold exN; rw [if_neg (by omega), if_neg (by omega)]
  have := rx_sw h (by omega) hu (l.length - 1 + 1) (l.length - 1) (by omega)
  rw [e] at this
  exact this
end

end Go.Proofs.YtfkljlncnfeklaaGreatDoor

/-! A parser over bytes that reads its tokens as it goes: it answers what the parser over tokens answers. -/
namespace Go.Proofs.YtfkljlncnfeklaaGreatDoor
set_option linter.unusedVariables false
set_option linter.unusedSimpArgs false

/-- the tokens of a string, a token that stands nowhere where it is none -/
def tkT : Nat → List UInt8 → List Tok
  | _, [] => []
  | k + 1, _ :: s => tkT k s
  | 0, b :: s =>
    if b = 92 then (match escV (b :: s) with
      | some v => (false, v) :: tkT 3 s
      | none => [(true, 0)]) else
    if plainB b.toNat then (false, b.toNat) :: tkT 0 s else
    if resB b.toNat then (true, b.toNat) :: tkT 0 s else [(true, 0)]
theorem tkT_cons (b : UInt8) (s : List UInt8) : tkT 0 (b :: s) = if b = 92 then (match escV (b :: s) with
      | some v => (false, v) :: tkT 3 s
      | none => [(true, 0)]) else
    if plainB b.toNat then (false, b.toNat) :: tkT 0 s else
    if resB b.toNat then (true, b.toNat) :: tkT 0 s else [(true, 0)] := rfl
theorem tkT_some : ∀ (s : List UInt8) (k : Nat) {ts : List Tok}, tkS k s = some ts → tkT k s = ts
  | [], k, ts, h => by
    cases k <;> injection h with h <;> subst h <;> rfl
  | b :: s, k + 1, ts, h => tkT_some s k h
  | b :: s, 0, ts, h => by
    unfold tkS at h
    unfold tkT
    by_cases c : b = 92
    · rw [if_pos c] at h ⊢
      rcases he : escV (b :: s) with _ | v
      · rw [he] at h; cases h
      · rw [he] at h
        rcases ht : tkS 3 s with _ | u
        · rw [ht] at h; cases h
        · rw [ht] at h
          injection h with h
          rw [← h, ← tkT_some s 3 ht]
    · rw [if_neg c] at h ⊢
      by_cases c2 : plainB b.toNat = true
      · rw [if_pos c2] at h ⊢
        rcases ht : tkS 0 s with _ | u
        · rw [ht] at h; cases h
        · rw [ht] at h
          injection h with h
          rw [← h, ← tkT_some s 0 ht]
      · rw [if_neg c2] at h ⊢
        by_cases c3 : resB b.toNat = true
        · rw [if_pos c3] at h ⊢
          rcases ht : tkS 0 s with _ | u
          · rw [ht] at h; cases h
          · rw [ht] at h
            injection h with h
            rw [← h, ← tkT_some s 0 ht]
        · rw [if_neg c3] at h; cases h
theorem tkT_none : ∀ (s : List UInt8) (k : Nat), tkS k s = none → (true, 0) ∈ tkT k s
  | [], k, h => by cases k <;> cases h
  | b :: s, k + 1, h => tkT_none s k h
  | b :: s, 0, h => by
    unfold tkS at h
    unfold tkT
    by_cases c : b = 92
    · rw [if_pos c] at h ⊢
      rcases he : escV (b :: s) with _ | v
      · exact List.mem_singleton.2 rfl
      · rw [he] at h
        rcases ht : tkS 3 s with _ | u
        · exact List.mem_cons_of_mem _ (tkT_none s 3 ht)
        · rw [ht] at h; cases h
    · rw [if_neg c] at h ⊢
      by_cases c2 : plainB b.toNat = true
      · rw [if_pos c2] at h ⊢
        rcases ht : tkS 0 s with _ | u
        · exact List.mem_cons_of_mem _ (tkT_none s 0 ht)
        · rw [ht] at h; cases h
      · rw [if_neg c2] at h ⊢
        by_cases c3 : resB b.toNat = true
        · rw [if_pos c3] at h ⊢
          rcases ht : tkS 0 s with _ | u
          · exact List.mem_cons_of_mem _ (tkT_none s 0 ht)
          · rw [ht] at h; cases h
        · rw [if_neg c3]; exact List.mem_singleton.2 rfl
theorem tkT_drop : ∀ (s : List UInt8) (k : Nat), tkT k s = tkT 0 (s.drop k)
  | [], k => by rw [List.drop_nil]; cases k <;> rfl
  | b :: s, 0 => rfl
  | b :: s, k + 1 => tkT_drop s k
/-- a token is at most four bytes -/
theorem tkS_len : ∀ (s : List UInt8) (k : Nat) {ts : List Tok}, tkS k s = some ts → s.length ≤ 4 * ts.length + k
  | [], k, ts, h => by simp
  | b :: s, k + 1, ts, h => by have := tkS_len s k h; simp; omega
  | b :: s, 0, ts, h => by
    unfold tkS at h
    by_cases c : b = 92
    · rw [if_pos c] at h
      rcases he : escV (b :: s) with _ | v
      · rw [he] at h; cases h
      · rw [he] at h
        rcases ht : tkS 3 s with _ | u
        · rw [ht] at h; cases h
        · rw [ht] at h
          injection h with h
          have := tkS_len s 3 ht
          rw [← h]; simp; omega
    · rw [if_neg c] at h
      by_cases c2 : plainB b.toNat = true
      · rw [if_pos c2] at h
        rcases ht : tkS 0 s with _ | u
        · rw [ht] at h; cases h
        · rw [ht] at h
          injection h with h
          have := tkS_len s 0 ht
          rw [← h]; simp; omega
      · rw [if_neg c2] at h
        by_cases c3 : resB b.toNat = true
        · rw [if_pos c3] at h
          rcases ht : tkS 0 s with _ | u
          · rw [ht] at h; cases h
          · rw [ht] at h
            injection h with h
            have := tkS_len s 0 ht
            rw [← h]; simp; omega
        · rw [if_neg c3] at h; cases h
/-- a character at the beginning, and what is behind it -/
def chO : List UInt8 → Option (Nat × List UInt8)
  | [] => none
  | b :: s => if b = 92 then (escV (b :: s)).map fun v => (v, s.drop 3) else if plainB b.toNat then some (b.toNat, s) else none
theorem chO_eats {s t : List UInt8} {v : Nat} (h : chO s = some (v, t)) : t.length < s.length := by
  unfold chO at h
  split at h
  · cases h
  · split at h
    · rename_i b s _
      rcases he : escV (b :: s) with _ | u
      · rw [he] at h; cases h
      · rw [he] at h
        injection h with h
        injection h with _ h
        rw [← h, List.length_drop, List.length_cons]
        omega
    · split at h
      · injection h with h
        injection h with _ h
        rw [← h]; simp
      · cases h
theorem chO_cons (b : UInt8) (s : List UInt8) : chO (b :: s) = if b = 92 then (escV (b :: s)).map fun v => (v, s.drop 3) else if plainB b.toNat then some (b.toNat, s) else none := rfl
theorem chO_tok : ∀ (s : List UInt8), (∃ v s', chO s = some (v, s') ∧ tkT 0 s = (false, v) :: tkT 0 s') ∨ (chO s = none ∧ ∀ v t, tkT 0 s ≠ (false, v) :: t)
  | [] => .inr ⟨rfl, fun v t h => by cases h⟩
  | b :: s => by
    rw [tkT_cons, chO_cons]
    by_cases c : b = 92
    · rw [if_pos c, if_pos c]
      rcases he : escV (b :: s) with _ | v
      · exact .inr ⟨rfl, fun v t h => by injection h with h; injection h with h; cases h⟩
      · exact .inl ⟨v, _, rfl, by rw [← tkT_drop s 3]⟩
    · rw [if_neg c, if_neg c]
      by_cases c2 : plainB b.toNat = true
      · rw [if_pos c2, if_pos c2]
        exact .inl ⟨_, _, rfl, rfl⟩
      · rw [if_neg c2, if_neg c2]
        by_cases c3 : resB b.toNat = true
        · rw [if_pos c3]
          exact .inr ⟨rfl, fun v t h => by injection h with h; injection h with h; cases h⟩
        · rw [if_neg c3]
          exact .inr ⟨rfl, fun v t h => by injection h with h; injection h with h; cases h⟩
/-- a reserved byte at the beginning -/
theorem res_tok {v : Nat} (hv : resB v = true) : ∀ (s : List UInt8), (∃ s', s = UInt8.ofNat v :: s' ∧ tkT 0 s = (true, v) :: tkT 0 s') ∨ (s.head? ≠ some (UInt8.ofNat v) ∧ (tkT 0 s).head? ≠ some (true, v))
  | [] => .inr ⟨by simp, by simp [tkT]⟩
  | b :: s => by
    have h256 := (res_lt hv).1
    have h92 := (res_lt hv).2.1
    have hpl := (res_lt hv).2.2
    by_cases e : b = UInt8.ofNat v
    · subst e
      have hn : (UInt8.ofNat v).toNat = v := by rw [UInt8.toNat_ofNat']; omega
      left
      refine ⟨s, rfl, ?_⟩
      rw [tkT_cons, if_neg (fun q => h92 (by rw [← hn, q]; rfl)), hn, if_neg (by rw [hpl]; decide), if_pos hv]
    · right
      refine ⟨fun q => e (by injection q), fun q => ?_⟩
      rw [tkT_cons] at q
      split at q
      · split at q
        · injection q with q; injection q with q _; cases q
        · injection q with q; injection q with _ q; rw [← q] at hv; revert hv; decide
      · split at q
        · injection q with q; injection q with q _; cases q
        · split at q
          · injection q with q
            injection q with _ q
            exact e (by apply UInt8.toNat_inj.1; rw [q, UInt8.toNat_ofNat']; omega)
          · injection q with q; injection q with _ q; rw [← q] at hv; revert hv; decide

theorem hd_tok (v : Nat) (hv : resB v = true) (s : List UInt8) : (s.head? = some (UInt8.ofNat v) ∧ tkT 0 s = (true, v) :: tkT 0 s.tail) ∨ (s.head? ≠ some (UInt8.ofNat v) ∧ (tkT 0 s).head? ≠ some (true, v)) := by
  rcases res_tok hv s with ⟨s', rfl, h⟩ | h
  · exact .inl ⟨rfl, h⟩
  · exact .inr h
theorem hd_lit (v : Nat) (b : UInt8) (hb : b = UInt8.ofNat v) (hv : resB v = true) (s : List UInt8) : (s.head? = some b ∧ tkT 0 s = (true, v) :: tkT 0 s.tail) ∨ (s.head? ≠ some b ∧ (tkT 0 s).head? ≠ some (true, v)) := by
  subst hb
  exact hd_tok v hv s
section
variable (G : List UInt8 → Option (Rx × List UInt8))
def oBr (s : List UInt8) : Option (Rx × List UInt8) := (chO s).bind fun p => if p.2.head? = some 45 then (chO p.2.tail).bind fun q => if q.2.head? = some 93 ∧ p.1 ≤ q.1 then some (.rng p.1 q.1, q.2.tail) else none else none
def oPar (s : List UInt8) : Option (Rx × List UInt8) := if s.head? = some 41 then some (.emp, s.tail) else (G s).bind fun p => if p.2.head? = some 41 then some (p.1, p.2.tail) else none
def oAtm (s : List UInt8) : Option (Rx × List UInt8) := if s.head? = some 91 then oBr s.tail else if s.head? = some 40 then oPar G s.tail else (chO s).map fun p => (.rng p.1 p.1, p.2)
def oStr (r : Rx) : List UInt8 → Rx × List UInt8
  | b :: t => if b = 42 then oStr (.rep r) t else (r, b :: t)
  | [] => (r, [])
def oRep (s : List UInt8) : Option (Rx × List UInt8) := (oAtm G s).map fun p => oStr p.1 p.2
def oSeqL : Nat → Rx → List UInt8 → Option (Rx × List UInt8)
  | 0, _, _ => none
  | k + 1, r, s => if s = [] ∨ s.head? = some 124 ∨ s.head? = some 41 then some (r, s) else (oRep G s).bind fun p => oSeqL k (.seq r p.1) p.2
def oSeq (s : List UInt8) : Option (Rx × List UInt8) := (oRep G s).bind fun p => oSeqL G (p.2.length + 1) p.1 p.2
def oAltL : Nat → Rx → List UInt8 → Option (Rx × List UInt8)
  | 0, _, _ => none
  | k + 1, r, s => if s.head? = some 124 then (oSeq G s.tail).bind fun p => oAltL k (.alt r p.1) p.2 else some (r, s)
def oAltG (s : List UInt8) : Option (Rx × List UInt8) := (oSeq G s).bind fun p => oAltL G (p.2.length + 1) p.1 p.2
end
/-- alternatives, parentheses at most n deep -/
def oAlt : Nat → List UInt8 → Option (Rx × List UInt8)
  | 0, _ => none
  | n + 1, s => oAltG (oAlt n) s
def toT (p : Rx × List UInt8) : Rx × List Tok := (p.1, tkT 0 p.2)
/-- the parser over tokens and the one over bytes: a byte parser that fails stands where the other leaves a token that no rule takes -/
def AltRel (stop : List Nat) (G : List Tok → Option (Rx × List Tok)) (O : List UInt8 → Option (Rx × List UInt8)) : Prop := ∀ s,
  (∀ r s', O s = some (r, s') → G (tkT 0 s) = some (r, tkT 0 s') ∧ (s' = [] ∨ ∃ v ∈ stop, s'.head? = some (UInt8.ofNat v))) ∧
  (O s = none → ∀ r t', G (tkT 0 s) = some (r, t') → t' ≠ [] ∧ ∀ v ∈ stop, t'.head? ≠ some (true, v))
theorem brG_some {t u : List Tok} {r : Rx} (h : brG t = some (r, u)) : ∃ lo hi, t = (false, lo) :: (true, 45) :: (false, hi) :: (true, 93) :: u ∧ lo ≤ hi ∧ r = .rng lo hi := by
  unfold brG at h
  split at h
  · rename_i lo d hi e t'
    split at h
    · rename_i hc
      injection h with h
      injection h with h1 h2
      obtain ⟨rfl, rfl, hc⟩ := hc
      exact ⟨lo, hi, by rw [h2], hc, h1.symm⟩
    · cases h
  · cases h
theorem br_eq (s : List UInt8) : brG (tkT 0 s) = (oBr s).map toT := by
  have none_of : ∀ {x : Option (Rx × List Tok)}, (∀ r u, x = some (r, u) → False) → x = none := fun {x} h => by
    rcases x with _ | ⟨r, u⟩
    · rfl
    · exact (h r u rfl).elim
  unfold oBr
  rcases chO_tok s with ⟨lo, s1, e1, k1⟩ | ⟨e1, k1⟩
  · rw [e1, k1]
    show _ = Option.map toT (if s1.head? = some 45 then (chO s1.tail).bind fun q => if q.2.head? = some 93 ∧ lo ≤ q.1 then some (.rng lo q.1, q.2.tail) else none else none)
    rcases hd_lit 45 45 rfl (by decide) s1 with ⟨e2, k2⟩ | ⟨e2, k2⟩
    · rw [if_pos e2, k2]
      rcases chO_tok s1.tail with ⟨hi, s2, e3, k3⟩ | ⟨e3, k3⟩
      · rw [e3, k3]
        show _ = Option.map toT (if s2.head? = some 93 ∧ lo ≤ hi then some (.rng lo hi, s2.tail) else none)
        rcases hd_lit 93 93 rfl (by decide) s2 with ⟨e4, k4⟩ | ⟨e4, k4⟩
        · rw [k4]
          show (if (45 : Nat) = 45 ∧ (93 : Nat) = 93 ∧ lo ≤ hi then some (Rx.rng lo hi, tkT 0 s2.tail) else none) = _
          by_cases c : lo ≤ hi
          · rw [if_pos ⟨rfl, rfl, c⟩, if_pos ⟨e4, c⟩]; rfl
          · rw [if_neg (fun q => c q.2.2), if_neg (fun q => c q.2)]; rfl
        · rw [if_neg (fun q => e4 q.1)]
          refine none_of fun r u h => ?_
          obtain ⟨lo', hi', h1, _⟩ := brG_some h
          injection h1 with _ h1
          injection h1 with _ h1
          injection h1 with _ h1
          exact k4 (by rw [h1]; rfl)
      · rw [e3]
        refine none_of fun r u h => ?_
        obtain ⟨lo', hi', h1, _⟩ := brG_some h
        injection h1 with _ h1
        injection h1 with _ h1
        exact k3 _ _ h1
    · rw [if_neg e2]
      refine none_of fun r u h => ?_
      obtain ⟨lo', hi', h1, _⟩ := brG_some h
      injection h1 with _ h1
      exact k2 (by rw [h1]; rfl)
  · rw [e1]
    refine none_of fun r u h => ?_
    obtain ⟨lo', hi', h1, _⟩ := brG_some h
    exact k1 _ _ h1
theorem atmG_true (G : List Tok → Option (Rx × List Tok)) (v : Nat) (t : List Tok) : atmG G ((true, v) :: t) = if v = 91 then brG t else if v = 40 then parG G t else none := rfl
theorem strs_true (r : Rx) (v : Nat) (t : List Tok) : strs r ((true, v) :: t) = if v = 42 then strs (.rep r) t else (r, (true, v) :: t) := rfl
section
variable {G : List Tok → Option (Rx × List Tok)} {O : List UInt8 → Option (Rx × List UInt8)}
theorem par_eq (h : AltRel [41] G O) (s : List UInt8) : parG G (tkT 0 s) = (oPar O s).map toT := by
  unfold parG oPar
  rcases hd_lit 41 41 rfl (by decide) s with ⟨e1, k1⟩ | ⟨e1, k1⟩
  · rw [if_pos e1, k1]; rfl
  · rw [if_neg e1, if_neg k1]
    obtain ⟨h1, h2⟩ := h s
    rcases ho : O s with _ | ⟨r, s'⟩
    · have h2 := h2 ho
      rcases hg : G (tkT 0 s) with _ | ⟨r, t'⟩
      · rfl
      · obtain ⟨h3, h4⟩ := h2 r t' hg
        rcases t' with _ | ⟨⟨b, c⟩, t'⟩
        · exact absurd rfl h3
        · cases b with
          | false => rfl
          | true =>
            show (if c = 41 then some (r, t') else none) = none
            rw [if_neg (fun e => h4 41 (by simp) (by rw [e]; rfl))]
    · obtain ⟨h3, h4⟩ := h1 r s' ho
      rw [h3]
      show (match some (r, tkT 0 s') with
        | some (r, (true, c) :: t') => if c = 41 then some (r, t') else none
        | _ => none) = Option.map toT (if s'.head? = some 41 then some (r, s'.tail) else none)
      rcases hd_lit 41 41 rfl (by decide) s' with ⟨e2, k2⟩ | ⟨e2, k2⟩
      · rw [if_pos e2, k2]
        show (if 41 = 41 then some (r, tkT 0 s'.tail) else none) = _
        rw [if_pos rfl]; rfl
      · rw [if_neg e2]
        rcases h4 with h4 | ⟨v, hv, h4⟩
        · rw [h4]; rfl
        · rw [List.mem_singleton.1 hv] at h4; exact absurd h4 e2
theorem atm_eq (h : AltRel [41] G O) (s : List UInt8) : atmG G (tkT 0 s) = (oAtm O s).map toT := by
  unfold oAtm
  rcases hd_lit 91 91 rfl (by decide) s with ⟨e1, k1⟩ | ⟨e1, k1⟩
  · rw [if_pos e1, k1, atmG_true, if_pos rfl]
    exact br_eq _
  · rw [if_neg e1]
    rcases hd_lit 40 40 rfl (by decide) s with ⟨e2, k2⟩ | ⟨e2, k2⟩
    · rw [if_pos e2, k2, atmG_true, if_neg (by decide), if_pos rfl]
      exact par_eq h _
    · rw [if_neg e2]
      rcases chO_tok s with ⟨v, s1, e3, k3⟩ | ⟨e3, k3⟩
      · rw [e3, k3]; rfl
      · rw [e3]
        rcases ht : tkT 0 s with _ | ⟨⟨b, v⟩, t⟩
        · rfl
        · cases b with
          | false => exact absurd ht (k3 v t)
          | true =>
            rw [atmG_true, if_neg (fun e => k1 (by rw [ht, e]; rfl)), if_neg (fun e => k2 (by rw [ht, e]; rfl))]
            rfl
theorem str_eq : ∀ (n : Nat) (s : List UInt8) (r : Rx), s.length ≤ n → strs r (tkT 0 s) = toT (oStr r s)
  | n, [], r, _ => rfl
  | 0, b :: s, r, h => by simp at h
  | n + 1, b :: s, r, h => by
    rcases hd_lit 42 42 rfl (by decide) (b :: s) with ⟨e1, k1⟩ | ⟨e1, k1⟩
    · rw [k1]
      have hb : b = 42 := by injection e1
      rw [strs_true, if_pos rfl, oStr, if_pos hb]
      exact str_eq n s _ (by simpa using h)
    · have hb : b ≠ 42 := fun e => e1 (by rw [e]; rfl)
      unfold oStr
      rw [if_neg hb]
      show strs r (tkT 0 (b :: s)) = (r, tkT 0 (b :: s))
      rcases ht : tkT 0 (b :: s) with _ | ⟨⟨c, v⟩, t⟩
      · rfl
      · cases c with
        | false => rfl
        | true =>
          rw [strs_true, if_neg (fun e => k1 (by rw [ht, e]; rfl))]
theorem rep_eq (h : AltRel [41] G O) (s : List UInt8) : repG G (tkT 0 s) = (oRep O s).map toT := by
  unfold repG oRep
  rw [atm_eq h]
  rcases oAtm O s with _ | ⟨r, s'⟩
  · rfl
  · exact congrArg some (str_eq _ s' r (Nat.le_refl _))
def OEats (O : List UInt8 → Option (Rx × List UInt8)) : Prop := ∀ s r s', O s = some (r, s') → s'.length < s.length
theorem tail_lt {s : List UInt8} {b : UInt8} (h : s.head? = some b) : s.tail.length < s.length := by
  rcases s with _ | ⟨c, s⟩
  · cases h
  · simp
theorem oStr_le : ∀ (s : List UInt8) (r : Rx), (oStr r s).2.length ≤ s.length
  | [], r => Nat.le_refl _
  | b :: s, r => by
    unfold oStr
    split
    · have := oStr_le s (.rep r); simp; omega
    · exact Nat.le_refl _
theorem oBr_eats {s t : List UInt8} {r : Rx} (h : oBr s = some (r, t)) : t.length < s.length := by
  unfold oBr at h
  rcases h1 : chO s with _ | ⟨lo, s1⟩
  · rw [h1] at h; cases h
  · rw [h1] at h
    change (if s1.head? = some 45 then (chO s1.tail).bind fun q => if q.2.head? = some 93 ∧ lo ≤ q.1 then some (Rx.rng lo q.1, q.2.tail) else none else none) = some (r, t) at h
    have e1 := chO_eats h1
    split at h
    · rename_i k1
      rcases h2 : chO s1.tail with _ | ⟨hi, s2⟩
      · rw [h2] at h; cases h
      · rw [h2] at h
        change (if s2.head? = some 93 ∧ lo ≤ hi then some (Rx.rng lo hi, s2.tail) else none) = some (r, t) at h
        have e2 := chO_eats h2
        have e3 := tail_lt k1
        split at h
        · rename_i k2
          have e4 := tail_lt k2.1
          injection h with h
          injection h with _ h
          rw [← h]; omega
        · cases h
    · cases h
theorem oPar_eats (hO : OEats O) {s t : List UInt8} {r : Rx} (h : oPar O s = some (r, t)) : t.length < s.length := by
  unfold oPar at h
  split at h
  · rename_i k1
    injection h with h
    injection h with _ h
    rw [← h]; exact tail_lt k1
  · rcases h1 : O s with _ | ⟨q, s1⟩
    · rw [h1] at h; cases h
    · rw [h1] at h
      change (if s1.head? = some 41 then some (q, s1.tail) else none) = some (r, t) at h
      have e1 := hO _ _ _ h1
      split at h
      · rename_i k2
        have e2 := tail_lt k2
        injection h with h
        injection h with _ h
        rw [← h]; omega
      · cases h
theorem oAtm_eats (hO : OEats O) {s t : List UInt8} {r : Rx} (h : oAtm O s = some (r, t)) : t.length < s.length := by
  unfold oAtm at h
  split at h
  · rename_i k1
    have := tail_lt k1
    have := oBr_eats h
    omega
  · split at h
    · rename_i k1
      have := tail_lt k1
      have := oPar_eats hO h
      omega
    · rcases h1 : chO s with _ | ⟨v, s1⟩
      · rw [h1] at h; cases h
      · rw [h1] at h
        injection h with h
        have e1 := chO_eats h1
        have h2 : s1 = t := congrArg Prod.snd h
        rw [← h2]; exact e1
theorem oRep_eats (hO : OEats O) {s t : List UInt8} {r : Rx} (h : oRep O s = some (r, t)) : t.length < s.length := by
  unfold oRep at h
  rcases h1 : oAtm O s with _ | ⟨q, s1⟩
  · rw [h1] at h; cases h
  · rw [h1] at h
    injection h with h
    have e1 := oAtm_eats hO h1
    have e2 := oStr_le s1 q
    have h2 : (oStr q s1).2 = t := congrArg Prod.snd h
    rw [← h2]; omega
theorem oSeqL_le (hO : OEats O) : ∀ (k : Nat) (r : Rx) (s : List UInt8) {r' : Rx} {t : List UInt8}, oSeqL O k r s = some (r', t) → t.length ≤ s.length
  | 0, r, s, r', t, h => by cases h
  | k + 1, r, s, r', t, h => by
    unfold oSeqL at h
    split at h
    · injection h with h
      injection h with _ h
      rw [← h]; exact Nat.le_refl _
    · rcases h1 : oRep O s with _ | ⟨q, s1⟩
      · rw [h1] at h; cases h
      · rw [h1] at h
        have e1 := oRep_eats hO h1
        have e2 := oSeqL_le hO k _ _ h
        change t.length ≤ s1.length at e2
        omega
theorem oSeq_eats (hO : OEats O) {s t : List UInt8} {r : Rx} (h : oSeq O s = some (r, t)) : t.length < s.length := by
  unfold oSeq at h
  rcases h1 : oRep O s with _ | ⟨q, s1⟩
  · rw [h1] at h; cases h
  · rw [h1] at h
    have e1 := oRep_eats hO h1
    have e2 := oSeqL_le hO _ _ _ h
    change t.length ≤ s1.length at e2
    omega
theorem oAltL_le (hO : OEats O) : ∀ (k : Nat) (r : Rx) (s : List UInt8) {r' : Rx} {t : List UInt8}, oAltL O k r s = some (r', t) → t.length ≤ s.length
  | 0, r, s, r', t, h => by cases h
  | k + 1, r, s, r', t, h => by
    unfold oAltL at h
    split at h
    · rename_i k1
      rcases h1 : oSeq O s.tail with _ | ⟨q, s1⟩
      · rw [h1] at h; cases h
      · rw [h1] at h
        have e1 := oSeq_eats hO h1
        have e2 := oAltL_le hO k _ _ h
        have e3 := tail_lt k1
        change t.length ≤ s1.length at e2
        omega
    · injection h with h
      injection h with _ h
      rw [← h]; exact Nat.le_refl _
theorem oAltG_eats (hO : OEats O) : OEats (oAltG O) := fun s r t h => by
  unfold oAltG at h
  rcases h1 : oSeq O s with _ | ⟨q, s1⟩
  · rw [h1] at h; cases h
  · rw [h1] at h
    have e1 := oSeq_eats hO h1
    have e2 := oAltL_le hO _ _ _ h
    change t.length ≤ s1.length at e2
    omega
end
theorem oAlt_eats : ∀ n, OEats (oAlt n)
  | 0 => fun s r t h => by cases h
  | n + 1 => oAltG_eats (oAlt_eats n)

theorem atA_no {G : List Tok → Option (Rx × List Tok)} : ∀ {t : List Tok}, atA t = false → atmG G t = none
  | [], _ => rfl
  | (false, v) :: t, h => by cases h
  | (true, v) :: t, h => by
    have h' : (v == 91 || v == 40) = false := h
    rw [Bool.or_eq_false_iff, beq_eq_false_iff_ne, beq_eq_false_iff_ne] at h'
    rw [atmG_true, if_neg h'.1, if_neg h'.2]
def SqR (stop : List Nat) (x : Option (Rx × List Tok)) (y : Option (Rx × List UInt8)) : Prop :=
  (∀ r s', y = some (r, s') → x = some (r, tkT 0 s') ∧ (s' = [] ∨ ∃ v ∈ stop, s'.head? = some (UInt8.ofNat v))) ∧
  (y = none → ∀ r t', x = some (r, t') → t' ≠ [] ∧ ∀ v ∈ stop, t'.head? ≠ some (true, v))
theorem tkT_ne : ∀ {s : List UInt8}, s ≠ [] → tkT 0 s ≠ []
  | [], h => absurd rfl h
  | b :: s, _ => by
    rw [tkT_cons]
    split
    · split <;> simp
    · split
      · simp
      · split <;> simp
theorem seqL_s (G : List Tok → Option (Rx × List Tok)) (k : Nat) (r : Rx) (t : List Tok) : seqL G (k + 1) r t = if atA t then (repG G t).bind fun p => seqL G k (.seq r p.1) p.2 else some (r, t) := rfl
theorem oSeqL_s (O : List UInt8 → Option (Rx × List UInt8)) (k : Nat) (r : Rx) (s : List UInt8) : oSeqL O (k + 1) r s = if s = [] ∨ s.head? = some 124 ∨ s.head? = some 41 then some (r, s) else (oRep O s).bind fun p => oSeqL O k (.seq r p.1) p.2 := rfl
theorem altL_c (G : List Tok → Option (Rx × List Tok)) (k : Nat) (r : Rx) (t : List Tok) : altL G (k + 1) r ((true, 124) :: t) = (seqG G t).bind fun p => altL G k (.alt r p.1) p.2 := rfl
theorem altL_n (G : List Tok → Option (Rx × List Tok)) (k : Nat) (r : Rx) : ∀ (t : List Tok), t.head? ≠ some (true, 124) → altL G (k + 1) r t = some (r, t)
  | [], _ => rfl
  | (false, v) :: t, _ => rfl
  | (true, v) :: t, h => by
    show (if v = 124 then _ else some (r, (true, v) :: t)) = _
    rw [if_neg (fun e => h (by rw [e]; rfl))]
theorem oAltL_s (O : List UInt8 → Option (Rx × List UInt8)) (k : Nat) (r : Rx) (s : List UInt8) : oAltL O (k + 1) r s = if s.head? = some 124 then (oSeq O s.tail).bind fun p => oAltL O k (.alt r p.1) p.2 else some (r, s) := rfl
section
variable {G : List Tok → Option (Rx × List Tok)} {O : List UInt8 → Option (Rx × List UInt8)}
theorem seqL_rel (hG : Eats G) (hO : OEats O) (h : AltRel [41] G O) : ∀ (k k' : Nat) (r : Rx) (s : List UInt8), (tkT 0 s).length < k → s.length < k' → SqR [124, 41] (seqL G k r (tkT 0 s)) (oSeqL O k' r s)
  | 0, _, _, _, h1, _ => absurd h1 (Nat.not_lt_zero _)
  | _ + 1, 0, _, _, _, h2 => absurd h2 (Nat.not_lt_zero _)
  | k + 1, k' + 1, r, s, h1, h2 => by
    rw [seqL_s, oSeqL_s]
    by_cases c : s = [] ∨ s.head? = some 124 ∨ s.head? = some 41
    · rw [if_pos c]
      have ha : atA (tkT 0 s) = false := by
        rcases c with rfl | c | c
        · rfl
        · rcases hd_lit 124 124 rfl (by decide) s with ⟨_, e⟩ | ⟨e, _⟩
          · rw [e]; rfl
          · exact absurd c e
        · rcases hd_lit 41 41 rfl (by decide) s with ⟨_, e⟩ | ⟨e, _⟩
          · rw [e]; rfl
          · exact absurd c e
      rw [ha]
      refine ⟨fun r' s' e => ?_, fun e => by cases e⟩
      injection e with e
      injection e with e1 e2
      subst e1
      subst e2
      refine ⟨rfl, ?_⟩
      rcases c with c | c | c
      · exact .inl c
      · exact .inr ⟨124, by simp, c⟩
      · exact .inr ⟨41, by simp, c⟩
    · rw [if_neg c]
      have hr := rep_eq h s
      rcases ho : oRep O s with _ | ⟨q, s1⟩
      · rw [ho] at hr
        rw [hr]
        refine ⟨fun r' s' e => (by cases e), fun _ r' t' e => ?_⟩
        by_cases ha : atA (tkT 0 s) = true
        · rw [if_pos ha] at e; cases e
        · rw [if_neg ha] at e
          injection e with e
          injection e with _ e
          subst e
          refine ⟨tkT_ne (fun q => c (.inl q)), fun v hv => ?_⟩
          rcases List.mem_cons.1 hv with rfl | hv
          · rcases hd_lit 124 124 rfl (by decide) s with ⟨e, _⟩ | ⟨_, e⟩
            · exact absurd (.inr (.inl e)) c
            · exact e
          · rw [List.mem_singleton.1 hv]
            rcases hd_lit 41 41 rfl (by decide) s with ⟨e, _⟩ | ⟨_, e⟩
            · exact absurd (.inr (.inr e)) c
            · exact e
      · rw [ho] at hr
        have hr' : repG G (tkT 0 s) = some (q, tkT 0 s1) := hr
        have ha : atA (tkT 0 s) = true := by
          by_cases ha : atA (tkT 0 s) = true
          · exact ha
          · exfalso
            have := atA_no (G := G) (Bool.eq_false_iff.2 ha)
            unfold repG at hr'
            rw [this] at hr'
            cases hr'
        have l1 := rep_eats hG _ _ _ hr'
        have l2 := oRep_eats hO ho
        rw [if_pos ha, hr']
        exact seqL_rel hG hO h k k' (.seq r q) s1 (by omega) (by omega)
theorem seq_rel (hG : Eats G) (hO : OEats O) (h : AltRel [41] G O) (s : List UInt8) : SqR [124, 41] (seqG G (tkT 0 s)) (oSeq O s) := by
  unfold seqG oSeq
  rw [rep_eq h s]
  rcases oRep O s with _ | ⟨q, s1⟩
  · exact ⟨fun r' s' e => (by cases e), fun _ r' t' e => (by cases e)⟩
  · exact seqL_rel hG hO h _ _ q s1 (Nat.lt_succ_self _) (Nat.lt_succ_self _)
theorem altL_rel (hG : Eats G) (hO : OEats O) (h : AltRel [41] G O) : ∀ (k k' : Nat) (r : Rx) (s : List UInt8), (tkT 0 s).length < k → s.length < k' → (s = [] ∨ ∃ v ∈ [124, 41], s.head? = some (UInt8.ofNat v)) → SqR [41] (altL G k r (tkT 0 s)) (oAltL O k' r s)
  | 0, _, _, _, h1, _, _ => absurd h1 (Nat.not_lt_zero _)
  | _ + 1, 0, _, _, _, h2, _ => absurd h2 (Nat.not_lt_zero _)
  | k + 1, k' + 1, r, s, h1, h2, hs => by
    rw [oAltL_s]
    rcases hd_lit 124 124 rfl (by decide) s with ⟨e1, k1⟩ | ⟨e1, k1⟩
    · rw [if_pos e1, k1, altL_c]
      obtain ⟨a1, a2⟩ := seq_rel hG hO h s.tail
      have lt := tail_lt e1
      have lk : (tkT 0 s.tail).length < k := by rw [k1] at h1; simpa using h1
      rcases ho : oSeq O s.tail with _ | ⟨q, s1⟩
      · refine ⟨fun r' s' e => (by cases e), fun _ r' t' e => ?_⟩
        have a2 := a2 ho
        rcases hg : seqG G (tkT 0 s.tail) with _ | ⟨q, u⟩
        · rw [hg] at e; cases e
        · rw [hg] at e
          obtain ⟨b1, b2⟩ := a2 q u hg
          obtain ⟨j, rfl⟩ : ∃ j, k = j + 1 := ⟨k - 1, by omega⟩
          have e' : altL G (j + 1) (.alt r q) u = some (r', t') := e
          rw [altL_n G j _ u (b2 124 (by simp))] at e'
          injection e' with e'
          injection e' with _ e'
          subst e'
          exact ⟨b1, fun v hv => b2 v (by rw [List.mem_singleton.1 hv]; simp)⟩
      · obtain ⟨b1, b2⟩ := a1 q s1 ho
        rw [b1]
        have l1 := seq_eats hG _ _ _ b1
        have l2 := oSeq_eats hO ho
        exact altL_rel hG hO h k k' (.alt r q) s1 (by omega) (by omega) b2
    · rw [if_neg e1, altL_n G k r _ k1]
      refine ⟨fun r' s' e => ?_, fun e => by cases e⟩
      injection e with e
      injection e with g1 g2
      subst g1
      subst g2
      refine ⟨rfl, ?_⟩
      rcases hs with hs | ⟨v, hv, hs⟩
      · exact .inl hs
      · rcases List.mem_cons.1 hv with rfl | hv
        · exact absurd hs e1
        · exact .inr ⟨v, hv, hs⟩
theorem alt_rel (hG : Eats G) (hO : OEats O) (h : AltRel [41] G O) : AltRel [41] (altG G) (oAltG O) := fun s => by
  unfold altG oAltG
  obtain ⟨a1, a2⟩ := seq_rel hG hO h s
  rcases ho : oSeq O s with _ | ⟨q, s1⟩
  · refine ⟨fun r' s' e => (by cases e), fun _ r' t' e => ?_⟩
    have a2 := a2 ho
    rcases hg : seqG G (tkT 0 s) with _ | ⟨q, u⟩
    · rw [hg] at e; cases e
    · rw [hg] at e
      obtain ⟨b1, b2⟩ := a2 q u hg
      have e' : altL G (u.length + 1) q u = some (r', t') := e
      rw [altL_n G _ _ u (b2 124 (by simp))] at e'
      injection e' with e'
      injection e' with _ e'
      subst e'
      exact ⟨b1, fun v hv => b2 v (by rw [List.mem_singleton.1 hv]; simp)⟩
  · obtain ⟨b1, b2⟩ := a1 q s1 ho
    rw [b1]
    exact altL_rel hG hO h _ _ q s1 (Nat.lt_succ_self _) (Nat.lt_succ_self _) b2
end
theorem oAlt_rel : ∀ n, AltRel [41] (pAlt n) (oAlt n)
  | 0 => fun s => ⟨fun r s' e => (by cases e), fun _ r t' e => (by cases e)⟩
  | n + 1 => alt_rel (pAlt_eats n) (oAlt_eats n) (oAlt_rel n)

/-- a token that no rule takes stays -/
def Keeps (G : List Tok → Option (Rx × List Tok)) : Prop := ∀ t r t', G t = some (r, t') → (true, 0) ∈ t → ((true, 0) : Tok) ∈ t'
theorem mem_next {x : Tok} {t : List Tok} (h : ((true, 0) : Tok) ∈ x :: t) (hx : x ≠ (true, 0)) : ((true, 0) : Tok) ∈ t := by
  rcases List.mem_cons.1 h with e | e
  · exact absurd e.symm hx
  · exact e
theorem br_keeps : Keeps brG := fun t r t' h hb => by
  obtain ⟨lo, hi, e, _⟩ := brG_some h
  rw [e] at hb
  exact mem_next (mem_next (mem_next (mem_next hb (by simp)) (by simp)) (by simp)) (by simp)
section
variable {G : List Tok → Option (Rx × List Tok)}
theorem par_keeps (hG : Keeps G) : Keeps (parG G) := fun t r t' h hb => by
  unfold parG at h
  split at h
  · rename_i k1
    injection h with h
    injection h with _ h
    rcases t with _ | ⟨x, t⟩
    · cases k1
    · injection k1 with k1
      subst k1
      rw [← h]
      exact mem_next hb (by simp)
  · split at h
    · rename_i q c u hg
      have := hG _ _ _ hg hb
      split at h
      · rename_i hc
        injection h with h
        injection h with _ h
        rw [← h]
        exact mem_next this (by rw [hc]; simp)
      · cases h
    · cases h
theorem atm_keeps (hG : Keeps G) : Keeps (atmG G) := fun t r t' h hb => by
  rcases t with _ | ⟨⟨b, v⟩, t⟩
  · cases h
  · cases b with
    | false =>
      have h' : some (Rx.rng v v, t) = some (r, t') := h
      injection h' with h'
      injection h' with _ h'
      rw [← h']
      exact mem_next hb (by simp)
    | true =>
      rw [atmG_true] at h
      split at h
      · rename_i k1
        exact br_keeps _ _ _ h (mem_next hb (by rw [k1]; simp))
      · split at h
        · rename_i k1
          exact par_keeps hG _ _ _ h (mem_next hb (by rw [k1]; simp))
        · cases h
theorem strs_keeps : ∀ (t : List Tok) (r : Rx), ((true, 0) : Tok) ∈ t → ((true, 0) : Tok) ∈ (strs r t).2
  | [], r, h => h
  | (false, v) :: t, r, h => h
  | (true, v) :: t, r, h => by
    rw [strs_true]
    split
    · rename_i k1
      exact strs_keeps t _ (mem_next h (by rw [k1]; simp))
    · exact h
theorem rep_keeps (hG : Keeps G) : Keeps (repG G) := fun t r t' h hb => by
  unfold repG at h
  rcases h1 : atmG G t with _ | ⟨q, u⟩
  · rw [h1] at h; cases h
  · rw [h1] at h
    injection h with h
    have h2 : (strs q u).2 = t' := congrArg Prod.snd h
    rw [← h2]
    exact strs_keeps u q (atm_keeps hG _ _ _ h1 hb)
theorem seqL_keeps (hG : Keeps G) : ∀ (k : Nat) (r : Rx) (t : List Tok) {r' : Rx} {t' : List Tok}, seqL G k r t = some (r', t') → ((true, 0) : Tok) ∈ t → ((true, 0) : Tok) ∈ t'
  | 0, _, _, _, _, h, _ => by cases h
  | k + 1, r, t, r', t', h, hb => by
    rw [seqL_s] at h
    split at h
    · rcases h1 : repG G t with _ | ⟨q, u⟩
      · rw [h1] at h; cases h
      · rw [h1] at h
        exact seqL_keeps hG k _ u h (rep_keeps hG _ _ _ h1 hb)
    · injection h with h
      injection h with _ h
      rw [← h]; exact hb
theorem seq_keeps (hG : Keeps G) : Keeps (seqG G) := fun t r t' h hb => by
  unfold seqG at h
  rcases h1 : repG G t with _ | ⟨q, u⟩
  · rw [h1] at h; cases h
  · rw [h1] at h
    exact seqL_keeps hG _ _ u h (rep_keeps hG _ _ _ h1 hb)
theorem altL_keeps (hG : Keeps G) : ∀ (k : Nat) (r : Rx) (t : List Tok) {r' : Rx} {t' : List Tok}, altL G k r t = some (r', t') → ((true, 0) : Tok) ∈ t → ((true, 0) : Tok) ∈ t'
  | 0, _, _, _, _, h, _ => by cases h
  | k + 1, r, t, r', t', h, hb => by
    by_cases c : t.head? = some (true, 124)
    · rcases t with _ | ⟨x, t⟩
      · cases c
      · injection c with c
        subst c
        rw [altL_c] at h
        rcases h1 : seqG G t with _ | ⟨q, u⟩
        · rw [h1] at h; cases h
        · rw [h1] at h
          exact altL_keeps hG k _ u h (seq_keeps hG _ _ _ h1 (mem_next hb (by simp)))
    · rw [altL_n G k r t c] at h
      injection h with h
      injection h with _ h
      rw [← h]; exact hb
theorem alt_keeps (hG : Keeps G) : Keeps (altG G) := fun t r t' h hb => by
  unfold altG at h
  rcases h1 : seqG G t with _ | ⟨q, u⟩
  · rw [h1] at h; cases h
  · rw [h1] at h
    exact altL_keeps hG _ _ u h (seq_keeps hG _ _ _ h1 hb)
end
theorem pAlt_keeps : ∀ n, Keeps (pAlt n)
  | 0 => fun t r t' h _ => by cases h
  | n + 1 => alt_keeps (pAlt_keeps n)
/-- what a parser by offsets answers -/
def ofP (x : Option (Rx × List UInt8)) : List Pn × Int := match x with
  | some (r, []) => if 512 < r.nn then ([], 2) else (r.po [], 0)
  | _ => ([], 40)
/-- Parse by the parser over bytes, with parentheses as deep as there are bytes -/
theorem prs_bytes (s : List UInt8) (h : s.length ≤ 8192) : ∃ N, s.length < N ∧ prsP s = ofP (oAlt N s) := by
  unfold prsP
  rw [if_neg (by omega)]
  rcases ht : tkS 0 s with _ | ts
  · refine ⟨s.length + 1, Nat.lt_succ_self _, ?_⟩
    obtain ⟨h1, _⟩ := oAlt_rel (s.length + 1) s
    rcases ho : oAlt (s.length + 1) s with _ | ⟨r, s'⟩
    · rfl
    · rcases s' with _ | ⟨b, s'⟩
      · have := pAlt_keeps _ _ _ _ (h1 r [] ho).1 (tkT_none s 0 ht)
        cases this
      · rfl
  · have hl := tkS_len s 0 ht
    refine ⟨4 * ts.length + 4, by omega, ?_⟩
    have hT := tkT_some s 0 ht
    obtain ⟨h1, h2⟩ := oAlt_rel (4 * ts.length + 4) s
    rw [hT] at h1 h2
    show (match pAlt (4 * ts.length + 4) ts with
      | some (r, []) => if 512 < r.nn then (([] : List Pn), (2 : Int)) else (r.po [], 0)
      | _ => ([], 40)) = _
    rcases ho : oAlt (4 * ts.length + 4) s with _ | ⟨r, s'⟩
    · have h2 := h2 ho
      rcases hg : pAlt (4 * ts.length + 4) ts with _ | ⟨r, t'⟩
      · rfl
      · rcases t' with _ | ⟨x, t'⟩
        · exact absurd rfl (h2 r [] hg).1
        · rfl
    · rw [(h1 r s' ho).1]
      rcases s' with _ | ⟨b, s'⟩
      · rfl
      · rcases hq : tkT 0 (b :: s') with _ | ⟨x, t'⟩
        · exact absurd hq (tkT_ne (by simp))
        · rfl
theorem prs_long (s : List UInt8) (h : 8192 < s.length) : prsP s = ([], 2) := by
  unfold prsP
  rw [if_pos h]

end Go.Proofs.YtfkljlncnfeklaaGreatDoor
