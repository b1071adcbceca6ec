/-
  Plain mathematics and contracts of package diagram, several texts in one: FHol, FVal.
-/
import Derived.Test.YtignkplogkaigaaDoorFc
import Derived.Test.YtignkplogkaigaaDoorMc

/-! Holds of a formula. (Written by fholgen.py.) -/
namespace Go.Proofs.YtignkplogkaigaaDoor
open Go.RowKit Dg St
set_option linter.unusedVariables false
set_option linter.unusedSimpArgs false
attribute [local go_sem ↓] Go.wp_at_zero Go.wp_at_succ

theorem fbit {x V : Nat} (hx : x < 18446744073709551616) : (bits .and .u64 ((x : Int) / 2 ^ V) 1 == 1) = cfg x V := by
  have e : ((x : Int) / 2 ^ V) = ((x / 2 ^ V : Nat) : Int) := by simp
  have hlt : x / 2 ^ V < 18446744073709551616 := Nat.lt_of_le_of_lt (Nat.div_le_self _ _) hx
  rw [e]
  unfold cfg
  rw [Nat.testBit_eq_decide_div_mod_eq]
  clear e
  generalize x / 2 ^ V = y at *
  rw [and_one_u64 _ (by omega) (by omega)]
  rcases Nat.mod_two_eq_zero_or_one y with h | h
  · rw [decide_eq_false (by omega)]
    have : ((y : Int) % 2) = 0 := by omega
    rw [this]; rfl
  · rw [decide_eq_true h]
    have : ((y : Int) % 2) = 1 := by omega
    rw [this]; rfl


/-- the values of the first k nodes, and false -/
def vd (l : List Fi) (c : Nat → Bool) (k j : Nat) : Value := .bool (if j < k then val l c j else false)
structure HoI (w wr : World) (g : Nat) (l : List Fi) (c : Nat → Bool) (k : Nat) : Prop where
  blk : Blk wr g 512 (vd l c k)
  bel : Below w.heap.size w wr
theorem HoI.next {w wr w' : World} {g : Nat} {l : List Fi} {c : Nat → Bool} {k : Nat} (h : HoI w wr g l c k) (hB : Blk w' g 512 (fup (vd l c k) k (.bool (val l c k)))) (hw : Below w.heap.size w w') : HoI w w' g l c (k + 1) :=
  ⟨hB.congr fun i _ => by
    show (if i = k then Value.bool (val l c k) else Value.bool (if i < k then val l c i else false)) = Value.bool (if i < k + 1 then val l c i else false)
    by_cases e : i = k
    · subst e; rw [if_pos rfl, if_pos (by omega)]
    · rw [if_neg e]
      by_cases q : i < k
      · rw [if_pos q, if_pos (by omega)]
      · rw [if_neg q, if_neg (by omega)], hw⟩
theorem HoI.none {w wr w' : World} {g : Nat} {l : List Fi} {c : Nat → Bool} {k : Nat} (h : HoI w wr g l c k) (h0 : fo l k = 0) (hB : Blk w' g 512 (vd l c k)) (hw : Below w.heap.size w w') : HoI w w' g l c (k + 1) :=
  ⟨hB.congr fun i _ => by
    show Value.bool (if i < k then val l c i else false) = Value.bool (if i < k + 1 then val l c i else false)
    by_cases q : i < k
    · rw [if_pos q, if_pos (by omega)]
    · rw [if_neg q]
      by_cases e : i = k
      · subst e; rw [if_pos (by omega), val_false l c h0]
      · rw [if_neg (by omega)], hw⟩
theorem vd_eq (l : List Fi) (c : Nat → Bool) (k i : Nat) : vd l c k i = Value.bool (if i < k then val l c i else false) := rfl
theorem held_new (w : World) (l : List Fi) (c : Nat → Bool) : Blk (w.alloc (.cells Tryd.zeroCells72 72)) w.heap.size 512 (vd l c 0) := (used_new w l).congr fun i _ => by unfold usd vd us; rfl
/-- what an operator is, and its operands -/
theorem ok_node {l : List Fi} {k : Nat} (h : okN l k) : (0 ≤ fo l k ∧ fo l k ≤ 5) ∧ (0 ≤ fv l k ∧ fv l k < 64) ∧ (3 ≤ fo l k → 0 ≤ fa l k ∧ fa l k < (k : Int)) ∧ (4 ≤ fo l k → 0 ≤ fb l k ∧ fb l k < (k : Int)) := by
  have h1 := h.1
  simp only [plN, Bool.and_eq_true, decide_eq_true_eq] at h1
  obtain ⟨⟨⟨⟨⟨⟨a, b⟩, c⟩, d⟩, _⟩, _⟩, _⟩ := h1
  refine ⟨⟨a, b⟩, ⟨c, d⟩, fun q => opN_a h.2 ?_, fun q => opN_b h.2 ?_⟩
  · rcases (show fo l k = 3 ∨ fo l k = 4 ∨ fo l k = 5 by omega) with e | e | e <;> rw [e] <;> decide
  · rcases (show fo l k = 4 ∨ fo l k = 5 by omega) with e | e <;> rw [e] <;> decide
theorem nat_of {x : Int} {k : Nat} (h : 0 ≤ x ∧ x < (k : Int)) : ∃ a : Nat, x = (a : Int) ∧ a < k := ⟨x.toNat, by omega, by omega⟩

set_option maxHeartbeats 8000000 in
set_option maxRecDepth 100000 in
theorem fholds_ok (A : Option Addr) (m c : Nat) (l : List Fi) (x : Nat) (w : World) (hl : Hid (l.length = m)) (hr : Hid (Rf w w.heap.size A l)) (hok : Hid (okF l)) (hx : x < 18446744073709551616) :
    Calls Tryd.prog 14 #[.slice A m c, .int .u64 (x : Int)] w fun e w' => e = .returned (.bool (val l (cfg x) (m - 1))) ∧ Below w.heap.size w w' := by
  have HV := Lib.hid (valid_any A m c l w hl hr)
  rw [decide_eq_true hok.out] at HV
  have h1 : 1 ≤ m := by have := hok.out.1; rw [hl.out] at this; exact this
  have h2 : m ≤ 512 := by have := hok.out.2.1; rw [hl.out] at this; exact this
  have HN : Hid (∀ i, i < m → okN l i) := Lib.hid (fun i hi => hok.out.2.2.1 i (by rw [hl.out]; exact hi))
  clear hok
  go_enter Tryd.func14, Tryd.ntmps14
  go_wp2_with (first | (go_at_call 31; refine HV.out.mono ?_; rintro e w1 ⟨rfl, b1⟩))
  have H0 : Hid (HoI w (w1.alloc (.cells Tryd.zeroCells72 72)) w1.heap.size l (cfg x) 0) := Lib.hid ⟨held_new w1 l _, b1.alloc b1.size _⟩
  have hg := Lib.hid b1.size
  clear b1 HV
  generalize w1.alloc (.cells Tryd.zeroCells72 72) = w0 at *
  generalize w1.heap.size = g at *
  go_loopw [13] (fun i wr => ∃ k : Nat, k ≤ m ∧ i = .int .i64 (k : Int) ∧ Hid (HoI w wr g l (cfg x) k)) (fun i _ => m - (intOf i).toNat)
  case atStart => exact ⟨0, Nat.zero_le _, rfl, H0⟩
  case round =>
    obtain ⟨k, hk, rfl, hst⟩ := hrel
    clear H0
    by_cases hlt' : k < m
    · have hkl : k < l.length := by rw [hl.out]; exact hlt'
      obtain ⟨b, o, e, hb, hc⟩ := (hr.out.below hst.out.bel) (by omega)
      subst e
      obtain ⟨d0, d1, d2, d3⟩ := hc k hkl
      clear hc
      have i1 : (0 : Int) ≤ (k : Int) := by omega
      have i2 : (k : Int) < (m : Int) := by omega
      have i3 : (k : Int) < 512 := by omega
      obtain ⟨⟨o0, o5⟩, ⟨v0, v1⟩, oa, ob⟩ := ok_node (HN.out k hlt')
      obtain ⟨V, hV, hV64⟩ := nat_of (k := 64) ⟨v0, v1⟩
      have HVV := Lib.hid hV
      rw [hV] at d1
      clear hV v0 v1
      have hbl := hst.out.bel.size
      have hgl := hst.out.blk.lt (by omega)
      have hgn : ¬ g = wr.heap.size := by omega
      have hgn' : ¬ wr.heap.size = g := by omega
      have XU := hst.out.blk
      have HOA := Lib.hid oa
      have HOB := Lib.hid ob
      have HXU := Lib.hid XU
      clear oa ob XU
      have hO : fo l k = 0 ∨ fo l k = 1 ∨ fo l k = 2 ∨ fo l k = 3 ∨ fo l k = 4 ∨ fo l k = 5 := by omega
      clear o0 o5
      generalize hvv : fv l k = VV at *
      rcases hO with hO | hO | hO | hO | hO | hO
      · rw [hO] at d0
        have HO := Lib.hid hO
        clear hO
        have X1 := Lib.hid (HXU.out.alloc (by omega) (.cells #[.int .i64 0, .int .i64 (V : Int), .int .i64 (fa l k), .int .i64 (fb l k)] 53))
        obtain ⟨zk, fk⟩ := X1.out k (by omega)
        have B1 := Lib.hid (hst.out.bel.alloc hst.out.bel.size (.cells #[.int .i64 0, .int .i64 (V : Int), .int .i64 (fa l k), .int .i64 (fb l k)] 53))
        go_wp2
        go_roundw
        case rel => exact ⟨k + 1, by omega, by go_num, Lib.hid (hst.out.none HO.out X1.out B1.out)⟩
        case measure => simp [intOf]; omega
      · rw [hO] at d0
        have HO := Lib.hid hO
        clear hO
        have X1 := Lib.hid (HXU.out.alloc (by omega) (.cells #[.int .i64 1, .int .i64 (V : Int), .int .i64 (fa l k), .int .i64 (fb l k)] 53))
        obtain ⟨zk, fk⟩ := X1.out k (by omega)
        have B1 := Lib.hid (hst.out.bel.alloc hst.out.bel.size (.cells #[.int .i64 1, .int .i64 (V : Int), .int .i64 (fa l k), .int .i64 (fb l k)] 53))
        have HVL := Lib.hid (val_true l (cfg x) HO.out)
        have B2 : Hid (Below w.heap.size w (wr.setCell ⟨g, k, none⟩ (.bool true))) := Lib.hid (hst.out.bel.setCell (by show w.heap.size ≤ g; exact hg.out) _)
        go_wp2
        go_roundw
        case rel => exact ⟨k + 1, by omega, by go_num, Lib.hid (hst.out.next (by rw [HVL.out]; exact (HXU.out.set (i := k) (by omega) _).alloc (by omega) _) (B2.out.alloc B2.out.size _))⟩
        case measure => simp [intOf]; omega
      · rw [hO] at d0
        have HO := Lib.hid hO
        clear hO
        have X1 := Lib.hid (HXU.out.alloc (by omega) (.cells #[.int .i64 2, .int .i64 (V : Int), .int .i64 (fa l k), .int .i64 (fb l k)] 53))
        obtain ⟨zk, fk⟩ := X1.out k (by omega)
        have B1 := Lib.hid (hst.out.bel.alloc hst.out.bel.size (.cells #[.int .i64 2, .int .i64 (V : Int), .int .i64 (fa l k), .int .i64 (fb l k)] 53))
        have hbit := fbit (V := V) hx
        have hVi : (0 : Int) ≤ (V : Int) := by omega
        have hVj : (V : Int) < 64 := by omega
        have hv2 : val l (cfg x) k = cfg x V := by rw [val_var l (cfg x) HO.out, hvv, HVV.out]; rfl
        obtain ⟨bv, hbv⟩ : ∃ y, cfg x V = y := ⟨_, rfl⟩
        rw [hbv] at hbit hv2
        have HV2 := Lib.hid hv2
        clear hv2 hbv
        have HVL := Lib.hid (HV2.out)
        have B2 : Hid (Below w.heap.size w (wr.setCell ⟨g, k, none⟩ (.bool bv))) := Lib.hid (hst.out.bel.setCell (by show w.heap.size ≤ g; exact hg.out) _)
        go_wp2
        go_roundw
        case rel => exact ⟨k + 1, by omega, by go_num, Lib.hid (hst.out.next (by rw [HVL.out]; exact (HXU.out.set (i := k) (by omega) _).alloc (by omega) _) (B2.out.alloc B2.out.size _))⟩
        case measure => simp [intOf]; omega
      · rw [hO] at d0
        have HO := Lib.hid hO
        obtain ⟨a, hae, hak⟩ := nat_of (HOA.out (by omega))
        rw [hae] at d2
        have HA := Lib.hid hae
        have i4 : (0 : Int) ≤ (a : Int) := by omega
        have i5 : (a : Int) < 512 := by omega
        clear hO hae
        have X1 := Lib.hid (HXU.out.alloc (by omega) (.cells #[.int .i64 3, .int .i64 (V : Int), .int .i64 (a : Int), .int .i64 (fb l k)] 53))
        obtain ⟨zk, fk⟩ := X1.out k (by omega)
        have B1 := Lib.hid (hst.out.bel.alloc hst.out.bel.size (.cells #[.int .i64 3, .int .i64 (V : Int), .int .i64 (a : Int), .int .i64 (fb l k)] 53))
        obtain ⟨z0, f0⟩ := X1.out a (by omega)
        unfold vd at z0
        rw [if_pos hak] at z0
        have hv2 : val l (cfg x) k = !(val l (cfg x) a) := by
          have := val_not l (cfg x) HO.out (by rw [HA.out]; omega)
          rw [HA.out] at this; exact this
        rcases hbv : val l (cfg x) a with _ | _
        · rw [hbv] at z0 hv2
          have HV2 := Lib.hid hv2
          clear hv2 hbv
          have HVL := Lib.hid (HV2.out)
          have B2 : Hid (Below w.heap.size w (wr.setCell ⟨g, k, none⟩ (.bool true))) := Lib.hid (hst.out.bel.setCell (by show w.heap.size ≤ g; exact hg.out) _)
          go_wp2
          go_roundw
          case rel => exact ⟨k + 1, by omega, by go_num, Lib.hid (hst.out.next (by rw [HVL.out]; exact (HXU.out.set (i := k) (by omega) _).alloc (by omega) _) (B2.out.alloc B2.out.size _))⟩
          case measure => simp [intOf]; omega
        · rw [hbv] at z0 hv2
          have HV2 := Lib.hid hv2
          clear hv2 hbv
          have HVL := Lib.hid (HV2.out)
          have B2 : Hid (Below w.heap.size w (wr.setCell ⟨g, k, none⟩ (.bool false))) := Lib.hid (hst.out.bel.setCell (by show w.heap.size ≤ g; exact hg.out) _)
          go_wp2
          go_roundw
          case rel => exact ⟨k + 1, by omega, by go_num, Lib.hid (hst.out.next (by rw [HVL.out]; exact (HXU.out.set (i := k) (by omega) _).alloc (by omega) _) (B2.out.alloc B2.out.size _))⟩
          case measure => simp [intOf]; omega
      · rw [hO] at d0
        have HO := Lib.hid hO
        obtain ⟨a, hae, hak⟩ := nat_of (HOA.out (by omega))
        rw [hae] at d2
        have HA := Lib.hid hae
        have i4 : (0 : Int) ≤ (a : Int) := by omega
        have i5 : (a : Int) < 512 := by omega
        obtain ⟨q, hqe, hqk⟩ := nat_of (HOB.out (by omega))
        rw [hqe] at d3
        have HQ := Lib.hid hqe
        have i6 : (0 : Int) ≤ (q : Int) := by omega
        have i7 : (q : Int) < 512 := by omega
        clear hO hae hqe
        have X1 := Lib.hid (HXU.out.alloc (by omega) (.cells #[.int .i64 4, .int .i64 (V : Int), .int .i64 (a : Int), .int .i64 (q : Int)] 53))
        obtain ⟨zk, fk⟩ := X1.out k (by omega)
        have B1 := Lib.hid (hst.out.bel.alloc hst.out.bel.size (.cells #[.int .i64 4, .int .i64 (V : Int), .int .i64 (a : Int), .int .i64 (q : Int)] 53))
        obtain ⟨z0, f0⟩ := X1.out a (by omega)
        unfold vd at z0
        rw [if_pos hak] at z0
        obtain ⟨z1, f1⟩ := X1.out q (by omega)
        unfold vd at z1
        rw [if_pos hqk] at z1
        have hv2 : val l (cfg x) k = (val l (cfg x) a && val l (cfg x) q) := by
          have := val_and l (cfg x) HO.out (by rw [HA.out]; omega) (by rw [HQ.out]; omega)
          rw [HA.out, HQ.out] at this; exact this
        rcases hbv : val l (cfg x) a with _ | _
        · rw [hbv] at z0 hv2
          rcases hbw : val l (cfg x) q with _ | _
          · rw [hbw] at z1 hv2
            have HV2 := Lib.hid hv2
            clear hv2 hbv hbw
            have HVL := Lib.hid (HV2.out)
            have B2 : Hid (Below w.heap.size w (wr.setCell ⟨g, k, none⟩ (.bool false))) := Lib.hid (hst.out.bel.setCell (by show w.heap.size ≤ g; exact hg.out) _)
            go_wp2
            go_roundw
            case rel => exact ⟨k + 1, by omega, by go_num, Lib.hid (hst.out.next (by rw [HVL.out]; exact (HXU.out.set (i := k) (by omega) _).alloc (by omega) _) (B2.out.alloc B2.out.size _))⟩
            case measure => simp [intOf]; omega
          · rw [hbw] at z1 hv2
            have HV2 := Lib.hid hv2
            clear hv2 hbv hbw
            have HVL := Lib.hid (HV2.out)
            have B2 : Hid (Below w.heap.size w (wr.setCell ⟨g, k, none⟩ (.bool false))) := Lib.hid (hst.out.bel.setCell (by show w.heap.size ≤ g; exact hg.out) _)
            go_wp2
            go_roundw
            case rel => exact ⟨k + 1, by omega, by go_num, Lib.hid (hst.out.next (by rw [HVL.out]; exact (HXU.out.set (i := k) (by omega) _).alloc (by omega) _) (B2.out.alloc B2.out.size _))⟩
            case measure => simp [intOf]; omega
        · rw [hbv] at z0 hv2
          rcases hbw : val l (cfg x) q with _ | _
          · rw [hbw] at z1 hv2
            have HV2 := Lib.hid hv2
            clear hv2 hbv hbw
            have HVL := Lib.hid (HV2.out)
            have B2 : Hid (Below w.heap.size w (wr.setCell ⟨g, k, none⟩ (.bool false))) := Lib.hid (hst.out.bel.setCell (by show w.heap.size ≤ g; exact hg.out) _)
            go_wp2
            go_roundw
            case rel => exact ⟨k + 1, by omega, by go_num, Lib.hid (hst.out.next (by rw [HVL.out]; exact (HXU.out.set (i := k) (by omega) _).alloc (by omega) _) (B2.out.alloc B2.out.size _))⟩
            case measure => simp [intOf]; omega
          · rw [hbw] at z1 hv2
            have HV2 := Lib.hid hv2
            clear hv2 hbv hbw
            have HVL := Lib.hid (HV2.out)
            have B2 : Hid (Below w.heap.size w (wr.setCell ⟨g, k, none⟩ (.bool true))) := Lib.hid (hst.out.bel.setCell (by show w.heap.size ≤ g; exact hg.out) _)
            go_wp2
            go_roundw
            case rel => exact ⟨k + 1, by omega, by go_num, Lib.hid (hst.out.next (by rw [HVL.out]; exact (HXU.out.set (i := k) (by omega) _).alloc (by omega) _) (B2.out.alloc B2.out.size _))⟩
            case measure => simp [intOf]; omega
      · rw [hO] at d0
        have HO := Lib.hid hO
        obtain ⟨a, hae, hak⟩ := nat_of (HOA.out (by omega))
        rw [hae] at d2
        have HA := Lib.hid hae
        have i4 : (0 : Int) ≤ (a : Int) := by omega
        have i5 : (a : Int) < 512 := by omega
        obtain ⟨q, hqe, hqk⟩ := nat_of (HOB.out (by omega))
        rw [hqe] at d3
        have HQ := Lib.hid hqe
        have i6 : (0 : Int) ≤ (q : Int) := by omega
        have i7 : (q : Int) < 512 := by omega
        clear hO hae hqe
        have X1 := Lib.hid (HXU.out.alloc (by omega) (.cells #[.int .i64 5, .int .i64 (V : Int), .int .i64 (a : Int), .int .i64 (q : Int)] 53))
        obtain ⟨zk, fk⟩ := X1.out k (by omega)
        have B1 := Lib.hid (hst.out.bel.alloc hst.out.bel.size (.cells #[.int .i64 5, .int .i64 (V : Int), .int .i64 (a : Int), .int .i64 (q : Int)] 53))
        obtain ⟨z0, f0⟩ := X1.out a (by omega)
        unfold vd at z0
        rw [if_pos hak] at z0
        obtain ⟨z1, f1⟩ := X1.out q (by omega)
        unfold vd at z1
        rw [if_pos hqk] at z1
        have hv2 : val l (cfg x) k = (val l (cfg x) a || val l (cfg x) q) := by
          have := val_or l (cfg x) HO.out (by rw [HA.out]; omega) (by rw [HQ.out]; omega)
          rw [HA.out, HQ.out] at this; exact this
        rcases hbv : val l (cfg x) a with _ | _
        · rw [hbv] at z0 hv2
          rcases hbw : val l (cfg x) q with _ | _
          · rw [hbw] at z1 hv2
            have HV2 := Lib.hid hv2
            clear hv2 hbv hbw
            have HVL := Lib.hid (HV2.out)
            have B2 : Hid (Below w.heap.size w (wr.setCell ⟨g, k, none⟩ (.bool false))) := Lib.hid (hst.out.bel.setCell (by show w.heap.size ≤ g; exact hg.out) _)
            go_wp2
            go_roundw
            case rel => exact ⟨k + 1, by omega, by go_num, Lib.hid (hst.out.next (by rw [HVL.out]; exact (HXU.out.set (i := k) (by omega) _).alloc (by omega) _) (B2.out.alloc B2.out.size _))⟩
            case measure => simp [intOf]; omega
          · rw [hbw] at z1 hv2
            have HV2 := Lib.hid hv2
            clear hv2 hbv hbw
            have HVL := Lib.hid (HV2.out)
            have B2 : Hid (Below w.heap.size w (wr.setCell ⟨g, k, none⟩ (.bool true))) := Lib.hid (hst.out.bel.setCell (by show w.heap.size ≤ g; exact hg.out) _)
            go_wp2
            go_roundw
            case rel => exact ⟨k + 1, by omega, by go_num, Lib.hid (hst.out.next (by rw [HVL.out]; exact (HXU.out.set (i := k) (by omega) _).alloc (by omega) _) (B2.out.alloc B2.out.size _))⟩
            case measure => simp [intOf]; omega
        · rw [hbv] at z0 hv2
          rcases hbw : val l (cfg x) q with _ | _
          · rw [hbw] at z1 hv2
            have HV2 := Lib.hid hv2
            clear hv2 hbv hbw
            have HVL := Lib.hid (HV2.out)
            have B2 : Hid (Below w.heap.size w (wr.setCell ⟨g, k, none⟩ (.bool true))) := Lib.hid (hst.out.bel.setCell (by show w.heap.size ≤ g; exact hg.out) _)
            go_wp2
            go_roundw
            case rel => exact ⟨k + 1, by omega, by go_num, Lib.hid (hst.out.next (by rw [HVL.out]; exact (HXU.out.set (i := k) (by omega) _).alloc (by omega) _) (B2.out.alloc B2.out.size _))⟩
            case measure => simp [intOf]; omega
          · rw [hbw] at z1 hv2
            have HV2 := Lib.hid hv2
            clear hv2 hbv hbw
            have HVL := Lib.hid (HV2.out)
            have B2 : Hid (Below w.heap.size w (wr.setCell ⟨g, k, none⟩ (.bool true))) := Lib.hid (hst.out.bel.setCell (by show w.heap.size ≤ g; exact hg.out) _)
            go_wp2
            go_roundw
            case rel => exact ⟨k + 1, by omega, by go_num, Lib.hid (hst.out.next (by rw [HVL.out]; exact (HXU.out.set (i := k) (by omega) _).alloc (by omega) _) (B2.out.alloc B2.out.size _))⟩
            case measure => simp [intOf]; omega
    · obtain rfl : k = m := by omega
      obtain ⟨z0, f0⟩ := hst.out.blk (k - 1) (by omega)
      unfold vd at z0
      rw [if_pos (by omega)] at z0
      have e1 : (k : Int) - 1 = ((k - 1 : Nat) : Int) := by omega
      have i1 : (0 : Int) ≤ ((k - 1 : Nat) : Int) := by omega
      have i2 : ((k - 1 : Nat) : Int) < 512 := by omega
      go_wp2
      go_ret
      exact ⟨rfl, hst.out.bel⟩
theorem fholds_any (A : Option Addr) (m c : Nat) (l : List Fi) (x : Nat) (w : World) (hl : Hid (l.length = m)) (hr : Hid (Rf w w.heap.size A l)) (hx : x < 18446744073709551616) :
    Calls Tryd.prog 14 #[.slice A m c, .int .u64 (x : Int)] w fun e w' => e = .returned (.bool (decide (okF l) && val l (cfg x) (m - 1))) ∧ Below w.heap.size w w' := by
  by_cases h : okF l
  · rw [decide_eq_true h]
    exact fholds_ok A m c l x w hl hr h hx
  · rw [decide_eq_false h]
    have HV := Lib.hid (valid_any A m c l w hl hr)
    rw [decide_eq_false h] at HV
    clear h hr
    go_enter Tryd.func14, Tryd.ntmps14
    go_wp2_with (first | (go_at_call 31; refine HV.out.mono ?_; rintro e w4 ⟨rfl, b4⟩))
    go_ret
    exact ⟨rfl, b4⟩

end Go.Proofs.YtignkplogkaigaaDoor

/-! The reference's value of a node, and its Holds. (Written by fvalgen.py.) -/
namespace Go.Proofs.YtignkplogkaigaaDoor
open Go.RowKit Dg St
set_option linter.unusedVariables false
set_option linter.unusedSimpArgs false
attribute [local go_sem ↓] Go.wp_at_zero Go.wp_at_succ

/-- the reference's value of node i -/
abbrev ValC (A : Option Addr) (m c : Nat) (l : List Fi) (x i : Nat) (W : World) : Prop := Calls Tryd.prog 39 #[.slice A m c, .int .i64 (i : Int), .int .u64 (x : Int)] W fun e w' => e = .returned (.bool (val l (cfg x) i)) ∧ Below W.heap.size W w'
set_option maxHeartbeats 8000000 in
set_option maxRecDepth 100000 in
theorem value_step (b o m c : Nat) (l : List Fi) (x k : Nat) (w : World) (hl : Hid (l.length = m)) (hm : m ≤ 512) (hr : Hid (Rf w w.heap.size (some ⟨b, o, none⟩) l)) (HN : Hid (∀ i, i < m → okN l i)) (hx : x < 18446744073709551616) (hlt' : k < m)
    (HI : Hid (∀ j, j < k → ∀ W, Below w.heap.size w W → ValC (some ⟨b, o, none⟩) m c l x j W)) : ValC (some ⟨b, o, none⟩) m c l x k w := by
  have hkl : k < l.length := by rw [hl.out]; exact hlt'
  obtain ⟨b', o', e, hb, hc⟩ := hr.out (by omega)
  injection e with e
  injection e with e1 e2
  subst e1
  subst e2
  obtain ⟨d0, d1, d2, d3⟩ := hc k hkl
  clear hc
  have i1 : (0 : Int) ≤ (k : Int) := by omega
  have i2 : (k : Int) < (m : Int) := by omega
  obtain ⟨⟨o0, o5⟩, ⟨v0, v1⟩, oa, ob⟩ := ok_node (HN.out k hlt')
  obtain ⟨V, hV, hV64⟩ := nat_of (k := 64) ⟨v0, v1⟩
  have HVV := Lib.hid hV
  rw [hV] at d1
  clear hV v0 v1
  have HOA := Lib.hid oa
  have HOB := Lib.hid ob
  clear oa ob
  have hO : fo l k = 0 ∨ fo l k = 1 ∨ fo l k = 2 ∨ fo l k = 3 ∨ fo l k = 4 ∨ fo l k = 5 := by omega
  clear o0 o5
  have hbn : ¬ b = w.heap.size := by omega
  rcases hO with hO | hO | hO | hO | hO | hO
  · rw [hO] at d0
    have HO := Lib.hid hO
    clear hO
    have B1 := Lib.hid ((Below.refl w.heap.size w).alloc (Nat.le_refl _) (.cells #[.int .i64 0, .int .i64 (V : Int), .int .i64 (fa l k), .int .i64 (fb l k)] 53))
    have hv2 := val_false l (cfg x) HO.out
    unfold ValC
    rw [hv2]
    clear hv2
    go_enter Tryd.func39, Tryd.ntmps39
    go_wp2
    go_ret
    exact ⟨rfl, B1.out⟩
  · rw [hO] at d0
    have HO := Lib.hid hO
    clear hO
    have B1 := Lib.hid ((Below.refl w.heap.size w).alloc (Nat.le_refl _) (.cells #[.int .i64 1, .int .i64 (V : Int), .int .i64 (fa l k), .int .i64 (fb l k)] 53))
    have hv2 := val_true l (cfg x) HO.out
    unfold ValC
    rw [hv2]
    clear hv2
    go_enter Tryd.func39, Tryd.ntmps39
    go_wp2
    go_ret
    exact ⟨rfl, B1.out⟩
  · rw [hO] at d0
    have HO := Lib.hid hO
    clear hO
    have B1 := Lib.hid ((Below.refl w.heap.size w).alloc (Nat.le_refl _) (.cells #[.int .i64 2, .int .i64 (V : Int), .int .i64 (fa l k), .int .i64 (fb l k)] 53))
    have hbit := fbit (V := V) hx
    have hVi : (0 : Int) ≤ (V : Int) := by omega
    have hVj : (V : Int) < 64 := by omega
    have hwr : IntKind.u64.wrap (V : Int) = (V : Int) := by rw [IntKind.wrap_u64]; omega
    have hv2 := val_var l (cfg x) HO.out
    rw [HVV.out] at hv2
    replace hv2 : val l (cfg x) k = cfg x V := hv2
    obtain ⟨bv, hbv⟩ : ∃ y, cfg x V = y := ⟨_, rfl⟩
    rw [hbv] at hbit hv2
    unfold ValC
    rw [hv2]
    clear hv2 hbv
    go_enter Tryd.func39, Tryd.ntmps39
    go_wp2
    go_ret
    exact ⟨rfl, B1.out⟩
  · rw [hO] at d0
    have HO := Lib.hid hO
    obtain ⟨a, hae, hak⟩ := nat_of (HOA.out (by omega))
    rw [hae] at d2
    have HA := Lib.hid hae
    clear hO hae
    have B1 := Lib.hid ((Below.refl w.heap.size w).alloc (Nat.le_refl _) (.cells #[.int .i64 3, .int .i64 (V : Int), .int .i64 (a : Int), .int .i64 (fb l k)] 53))
    have HCA := Lib.hid (HI.out a hak)
    have hv2 : val l (cfg x) k = !(val l (cfg x) a) := by
      have := val_not l (cfg x) HO.out (by rw [HA.out]; omega)
      rw [HA.out] at this; exact this
    have XN : Hid (Blk (w.alloc (.cells #[.int .i64 3, .int .i64 (V : Int), .int .i64 (a : Int), .int .i64 (fb l k)] 53)) w.heap.size (3 + 1) (fun i => ([.int .i64 3, .int .i64 (V : Int), .int .i64 (a : Int), .int .i64 (fb l k)] : List Value).getD i undef)) := Lib.hid (Blk.new rfl [.int .i64 3, .int .i64 (V : Int), .int .i64 (a : Int), .int .i64 (fb l k)] 53)
    clear HI HN hr
    unfold ValC at HCA ⊢
    rw [hv2]
    clear hv2
    rcases hbv : val l (cfg x) a with _ | _
    · rw [hbv] at HCA
      clear hbv
      go_enter Tryd.func39, Tryd.ntmps39
      go_upto_region 2 with fail
      generalize w.alloc (.cells #[.int .i64 3, .int .i64 (V : Int), .int .i64 (a : Int), .int .i64 (fb l k)] 53) = w1 at *
      obtain ⟨x0, _⟩ := XN.out 0 (by omega)
      obtain ⟨x1, _⟩ := XN.out 1 (by omega)
      obtain ⟨x2, _⟩ := XN.out 2 (by omega)
      obtain ⟨x3, _⟩ := XN.out 3 (by omega)
      go_wp2_with fail
      with_reducible refine (HCA.out _ B1.out).mono ?_
      rintro e w4 ⟨rfl, b4⟩
      replace B1 := ftr B1 b4 B1.out.size
      replace XN := fkeep XN b4
      clear x0 x1 x2 x3 b4
      obtain ⟨x0, _⟩ := XN.out 0 (by omega)
      obtain ⟨x1, _⟩ := XN.out 1 (by omega)
      obtain ⟨x2, _⟩ := XN.out 2 (by omega)
      obtain ⟨x3, _⟩ := XN.out 3 (by omega)
      go_wp2_with fail
      go_ret
      exact ⟨rfl, B1.out⟩
    · rw [hbv] at HCA
      clear hbv
      go_enter Tryd.func39, Tryd.ntmps39
      go_upto_region 2 with fail
      generalize w.alloc (.cells #[.int .i64 3, .int .i64 (V : Int), .int .i64 (a : Int), .int .i64 (fb l k)] 53) = w1 at *
      obtain ⟨x0, _⟩ := XN.out 0 (by omega)
      obtain ⟨x1, _⟩ := XN.out 1 (by omega)
      obtain ⟨x2, _⟩ := XN.out 2 (by omega)
      obtain ⟨x3, _⟩ := XN.out 3 (by omega)
      go_wp2_with fail
      with_reducible refine (HCA.out _ B1.out).mono ?_
      rintro e w4 ⟨rfl, b4⟩
      replace B1 := ftr B1 b4 B1.out.size
      replace XN := fkeep XN b4
      clear x0 x1 x2 x3 b4
      obtain ⟨x0, _⟩ := XN.out 0 (by omega)
      obtain ⟨x1, _⟩ := XN.out 1 (by omega)
      obtain ⟨x2, _⟩ := XN.out 2 (by omega)
      obtain ⟨x3, _⟩ := XN.out 3 (by omega)
      go_wp2_with fail
      go_ret
      exact ⟨rfl, B1.out⟩
  · rw [hO] at d0
    have HO := Lib.hid hO
    obtain ⟨a, hae, hak⟩ := nat_of (HOA.out (by omega))
    rw [hae] at d2
    have HA := Lib.hid hae
    obtain ⟨q, hqe, hqk⟩ := nat_of (HOB.out (by omega))
    rw [hqe] at d3
    have HQ := Lib.hid hqe
    clear hO hae hqe
    have B1 := Lib.hid ((Below.refl w.heap.size w).alloc (Nat.le_refl _) (.cells #[.int .i64 4, .int .i64 (V : Int), .int .i64 (a : Int), .int .i64 (q : Int)] 53))
    have HCA := Lib.hid (HI.out a hak)
    have HCB := Lib.hid (HI.out q hqk)
    have hv2 : val l (cfg x) k = (val l (cfg x) a && val l (cfg x) q) := by
      have := val_and l (cfg x) HO.out (by rw [HA.out]; omega) (by rw [HQ.out]; omega)
      rw [HA.out, HQ.out] at this; exact this
    have XN : Hid (Blk (w.alloc (.cells #[.int .i64 4, .int .i64 (V : Int), .int .i64 (a : Int), .int .i64 (q : Int)] 53)) w.heap.size (3 + 1) (fun i => ([.int .i64 4, .int .i64 (V : Int), .int .i64 (a : Int), .int .i64 (q : Int)] : List Value).getD i undef)) := Lib.hid (Blk.new rfl [.int .i64 4, .int .i64 (V : Int), .int .i64 (a : Int), .int .i64 (q : Int)] 53)
    clear HI HN hr
    unfold ValC at HCA ⊢
    unfold ValC at HCB
    rw [hv2]
    clear hv2
    rcases hbv : val l (cfg x) a with _ | _
    · rw [hbv] at HCA
      clear hbv
      go_enter Tryd.func39, Tryd.ntmps39
      go_upto_region 2 with fail
      generalize w.alloc (.cells #[.int .i64 4, .int .i64 (V : Int), .int .i64 (a : Int), .int .i64 (q : Int)] 53) = w1 at *
      obtain ⟨x0, _⟩ := XN.out 0 (by omega)
      obtain ⟨x1, _⟩ := XN.out 1 (by omega)
      obtain ⟨x2, _⟩ := XN.out 2 (by omega)
      obtain ⟨x3, _⟩ := XN.out 3 (by omega)
      go_wp2_with fail
      with_reducible refine (HCA.out _ B1.out).mono ?_
      rintro e w4 ⟨rfl, b4⟩
      replace B1 := ftr B1 b4 B1.out.size
      replace XN := fkeep XN b4
      clear x0 x1 x2 x3 b4
      obtain ⟨x0, _⟩ := XN.out 0 (by omega)
      obtain ⟨x1, _⟩ := XN.out 1 (by omega)
      obtain ⟨x2, _⟩ := XN.out 2 (by omega)
      obtain ⟨x3, _⟩ := XN.out 3 (by omega)
      go_wp2_with fail
      go_ret
      exact ⟨rfl, B1.out⟩
    · rw [hbv] at HCA
      clear hbv
      rcases hbw : val l (cfg x) q with _ | _
      · rw [hbw] at HCB
        clear hbw
        go_enter Tryd.func39, Tryd.ntmps39
        go_upto_region 2 with fail
        generalize w.alloc (.cells #[.int .i64 4, .int .i64 (V : Int), .int .i64 (a : Int), .int .i64 (q : Int)] 53) = w1 at *
        obtain ⟨x0, _⟩ := XN.out 0 (by omega)
        obtain ⟨x1, _⟩ := XN.out 1 (by omega)
        obtain ⟨x2, _⟩ := XN.out 2 (by omega)
        obtain ⟨x3, _⟩ := XN.out 3 (by omega)
        go_wp2_with fail
        with_reducible refine (HCA.out _ B1.out).mono ?_
        rintro e w4 ⟨rfl, b4⟩
        replace B1 := ftr B1 b4 B1.out.size
        replace XN := fkeep XN b4
        clear x0 x1 x2 x3 b4
        obtain ⟨x0, _⟩ := XN.out 0 (by omega)
        obtain ⟨x1, _⟩ := XN.out 1 (by omega)
        obtain ⟨x2, _⟩ := XN.out 2 (by omega)
        obtain ⟨x3, _⟩ := XN.out 3 (by omega)
        go_wp2_with fail
        with_reducible refine (HCB.out _ B1.out).mono ?_
        rintro e w5 ⟨rfl, b4⟩
        replace B1 := ftr B1 b4 B1.out.size
        clear b4
        go_wp2_with fail
        go_ret
        exact ⟨rfl, B1.out⟩
      · rw [hbw] at HCB
        clear hbw
        go_enter Tryd.func39, Tryd.ntmps39
        go_upto_region 2 with fail
        generalize w.alloc (.cells #[.int .i64 4, .int .i64 (V : Int), .int .i64 (a : Int), .int .i64 (q : Int)] 53) = w1 at *
        obtain ⟨x0, _⟩ := XN.out 0 (by omega)
        obtain ⟨x1, _⟩ := XN.out 1 (by omega)
        obtain ⟨x2, _⟩ := XN.out 2 (by omega)
        obtain ⟨x3, _⟩ := XN.out 3 (by omega)
        go_wp2_with fail
        with_reducible refine (HCA.out _ B1.out).mono ?_
        rintro e w4 ⟨rfl, b4⟩
        replace B1 := ftr B1 b4 B1.out.size
        replace XN := fkeep XN b4
        clear x0 x1 x2 x3 b4
        obtain ⟨x0, _⟩ := XN.out 0 (by omega)
        obtain ⟨x1, _⟩ := XN.out 1 (by omega)
        obtain ⟨x2, _⟩ := XN.out 2 (by omega)
        obtain ⟨x3, _⟩ := XN.out 3 (by omega)
        go_wp2_with fail
        with_reducible refine (HCB.out _ B1.out).mono ?_
        rintro e w5 ⟨rfl, b4⟩
        replace B1 := ftr B1 b4 B1.out.size
        clear b4
        go_wp2_with fail
        go_ret
        exact ⟨rfl, B1.out⟩
  · rw [hO] at d0
    have HO := Lib.hid hO
    obtain ⟨a, hae, hak⟩ := nat_of (HOA.out (by omega))
    rw [hae] at d2
    have HA := Lib.hid hae
    obtain ⟨q, hqe, hqk⟩ := nat_of (HOB.out (by omega))
    rw [hqe] at d3
    have HQ := Lib.hid hqe
    clear hO hae hqe
    have B1 := Lib.hid ((Below.refl w.heap.size w).alloc (Nat.le_refl _) (.cells #[.int .i64 5, .int .i64 (V : Int), .int .i64 (a : Int), .int .i64 (q : Int)] 53))
    have HCA := Lib.hid (HI.out a hak)
    have HCB := Lib.hid (HI.out q hqk)
    have hv2 : val l (cfg x) k = (val l (cfg x) a || val l (cfg x) q) := by
      have := val_or l (cfg x) HO.out (by rw [HA.out]; omega) (by rw [HQ.out]; omega)
      rw [HA.out, HQ.out] at this; exact this
    have XN : Hid (Blk (w.alloc (.cells #[.int .i64 5, .int .i64 (V : Int), .int .i64 (a : Int), .int .i64 (q : Int)] 53)) w.heap.size (3 + 1) (fun i => ([.int .i64 5, .int .i64 (V : Int), .int .i64 (a : Int), .int .i64 (q : Int)] : List Value).getD i undef)) := Lib.hid (Blk.new rfl [.int .i64 5, .int .i64 (V : Int), .int .i64 (a : Int), .int .i64 (q : Int)] 53)
    clear HI HN hr
    unfold ValC at HCA ⊢
    unfold ValC at HCB
    rw [hv2]
    clear hv2
    rcases hbv : val l (cfg x) a with _ | _
    · rw [hbv] at HCA
      clear hbv
      rcases hbw : val l (cfg x) q with _ | _
      · rw [hbw] at HCB
        clear hbw
        go_enter Tryd.func39, Tryd.ntmps39
        go_upto_region 2 with fail
        generalize w.alloc (.cells #[.int .i64 5, .int .i64 (V : Int), .int .i64 (a : Int), .int .i64 (q : Int)] 53) = w1 at *
        obtain ⟨x0, _⟩ := XN.out 0 (by omega)
        obtain ⟨x1, _⟩ := XN.out 1 (by omega)
        obtain ⟨x2, _⟩ := XN.out 2 (by omega)
        obtain ⟨x3, _⟩ := XN.out 3 (by omega)
        go_wp2_with fail
        with_reducible refine (HCA.out _ B1.out).mono ?_
        rintro e w4 ⟨rfl, b4⟩
        replace B1 := ftr B1 b4 B1.out.size
        replace XN := fkeep XN b4
        clear x0 x1 x2 x3 b4
        obtain ⟨x0, _⟩ := XN.out 0 (by omega)
        obtain ⟨x1, _⟩ := XN.out 1 (by omega)
        obtain ⟨x2, _⟩ := XN.out 2 (by omega)
        obtain ⟨x3, _⟩ := XN.out 3 (by omega)
        go_wp2_with fail
        with_reducible refine (HCB.out _ B1.out).mono ?_
        rintro e w5 ⟨rfl, b4⟩
        replace B1 := ftr B1 b4 B1.out.size
        clear b4
        go_wp2_with fail
        go_ret
        exact ⟨rfl, B1.out⟩
      · rw [hbw] at HCB
        clear hbw
        go_enter Tryd.func39, Tryd.ntmps39
        go_upto_region 2 with fail
        generalize w.alloc (.cells #[.int .i64 5, .int .i64 (V : Int), .int .i64 (a : Int), .int .i64 (q : Int)] 53) = w1 at *
        obtain ⟨x0, _⟩ := XN.out 0 (by omega)
        obtain ⟨x1, _⟩ := XN.out 1 (by omega)
        obtain ⟨x2, _⟩ := XN.out 2 (by omega)
        obtain ⟨x3, _⟩ := XN.out 3 (by omega)
        go_wp2_with fail
        with_reducible refine (HCA.out _ B1.out).mono ?_
        rintro e w4 ⟨rfl, b4⟩
        replace B1 := ftr B1 b4 B1.out.size
        replace XN := fkeep XN b4
        clear x0 x1 x2 x3 b4
        obtain ⟨x0, _⟩ := XN.out 0 (by omega)
        obtain ⟨x1, _⟩ := XN.out 1 (by omega)
        obtain ⟨x2, _⟩ := XN.out 2 (by omega)
        obtain ⟨x3, _⟩ := XN.out 3 (by omega)
        go_wp2_with fail
        with_reducible refine (HCB.out _ B1.out).mono ?_
        rintro e w5 ⟨rfl, b4⟩
        replace B1 := ftr B1 b4 B1.out.size
        clear b4
        go_wp2_with fail
        go_ret
        exact ⟨rfl, B1.out⟩
    · rw [hbv] at HCA
      clear hbv
      go_enter Tryd.func39, Tryd.ntmps39
      go_upto_region 2 with fail
      generalize w.alloc (.cells #[.int .i64 5, .int .i64 (V : Int), .int .i64 (a : Int), .int .i64 (q : Int)] 53) = w1 at *
      obtain ⟨x0, _⟩ := XN.out 0 (by omega)
      obtain ⟨x1, _⟩ := XN.out 1 (by omega)
      obtain ⟨x2, _⟩ := XN.out 2 (by omega)
      obtain ⟨x3, _⟩ := XN.out 3 (by omega)
      go_wp2_with fail
      with_reducible refine (HCA.out _ B1.out).mono ?_
      rintro e w4 ⟨rfl, b4⟩
      replace B1 := ftr B1 b4 B1.out.size
      replace XN := fkeep XN b4
      clear x0 x1 x2 x3 b4
      obtain ⟨x0, _⟩ := XN.out 0 (by omega)
      obtain ⟨x1, _⟩ := XN.out 1 (by omega)
      obtain ⟨x2, _⟩ := XN.out 2 (by omega)
      obtain ⟨x3, _⟩ := XN.out 3 (by omega)
      go_wp2_with fail
      go_ret
      exact ⟨rfl, B1.out⟩
theorem value_any (b o m c : Nat) (l : List Fi) (x : Nat) (hl : Hid (l.length = m)) (hm : m ≤ 512) (HN : Hid (∀ i, i < m → okN l i)) (hx : x < 18446744073709551616) : ∀ (n k : Nat) (w : World), k < n → k < m → Hid (Rf w w.heap.size (some ⟨b, o, none⟩) l) → ValC (some ⟨b, o, none⟩) m c l x k w
  | 0, k, w, h, _, _ => by omega
  | n + 1, k, w, h, hk, hr => value_step b o m c l x k w hl hm hr HN hx hk (Lib.hid (fun j hj W hW => value_any b o m c l x hl hm HN hx n j W (by omega) (by omega) (Lib.hid ((hr.out.below hW).mono hW.size))))
set_option maxHeartbeats 2000000 in
theorem qholds_any (A : Option Addr) (m c : Nat) (l : List Fi) (x : Nat) (w : World) (hl : Hid (l.length = m)) (hr : Hid (Rf w w.heap.size A l)) (hx : x < 18446744073709551616) :
    Calls Tryd.prog 15 #[.slice A m c, .int .u64 (x : Int)] w fun e w' => e = .returned (.bool (decide (okF l) && val l (cfg x) (m - 1))) ∧ Below w.heap.size w w' := by
  have HC := Lib.hid (qcheck_any A m c l w hl hr)
  by_cases h : okF l
  · have h1 : 1 ≤ m := by have := h.1; rw [hl.out] at this; exact this
    have h2 : m ≤ 512 := by have := h.2.1; rw [hl.out] at this; exact this
    have HN : Hid (∀ i, i < m → okN l i) := Lib.hid (fun i hi => h.2.2.1 i (by rw [hl.out]; exact hi))
    obtain ⟨b, o, e, _, _⟩ := hr.out (by rw [hl.out]; omega)
    subst e
    have HVA : Hid (∀ W, Below w.heap.size w W → ValC (some ⟨b, o, none⟩) m c l x (m - 1) W) := Lib.hid (fun W hW => value_any b o m c l x hl h2 HN hx m (m - 1) W (by omega) (by omega) (Lib.hid ((hr.out.below hW).mono hW.size)))
    rw [decide_eq_true h, Bool.true_and]
    rw [show chF l = 0 from if_pos h] at HC
    have e1 : (m : Int) - 1 = ((m - 1 : Nat) : Int) := by omega
    clear h hr HN
    unfold ValC at HVA
    generalize val l (cfg x) (m - 1) = bb at *
    go_enter Tryd.func15, Tryd.ntmps15
    go_wp2_with (first | (go_at_call 13; refine HC.out.mono ?_; rintro e w4 ⟨rfl, b4⟩; have B4 := Lib.hid b4; clear b4) | (go_at_call 39; refine (HVA.out _ B4.out).mono ?_; rintro e w5 ⟨rfl, b5⟩; have B5 := ftr B4 b5 B4.out.size; clear b5))
    go_ret
    exact ⟨by first | rfl | simp, B5.out⟩
  · rw [decide_eq_false h]
    rw [show chF l = 30 from if_neg h] at HC
    clear h hr
    go_enter Tryd.func15, Tryd.ntmps15
    go_wp2_with (first | (go_at_call 13; refine HC.out.mono ?_; rintro e w4 ⟨rfl, b4⟩))
    go_ret
    exact ⟨rfl, b4⟩

end Go.Proofs.YtignkplogkaigaaDoor
