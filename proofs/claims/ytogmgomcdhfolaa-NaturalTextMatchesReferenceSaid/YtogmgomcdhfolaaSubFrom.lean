/-
  natural.subtractFrom: a number is subtracted from a part of a block.
-/
import Derived.Test.YtogmgomcdhfolaaAddTo
namespace Go.Proofs.Ytogmgomcdhfolaa
open Go.RowKit Nt

/-- what subtractFrom leaves: block g's part from o on holds X, the carry is c -/
def Subbed (w : World) (g o n : Nat) (L M : List Nat) (e : Ending) (w' : World) : Prop :=
  ∃ X c, e = .returned (.tuple #[]) ∧ X.length = n ∧ Wf X ∧ c ≤ 1 ∧ val X + val M = val ((L.drop o).take n) + 4294967296 ^ n * c ∧ Bk w' g (splice L o X) ∧ Upd g w w'

/-- k limbs are done -/
def SubSt (w wr : World) (g o n : Nat) (L M : List Nat) (k c : Nat) : Prop :=
  ∃ X, SubInv ((L.drop o).take n) M k X c ∧ Bk wr g (splice L o X) ∧ Upd g w wr

section
variable {w wr : World} {g o n k q : Nat} {L M : List Nat}
theorem SubSt.start (h : Bk w g L) : SubSt w w g o n L M 0 0 := ⟨[], SubInv.start _ _, by rw [splice_zero]; exact h, Upd.refl _ _⟩
theorem SubSt.cell (h : SubSt w wr g o n L M k q) (hon : o + n ≤ L.length) (hk : k < n) : wr.cell? ⟨g, o + k, none⟩ = some (.int .u32 ((nth L (o + k) : Nat) : Int)) := by
  obtain ⟨X, hi, hb, _⟩ := h
  have hl := hi.len
  rw [hb.cell (by rw [length_spl (by omega)]; omega), nth_spl (by omega) (by omega)]
theorem SubSt.frozen (h : SubSt w wr g o n L M k q) (i : Nat) : wr.frozen? ⟨g, i, none⟩ = false := by
  obtain ⟨X, _, hb, _⟩ := h
  exact hb.frozen i
theorem SubSt.far (h : SubSt w wr g o n L M k q) {a : Addr} (ha : a.block ≠ g) : wr.cell? a = w.cell? a := by
  obtain ⟨X, _, _, hu⟩ := h
  exact hu.cell ha
theorem SubSt.step (h : SubSt w wr g o n L M k q) (hL : Wf L) (hM : Wf M) (hon : o + n ≤ L.length) (hk : k < n) (d : Nat) :
    SubSt w ((wr.setCell ⟨g, o + k, none⟩ (.int .u32 ((dif (nth L (o + k)) (nth M k) q : Nat) : Int))).drewN d) g o n L M (k + 1) (brw (nth L (o + k)) (nth M k) q) := by
  obtain ⟨X, hi, hb, hu⟩ := h
  have hl := hi.len
  have hs := hi.step ((hL.drop o).take n) hM
  rw [nth_sub hk] at hs
  refine ⟨_, hs, ?_, (hu.set_ _ _).drewN d⟩
  have := hb.set_ (o + k) (dif (nth L (o + k)) (nth M k) q)
  rw [← hl, spl_set _ (by omega), hl] at this
  exact this.drewN d
theorem SubSt.step0 (h : SubSt w wr g o n L M k q) (hL : Wf L) (hM : Wf M) (hon : o + n ≤ L.length) (hk : k < n) (hm : M.length ≤ k) :
    SubSt w (wr.setCell ⟨g, o + k, none⟩ (.int .u32 ((dif (nth L (o + k)) 0 q : Nat) : Int))) g o n L M (k + 1) (brw (nth L (o + k)) 0 q) := by
  have := h.step hL hM hon hk 0
  rw [nth_ge hm] at this
  exact this
theorem SubSt.done (h : SubSt w wr g o n L M k q) (hL : Wf L) (hon : o + n ≤ L.length) (hk : k ≤ n) (hm : M.length ≤ k) (hq : q = 0 ∨ k = n) :
    Subbed w g o n L M (.returned (.tuple #[])) wr := by
  obtain ⟨X, hi, hb, hu⟩ := h
  have hn : ((L.drop o).take n).length = n := by simp; omega
  obtain ⟨e1, e2, e3⟩ := hi.done ((hL.drop o).take n) (by rw [hn]; exact hk) hm (by rw [hn]; exact hq)
  rw [hn] at e1 e3
  refine ⟨_, q, rfl, e1, e2, hi.c1, e3, ?_, hu⟩
  have e : splice L o (X ++ ((L.drop o).take n).drop k) = splice L o X := by
    have hl := hi.len
    unfold splice
    congr 1
    rw [List.append_assoc]
    congr 1
    apply List.ext_getElem?
    intro i
    rw [List.getElem?_append]
    simp only [List.length_drop, List.length_take, List.length_append, List.getElem?_drop, List.getElem?_take]
    split
    · rw [if_pos (by omega)]; congr 1; omega
    · congr 1; omega
  rw [e]; exact hb
end

theorem sub32_zero (x c : Nat) (w : World) (hx : x < 4294967296) (hc : c ≤ 1) :
    Calls Try.prog 62 #[.int .u32 (x : Int), .int .u32 0, .int .u32 (c : Int)] w fun e w' =>
      e = .returned (.tuple #[.int .u32 ((dif x 0 c : Nat) : Int), .int .u32 ((brw x 0 c : Nat) : Int)]) ∧ w = w' :=
  sub32 x 0 c w hx (by omega) hc

set_option maxHeartbeats 2000000 in
set_option maxRecDepth 100000 in
theorem subtractFrom_some (g o n c b p m d : Nat) (L M : List Nat) (w : World) (hL : Hid (Wf L)) (hM : Hid (Wf M)) (hml : Hid (M.length = m)) (hmn : m ≤ n) (hn : n ≤ 1000000)
    (hon : Hid (o + n ≤ L.length)) (hbk : Hid (Bk w g L)) (hbg : Hid (0 < m → b ≠ g ∧ ∀ j, j < m → w.cell? ⟨b, p + j, none⟩ = some (.int .u32 ((nth M j : Nat) : Int)))) :
    Calls Try.prog 46 #[.slice (some ⟨g, o, none⟩) n c, .slice (some ⟨b, p, none⟩) m d] w (Subbed w g o n L M) := by
  go_enter Try.func46, Try.ntmps46
  go_wp2
  go_loopw [4, 9] (fun s i wr => ∃ k q : Nat, k ≤ m ∧ i = .int .i64 k ∧ q ≤ 1 ∧ s = .int .u32 q ∧ Hid (SubSt w wr g o n L M k q)) (fun _ i _ => m - (intOf i).toNat)
  case atStart => exact ⟨0, 0, Nat.zero_le _, rfl, by omega, rfl, SubSt.start hbk.out⟩
  case round =>
    obtain ⟨k, q, hk, rfl, hq, rfl, hst⟩ := hrel
    by_cases hlt : k < m
    · have hx : nth L (o + k) < 4294967296 := nth_lt hL.out _
      have hy : nth M k < 4294967296 := nth_lt hM.out _
      have c1 : wr.cell? ⟨g, o + k, none⟩ = some (.int .u32 ((nth L (o + k) : Nat) : Int)) := hst.out.cell hon.out (by omega)
      have c2 : wr.cell? ⟨b, p + k, none⟩ = some (.int .u32 ((nth M k : Nat) : Int)) := by
        obtain ⟨hne, hc⟩ := hbg.out (by omega)
        exact (hst.out.far hne).trans (hc k hlt)
      have f1 : wr.frozen? ⟨g, o + k, none⟩ = false := hst.out.frozen _
      have i1 : (0 : Int) ≤ (k : Int) := by omega
      have i2 : (k : Int) < (n : Int) := by omega
      have i3 : (k : Int) < (m : Int) := by omega
      go_wp2
      go_region_law ((go_simp; go_at_call 62; refine (sub32 _ _ _ _ hx hy hq).mono ?_; rintro e w' ⟨rfl, rfl⟩))
      all_goals
        clear c1 c2 f1
        go_wp2
        go_roundw
        case rel => exact ⟨k + 1, brw (nth L (o + k)) (nth M k) q, by omega, by go_num, brw_le _ _ _, rfl, hst.out.step hL.out hM.out hon.out (by omega) 1⟩
        case measure => simp [intOf]; omega
    · have hkm : Hid (k = m) := (by omega : k = m)
      go_wp2
      go_loopw [4, 6] (fun s i wr => ∃ k q : Nat, m ≤ k ∧ k ≤ n ∧ i = .int .i64 k ∧ q ≤ 1 ∧ s = .int .u32 q ∧ Hid (SubSt w wr g o n L M k q)) (fun _ i _ => n - (intOf i).toNat)
      case atStart => exact ⟨m, q, by omega, by omega, by go_num, by omega, rfl, by rw [← hkm.out]; exact hst⟩
      case round =>
        obtain ⟨k, q, hk1, hk, rfl, hq, rfl, hst⟩ := hrel
        by_cases hlt : k < n
        · by_cases hq0 : q = 0
          · have HQ : Hid (q = 0) := hq0
            have hqb : ((q : Int) != 0) = false := by simp [hq0]
            clear hq0
            go_wp2
            go_end0
            exact hst.out.done hL.out hon.out (by omega) (by rw [hml.out]; omega) (.inl HQ.out)
          · have HQ : Hid (¬ q = 0) := hq0
            have hqb : ((q : Int) != 0) = true := by simp [hq0]
            have hx : nth L (o + k) < 4294967296 := nth_lt hL.out _
            have c1 : wr.cell? ⟨g, o + k, none⟩ = some (.int .u32 ((nth L (o + k) : Nat) : Int)) := hst.out.cell hon.out (by omega)
            have f1 : wr.frozen? ⟨g, o + k, none⟩ = false := hst.out.frozen _
            clear hq0
            go_wp2_with (go_at_call 62; refine (sub32_zero _ _ _ hx hq).mono ?_; rintro e w' ⟨rfl, rfl⟩)
            go_roundw
            case rel => exact ⟨k + 1, brw (nth L (o + k)) 0 q, by omega, by omega, by go_num, brw_le _ _ _, rfl, hst.out.step0 hL.out hM.out hon.out (by omega) (by rw [hml.out]; omega)⟩
            case measure => simp [intOf]; omega
        · go_wp2
          go_end0
          exact hst.out.done hL.out hon.out (by omega) (by rw [hml.out]; omega) (.inr (by omega))

set_option maxHeartbeats 2000000 in
theorem subtractFrom_none (g o n c d : Nat) (A : Option Addr) (L : List Nat) (w : World) (hL : Hid (Wf L)) (hon : Hid (o + n ≤ L.length)) (hbk : Hid (Bk w g L)) (_hn : n ≤ 1000000) :
    Calls Try.prog 46 #[.slice (some ⟨g, o, none⟩) n c, .slice A 0 d] w (Subbed w g o n L []) := by
  go_enter Try.func46, Try.ntmps46
  go_wp2
  go_rounds 1
  go_rounds 1
  all_goals
    go_end0
    exact (SubSt.start hbk.out).done hL.out hon.out (Nat.zero_le _) (Nat.zero_le _) (.inl rfl)

theorem subtractFrom_any (g o n c m d : Nat) (A : Option Addr) (L M : List Nat) (w : World) (hL : Wf L) (hM : Wf M) (hml : M.length = m) (hmn : m ≤ n) (hn : n ≤ 1000000)
    (hon : o + n ≤ L.length) (hbk : Bk w g L) (hr : Rd w g A M) :
    Calls Try.prog 46 #[.slice (some ⟨g, o, none⟩) n c, .slice A m d] w (Subbed w g o n L M) := by
  rcases Nat.eq_zero_or_pos M.length with h0 | h0
  · have e : M = [] := List.eq_nil_of_length_eq_zero h0
    subst e
    subst hml
    exact subtractFrom_none g o n c d A L w hL hon hbk hn
  · obtain ⟨b, p, rfl, hb, hc⟩ := hr h0
    subst hml
    exact subtractFrom_some g o n c b p M.length d L M w hL hM rfl hmn hn hon hbk (fun _ => ⟨by omega, hc⟩)

end Go.Proofs.Ytogmgomcdhfolaa
