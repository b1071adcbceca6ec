/-
  natural.addTo: a number is added to a part of a block.
-/
import Derived.Test.YtogmgomcdhfolaaInv
namespace Go.Proofs.Ytogmgomcdhfolaa
open Go.RowKit Nt

theorem ret_u {a b : Int} (h : a = b) : Ending.returned (.int .u32 a) = .returned (.int .u32 b) := by rw [h]

/-- what addTo leaves: block g's part from o on holds X, the carry is c -/
def Added (w : World) (g o n : Nat) (L M : List Nat) (e : Ending) (w' : World) : Prop :=
  ∃ X c, e = .returned (.int .u32 ((c : Nat) : Int)) ∧ X.length = n ∧ Wf X ∧ c ≤ 1 ∧ val X + 4294967296 ^ n * c = val ((L.drop o).take n) + val M ∧ Bk w' g (splice L o X) ∧ Upd g w w'

/-- k limbs are done -/
def AddSt (w wr : World) (g o n : Nat) (L M : List Nat) (k c : Nat) : Prop :=
  ∃ X, AddInv ((L.drop o).take n) M k X c ∧ Bk wr g (splice L o X) ∧ Upd g w wr

section
variable {w wr : World} {g o n k q : Nat} {L M : List Nat}
theorem AddSt.start (h : Bk w g L) : AddSt w w g o n L M 0 0 := ⟨[], AddInv.start _ _, by rw [splice_zero]; exact h, Upd.refl _ _⟩
theorem AddSt.cell (h : AddSt w wr g o n L M k q) (hon : o + n ≤ L.length) (hk : k < n) : wr.cell? ⟨g, o + k, none⟩ = some (.int .u32 ((nth L (o + k) : Nat) : Int)) := by
  obtain ⟨X, hi, hb, _⟩ := h
  have hl := hi.len
  rw [hb.cell (by rw [length_spl (by omega)]; omega), nth_spl (by omega) (by omega)]
theorem AddSt.frozen (h : AddSt w wr g o n L M k q) (i : Nat) : wr.frozen? ⟨g, i, none⟩ = false := by
  obtain ⟨X, _, hb, _⟩ := h
  exact hb.frozen i
theorem AddSt.far (h : AddSt w wr g o n L M k q) {a : Addr} (ha : a.block ≠ g) : wr.cell? a = w.cell? a := by
  obtain ⟨X, _, _, hu⟩ := h
  exact hu.cell ha
theorem AddSt.step (h : AddSt w wr g o n L M k q) (hL : Wf L) (hM : Wf M) (hon : o + n ≤ L.length) (hk : k < n) (d : Nat) :
    AddSt w ((wr.setCell ⟨g, o + k, none⟩ (.int .u32 (((nth L (o + k) : Int) + (nth M k : Int) + (q : Int)) % 4294967296))).drewN d) g o n L M (k + 1) ((nth L (o + k) + nth M k + q) / 4294967296) := by
  obtain ⟨X, hi, hb, hu⟩ := h
  have hl := hi.len
  have e : ((nth L (o + k) : Int) + (nth M k : Int) + (q : Int)) % 4294967296 = (((nth L (o + k) + nth M k + q) % 4294967296 : Nat) : Int) := by omega
  have hs := hi.step ((hL.drop o).take n) hM
  rw [nth_sub hk] at hs
  refine ⟨_, hs, ?_, (hu.set_ _ _).drewN d⟩
  rw [e]
  have := hb.set_ (o + k) ((nth L (o + k) + nth M k + q) % 4294967296)
  rw [← hl, spl_set _ (by omega), hl] at this
  exact this.drewN d
theorem AddSt.step0 (h : AddSt w wr g o n L M k q) (hL : Wf L) (hM : Wf M) (hon : o + n ≤ L.length) (hk : k < n) (hm : M.length ≤ k) :
    AddSt w (wr.setCell ⟨g, o + k, none⟩ (.int .u32 (((nth L (o + k) : Int) + (q : Int)) % 4294967296))) g o n L M (k + 1) ((nth L (o + k) + q) / 4294967296) := by
  have := h.step hL hM hon hk 0
  rw [nth_ge hm] at this
  exact this
theorem AddSt.done (h : AddSt w wr g o n L M k q) (hL : Wf L) (hon : o + n ≤ L.length) (hk : k ≤ n) (hm : M.length ≤ k) (hq : q = 0 ∨ k = n) :
    Added w g o n L M (.returned (.int .u32 ((q : Nat) : Int))) wr := by
  obtain ⟨X, hi, hb, hu⟩ := h
  have hn : ((L.drop o).take n).length = n := by simp; omega
  obtain ⟨e1, e2, e3⟩ := hi.done ((hL.drop o).take n) (by rw [hn]; exact hk) hm (by rw [hn]; exact hq)
  rw [hn] at e1 e3
  refine ⟨_, q, rfl, e1, e2, hi.c1, e3, ?_, hu⟩
  have e : splice L o (X ++ ((L.drop o).take n).drop k) = splice L o X := by
    have hl := hi.len
    unfold splice
    congr 1
    rw [List.append_assoc]
    congr 1
    apply List.ext_getElem?
    intro i
    rw [List.getElem?_append]
    simp only [List.length_drop, List.length_take, List.length_append, List.getElem?_drop, List.getElem?_take]
    split
    · rw [if_pos (by omega)]; congr 1; omega
    · congr 1; omega
  rw [e]; exact hb
end

theorem add32_zero (x c : Nat) (w : World) (hx : x < 4294967296) (hc : c ≤ 1) :
    Calls Try.prog 59 #[.int .u32 (x : Int), .int .u32 0, .int .u32 (c : Int)] w fun e w' =>
      e = .returned (.tuple #[.int .u32 (((x + c) % 4294967296 : Nat) : Int), .int .u32 (((x + c) / 4294967296 : Nat) : Int)]) ∧ w = w' :=
  add32 x 0 c w hx (by omega) hc

set_option maxHeartbeats 2000000 in
set_option maxRecDepth 100000 in
theorem addTo_some (g o n c b p m d : Nat) (L M : List Nat) (w : World) (hL : Hid (Wf L)) (hM : Hid (Wf M)) (hml : Hid (M.length = m)) (hmn : m ≤ n) (hn : n ≤ 1000000)
    (hon : Hid (o + n ≤ L.length)) (hbk : Hid (Bk w g L)) (hbg : Hid (0 < m → b ≠ g ∧ ∀ j, j < m → w.cell? ⟨b, p + j, none⟩ = some (.int .u32 ((nth M j : Nat) : Int)))) :
    Calls Try.prog 40 #[.slice (some ⟨g, o, none⟩) n c, .slice (some ⟨b, p, none⟩) m d] w (Added w g o n L M) := by
  go_enter Try.func40, Try.ntmps40
  go_wp2
  go_loopw [5, 10] (fun s i wr => ∃ k q : Nat, k ≤ m ∧ i = .int .i64 k ∧ q ≤ 1 ∧ s = .int .u32 q ∧ Hid (AddSt w wr g o n L M k q)) (fun _ i _ => m - (intOf i).toNat)
  case atStart => exact ⟨0, 0, Nat.zero_le _, rfl, by omega, rfl, AddSt.start hbk.out⟩
  case round =>
    obtain ⟨k, q, hk, rfl, hq, rfl, hst⟩ := hrel
    by_cases hlt : k < m
    · have hx : nth L (o + k) < 4294967296 := nth_lt hL.out _
      have hy : nth M k < 4294967296 := nth_lt hM.out _
      have c1 : wr.cell? ⟨g, o + k, none⟩ = some (.int .u32 ((nth L (o + k) : Nat) : Int)) := hst.out.cell hon.out (by omega)
      have c2 : wr.cell? ⟨b, p + k, none⟩ = some (.int .u32 ((nth M k : Nat) : Int)) := by
        obtain ⟨hne, hc⟩ := hbg.out (by omega)
        exact (hst.out.far hne).trans (hc k hlt)
      have f1 : wr.frozen? ⟨g, o + k, none⟩ = false := hst.out.frozen _
      have i1 : (0 : Int) ≤ (k : Int) := by omega
      have i2 : (k : Int) < (n : Int) := by omega
      have i3 : (k : Int) < (m : Int) := by omega
      go_wp2
      go_region_law ((go_simp; go_at_call 59; refine (add32 _ _ _ _ hx hy hq).mono ?_; rintro e w' ⟨rfl, rfl⟩))
      all_goals
        clear c1 c2 f1
        go_wp2
        go_roundw
        case rel => exact ⟨k + 1, (nth L (o + k) + nth M k + q) / 4294967296, by omega, by go_num, by omega, by go_num, hst.out.step hL.out hM.out hon.out (by omega) 1⟩
        case measure => simp [intOf]; omega
    · have hkm : Hid (k = m) := (by omega : k = m)
      go_wp2
      go_loopw [5, 7] (fun s i wr => ∃ k q : Nat, m ≤ k ∧ k ≤ n ∧ i = .int .i64 k ∧ q ≤ 1 ∧ s = .int .u32 q ∧ Hid (AddSt w wr g o n L M k q)) (fun _ i _ => n - (intOf i).toNat)
      case atStart => exact ⟨m, q, by omega, by omega, by go_num, by omega, rfl, by rw [← hkm.out]; exact hst⟩
      case round =>
        obtain ⟨k, q, hk1, hk, rfl, hq, rfl, hst⟩ := hrel
        by_cases hlt : k < n
        · by_cases hq0 : q = 0
          · have HQ : Hid (q = 0) := hq0
            have hqb : ((q : Int) != 0) = false := by simp [hq0]
            clear hq0
            go_wp2
            go_ret
            exact hst.out.done hL.out hon.out (by omega) (by rw [hml.out]; omega) (.inl HQ.out)
          · have HQ : Hid (¬ q = 0) := hq0
            have hqb : ((q : Int) != 0) = true := by simp [hq0]
            have hx : nth L (o + k) < 4294967296 := nth_lt hL.out _
            have c1 : wr.cell? ⟨g, o + k, none⟩ = some (.int .u32 ((nth L (o + k) : Nat) : Int)) := hst.out.cell hon.out (by omega)
            have f1 : wr.frozen? ⟨g, o + k, none⟩ = false := hst.out.frozen _
            clear hq0
            go_wp2_with (go_at_call 59; refine (add32_zero _ _ _ hx hq).mono ?_; rintro e w' ⟨rfl, rfl⟩)
            go_roundw
            case rel => exact ⟨k + 1, (nth L (o + k) + q) / 4294967296, by omega, by omega, by go_num, by omega, by go_num, hst.out.step0 hL.out hM.out hon.out (by omega) (by rw [hml.out]; omega)⟩
            case measure => simp [intOf]; omega
        · go_wp2
          go_ret
          exact hst.out.done hL.out hon.out (by omega) (by rw [hml.out]; omega) (.inr (by omega))

set_option maxHeartbeats 2000000 in
theorem addTo_none (g o n c d : Nat) (A : Option Addr) (L : List Nat) (w : World) (hL : Hid (Wf L)) (hon : Hid (o + n ≤ L.length)) (hbk : Hid (Bk w g L)) (_hn : n ≤ 1000000) :
    Calls Try.prog 40 #[.slice (some ⟨g, o, none⟩) n c, .slice A 0 d] w (Added w g o n L []) := by
  go_enter Try.func40, Try.ntmps40
  go_wp2
  go_rounds 1
  go_rounds 1
  all_goals
    go_ret
    exact (AddSt.start hbk.out).done hL.out hon.out (Nat.zero_le _) (Nat.zero_le _) (.inl rfl)

theorem addTo_any (g o n c m d : Nat) (A : Option Addr) (L M : List Nat) (w : World) (hL : Wf L) (hM : Wf M) (hml : M.length = m) (hmn : m ≤ n) (hn : n ≤ 1000000)
    (hon : o + n ≤ L.length) (hbk : Bk w g L) (hr : Rd w g A M) :
    Calls Try.prog 40 #[.slice (some ⟨g, o, none⟩) n c, .slice A m d] w (Added w g o n L M) := by
  rcases Nat.eq_zero_or_pos M.length with h0 | h0
  · have e : M = [] := List.eq_nil_of_length_eq_zero h0
    subst e
    subst hml
    exact addTo_none g o n c d A L w hL hon hbk hn
  · obtain ⟨b, p, rfl, hb, hc⟩ := hr h0
    subst hml
    exact addTo_some g o n c b p M.length d L M w hL hM rfl hmn hn hon hbk (fun _ => ⟨by omega, hc⟩)

end Go.Proofs.Ytogmgomcdhfolaa
