/-
  natural.estimate: the limb of the quotient, or one more.
-/
import Derived.Test.YtogmgomcdhfolaaSubMul
import Derived.Test.YtogmgomcdhfolaaCmp
namespace Go.Proofs.Ytogmgomcdhfolaa
open Go.RowKit Nt

/-- what estimate answers -/
def Estd (w : World) (q : Nat) (e : Ending) (w' : World) : Prop := ∃ l : Nat, e = .returned (.int .u32 (l : Int)) ∧ l ≤ 4294967295 ∧ q ≤ l ∧ l ≤ q + 1 ∧ Qt w w'

theorem top_or {x y : Nat} (hx : x < 4294967296) (hy : y < 4294967296) : bits BinOp.or IntKind.u64 ((x : Int) * 4294967296) (y : Int) = ((x * 4294967296 + y : Nat) : Int) := join_or hx hy

theorem est_bound {top hi : Nat} (hh : 2147483648 ≤ hi) (ht : top < hi * 4294967296 + 4294967296) : top / hi ≤ 4294967297 := by
  have h1 : top / hi < 4294967298 := by
    rw [Nat.div_lt_iff_lt_mul (by omega)]
    omega
  omega

set_option maxHeartbeats 4000000 in
set_option maxRecDepth 100000 in
theorem esti_some (g o n N C bb p d : Nat) (pn p1 p2 hi lo q P v M : Nat) (w : World) (hN1 : n < N) (hN : N ≤ 1000000) (hn : 2 ≤ n)
    (c1 : w.cell? ⟨g, o + n, none⟩ = some (.int .u32 (pn : Int))) (c2 : w.cell? ⟨g, o + (n - 1), none⟩ = some (.int .u32 (p1 : Int))) (c3 : w.cell? ⟨g, o + (n - 2), none⟩ = some (.int .u32 (p2 : Int)))
    (c4 : w.cell? ⟨bb, p + (n - 1), none⟩ = some (.int .u32 (hi : Int))) (c5 : w.cell? ⟨bb, p + (n - 2), none⟩ = some (.int .u32 (lo : Int)))
    (b1 : pn ≤ hi) (b2 : p1 < 4294967296) (b3 : p2 < 4294967296) (b4 : hi < 4294967296) (b5 : lo < 4294967296) (b6 : 2147483648 ≤ hi)
    (hq : q < 4294967296) (hP : Hid (EstP P v q (pn * 4294967296 + p1) p2 hi lo M)) :
    Calls Try.prog 71 #[.slice (some ⟨g, o, none⟩) N C, .slice (some ⟨bb, p, none⟩) n d] w (Estd w q) := by
  obtain ⟨top, htop⟩ : ∃ top, top = pn * 4294967296 + p1 := ⟨_, rfl⟩
  have hor : bits BinOp.or IntKind.u64 ((pn : Int) * 4294967296) (p1 : Int) = (top : Int) := by rw [htop]; exact top_or (by omega) b2
  have ht1 : top < hi * 4294967296 + 4294967296 := by omega
  obtain ⟨l0, hl0⟩ : ∃ l0, l0 = top / hi := ⟨_, rfl⟩
  obtain ⟨r0, hr0⟩ : ∃ r0, r0 = top % hi := ⟨_, rfl⟩
  have e1 : (top : Int) / (hi : Int) = (l0 : Int) := by rw [hl0, Int.natCast_ediv]
  have e2 : (top : Int) % (hi : Int) = (r0 : Int) := by rw [hr0, Int.natCast_emod]
  have hl1 : l0 ≤ 4294967297 := by rw [hl0]; exact est_bound b6 ht1
  have hr1 : r0 < hi := by rw [hr0]; exact Nat.mod_lt _ (by omega)
  have E0 : Hid (EstI top hi q l0 r0) := by
    show EstI _ _ _ _ _
    rw [hl0, hr0]
    have := est_start hP.out b3 (by omega)
    rwa [← htop] at this
  have HT := Lib.hid htop
  have HT1 := Lib.hid ht1
  have e0 : (0 : Int) < (hi : Int) := by omega
  have i1 : (0 : Int) ≤ (n : Int) - 1 := by omega
  have i2 : (0 : Int) ≤ (n : Int) - 2 := by omega
  have i3 : ((n : Int) - 1).toNat = n - 1 := by omega
  have i4 : ((n : Int) - 2).toNat = n - 2 := by omega
  have i5 : IntKind.i64.wrap ((n : Int) - 1) = (n : Int) - 1 := IntWalk.i64_in _ (by omega)
  have i6 : IntKind.i64.wrap ((n : Int) - 2) = (n : Int) - 2 := IntWalk.i64_in _ (by omega)
  have i7 : (n : Int) < (N : Int) := by omega
  have i8 : (n : Int) - 1 < (N : Int) := by omega
  have i9 : (n : Int) - 1 < (n : Int) := by omega
  have i10 : (n : Int) - 2 < (n : Int) := by omega
  have i11 : (0 : Int) ≤ (n : Int) := by omega
  have ht2 : top ≤ 18446744073709551615 := by omega
  clear htop hl0 hr0 ht1
  go_enter Try.func71, Try.ntmps71
  go_wp2
  go_quiet (fail)
  go_wp2
  go_quiet (fail)
  go_wp2
  go_quiet (fail)
  go_wp2
  go_loopw [9, 10] (fun lv rv wr => ∃ l r : Nat, lv = .int .u64 l ∧ rv = .int .u64 r ∧ l ≤ 4294967297 ∧ r ≤ 4294967295 ∧ Hid (EstI top hi q l r) ∧ Hid (Qt w wr)) (fun lv _ _ => (intOf lv).toNat)
  case atStart => exact ⟨l0, r0, rfl, by rw [e2], hl1, by omega, E0, ((((Qt.refl w).more _).more _).more _)⟩
  case round =>
    obtain ⟨l, r, rfl, rfl, hl, hr, hi1, hqt⟩ := hrel
    clear c1 c2 c4 c5 e1 e2 hl1 hr1 E0 hor ht2 i5 i6
    have c3' : wr.cell? ⟨g, o + (n - 2), none⟩ = some (.int .u32 (p2 : Int)) := (hqt.out.cell _).trans c3
    by_cases hlm : 4294967295 < l
    · obtain ⟨hlp, hi2⟩ := est_step (by have := hP.out; rwa [← HT.out] at this) hi1.out hq (.inl hlm)
      have HI2 := Lib.hid hi2
      clear hi2
      by_cases hb : 4294967295 < r + hi
      · have hlb : l - 1 ≤ 4294967295 := est_break (p1 := 0) HI2.out.eq HT1.out (by omega) rfl
        have hfin : Hid (q ≤ l - 1 ∧ l - 1 ≤ q + 1) := ⟨HI2.out.le, est_done (by have := hP.out; rwa [← HT.out] at this) HI2.out hlb (low_le hlb b5 (by omega)) (by omega) HI2.out.eq⟩
        go_wp2
        go_ret
        exact ⟨l - 1, ret_u (by omega), hlb, hfin.out.1, hfin.out.2, hqt.out⟩
      · go_wp2
        go_roundw
        case rel => exact ⟨l - 1, r + hi, by go_num, by go_num, by omega, by omega, HI2, hqt⟩
        case measure => simp [intOf]; omega
    · obtain ⟨m, hm⟩ : ∃ m, l * lo = m := ⟨_, rfl⟩
      have hmle : m ≤ 18446744065119617025 := by rw [← hm]; exact mul_bound (by omega) b5
      have hme : (l : Int) * (lo : Int) = (m : Int) := by rw [← hm]; exact (Int.natCast_mul _ _).symm
      have hor2 := join_or (hi := r) (lo := p2) (by omega) b3
      have HM := Lib.hid hm
      clear hm
      by_cases hc : r * 4294967296 + p2 < m
      · obtain ⟨hlp, hi2⟩ := est_step (by have := hP.out; rwa [← HT.out] at this) hi1.out hq (.inr (by rw [HM.out]; exact hc))
        have HI2 := Lib.hid hi2
        clear hi2
        by_cases hb : 4294967295 < r + hi
        · have hlb : l - 1 ≤ 4294967295 := by omega
          have hfin : Hid (q ≤ l - 1 ∧ l - 1 ≤ q + 1) := ⟨HI2.out.le, est_done (by have := hP.out; rwa [← HT.out] at this) HI2.out hlb (low_le hlb b5 (by omega)) (by omega) HI2.out.eq⟩
          go_wp2
          go_ret
          exact ⟨l - 1, ret_u (by omega), hlb, hfin.out.1, hfin.out.2, hqt.out⟩
        · go_wp2
          go_roundw
          case rel => exact ⟨l - 1, r + hi, by go_num, by go_num, by omega, by omega, HI2, hqt⟩
          case measure => simp [intOf]; omega
      · have hfin : Hid (q ≤ l ∧ l ≤ q + 1) := ⟨hi1.out.le, est_done (by have := hP.out; rwa [← HT.out] at this) hi1.out (by omega) (by rw [HM.out]; omega) (by omega) hi1.out.eq⟩
        go_wp2
        go_ret
        exact ⟨l, rfl, by omega, hfin.out.1, hfin.out.2, hqt.out⟩

end Go.Proofs.Ytogmgomcdhfolaa
