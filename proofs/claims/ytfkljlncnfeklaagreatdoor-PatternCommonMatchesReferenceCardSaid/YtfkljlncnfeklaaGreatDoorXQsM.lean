/-
  The reference's show, group. (Seat of the great laws.)
-/
import Derived.Test.YtfkljlncnfeklaaGreatDoorPy
import Derived.Test.YtfkljlncnfeklaaGreatDoorXQhM
import Derived.Test.YtfkljlncnfeklaaGreatDoorPh
import Derived.BigQuiet
namespace Go.Proofs.YtfkljlncnfeklaaGreatDoor
open Go.RowKit Go.Shelf
set_option linter.unusedVariables false
set_option linter.unusedSimpArgs false
attribute [local go_sem ↓] Go.wp_at_zero Go.wp_at_succ

theorem bs_app (x y : List UInt8) : (⟨x.toArray⟩ : ByteArray) ++ ⟨y.toArray⟩ = ⟨(x ++ y).toArray⟩ := by
  apply ByteArray.ext
  rw [ByteArray.data_append]
  simp
theorem bs_size (x : List UInt8) : (⟨x.toArray⟩ : ByteArray).size = x.length := List.size_toArray
theorem hex_cut : ∀ q : Fin 16, (⟨#[48, 49, 50, 51, 52, 53, 54, 55, 56, 57, 97, 98, 99, 100, 101, 102]⟩ : ByteArray).extract q.val (q.val + 1) = ⟨#[hexD q.val]⟩ := by decide
theorem one_str (w : World) (b : Nat) (hb : b < 256) : (convert 22 9 (.slice (some ⟨w.heap.size, 0, none⟩) 1 1)).run Tryz.prog (w.alloc (.cells #[.int .u8 (b : Int)] 5)) = .ok (.string ⟨[UInt8.ofNat b].toArray⟩) (w.alloc (.cells #[.int .u8 (b : Int)] 5)) := by
  have hn : (UInt8.ofNat b).toNat = b := by rw [UInt8.toNat_ofNat']; omega
  exact run_convert_bytes_back (P := Tryz.prog) (w.alloc (.cells #[.int .u8 (b : Int)] 5)) 22 9 5 ⟨w.heap.size, 0, none⟩ 1 [UInt8.ofNat b] Tryz.underlying22 Tryz.underlying5 Tryz.underlying9 (fun j hj => by
    have hj' : j < 1 := hj
    obtain rfl : j = 0 := by omega
    have e2 : (⟨w.heap.size, 0, none⟩ : Addr).add 0 = ⟨w.heap.size, 0, none⟩ := rfl
    rw [e2, cell_of_row _ _ 0 _ _ _ (heap_alloc_new w _)]
    show some (Value.int .u8 (b : Int)) = some (Value.int .u8 (((UInt8.ofNat b).toNat : Nat) : Int))
    rw [hn])
set_option maxRecDepth 100000 in
set_option maxHeartbeats 2000000 in
theorem rshow_any (b : Nat) (hb : b < 256) (w : World) : Calls Tryz.prog 61 #[.int .i64 (b : Int)] w fun e w' => e = .returned (.string (chS b)) ∧ Below w.heap.size w w' := by
  have b0 : (0 : Int) ≤ (b : Int) := by omega
  have b1 : (b : Int) < 256 := by omega
  have bw : IntKind.u8.wrap (b : Int) = (b : Int) := by rw [IntKind.wrap_u8]; omega
  have HPL := Lib.hid (oplain_any b hb)
  by_cases hp : plainB b = true
  · have HC := Lib.hid (show chS b = ⟨[UInt8.ofNat b].toArray⟩ by unfold chS chB; rw [if_pos hp])
    rw [hp] at HPL
    have hcv := one_str w b hb
    have hbl := (Below.refl w.heap.size w).alloc (Nat.le_refl _) (.cells #[.int .u8 (b : Int)] 5)
    clear hp
    go_enter Tryz.func61, Tryz.ntmps61
    go_wp2_with (go_at_call 84; with_reducible refine (HPL.out _).mono ?_; rintro e w2 ⟨rfl, hw⟩; subst hw)
    go_ret
    exact ⟨by rw [HC.out]; rfl, hbl⟩
  · have HC := Lib.hid (show chS b = ⟨[92, 120, hexD (b / 16), hexD (b % 16)].toArray⟩ by unfold chS chB; rw [if_neg hp])
    have hp' : plainB b = false := by simpa using hp
    rw [hp'] at HPL
    have e1 : (b : Int).tdiv 16 = ((b / 16 : Nat) : Int) := by rw [Int.tdiv_eq_ediv_of_nonneg (by omega)]; rfl
    have e2 : (b : Int).tmod 16 = ((b % 16 : Nat) : Int) := by rw [Int.tmod_eq_emod_of_nonneg (by omega)]; rfl
    obtain ⟨q, hq⟩ : ∃ q, b / 16 = q := ⟨_, rfl⟩
    obtain ⟨r, hr⟩ : ∃ r, b % 16 = r := ⟨_, rfl⟩
    have hq16 : q < 16 := by omega
    have hr16 : r < 16 := by omega
    have X1 := Lib.hid (hex_cut ⟨q, hq16⟩)
    have X2 := Lib.hid (hex_cut ⟨r, hr16⟩)
    rw [hq] at e1 HC
    rw [hr] at e2 HC
    have q0 : (0 : Int) ≤ (q : Int) := by omega
    have q1 : (q : Int) < 16 := by omega
    have r0 : (0 : Int) ≤ (r : Int) := by omega
    have r1 : (r : Int) < 16 := by omega
    clear hp hp' hq hr
    go_enter Tryz.func61, Tryz.ntmps61
    go_upto_region 3 with (go_at_call 84; with_reducible refine (HPL.out _).mono ?_; rintro e w2 ⟨rfl, hw⟩; subst hw)
    generalize hD : (⟨#[48, 49, 50, 51, 52, 53, 54, 55, 56, 57, 97, 98, 99, 100, 101, 102]⟩ : ByteArray) = D at *
    have hDs : D.size = 16 := by rw [← hD]; rfl
    have s1 : (D.extract q (q + 1)).size = 1 := by rw [ByteArray.size_extract, hDs]; omega
    have s2 : (D.extract r (r + 1)).size = 1 := by rw [ByteArray.size_extract, hDs]; omega
    have hv : (⟨#[92, 120]⟩ : ByteArray) ++ D.extract q (q + 1) ++ D.extract r (r + 1) = chS b := by
      rw [HC.out, show D.extract q (q + 1) = ⟨#[hexD q]⟩ from X1.out, show D.extract r (r + 1) = ⟨#[hexD r]⟩ from X2.out]
      exact (congrArg (· ++ (⟨[hexD r].toArray⟩ : ByteArray)) (bs_app [92, 120] [hexD q])).trans (bs_app [92, 120, hexD q] [hexD r])
    have HV := Lib.hid hv
    clear hD hv
    go_quiet (fail)
    go_wp2
    go_ret
    exact ⟨by rw [← HV.out]; rfl, below_drewN (Below.refl _ _) _⟩

/-- a node's text -/
def tS (l : List Pn) (k least : Nat) : ByteArray := ⟨((rxN l k).txt least).toArray⟩
/-- the call of text at node k -/
def QtC (A : Option Addr) (m c : Nat) (l : List Pn) (k : Nat) : Prop := ∀ W : World, Hid (Rp W W.heap.size A l) → Calls Tryz.prog 37 #[.slice A m c, .int .i64 (k : Int)] W fun e w' => e = .returned (.string (tS l k 1)) ∧ Hid (Below W.heap.size W w')
/-- the call of group -/
def QgC (A : Option Addr) (m c : Nat) (l : List Pn) (k : Nat) (need : Bool) (least : Nat) : Prop := ∀ W : World, Hid (Rp W W.heap.size A l) → Calls Tryz.prog 62 #[.slice A m c, .int .i64 (k : Int), .bool need] W fun e w' => e = .returned (.string (tS l k least)) ∧ Hid (Below W.heap.size W w')
set_option maxRecDepth 100000 in
set_option maxHeartbeats 1000000 in
theorem rgroup_any (A : Option Addr) (m c : Nat) (l : List Pn) (k : Nat) (I : QtC A m c l k) (hs : ((rxN l k).txt 1).length ≤ 1000000) (need : Bool) (least : Nat) (ht : (rxN l k).txt least = if need = true then [40] ++ (rxN l k).txt 1 ++ [41] else (rxN l k).txt 1) : QgC A m c l k need least := fun W hr => by
  have HI := Lib.hid (I W hr)
  rcases need with _ | _
  · have HT := Lib.hid (show tS l k least = tS l k 1 by unfold tS; rw [ht, if_neg (by decide)])
    rw [HT.out]
    clear ht
    go_enter Tryz.func62, Tryz.ntmps62
    go_wp2_with (go_at_call 37; with_reducible refine HI.out.mono ?_; rintro e w2 ⟨rfl, b2⟩)
    go_ret
    exact ⟨rfl, b2⟩
  · have hT : tS l k least = (⟨#[40]⟩ : ByteArray) ++ tS l k 1 ++ (⟨#[41]⟩ : ByteArray) := by
      unfold tS
      rw [ht, if_pos rfl]
      exact ((congrArg (· ++ (⟨[41].toArray⟩ : ByteArray)) (bs_app [40] ((rxN l k).txt 1))).trans (bs_app ([40] ++ (rxN l k).txt 1) [41])).symm
    have HT := Lib.hid hT
    have hz : (tS l k 1).size ≤ 1000000 := by unfold tS; rw [bs_size]; exact hs
    generalize tS l k 1 = T at *
    have z1 : (⟨#[40]⟩ : ByteArray).size = 1 := rfl
    have z2 : (⟨#[41]⟩ : ByteArray).size = 1 := rfl
    have z3 : ((⟨#[40]⟩ : ByteArray) ++ T).size = 1 + T.size := by rw [ByteArray.size_append]; rfl
    rw [HT.out]
    clear ht hT
    go_enter Tryz.func62, Tryz.ntmps62
    go_wp2_with (go_at_call 37; with_reducible refine HI.out.mono ?_; rintro e w2 ⟨rfl, b2⟩)
    go_ret
    exact ⟨rfl, b2⟩

end Go.Proofs.YtfkljlncnfeklaaGreatDoor
