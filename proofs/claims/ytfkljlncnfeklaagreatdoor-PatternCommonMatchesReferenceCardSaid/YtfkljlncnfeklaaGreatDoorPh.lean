/-
  Plain mathematics and contracts of package diagram, several texts in one: XSh, XCh, XCr, XBl, XRt, XPw, XWp, XPn.
-/
import Derived.Test.YtfkljlncnfeklaaGreatDoorProg
import Derived.Test.YtfkljlncnfeklaaGreatDoorPb
import Derived.Shelf.Strings.Runes
import Derived.Shelf.Unicode.DecodeAny
import Derived.Test.YtfkljlncnfeklaaGreatDoorPa
import Derived.Deep.DeepCutAuto
import Derived.Deep.RegionWith
import Derived.Test.YtfkljlncnfeklaaGreatDoorPd
import Derived.Lib.Strings
import Derived.Lib.Builder
import Derived.Lib.AppendStr
import Derived.Lib.UnsafeStr
import Derived.Laws.Externs
import Derived.Test.YtfkljlncnfeklaaGreatDoorPe
import Derived.Test.YtfkljlncnfeklaaGreatDoorPg

/-! strings.ContainsRune, strings.IndexByte, utf8.DecodeRuneInString at this translation: the shelf's contracts. (The layings are written by laygen.py out of what the shelf's own command makes.) -/
namespace Go.Proofs.YtfkljlncnfeklaaGreatDoor
open Go.Shelf Go.RowKit
set_option linter.unusedVariables false

def lays151_ren : Go.Shelf.Ren := ⟨fun | 151 => 76 | 152 => 92 | 137 => 91 | 119 => 103 | 224 => 104 | 225 => 105 | 217 => 102 | 266 => 117 | n => n, fun | 9 => 9 | 21 => 21 | 4 => 4 | 3 => 3 | 5 => 5 | 0 => 0 | 46 => 141 | n => n, fun  | n => n⟩
theorem lays151 : Go.Proofs.Lays.n151 Tryz.prog lays151_ren := {
  mixed := by kernel_rfl
  f119 := Tryz.func103.trans (congrArg some (by kernel_rfl))
  f137 := Tryz.func91.trans (congrArg some (by kernel_rfl))
  f151 := Tryz.func76.trans (congrArg some (by kernel_rfl))
  f152 := Tryz.func92.trans (congrArg some (by kernel_rfl))
  f217 := Tryz.func102.trans (congrArg some (by kernel_rfl))
  f224 := Tryz.func104.trans (congrArg some (by kernel_rfl))
  f225 := Tryz.func105.trans (congrArg some (by kernel_rfl))
  f266 := Tryz.func117.trans (congrArg some (by kernel_rfl))
  t0 := Tryz.underlying0
  a0 := Tryz.isAgg0
  z0 := Tryz.sizeOf0
  v0 := Tryz.zeroValue0
  t3 := Tryz.underlying3
  a3 := Tryz.isAgg3
  z3 := Tryz.sizeOf3
  v3 := Tryz.zeroValue3
  t4 := Tryz.underlying4
  a4 := Tryz.isAgg4
  z4 := Tryz.sizeOf4
  v4 := Tryz.zeroValue4
  t5 := Tryz.underlying5
  a5 := Tryz.isAgg5
  z5 := Tryz.sizeOf5
  v5 := Tryz.zeroValue5
  t9 := Tryz.underlying9
  a9 := Tryz.isAgg9
  z9 := Tryz.sizeOf9
  v9 := Tryz.zeroValue9
  t21 := Tryz.underlying21
  a21 := Tryz.isAgg21
  z21 := Tryz.sizeOf21
  v21 := Tryz.zeroValue21
  t46 := Tryz.underlying141
  a46 := Tryz.isAgg141
  z46 := Tryz.sizeOf141
  v46 := Tryz.zeroValue141 }

def lays197_ren : Go.Shelf.Ren := ⟨fun | 197 => 42 | 260 => 65 | n => n, fun | 9 => 9 | 21 => 21 | 3 => 3 | 4 => 4 | 5 => 5 | 105 => 70 | 119 => 143 | 0 => 0 | 46 => 141 | 139 => 146 | 138 => 145 | n => n, fun | 3 => 0 | 4 => 1 | n => n⟩
theorem lays197 : Go.Proofs.Lays.n197 Tryz.prog lays197_ren := {
  mixed := by kernel_rfl
  f197 := Tryz.func42.trans (congrArg some (by kernel_rfl))
  f260 := Tryz.func65.trans (congrArg some (by kernel_rfl))
  t0 := Tryz.underlying0
  a0 := Tryz.isAgg0
  z0 := Tryz.sizeOf0
  v0 := Tryz.zeroValue0
  t3 := Tryz.underlying3
  a3 := Tryz.isAgg3
  z3 := Tryz.sizeOf3
  v3 := Tryz.zeroValue3
  t4 := Tryz.underlying4
  a4 := Tryz.isAgg4
  z4 := Tryz.sizeOf4
  v4 := Tryz.zeroValue4
  t5 := Tryz.underlying5
  a5 := Tryz.isAgg5
  z5 := Tryz.sizeOf5
  v5 := Tryz.zeroValue5
  t9 := Tryz.underlying9
  a9 := Tryz.isAgg9
  z9 := Tryz.sizeOf9
  v9 := Tryz.zeroValue9
  t21 := Tryz.underlying21
  a21 := Tryz.isAgg21
  z21 := Tryz.sizeOf21
  v21 := Tryz.zeroValue21
  t46 := Tryz.underlying141
  a46 := Tryz.isAgg141
  z46 := Tryz.sizeOf141
  v46 := Tryz.zeroValue141
  t105 := Tryz.underlying70
  a105 := Tryz.isAgg70
  z105 := Tryz.sizeOf70
  v105 := Tryz.zeroValue70
  t119 := Tryz.underlying143
  a119 := Tryz.isAgg143
  z119 := Tryz.sizeOf143
  t138 := Tryz.underlying145
  a138 := Tryz.isAgg145
  z138 := Tryz.sizeOf145
  v138 := Tryz.zeroValue145
  t139 := Tryz.underlying146
  a139 := Tryz.isAgg146
  z139 := Tryz.sizeOf146
  v139 := Tryz.zeroValue146
  g3 := by kernel_rfl
  g4 := by kernel_rfl }

theorem crune_any (s : ByteArray) (r : Int) (w : World) (h0 : 0 ≤ r) (h1 : r < 128) :
    Calls Tryz.prog 76 #[.string s, .int .i32 r] w fun e w' => e = .returned (.bool (decide (0 ≤ Lib.indexByte s.data.toList r.toNat.toUInt8))) ∧ w' = w :=
  Any.strings_ContainsRune_ascii lays151 s r w h0 h1
theorem idxb_any (s : ByteArray) (c : Int) (w : World) :
    Calls Tryz.prog 91 #[.string s, .int .u8 c] w fun e w' => e = .returned (.int .i64 (Lib.indexByte s.data.toList c.toNat.toUInt8)) ∧ w' = w :=
  Any.strings_IndexByte { lays151 with } s c w
/-- utf8's tables lie in their variables -/
def Tu (w : World) : Prop := Lib.Utf8Tabs 0 1 w
theorem dec_any (s : ByteArray) (w : World) (hT : Hid (Tu w)) :
    Calls Tryz.prog 42 #[.string s] w fun e w' => e = .returned (.tuple #[.int .i32 (Lib.decodeGo s).1, .int .i64 (Lib.decodeGo s).2]) ∧ Below w.heap.size w w' :=
  Any.utf8_DecodeRuneInString lays197 s w hT.out

end Go.Proofs.YtfkljlncnfeklaaGreatDoor

/-! The characters of a pattern's string: plain, escaped, character. -/
namespace Go.Proofs.YtfkljlncnfeklaaGreatDoor
open Go.RowKit Go.Shelf
set_option linter.unusedVariables false
set_option linter.unusedSimpArgs false
attribute [local go_sem ↓] Go.wp_at_zero Go.wp_at_succ

set_option maxRecDepth 100000 in
theorem res_idx : ∀ b, b < 128 → 33 ≤ b → b ≤ 126 → (!decide (0 ≤ Lib.indexByte (ByteArray.mk #[40, 41, 42, 45, 91, 92, 93, 124]).data.toList (((b : Nat) : Int)).toNat.toUInt8)) = plainB b := by decide
set_option maxRecDepth 100000 in
theorem res_idx2 : ∀ b, b < 128 → decide (0 ≤ Lib.indexByte (ByteArray.mk #[40, 41, 42, 45, 91, 92, 93, 124]).data.toList (((b : Nat) : Int)).toNat.toUInt8) = (resB b || b == 92) := by decide
set_option maxRecDepth 100000 in
set_option maxHeartbeats 1000000 in
theorem plain_any (b : Nat) (w : World) (hb : b < 2147483648) : Calls Tryz.prog 75 #[.int .i64 (b : Int)] w fun e w' => e = .returned (.bool (plainB b)) ∧ w' = w := by
  by_cases h1 : 33 ≤ b
  · by_cases h2 : b ≤ 126
    · have hp := res_idx b (by omega) h1 h2
      have i1 : (33 : Int) ≤ (b : Int) := by omega
      have i2 : (b : Int) ≤ 126 := by omega
      have i3 : (0 : Int) ≤ (b : Int) := by omega
      have HP := Lib.hid hp
      clear hp
      go_enter Tryz.func75, Tryz.ntmps75
      go_wp2_with (go_at_call 76; refine (crune_any _ _ _ (by omega) (by omega)).mono ?_; rintro e w1 ⟨rfl, hw⟩; cases hw)
      go_ret
      exact ⟨by rw [← HP.out]; rfl, rfl⟩
    · have hp : plainB b = false := by unfold plainB; simp; omega
      have i1 : (33 : Int) ≤ (b : Int) := by omega
      have i2 : (126 : Int) < (b : Int) := by omega
      rw [hp]
      go_enter Tryz.func75, Tryz.ntmps75
      go_wp2
      go_ret
      exact ⟨rfl, rfl⟩
  · have hp : plainB b = false := by unfold plainB; simp; omega
    have i1 : (b : Int) < 33 := by omega
    rw [hp]
    go_enter Tryz.func75, Tryz.ntmps75
    go_wp2
    go_ret
    exact ⟨rfl, rfl⟩

/-- where a digit stands -/
def hxI (b : UInt8) : Int := match hexV b with | some n => (n : Int) | none => -1
set_option maxRecDepth 100000 in
theorem hex_idx' : ∀ n, n < 256 → Lib.indexByte (ByteArray.mk #[48, 49, 50, 51, 52, 53, 54, 55, 56, 57, 97, 98, 99, 100, 101, 102]).data.toList (UInt8.ofNat n) = hxI (UInt8.ofNat n) := by decide
theorem hex_idx (c : UInt8) : Lib.indexByte (ByteArray.mk #[48, 49, 50, 51, 52, 53, 54, 55, 56, 57, 97, 98, 99, 100, 101, 102]).data.toList (((c.toNat : Nat) : Int)).toNat.toUInt8 = hxI c := by
  have h := hex_idx' c.toNat c.toNat_lt
  rw [Int.toNat_natCast]
  rw [UInt8.ofNat_toNat] at h
  rw [← h]
  congr 1
  exact UInt8.ofNat_toNat
theorem idxh_any (c : UInt8) (w : World) :
    Calls Tryz.prog 91 #[.string (ByteArray.mk #[48, 49, 50, 51, 52, 53, 54, 55, 56, 57, 97, 98, 99, 100, 101, 102]), .int .u8 (c.toNat : Int)] w fun e w' => e = .returned (.int .i64 (hxI c)) ∧ w' = w :=
  (idxb_any _ _ w).mono fun e w' ⟨h1, h2⟩ => ⟨by rw [h1, hex_idx], h2⟩
theorem hx_of (c : UInt8) : (∃ n : Nat, n < 16 ∧ hxI c = (n : Int)) ∨ hxI c = -1 := by
  unfold hxI hexV
  split
  · next n hn =>
    split at hn
    · cases hn; exact .inl ⟨_, by omega, rfl⟩
    · split at hn
      · cases hn; exact .inl ⟨_, by omega, rfl⟩
      · cases hn
  · exact .inr rfl
set_option maxRecDepth 100000 in
theorem hex_or : ∀ n : Nat, n < 16 → ∀ m : Nat, m < 16 → bits BinOp.or IntKind.i64 ((n : Int) * 16) (m : Int) = (n : Int) * 16 + (m : Int) := by decide
/-- what escaped returns -/
def escR (l : List UInt8) : Int × Bool := match escV l with | some v => ((v : Int), true) | none => (0, false)
theorem four_bytes {l : List UInt8} (hz : 4 ≤ l.length) : ∃ a x h m t, l = a :: x :: h :: m :: t := by
  rcases l with _ | ⟨a, _ | ⟨b, _ | ⟨c, _ | ⟨d, t⟩⟩⟩⟩
  · exact absurd hz (by simp)
  · exact absurd hz (by simp)
  · exact absurd hz (by simp)
  · exact absurd hz (by simp)
  · exact ⟨_, _, _, _, _, rfl⟩
theorem at_list {s : ByteArray} {L : List UInt8} (hs : s.data.toList = L) {i : Nat} (h : i < s.size) : s[i]'h = L[i]'(by rw [← hs, Array.length_toList]; exact h) := by subst hs; rfl
theorem escR_short {s : List UInt8} (h : s.length < 4) : escR s = (0, false) := by
  rcases s with _ | ⟨a, _ | ⟨b, _ | ⟨c, _ | ⟨d, t⟩⟩⟩⟩ <;> first | rfl | (simp at h; omega)
theorem escR_four {a h m : UInt8} {t : List UInt8} : escR (a :: 120 :: h :: m :: t) = if hxI h < 0 ∨ hxI m < 0 then (0, false) else (hxI h * 16 + hxI m, true) := by
  have e : escV (a :: 120 :: h :: m :: t) = (hexV h).bind fun a => (hexV m).map fun b => a * 16 + b := by unfold escV; exact if_pos rfl
  unfold escR hxI
  rw [e]
  rcases hexV h with _ | n
  · simp
  · rcases hexV m with _ | k
    · simp
    · have : ¬ ((n : Int) < 0 ∨ (k : Int) < 0) := by omega
      simp [this]
set_option maxRecDepth 100000 in
set_option maxHeartbeats 1000000 in
theorem escaped_any (s : ByteArray) (w : World) : Calls Tryz.prog 74 #[.string s] w fun e w' => e = .returned (.tuple #[.int .i64 (escR s.data.toList).1, .bool (escR s.data.toList).2]) ∧ ∃ n, w' = w.drewN n := by
  by_cases h4 : s.size < 4
  · have hr := escR_short (s := s.data.toList) (by rw [Array.length_toList]; exact h4)
    have i1 : (s.size : Int) < 4 := by omega
    rw [hr]
    go_enter Tryz.func74, Tryz.ntmps74
    go_wp2
    go_ret2
    exact ⟨rfl, 0, rfl⟩
  · have i1 : ¬ (s.size : Int) < 4 := by omega
    obtain ⟨a, x, h, l, t, hs⟩ := four_bytes (l := s.data.toList) (by rw [Array.length_toList]; show 4 ≤ s.size; omega)
    have e2 : ∀ (hh : 2 < s.size), ((s[2]'hh).toNat : Int) = (h.toNat : Int) := fun hh => by rw [at_list hs (i := 2) hh]; rfl
    have e3 : ∀ (hh : 3 < s.size), ((s[3]'hh).toNat : Int) = (l.toNat : Int) := fun hh => by rw [at_list hs (i := 3) hh]; rfl
    by_cases hx : x = 120
    · have e1 : ∀ (hh : 1 < s.size), (s[1]'hh).toNat = 120 := fun hh => by rw [at_list hs (i := 1) hh, show (a :: x :: h :: l :: t)[1]'_ = x from rfl, hx]; rfl
      have q2 : 2 < s.size := by omega
      have q3 : 3 < s.size := by omega
      have p2 : (2 : Int) < (s.size : Int) := by omega
      have p3 : (3 : Int) < (s.size : Int) := by omega
      have HR := Lib.hid (escR_four (a := a) (t := t) (h := h) (m := l))
      rw [hx] at hs
      rw [hs]
      clear hs
      go_enter Tryz.func74, Tryz.ntmps74
      go_upto_region 3 with fail
      go_region_with (go_at_call 91; refine (idxh_any _ _).mono ?_; rintro e w1 ⟨rfl, hw⟩; subst hw)
      all_goals
        have HW : Hid (∃ n, w.drew = w.drewN n) := Lib.hid ⟨1, rfl⟩
        generalize w.drew = w1 at *
        rcases hx_of h with ⟨n, hn, e4⟩ | e4
        · rcases hx_of l with ⟨m, hm, e5⟩ | e5
          · have hb := hex_or n hn m hm
            rw [e4, e5] at HR ⊢
            rw [if_neg (by omega)] at HR
            have i4 : (0 : Int) ≤ (n : Int) := by omega
            have i5 : (0 : Int) ≤ (m : Int) := by omega
            have HBB := Lib.hid hb
            clear hb
            go_wp2
            go_ret2
            exact ⟨by rw [HR.out, HBB.out]; rfl, HW.out⟩
          · rw [e4, e5] at HR ⊢
            rw [if_pos (Or.inr (by omega))] at HR
            have i4 : (0 : Int) ≤ (n : Int) := by omega
            go_wp2
            go_ret2
            exact ⟨by rw [HR.out]; rfl, HW.out⟩
        · rw [e4] at HR ⊢
          rw [if_pos (Or.inl (by omega))] at HR
          go_wp2
          go_ret2
          exact ⟨by rw [HR.out]; rfl, HW.out⟩
    · have e1 : ∀ (hh : 1 < s.size), (s[1]'hh).toNat = x.toNat := fun hh => by rw [at_list hs (i := 1) hh]; rfl
      have hx2 : ¬ ((x.toNat : Nat) : Int) = 120 := fun e => hx (UInt8.toNat_inj.1 (by rw [show (120 : UInt8).toNat = 120 from rfl]; omega))
      have hr : escR s.data.toList = (0, false) := by
        have e : escV (a :: x :: h :: l :: t) = none := by unfold escV; exact if_neg hx
        rw [hs]; unfold escR; rw [e]
      rw [hr]
      clear hr hs e2 e3
      go_enter Tryz.func74, Tryz.ntmps74
      go_wp2
      go_ret2
      exact ⟨rfl, 0, rfl⟩

end Go.Proofs.YtfkljlncnfeklaaGreatDoor

/-! The character of a byte, the node of a byte. -/
namespace Go.Proofs.YtfkljlncnfeklaaGreatDoor
open Go.RowKit Go.Shelf
set_option linter.unusedVariables false
set_option linter.unusedSimpArgs false
attribute [local go_sem ↓] Go.wp_at_zero Go.wp_at_succ

theorem plain_128 {b : Nat} (h : plainB b = true) : b < 128 := by
  unfold plainB at h
  simp at h
  omega
set_option maxRecDepth 100000 in
theorem and15 : ∀ b : Nat, b < 256 → bits BinOp.and IntKind.i64 (b : Int) 15 = ((b % 16 : Nat) : Int) := by decide
set_option maxRecDepth 100000 in
theorem hex_at : ∀ k, k < 16 → ∀ h : k < (ByteArray.mk #[48, 49, 50, 51, 52, 53, 54, 55, 56, 57, 97, 98, 99, 100, 101, 102]).size, (((ByteArray.mk #[48, 49, 50, 51, 52, 53, 54, 55, 56, 57, 97, 98, 99, 100, 101, 102])[k]'h).toNat : Int) = ((hexD k).toNat : Int) := by decide
set_option maxRecDepth 100000 in
theorem hex_enc : ∀ k, k < 16 → Utf8.encode ((hexD k).toNat : Int) = ByteArray.mk #[hexD k] := by decide
set_option maxRecDepth 100000 in
theorem asc_enc : ∀ k : Nat, k < 128 → (Utf8.encode (k : Int)).data.toList = [UInt8.ofNat k] := by decide
set_option maxRecDepth 100000 in
set_option maxHeartbeats 1000000 in
theorem single_any (b : Int) (w : World) : Calls Tryz.prog 66 #[.int .i64 b] w fun e w' => e = .returned (.agg #[.int .i64 1, .int .i64 b, .int .i64 b, .int .i64 0, .int .i64 0]) ∧ Below w.heap.size w w' := by
  go_enter Tryz.func66, Tryz.ntmps66
  go_wp2
  refine bodyPost_ret (v := .agg #[.int .i64 1, .int .i64 b, .int .i64 b, .int .i64 0, .int .i64 0]) ?_ rfl ⟨rfl, ?_⟩
  · rw [results_cell1 rfl]
    go_simp
  · exact (Below.refl _ _).alloc (Nat.le_refl _) _
set_option maxRecDepth 100000 in
set_option maxHeartbeats 1000000 in
theorem character_any (b : Nat) (w : World) (hb : b < 256) : Calls Tryz.prog 60 #[.int .i64 (b : Int)] w fun e w' => ∃ r : ByteArray, e = .returned (.string r) ∧ r.data.toList = chB b ∧ ∃ n, w' = w.drewN n := by
  have HP := Lib.hid (plain_any b w (by omega))
  by_cases hp : plainB b = true
  · have hc : chB b = [UInt8.ofNat b] := by unfold chB; rw [if_pos hp]
    rw [hp] at HP
    go_enter Tryz.func60, Tryz.ntmps60
    go_upto_region 2 with (go_at_call 75; refine HP.out.mono ?_; rintro e w1 ⟨rfl, hw⟩; subst hw)
    go_wp2
    go_ret
    exact ⟨_, rfl, by rw [hc]; exact asc_enc b (plain_128 hp), 0, rfl⟩
  · have hp' : plainB b = false := by simpa using hp
    rw [hp'] at HP
    have hc : chB b = [92, 120, hexD (b / 16), hexD (b % 16)] := by unfold chB; rw [if_neg hp]
    go_enter Tryz.func60, Tryz.ntmps60
    go_upto_region 3 with (go_at_call 75; refine HP.out.mono ?_; rintro e w1 ⟨rfl, hw⟩; subst hw)
    have a1 := and15 b hb
    have a3 : (b : Int) / 16 = ((b / 16 : Nat) : Int) := by omega
    have a2 : b / 16 < 16 := by omega
    have a4 : b % 16 < 16 := by omega
    generalize b / 16 = bh at *
    generalize b % 16 = bl at *
    have hD : ∀ D : ByteArray, D = ByteArray.mk #[48, 49, 50, 51, 52, 53, 54, 55, 56, 57, 97, 98, 99, 100, 101, 102] → D.size = 16 ∧ (∀ (h : bh < D.size), ((D[bh]'h).toNat : Int) = ((hexD bh).toNat : Int)) ∧ (∀ (h : bl < D.size), ((D[bl]'h).toNat : Int) = ((hexD bl).toNat : Int)) := by
      rintro D rfl
      exact ⟨rfl, fun h => hex_at bh a2 h, fun h => hex_at bl a4 h⟩
    generalize hDD : ByteArray.mk #[48, 49, 50, 51, 52, 53, 54, 55, 56, 57, 97, 98, 99, 100, 101, 102] = D
    obtain ⟨d1, d2, d3⟩ := hD D hDD.symm
    clear hD hDD
    have g1 : bh < D.size := by omega
    have g2 : bl < D.size := by omega
    have g3 : (bh : Int) < (D.size : Int) := by omega
    have g4 : (bl : Int) < (D.size : Int) := by omega
    have u1 := hex_enc bh a2
    have u2 := hex_enc bl a4
    generalize hexD bh = ch at *
    generalize hexD bl = cl at *
    go_region
    all_goals
      go_wp2
      go_ret
      exact ⟨_, rfl, by rw [hc]; rfl, 1, rfl⟩

end Go.Proofs.YtfkljlncnfeklaaGreatDoor

/-! A strings.Builder in a block of its own: copyCheck, WriteString, WriteByte, String. (Written by blgen.py.) -/
namespace Go.Proofs.YtfkljlncnfeklaaGreatDoor
open Go.RowKit
set_option linter.unusedVariables false
set_option linter.unusedSimpArgs false
attribute [local go_sem ↓] Go.wp_at_zero Go.wp_at_succ

/-- bytes as cells -/
def bc (l : List UInt8) : List Value := l.map fun b => Value.int .u8 b.toNat
theorem bc_str (s : ByteArray) : Lib.strCells s = bc s.data.toList := rfl
theorem bc_app (a b : List UInt8) : bc (a ++ b) = bc a ++ bc b := List.map_append
theorem bc_len (a : List UInt8) : (bc a).length = a.length := by unfold bc; simp

/-- a printer in block g, from B on, that holds the bytes bs; p: what its builder's address cell holds -/
structure PrP (w : World) (B g : Nat) (p : Value) (bs : List Value) : Prop where
  base : B ≤ g
  ex : ∃ v, w.heap[g]? = some (.cells #[p, v] 55 (0, 0)) ∧ w.ownsRow B 5 1 v bs.length bs ∧ v.ownBlock ≠ some g
def PrS (w : World) (B g : Nat)  (bs : List Value) : Prop := PrP w B g (.pointer none) bs ∨ PrP w B g (.pointer (some ⟨g, 0, none⟩)) bs
/-- every block that is not g and no row of bytes stays -/
def PrK (w w' : World) (g : Nat) : Prop := ∀ k o, w.heap[k]? = some o → k ≠ g → (∀ c fz, o ≠ .cells c 5 fz) → w'.heap[k]? = some o
theorem PrK.refl (w : World) (g : Nat) : PrK w w g := fun _ _ h _ _ => h
theorem PrK.trans {w w' w'' : World} {g : Nat} (h : PrK w w' g) (h' : PrK w' w'' g) : PrK w w'' g := fun k o hk hg ho => h' k o (h k o hk hg ho) hg ho
theorem PrK.alloc {a w : World} {g : Nat} (h : PrK a w g) (o : Obj) : PrK a (w.alloc o) g := fun k x hk hb hx => by
  have h1 := h k x hk hb hx
  have hlt : k < w.heap.size := (Array.getElem?_eq_some_iff.1 h1).1
  have := ((Below.refl w.heap.size w).alloc (Nat.le_refl _) o).block k hlt
  rw [this]; exact h1
theorem PrK.drew {a w : World} {g : Nat} (h : PrK a w g) : PrK a w.drew g := h
theorem PrK.setCell {a w : World} {g : Nat} (h : PrK a w g) (i : Nat) (v : Value) : PrK a (w.setCell ⟨g, i, none⟩ v) g := fun k x hk hb hx => by
  rw [Below.heap_setCell _ _ _ _ hb]; exact h k x hk hb hx
theorem PrK.grown {a w w' : World} {g : Nat} {v : Value} {B n : Nat} {xs : List Value} (h : PrK a w g) (hown : w.ownsRow B 5 1 v n xs) (hg : w.grownBy w' v.ownBlock) : PrK a w' g := fun k x hk hb hx => by
  have h1 := h k x hk hb hx
  have hlt : k < w.heap.size := (Array.getElem?_eq_some_iff.1 h1).1
  rw [hg.block k hlt ?_]
  · exact h1
  · intro e
    rcases hown.2 with ⟨rfl, _⟩ | ⟨q, cap, cur, rfl, _, hq, _⟩
    · cases e
    · have e' : k = q := Option.some.inj e
      subst e'
      rw [hq] at h1
      exact hx _ _ (Option.some.inj h1).symm
theorem PrP.cells {w : World} {B g : Nat} {p : Value} {bs : List Value} (h : PrP w B g p bs) : w.cell? ⟨g, 0, none⟩ = some p ∧ w.frozen? ⟨g, 0, none⟩ = false ∧ w.frozen? ⟨g, 1, none⟩ = false ∧ w.shape? g = some (55, 2) ∧ g < w.heap.size := by
  obtain ⟨_, v, hb, _⟩ := h
  refine ⟨?_, ?_, ?_, ?_, ?_⟩
  · rw [cell_of_row _ _ 0 _ _ _ hb]; rfl
  · exact frozen_of_row _ _ 0 _ _ hb
  · exact frozen_of_row _ _ 1 _ _ hb
  · simp [World.shape?, hb]
  · rcases Nat.lt_or_ge g w.heap.size with h' | h'
    · exact h'
    · simp [Array.getElem?_eq_none h'] at hb
theorem PrP.used {w : World} {B g : Nat} {p : Value} {bs : List Value} (h : PrP w B g p bs) (q : Value) : PrP (w.setCell ⟨g, 0, none⟩ q) B g q bs := by
  obtain ⟨hB, v, hb, hown, hne⟩ := h
  refine ⟨hB, v, ?_, ?_, hne⟩
  · simp [World.setCell, Array.getElem?_modify, hb]
  · refine hown.kept (row := some g) ⟨rfl, rfl, rfl, by simp [World.setCell], fun k _ hk => Below.heap_setCell _ _ _ _ (fun e => hk (by simp [e]))⟩ ?_
    exact Or.inr hne
theorem PrP.put {B g : Nat} {p v v' : Value} {bs' : List Value} {w : World} (hB : B ≤ g) (hb : w.heap[g]? = some (.cells #[p, v] 55 (0, 0))) (hown : w.ownsRow B 5 1 v' bs'.length bs') : PrP (w.setCell ⟨g, 1, none⟩ v') B g p bs' := by
  have hne : v'.ownBlock ≠ some g := by
    intro e
    rcases hown.2 with ⟨rfl, _⟩ | ⟨q, cap, cur, rfl, _, hq, _⟩
    · cases e
    · have e' : q = g := Option.some.inj e
      subst e'
      rw [hq] at hb
      injection hb with hb
      injection hb with _ h2
      exact absurd h2 (by decide)
  refine ⟨hB, v', ?_, ?_, hne⟩
  · simp [World.setCell, Array.getElem?_modify, hb]
  · exact hown.kept (row := some g) ⟨rfl, rfl, rfl, by simp [World.setCell], fun k _ hk => Below.heap_setCell _ _ _ _ (fun e => hk (by simp [e]))⟩ (Or.inr hne)

theorem typB : Tryz.prog.underlying 53 = some (.pointer 55) := by kernel_rfl
theorem typU : Tryz.prog.underlying 139 = some .unsafePointer := by kernel_rfl
theorem infB : (Tryz.prog.info? 55).map (·.size) = some 2 := by kernel_rfl
theorem liesB : liesAt Tryz.prog Tryz.prog.depth 55 (2 / Tryz.prog.cellsOf 55) 0 55 1 = true := by kernel_rfl

set_option maxHeartbeats 1000000 in
set_option maxRecDepth 100000 in
theorem ccheck_used (g : Nat) (w : World) (h0 : w.cell? ⟨g, 0, none⟩ = some (.pointer (some ⟨g, 0, none⟩))) :
    Calls Tryz.prog 59 #[.pointer (some ⟨g, 0, none⟩)] w fun e w' => e = .returned (.tuple #[]) ∧ w' = w := by
  obtain ⟨j, hj, hjs⟩ := Option.map_eq_some_iff.1 infB
  have hneq := fun W : World => Lib.run_neq_ptr_same W ⟨g, 0, none⟩ typB hj
  go_enter Tryz.func59, Tryz.ntmps59
  go_wp2
  go_end0
  exact ⟨rfl, rfl⟩

set_option maxHeartbeats 1000000 in
set_option maxRecDepth 100000 in
theorem ccheck_fresh (g : Nat) (w : World) (h0 : w.cell? ⟨g, 0, none⟩ = some (.pointer none)) (hsh : w.shape? g = some (55, 2)) (hfz : w.frozen? ⟨g, 0, none⟩ = false) :
    Calls Tryz.prog 59 #[.pointer (some ⟨g, 0, none⟩)] w fun e w' => e = .returned (.tuple #[]) ∧ w' = w.setCell ⟨g, 0, none⟩ (.pointer (some ⟨g, 0, none⟩)) := by
  obtain ⟨j, hj, hjs⟩ := Option.map_eq_some_iff.1 infB
  have hneq := fun W : World => Lib.run_neq_ptr_same W ⟨g, 0, none⟩ typB hj
  go_enter Tryz.func59, Tryz.ntmps59
  go_wp2
  rw [Lib.run_to_unsafe w ⟨g, 0, none⟩ typB typU hj (by rw [hjs]; decide) hsh (show (0 : Nat) < 2 by decide)]
  simp only [Result.andThen]
  rw [Oper.upon_value]
  go_wp2
  rw [run_callFunc_extern Tryz.func83 (by kernel_rfl) (by kernel_rfl) (by kernel_rfl) (e := Extern.AbiNoEscape.same) (by kernel_rfl)]
  rw [Lib.run_noEscape]
  simp only [Result.andThen]
  rw [Oper.upon_value]
  go_wp2
  rw [Lib.run_from_unsafe w ⟨g, 0, none⟩ typU typB hj hsh liesB]
  simp only [Result.andThen]
  rw [Oper.upon_value]
  go_wp2
  go_end0
  exact ⟨rfl, rfl⟩

theorem ccheck_any (B g : Nat)  (bs : List Value) (w : World) (h : PrS w B g bs) :
    Calls Tryz.prog 59 #[.pointer (some ⟨g, 0, none⟩)] w fun e w' => e = .returned (.tuple #[]) ∧ PrP w' B g (.pointer (some ⟨g, 0, none⟩)) bs ∧ Below B w w' ∧ PrK w w' g ∧ w'.heap.size = w.heap.size := by
  rcases h with h | h
  · obtain ⟨c2, f2, _, hsh, _⟩ := h.cells
    refine (ccheck_fresh g w c2 hsh f2).mono ?_
    rintro e w' ⟨rfl, rfl⟩
    exact ⟨rfl, h.used _, (Below.refl B w).setCell (p := ⟨g, 0, none⟩) h.base _, (PrK.refl w g).setCell 0 _, by simp⟩
  · obtain ⟨c2, _⟩ := h.cells
    refine (ccheck_used g w c2).mono ?_
    rintro e w' ⟨rfl, rfl⟩
    exact ⟨rfl, h, Below.refl B _, PrK.refl _ _, rfl⟩

theorem infU8 : (Tryz.prog.info? 5).map (fun i => (i.zero, i.size, i.bytes)) = some (some (.int .u8 0), 1, 1) := by kernel_rfl

set_option maxHeartbeats 2000000 in
set_option maxRecDepth 100000 in
theorem wstr_any (B g : Nat)  (bs : List Value) (s : ByteArray) (w : World) (h : PrS w B g bs) (hlen : bs.length + s.size ≤ 140737488355328) (hBw : B ≤ w.heap.size) :
    Calls Tryz.prog 34 #[.pointer (some ⟨g, 0, none⟩), .string s] w fun e w' => e = .returned (.tuple #[.int .i64 s.size, .nilIface]) ∧ PrS w' B g (bs ++ Lib.strCells s) ∧ Below B w w' ∧ PrK w w' g ∧ w.heap.size ≤ w'.heap.size := by
  obtain ⟨i0, hi, hz0, hz1, hz2⟩ := info_parts infU8
  go_enter Tryz.func34, Tryz.ntmps34
  go_wp2_with (go_at_call 59; refine (ccheck_any B g bs _ h).mono ?_)
  rintro e w1 ⟨rfl, h1, hb1, hk1, hs1⟩
  obtain ⟨c2, f2, f3, hsh, hlt⟩ := h1.cells
  obtain ⟨hB, v, hbk, hown, hne⟩ := h1
  have c3 : w1.cell? ⟨g, 1, none⟩ = some v := by rw [cell_of_row _ _ 1 _ _ _ hbk]; rfl
  go_wp2_with (at_builtin; refine Lib.wpList_append_own_string _ rfl _ _ 22 9 rfl B 5 i0 Tryz.underlying22 Tryz.underlying9 hi hz0 hz1 hz2 _ _ _ rfl hown s rfl ?c3 ?c4 ?c5 ?_)
  case c3 => unfold maxLen; omega
  case c4 => omega
  case c5 => omega
  intro v' w2 hown' hgrow _
  have hb2 : w2.heap[g]? = some (.cells #[.pointer (some ⟨g, 0, none⟩), v] 55 (0, 0)) := by
    rw [hgrow.block g hlt (fun e => hne e.symm)]
    exact hbk
  have d2 : w2.cell? ⟨g, 0, none⟩ = some (.pointer (some ⟨g, 0, none⟩)) := by rw [cell_of_row _ _ 0 _ _ _ hb2]; rfl
  have d3 : w2.cell? ⟨g, 1, none⟩ = some v := by rw [cell_of_row _ _ 1 _ _ _ hb2]; rfl
  have e3 : w2.frozen? ⟨g, 1, none⟩ = false := frozen_of_row _ _ 1 _ _ hb2
  have hk2 := (hk1.grown hown hgrow).setCell 1 v'
  have hpp := PrP.put (p := .pointer (some ⟨g, 0, none⟩)) hB hb2 (bs' := bs ++ Lib.strCells s) (by simpa [Lib.strCells_length] using hown')
  have hbb := (hb1.grown hgrow (by omega) (fun k hk => (hown.lt k hk).1)).setCell (p := ⟨g, 1, none⟩) hB v'
  have hsz := hgrow.size
  clear hgrow hown hbk hb2
  obtain ⟨ao, n', cap, rfl⟩ : ∃ ao n' cap, v' = .slice ao n' cap := by
    rcases hown'.2 with ⟨hv, _⟩ | ⟨g, cap, cur, hv, _⟩
    · exact ⟨_, _, _, hv⟩
    · exact ⟨_, _, _, hv⟩
  clear hown'
  go_wp2
  go_ret2
  exact ⟨rfl, .inr hpp, hbb, hk2, by simp; omega⟩

set_option maxHeartbeats 2000000 in
set_option maxRecDepth 100000 in
theorem wbyte_any (B g : Nat) (bs : List Value) (c : Int) (w : World) (h : PrS w B g bs) (hlen : bs.length + 1 ≤ 140737488355328) (hBw : B ≤ w.heap.size) :
    Calls Tryz.prog 33 #[.pointer (some ⟨g, 0, none⟩), .int .u8 c] w fun e w' => e = .returned .nilIface ∧ PrS w' B g (bs ++ [.int .u8 c]) ∧ Below B w w' ∧ PrK w w' g ∧ w.heap.size ≤ w'.heap.size := by
  obtain ⟨i0, hi, hz0, hz1, hz2⟩ := info_parts infU8
  go_enter Tryz.func33, Tryz.ntmps33
  go_wp2_with (go_at_call 59; refine (ccheck_any B g bs _ h).mono ?_)
  rintro e w1 ⟨rfl, h1, hb1, hk1, hs1⟩
  obtain ⟨c2, f2, f3, hsh, hlt⟩ := h1.cells
  obtain ⟨hB, v, hbk, hown, hne⟩ := h1
  have c3 : w1.cell? ⟨g, 1, none⟩ = some v := by rw [cell_of_row _ _ 1 _ _ _ hbk]; rfl
  obtain ⟨A, cv, ev, hcv, _⟩ := own_form hown
  subst ev
  have hwb : B ≤ w1.heap.size := by omega
  have hlt1 : g < (w1.alloc (.cells #[.int .u8 c] 5)).heap.size := by simp; omega
  have hk1' := hk1.alloc (.cells #[.int .u8 c] 5)
  have hb1' := hb1.alloc hwb (.cells #[.int .u8 c] 5)
  have hbk1 : (w1.alloc (.cells #[.int .u8 c] 5)).heap[g]? = _ := (((Below.refl w1.heap.size w1).alloc (Nat.le_refl _) (.cells #[.int .u8 c] 5)).block g hlt).trans hbk
  have hown1 := hown.alloc (.cells #[.int .u8 c] 5)
  have hsz1 : w.heap.size ≤ (w1.alloc (.cells #[.int .u8 c] 5)).heap.size := by simp; omega
  have hw1 : w.heap.size ≤ w1.heap.size := by omega
  clear hs1 hsz1
  go_wp2_with (at_builtin; refine wpList_append_lies _ rfl _ _ _ rfl B 5 i0 _ 1 1 Tryz.underlying22 hi hz0 hz1 hz2 rfl (by omega) (.slice A bs.length cv) bs.length bs rfl hown1 _ _ _ [.int .u8 c] rfl rfl (World.news_of_block (heap_alloc_new _ _)) (by simp [Value.oneCell']) (by omega) (by simp only [maxLen]; omega) (by omega) (by simp; omega) _ rfl ?_)
  intro gn cap w2 hown' hgrow _ _
  have hb2 : w2.heap[g]? = some (.cells #[.pointer (some ⟨g, 0, none⟩), .slice A bs.length cv] 55 (0, 0)) := by
    rw [hgrow.block g hlt1 (fun e => hne e.symm)]
    exact hbk1
  have d2 : w2.cell? ⟨g, 0, none⟩ = some (.pointer (some ⟨g, 0, none⟩)) := by rw [cell_of_row _ _ 0 _ _ _ hb2]; rfl
  have d3 : w2.cell? ⟨g, 1, none⟩ = some (.slice A bs.length cv) := by rw [cell_of_row _ _ 1 _ _ _ hb2]; rfl
  have e3 : w2.frozen? ⟨g, 1, none⟩ = false := frozen_of_row _ _ 1 _ _ hb2
  have hk2 := (hk1'.grown hown1 hgrow).setCell 1 (.slice (some ⟨gn, 0, none⟩) (bs.length + 1) cap)
  have hpp := PrP.put (p := .pointer (some ⟨g, 0, none⟩)) hB hb2 (bs' := bs ++ [.int .u8 c]) (by simpa using hown')
  have hbb := (hb1'.grown hgrow (by simp; omega) (fun k hk => (hown1.lt k hk).1)).setCell (p := ⟨g, 1, none⟩) hB (.slice (some ⟨gn, 0, none⟩) (bs.length + 1) cap)
  have hsz := hgrow.size
  rw [World.size_alloc] at hsz
  clear hgrow hown hbk hb2 hown' hown1 hbk1
  go_wp2
  go_ret
  exact ⟨rfl, .inr hpp, hbb, hk2, by simp; omega⟩

theorem typBp : Tryz.prog.underlying 110 = some (.pointer 5) := by kernel_rfl
theorem cellsU8 : Tryz.prog.cellsOf 5 = 1 := by kernel_rfl

set_option maxHeartbeats 2000000 in
set_option maxRecDepth 100000 in
theorem bstring_any (B g : Nat) (l : List UInt8) (w : World) (h : PrS w B g (bc l)) (h0 : l ≠ []) :
    Calls Tryz.prog 36 #[.pointer (some ⟨g, 0, none⟩)] w fun e w' => e = .returned (.string ⟨l.toArray⟩) ∧ Below B w w' := by
  obtain ⟨p, hB, v, hbk, hown, hne⟩ : ∃ p, PrP w B g p (bc l) := by
    rcases h with h | h
    · exact ⟨_, h⟩
    · exact ⟨_, h⟩
  have hl0 : l.length ≠ 0 := by simpa using h0
  rw [bc_len] at hown
  obtain ⟨q, cap, cur, rfl, hbg, hg, hnc, hcm, hcs, htake⟩ : ∃ q cap cur, v = .slice (some ⟨q, 0, none⟩) l.length cap ∧ B ≤ q ∧ w.heap[q]? = some (.cells cur 5 (0, 0)) ∧ l.length ≤ cap ∧ cap ≤ maxLen ∧ cur.size = cap * 1 ∧ cur.toList.take (l.length * 1) = bc l := by
    rcases hown.2 with ⟨_, hz⟩ | ⟨q, cap, cur, hv, r⟩
    · exact absurd hz hl0
    · exact ⟨q, cap, cur, hv, r⟩
  have c1 : w.drew.cell? ⟨g, 1, none⟩ = some (.slice (some ⟨q, 0, none⟩) l.length cap) := by
    have : w.drew.heap[g]? = some (.cells #[p, .slice (some ⟨q, 0, none⟩) l.length cap] 55 (0, 0)) := hbk
    rw [cell_of_row _ _ 1 _ _ _ this]; rfl
  have hSD : (Builtin.unsafeSliceData_ #[22] 110 #[.slice (some ⟨q, 0, none⟩) l.length cap]).run Tryz.prog w.drew = .ok (.pointer (some ⟨q, 0, none⟩)) w.drew :=
    Lib.run_unsafeSliceData_row _ _ _ _ _ _ (by omega)
  have hUS : (Builtin.unsafeString_ #[110, 3] 9 #[.pointer (some ⟨q, 0, none⟩), .int .i64 l.length]).run Tryz.prog w.drew = .ok (.string ⟨l.toArray⟩) (w.drew.freeze ⟨q, 0, none⟩ l.length) := by
    refine Lib.run_unsafeString_row w.drew 110 3 9 5 typBp cellsU8 q cur.size (by have hg' : w.drew.heap[q]? = some (.cells cur 5 (0, 0)) := hg; simp [World.shape?, hg']) l h0 (by omega) (by unfold maxLen at hcm; omega) ?_
    intro j x hx
    exact hown.cells (g := q) rfl j (.int .u8 x.toNat) (by simp [bc, hx])
  clear hown h
  go_enter Tryz.func36, Tryz.ntmps36
  go_wp2
  go_region
  all_goals (go_wp2; go_ret; exact ⟨rfl, Lib.below_freeze (Below.drew (Below.refl B w)) (p := ⟨q, 0, none⟩) hbg _⟩)


end Go.Proofs.YtfkljlncnfeklaaGreatDoor

/-! A range of bytes as a string. -/
namespace Go.Proofs.YtfkljlncnfeklaaGreatDoor
open Go.RowKit Go.Shelf
set_option linter.unusedVariables false
set_option linter.unusedSimpArgs false
attribute [local go_sem ↓] Go.wp_at_zero Go.wp_at_succ

def chS (b : Nat) : ByteArray := ⟨(chB b).toArray⟩
theorem chS_size (b : Nat) : (chS b).size ≤ 4 := by
  show (chB b).toArray.size ≤ 4
  unfold chB
  split <;> simp
theorem chr_any (b : Nat) (w : World) (hb : b < 256) : Calls Tryz.prog 60 #[.int .i64 (b : Int)] w fun e w' => e = .returned (.string (chS b)) ∧ ∃ n, w' = w.drewN n :=
  (character_any b w hb).mono fun e w' ⟨r, he, hr, hn⟩ => ⟨by rw [he]; congr 2; unfold chS; rw [← hr], hn⟩
def rgS (lo hi : Nat) : ByteArray := if lo = hi then chS lo else ByteArray.mk #[91] ++ chS lo ++ ByteArray.mk #[45] ++ chS hi ++ ByteArray.mk #[93]
theorem rgS_txt (lo hi least : Nat) : (rgS lo hi).data.toList = (Rx.rng lo hi).txt least := by
  unfold rgS
  split
  · next h => subst h; rw [txt_one]; simp [chS]
  · next h => rw [txt_rng h]; simp [chS, ByteArray.append, ByteArray.data_append]
theorem rgS_size (lo hi : Nat) : (rgS lo hi).size ≤ 11 := by
  have h1 := chS_size lo
  have h2 := chS_size hi
  unfold rgS
  split
  · omega
  · simp [ByteArray.size_append]
    show _ ≤ _
    have e1 : (ByteArray.mk #[91]).size = 1 := rfl
    have e2 : (ByteArray.mk #[45]).size = 1 := rfl
    have e3 : (ByteArray.mk #[93]).size = 1 := rfl
    omega
theorem rt_cells (w : World) (k lo hi a b : Int) : (w.alloc (.cells #[.int .i64 k, .int .i64 lo, .int .i64 hi, .int .i64 a, .int .i64 b] 42)).cell? ⟨w.heap.size, 1, none⟩ = some (.int .i64 lo) ∧ (w.alloc (.cells #[.int .i64 k, .int .i64 lo, .int .i64 hi, .int .i64 a, .int .i64 b] 42)).cell? ⟨w.heap.size, 2, none⟩ = some (.int .i64 hi) :=
  ⟨by rw [cell_of_row _ _ 1 _ _ _ (heap_alloc_new w _)]; rfl, by rw [cell_of_row _ _ 2 _ _ _ (heap_alloc_new w _)]; rfl⟩
set_option maxRecDepth 100000 in
set_option maxHeartbeats 1000000 in
theorem rtext_any (lo hi : Nat) (k a b : Int) (w : World) (h1 : lo < 256) (h2 : hi < 256) : Calls Tryz.prog 35 #[.agg #[.int .i64 k, .int .i64 (lo : Int), .int .i64 (hi : Int), .int .i64 a, .int .i64 b]] w fun e w' => e = .returned (.string (rgS lo hi)) ∧ Below w.heap.size w w' := by
  have hb := (Below.refl w.heap.size w).alloc (Nat.le_refl _) (.cells #[.int .i64 k, .int .i64 (lo : Int), .int .i64 (hi : Int), .int .i64 a, .int .i64 b] 42)
  by_cases h : lo = hi
  · subst h
    have hr : rgS lo lo = chS lo := if_pos rfl
    rw [hr]
    clear hr
    go_enter Tryz.func35, Tryz.ntmps35
    go_upto_region 2 with fail
    obtain ⟨c1, c2⟩ := rt_cells w k (lo : Int) (lo : Int) a b
    generalize World.alloc w _ = w1 at *
    go_wp2_with (go_at_call 60; refine (chr_any lo _ h1).mono ?_; rintro e w2 ⟨rfl, n, rfl⟩)
    go_ret
    exact ⟨rfl, below_drewN hb n⟩
  · have hr : rgS lo hi = ByteArray.mk #[91] ++ chS lo ++ ByteArray.mk #[45] ++ chS hi ++ ByteArray.mk #[93] := if_neg h
    have z1 := chS_size lo
    have z2 := chS_size hi
    have hn : ¬ (lo : Int) = (hi : Int) := by omega
    rw [hr]
    clear hr
    go_enter Tryz.func35, Tryz.ntmps35
    go_upto_region 3 with fail
    obtain ⟨c1, c2⟩ := rt_cells w k (lo : Int) (hi : Int) a b
    generalize World.alloc w _ = w1 at *
    have H1 := fun W => chr_any lo W h1
    have H2 := fun W => chr_any hi W h2
    generalize hC1 : chS lo = C1 at *
    generalize hC2 : chS hi = C2 at *
    have HC1 := Lib.hid hC1
    have HC2 := Lib.hid hC2
    clear hC1 hC2
    go_region_with (first
      | (go_at_call 60; with_reducible refine (H1 _).mono ?_; rintro e w2 ⟨rfl, n, rfl⟩)
      | (go_at_call 60; with_reducible refine (H2 _).mono ?_; rintro e w2 ⟨rfl, n, rfl⟩))
    all_goals
      go_wp2
      go_ret
      exact ⟨by rw [HC1.out, HC2.out]; rfl, below_drewN hb _⟩

end Go.Proofs.YtfkljlncnfeklaaGreatDoor

/-! Print's walk over the nodes: Print$1. -/
namespace Go.Proofs.YtfkljlncnfeklaaGreatDoor
open Go.RowKit Go.Shelf
set_option linter.unusedVariables false
set_option linter.unusedSimpArgs false
attribute [local go_sem ↓] Go.wp_at_zero Go.wp_at_succ

/-- what stays around the writing, and what it has written -/
structure PwE (W : World) (B Pb Tb Wb m c : Nat) (A : Option Addr) (l : List Pn) (bs : List UInt8) : Prop where
  bp : Bx W Pb #[.slice A m c] 25
  bw : Bx W Wb #[.func (.func 31) #[] #[.pointer (some ⟨Pb, 0, none⟩), .pointer (some ⟨Tb, 0, none⟩), .pointer (some ⟨Wb, 0, none⟩)]] 56
  nd : Rp W B A l
  lm : l.length = m
  pr : PrS W B Tb (bc bs)
theorem PrS.bx {W : World} {B g : Nat} {bs : List Value} (h : PrS W B g bs) : ∃ cs, Bx W g cs 55 := by
  rcases h with h | h
  · obtain ⟨_, v, hb, _⟩ := h; exact ⟨_, hb⟩
  · obtain ⟨_, v, hb, _⟩ := h; exact ⟨_, hb⟩
theorem PrP.later {w w' : World} {B g : Nat} {p : Value} {bs : List Value} (h : PrP w B g p bs) (hb : Below w.heap.size w w') : PrP w' B g p bs := by
  have hg := h.cells.2.2.2.2
  obtain ⟨hB, v, hk, hown, hne⟩ := h
  exact ⟨hB, v, (hb.block g hg).trans hk, hown.kept (row := none) ⟨hb.os, hb.tape, hb.output, hb.size, fun k hk _ => hb.block k hk⟩ (by rcases h0 : v.ownBlock with _ | _ <;> simp), hne⟩
theorem PrS.later {w w' : World} {B g : Nat} {bs : List Value} (h : PrS w B g bs) (hb : Below w.heap.size w w') : PrS w' B g bs := h.imp (fun h => h.later hb) (fun h => h.later hb)
theorem PrS.base {W : World} {B g : Nat} {bs : List Value} (h : PrS W B g bs) : B ≤ g := by
  rcases h with h | h
  · exact h.1
  · exact h.1
theorem PrK.bx {W W' : World} {g k T : Nat} {cs : Array Value} (hk : PrK W W' g) (h : Bx W k cs T) (hg : k ≠ g) (hT : T ≠ 5) : Bx W' k cs T :=
  hk k _ h hg (fun c fz e => by injection e with _ e2; exact hT e2)
section
variable {W W' : World} {B Pb Tb Wb m c : Nat} {A : Option Addr} {l : List Pn} {bs bs' : List UInt8}
theorem PwE.np (h : PwE W B Pb Tb Wb m c A l bs) : Pb ≠ Tb := by
  obtain ⟨cs, hx⟩ := h.pr.bx
  exact bx_ne h.bp hx (by decide)
theorem PwE.nw (h : PwE W B Pb Tb Wb m c A l bs) : Wb ≠ Tb := by
  obtain ⟨cs, hx⟩ := h.pr.bx
  exact bx_ne h.bw hx (by decide)
theorem PwE.step (h : PwE W B Pb Tb Wb m c A l bs) (hb : Below B W W') (hk : PrK W W' Tb) (hp : PrS W' B Tb (bc bs')) : PwE W' B Pb Tb Wb m c A l bs' :=
  ⟨hk.bx h.bp h.np (by decide), hk.bx h.bw h.nw (by decide), h.nd.below hb, h.lm, hp⟩
end
/-- while a node is written: its own variable in block nb -/
structure PwN (w0 W : World) (B Pb Tb Wb m c : Nat) (A : Option Addr) (l : List Pn) (nb : Nat) (cs : Array Value) (bs : List UInt8) : Prop where
  e : PwE W B Pb Tb Wb m c A l bs
  bn : Bx W nb cs 42
  bel : Below B w0 W
  kp : PrK w0 W Tb
  hB : B ≤ W.heap.size
section
variable {w0 W W' : World} {B Pb Tb Wb m c nb : Nat} {A : Option Addr} {l : List Pn} {cs : Array Value} {bs bs' : List UInt8}
theorem PwN.step (h : PwN w0 W B Pb Tb Wb m c A l nb cs bs) (hb : Below B W W') (hk : PrK W W' Tb) (hp : PrS W' B Tb (bc bs')) : PwN w0 W' B Pb Tb Wb m c A l nb cs bs' := by
  obtain ⟨_, hx⟩ := h.e.pr.bx
  exact ⟨h.e.step hb hk hp, hk.bx h.bn (bx_ne h.bn hx (by decide)) (by decide), h.bel.trans hb, h.kp.trans hk, Nat.le_trans h.hB hb.size⟩
theorem PwN.byte (h : PwN w0 W B Pb Tb Wb m c A l nb cs bs) (z : Int) (b : UInt8) (hz : z = (b.toNat : Int)) (hl : bs.length + 1 ≤ 140737488355328) :
    Calls Tryz.prog 33 #[.pointer (some ⟨Tb, 0, none⟩), .int .u8 z] W fun e w' => e = .returned .nilIface ∧ PwN w0 w' B Pb Tb Wb m c A l nb cs (bs ++ [b]) :=
  hz ▸ (wbyte_any B Tb (bc bs) (b.toNat : Int) W h.e.pr (by rw [bc_len]; exact hl) h.hB).mono fun e w' ⟨he, hp, hb, hk, _⟩ => ⟨he, h.step hb hk (by rw [bc_app]; exact hp)⟩
theorem PwN.str (h : PwN w0 W B Pb Tb Wb m c A l nb cs bs) (s : ByteArray) (hl : bs.length + s.size ≤ 140737488355328) :
    Calls Tryz.prog 34 #[.pointer (some ⟨Tb, 0, none⟩), .string s] W fun e w' => e = .returned (.tuple #[.int .i64 s.size, .nilIface]) ∧ PwN w0 w' B Pb Tb Wb m c A l nb cs (bs ++ s.data.toList) :=
  (wstr_any B Tb (bc bs) s W h.e.pr (by rw [bc_len]; exact hl) h.hB).mono fun e w' ⟨he, hp, hb, hk, _⟩ => ⟨he, h.step hb hk (by rw [bc_app]; exact hp)⟩
theorem PwN.later (h : PwN w0 W B Pb Tb Wb m c A l nb cs bs) (hb : Below W.heap.size W W') (hk : PrK W W' Tb) (hp : PrS W' B Tb (bc bs)) : PwN w0 W' B Pb Tb Wb m c A l nb cs bs := h.step (hb.mono h.hB) hk hp
end
/-- what the writing of node k does -/
def WpC (B Pb Tb Wb m c : Nat) (A : Option Addr) (l : List Pn) (k : Nat) : Prop := ∀ (w : World) (least : Nat) (bs : List UInt8), PwE w B Pb Tb Wb m c A l bs → B ≤ w.heap.size → 1 ≤ least → least ≤ 3 → bs.length + ((rxN l k).txt least).length ≤ 140737488355328 →
  Calls Tryz.prog 31 #[.int .i64 (k : Int), .int .i64 (least : Int), .pointer (some ⟨Pb, 0, none⟩), .pointer (some ⟨Tb, 0, none⟩), .pointer (some ⟨Wb, 0, none⟩)] w fun e w' => e = .returned (.tuple #[]) ∧ PrS w' B Tb (bc (bs ++ (rxN l k).txt least)) ∧ Below B w w' ∧ PrK w w' Tb
theorem PwN.call {w0 W : World} {B Pb Tb Wb m c nb k : Nat} {A : Option Addr} {l : List Pn} {cs : Array Value} {bs : List UInt8} (I : WpC B Pb Tb Wb m c A l k) (h : PwN w0 W B Pb Tb Wb m c A l nb cs bs) (z : Int) (least : Nat) (hz : z = (least : Int)) (h1 : 1 ≤ least) (h3 : least ≤ 3) (hl : bs.length + ((rxN l k).txt least).length ≤ 140737488355328) :
    Calls Tryz.prog 31 #[.int .i64 (k : Int), .int .i64 z, .pointer (some ⟨Pb, 0, none⟩), .pointer (some ⟨Tb, 0, none⟩), .pointer (some ⟨Wb, 0, none⟩)] W fun e w' => e = .returned (.tuple #[]) ∧ PwN w0 w' B Pb Tb Wb m c A l nb cs (bs ++ (rxN l k).txt least) :=
  hz ▸ (I W least bs h.e h.hB h1 h3 hl).mono fun e w' ⟨he, hp, hb, hk⟩ => ⟨he, h.step hb hk hp⟩
theorem pw_start {w : World} {B Pb Tb Wb m c : Nat} {A : Option Addr} {l : List Pn} {bs : List UInt8} (h : PwE w B Pb Tb Wb m c A l bs) (hB : B ≤ w.heap.size) (cs : Array Value) : ∀ W, w.alloc (.cells cs 42) = W → PwN w W B Pb Tb Wb m c A l w.heap.size cs bs := by
  rintro W rfl
  have hb : Below B w (w.alloc (.cells cs 42)) := (Below.refl _ _).alloc hB _
  have hk : PrK w (w.alloc (.cells cs 42)) Tb := (PrK.refl _ _).alloc _
  exact ⟨h.step hb hk (h.pr.later ((Below.refl _ _).alloc (Nat.le_refl _) _)), bx_new rfl _ _, hb, hk, by simp; omega⟩

theorem pw_cells {w0 W : World} {B Pb Tb Wb m c nb : Nat} {A : Option Addr} {l : List Pn} {a0 a1 a2 a3 a4 : Value} {bs : List UInt8} (h : PwN w0 W B Pb Tb Wb m c A l nb #[a0, a1, a2, a3, a4] bs) :
    W.cell? ⟨nb, 0, none⟩ = some a0 ∧ W.cell? ⟨nb, 3, none⟩ = some a3 ∧ W.cell? ⟨nb, 4, none⟩ = some a4 ∧ W.cell? ⟨Wb, 0, none⟩ = some (.func (.func 31) #[] #[.pointer (some ⟨Pb, 0, none⟩), .pointer (some ⟨Tb, 0, none⟩), .pointer (some ⟨Wb, 0, none⟩)]) ∧ (W.cell? ⟨nb, 1, none⟩ = some a1 ∧ W.cell? ⟨nb, 2, none⟩ = some a2) :=
  ⟨h.bn.cell 0, h.bn.cell 3, h.bn.cell 4, h.e.bw.cell 0, h.bn.cell 1, h.bn.cell 2⟩
theorem PwN.after {w0 W W' : World} {B Pb Tb Wb m c nb : Nat} {A : Option Addr} {l : List Pn} {cs : Array Value} {bs : List UInt8} (h : PwN w0 W B Pb Tb Wb m c A l nb cs bs) (hb : Below W.heap.size W W') : PwN w0 W' B Pb Tb Wb m c A l nb cs bs :=
  h.step (hb.mono h.hB) (fun k o hk _ _ => (hb.block k (Array.getElem?_eq_some_iff.1 hk).1).trans hk) (h.e.pr.later hb)
theorem rng_parts {l : List Pn} {k : Nat} (h : okP l) (hk : k < l.length) (c : pk l k = 1) : 0 ≤ plo l k ∧ plo l k ≤ phi l k ∧ phi l k ≤ 255 := by
  have h2 := h.2 k hk
  unfold rgP at h2
  simp at h2
  obtain ⟨⟨⟨_, h3⟩, h4⟩, h5⟩ := h2
  exact ⟨h3, h4, h5⟩

end Go.Proofs.YtfkljlncnfeklaaGreatDoor

/-! Print's walk at a node of each kind. (Written by wpgen.py.) -/
namespace Go.Proofs.YtfkljlncnfeklaaGreatDoor
open Go.RowKit Go.Shelf
set_option linter.unusedVariables false
set_option linter.unusedSimpArgs false
attribute [local go_sem ↓] Go.wp_at_zero Go.wp_at_succ

set_option maxHeartbeats 4000000 in
set_option maxRecDepth 100000 in
theorem wp_emp (B Pb Tb Wb m c k : Nat) (A : Option Addr) (l : List Pn) (h : okP l) (hk : k < l.length) (c1 : pk l k = 0) (w : World) (least : Nat) (bs : List UInt8) (hE : PwE w B Pb Tb Wb m c A l bs) (hB : B ≤ w.heap.size) (h1 : 1 ≤ least) (h3 : least ≤ 3) (hlen : bs.length + ((rxN l k).txt least).length ≤ 140737488355328) :
    Calls Tryz.prog 31 #[.int .i64 (k : Int), .int .i64 (least : Int), .pointer (some ⟨Pb, 0, none⟩), .pointer (some ⟨Tb, 0, none⟩), .pointer (some ⟨Wb, 0, none⟩)] w fun e w' => e = .returned (.tuple #[]) ∧ PrS w' B Tb (bc (bs ++ (rxN l k).txt least)) ∧ Below B w w' ∧ PrK w w' Tb := by
  rw [rxN_0 c1, txt_emp] at hlen ⊢
  obtain ⟨b, o, eA, hb, hc⟩ := hE.nd (by omega)
  subst eA
  obtain ⟨d0, d1, d2, d3, d4⟩ := hc k hk
  rw [c1] at d0
  have x0 := hE.bp.cell 0
  simp at x0
  have hlm := hE.lm
  have i1 : (0 : Int) ≤ (k : Int) := by omega
  have i2 : (k : Int) < (m : Int) := by omega
  have i3 : ¬ (4 : Int) < (least : Int) := by omega
  simp only [List.length_append, List.length_cons, List.length_nil] at hlen
  have Z0 : Hid ((bs).length + 1 ≤ 140737488355328) := Lib.hid (by (try simp only [List.length_append, List.length_cons, List.length_nil]); omega)
  have Z1 : Hid ((bs ++ [40]).length + 1 ≤ 140737488355328) := Lib.hid (by (try simp only [List.length_append, List.length_cons, List.length_nil]); omega)
  have P0 := pw_start hE hB #[.int .i64 0, .int .i64 (plo l k), .int .i64 (phi l k), .int .i64 (pa l k), .int .i64 (pb l k)]
  clear hc hE hlen h
  go_enter Tryz.func31, Tryz.ntmps31
  go_upto_region 1 with fail
  generalize hwa : World.alloc w _ = wa
  have H := P0 _ hwa
  clear hwa P0 d0 d1 d2 d3 d4 x0
  obtain ⟨y0, y3, y4, yw, yn⟩ := pw_cells H
  replace H := Lib.hid H
  go_wp2_with (first
    | (go_at_call 32; with_reducible refine (pstrength_any _ _).mono ?_; rintro e w2 ⟨he, rfl⟩; rw [show sgP 0 = 4 from rfl] at he; subst he)
    | (go_at_call 33; with_reducible refine (H.out.byte _ 40 (by decide) Z0.out).mono ?_; rintro e w2 ⟨rfl, h2⟩; replace H := Lib.hid h2; obtain ⟨y0, y3, y4, yw, yn⟩ := pw_cells H.out; clear h2)
    | (go_at_call 33; with_reducible refine (H.out.byte _ 41 (by decide) Z1.out).mono ?_; rintro e w2 ⟨rfl, h2⟩; replace H := Lib.hid h2; obtain ⟨y0, y3, y4, yw, yn⟩ := pw_cells H.out; clear h2))
  go_end0
  exact ⟨rfl, by simpa only [List.append_assoc, List.cons_append, List.nil_append] using H.out.e.pr, H.out.bel, H.out.kp⟩

set_option maxHeartbeats 4000000 in
set_option maxRecDepth 100000 in
theorem wp_rng (B Pb Tb Wb m c k : Nat) (A : Option Addr) (l : List Pn) (h : okP l) (hk : k < l.length) (c1 : pk l k = 1) (w : World) (least : Nat) (bs : List UInt8) (hE : PwE w B Pb Tb Wb m c A l bs) (hB : B ≤ w.heap.size) (h1 : 1 ≤ least) (h3 : least ≤ 3) (hlen : bs.length + ((rxN l k).txt least).length ≤ 140737488355328) :
    Calls Tryz.prog 31 #[.int .i64 (k : Int), .int .i64 (least : Int), .pointer (some ⟨Pb, 0, none⟩), .pointer (some ⟨Tb, 0, none⟩), .pointer (some ⟨Wb, 0, none⟩)] w fun e w' => e = .returned (.tuple #[]) ∧ PrS w' B Tb (bc (bs ++ (rxN l k).txt least)) ∧ Below B w w' ∧ PrK w w' Tb := by
  have N := h.nd hk
  obtain ⟨n1, n2, n3⟩ := rng_parts h hk c1
  clear N
  rw [rxN_1 c1] at hlen ⊢
  obtain ⟨b, o, eA, hb, hc⟩ := hE.nd (by omega)
  subst eA
  obtain ⟨d0, d1, d2, d3, d4⟩ := hc k hk
  rw [c1] at d0
  have x0 := hE.bp.cell 0
  simp at x0
  have hlm := hE.lm
  have i1 : (0 : Int) ≤ (k : Int) := by omega
  have i2 : (k : Int) < (m : Int) := by omega
  have i3 : ¬ (4 : Int) < (least : Int) := by omega
  obtain ⟨j, hj⟩ : ∃ j : Nat, plo l k = (j : Int) := ⟨(plo l k).toNat, by omega⟩
  obtain ⟨i, hi⟩ : ∃ i : Nat, phi l k = (i : Int) := ⟨(phi l k).toNat, by omega⟩
  rw [hj] at d1 n1 n2 hlen ⊢
  rw [hi] at d2 n2 n3 hlen ⊢
  rw [Int.toNat_natCast, Int.toNat_natCast] at hlen ⊢
  rw [← rgS_txt] at hlen ⊢
  have j1 : j < 256 := by omega
  have j2 : i < 256 := by omega
  have hsz : (rgS j i).data.toList.length = (rgS j i).size := by rw [Array.length_toList]; rfl
  rw [hsz] at hlen
  clear hj hi hsz
  have Z0 : Hid ((bs).length + (rgS j i).size ≤ 140737488355328) := Lib.hid hlen
  have P0 := pw_start hE hB #[.int .i64 1, .int .i64 ((j : Int)), .int .i64 ((i : Int)), .int .i64 (pa l k), .int .i64 (pb l k)]
  clear hc hE hlen h
  go_enter Tryz.func31, Tryz.ntmps31
  go_upto_region 1 with fail
  generalize hwa : World.alloc w _ = wa
  have H := P0 _ hwa
  clear hwa P0 d0 d1 d2 d3 d4 x0
  obtain ⟨y0, y3, y4, yw, yn⟩ := pw_cells H
  replace H := Lib.hid H
  go_wp2_with (first
    | (go_at_call 32; with_reducible refine (pstrength_any _ _).mono ?_; rintro e w2 ⟨he, rfl⟩; rw [show sgP 1 = 4 from rfl] at he; subst he)
    | (go_at_call 35; with_reducible refine (rtext_any j i _ _ _ _ j1 j2).mono ?_; rintro e w2 ⟨rfl, h2⟩; replace H := Lib.hid (H.out.after h2); obtain ⟨y0, y3, y4, yw, yn⟩ := pw_cells H.out; clear h2)
    | (go_at_call 34; with_reducible refine (H.out.str _ Z0.out).mono ?_; rintro e w2 ⟨rfl, h2⟩; replace H := Lib.hid h2; obtain ⟨y0, y3, y4, yw, yn⟩ := pw_cells H.out; clear h2))
  go_end0
  exact ⟨rfl, by simpa only [List.append_assoc, List.cons_append, List.nil_append] using H.out.e.pr, H.out.bel, H.out.kp⟩

set_option maxHeartbeats 4000000 in
set_option maxRecDepth 100000 in
theorem wp_seq (B Pb Tb Wb m c k : Nat) (A : Option Addr) (l : List Pn) (h : okP l) (hk : k < l.length) (c1 : pk l k = 2) (IA : WpC B Pb Tb Wb m c A l (pa l k).toNat) (IB : WpC B Pb Tb Wb m c A l (pb l k).toNat) (w : World) (least : Nat) (bs : List UInt8) (hE : PwE w B Pb Tb Wb m c A l bs) (hB : B ≤ w.heap.size) (h1 : 1 ≤ least) (h3 : least ≤ 3) (h2 : ¬ 2 < least) (hlen : bs.length + ((rxN l k).txt least).length ≤ 140737488355328) :
    Calls Tryz.prog 31 #[.int .i64 (k : Int), .int .i64 (least : Int), .pointer (some ⟨Pb, 0, none⟩), .pointer (some ⟨Tb, 0, none⟩), .pointer (some ⟨Wb, 0, none⟩)] w fun e w' => e = .returned (.tuple #[]) ∧ PrS w' B Tb (bc (bs ++ (rxN l k).txt least)) ∧ Below B w w' ∧ PrK w w' Tb := by
  rw [rxN_2 h hk c1, txt_seq, if_neg (by omega)] at hlen ⊢
  obtain ⟨b, o, eA, hb, hc⟩ := hE.nd (by omega)
  subst eA
  obtain ⟨d0, d1, d2, d3, d4⟩ := hc k hk
  rw [c1] at d0
  have x0 := hE.bp.cell 0
  simp at x0
  have hlm := hE.lm
  have i1 : (0 : Int) ≤ (k : Int) := by omega
  have i2 : (k : Int) < (m : Int) := by omega
  have i3 : ¬ (2 : Int) < (least : Int) := by omega
  have N := h.nd hk
  obtain ⟨a2, a3⟩ := N.a1 (by omega)
  obtain ⟨a4, a5⟩ := N.b1 (by omega)
  clear N
  obtain ⟨j, hj⟩ : ∃ j : Nat, pa l k = (j : Int) := ⟨(pa l k).toNat, by omega⟩
  rw [hj] at d3 IA hlen ⊢
  rw [Int.toNat_natCast] at IA hlen ⊢
  obtain ⟨i, hi⟩ : ∃ i : Nat, pb l k = (i : Int) := ⟨(pb l k).toNat, by omega⟩
  rw [hi] at d4 IB hlen ⊢
  rw [Int.toNat_natCast] at IB hlen ⊢
  have HIA := Lib.hid IA
  have HIB := Lib.hid IB
  clear IA IB a2 a3 a4 a5
  simp only [List.length_append, List.length_cons, List.length_nil] at hlen
  have Z0 : Hid ((bs).length + ((rxN l j).txt 2).length ≤ 140737488355328) := Lib.hid (by (try simp only [List.length_append, List.length_cons, List.length_nil]); omega)
  have Z1 : Hid ((bs ++ (rxN l j).txt 2).length + ((rxN l i).txt 3).length ≤ 140737488355328) := Lib.hid (by (try simp only [List.length_append, List.length_cons, List.length_nil]); omega)
  have P0 := pw_start hE hB #[.int .i64 2, .int .i64 (plo l k), .int .i64 (phi l k), .int .i64 ((j : Int)), .int .i64 ((i : Int))]
  clear hc hE hlen h
  go_enter Tryz.func31, Tryz.ntmps31
  go_upto_region 1 with fail
  generalize hwa : World.alloc w _ = wa
  have H := P0 _ hwa
  clear hwa P0 d0 d1 d2 d3 d4 x0
  obtain ⟨y0, y3, y4, yw, yn⟩ := pw_cells H
  replace H := Lib.hid H
  go_wp2_with (first
    | (go_at_call 32; with_reducible refine (pstrength_any _ _).mono ?_; rintro e w2 ⟨he, rfl⟩; rw [show sgP 2 = 2 from rfl] at he; subst he)
    | (go_at_call 31; with_reducible refine (PwN.call HIA.out H.out _ 2 (by decide) (by decide) (by decide) Z0.out).mono ?_; rintro e w2 ⟨rfl, h2⟩; replace H := Lib.hid h2; obtain ⟨y0, y3, y4, yw, yn⟩ := pw_cells H.out; clear h2)
    | (go_at_call 31; with_reducible refine (PwN.call HIB.out H.out _ 3 (by decide) (by decide) (by decide) Z1.out).mono ?_; rintro e w2 ⟨rfl, h2⟩; replace H := Lib.hid h2; obtain ⟨y0, y3, y4, yw, yn⟩ := pw_cells H.out; clear h2))
  go_end0
  exact ⟨rfl, by simpa only [List.append_assoc, List.cons_append, List.nil_append] using H.out.e.pr, H.out.bel, H.out.kp⟩

set_option maxHeartbeats 4000000 in
set_option maxRecDepth 100000 in
theorem wp_seqp (B Pb Tb Wb m c k : Nat) (A : Option Addr) (l : List Pn) (h : okP l) (hk : k < l.length) (c1 : pk l k = 2) (IA : WpC B Pb Tb Wb m c A l (pa l k).toNat) (IB : WpC B Pb Tb Wb m c A l (pb l k).toNat) (w : World) (least : Nat) (bs : List UInt8) (hE : PwE w B Pb Tb Wb m c A l bs) (hB : B ≤ w.heap.size) (h1 : 1 ≤ least) (h3 : least ≤ 3) (h2 : 2 < least) (hlen : bs.length + ((rxN l k).txt least).length ≤ 140737488355328) :
    Calls Tryz.prog 31 #[.int .i64 (k : Int), .int .i64 (least : Int), .pointer (some ⟨Pb, 0, none⟩), .pointer (some ⟨Tb, 0, none⟩), .pointer (some ⟨Wb, 0, none⟩)] w fun e w' => e = .returned (.tuple #[]) ∧ PrS w' B Tb (bc (bs ++ (rxN l k).txt least)) ∧ Below B w w' ∧ PrK w w' Tb := by
  rw [rxN_2 h hk c1, txt_seq, if_pos (by omega)] at hlen ⊢
  obtain ⟨b, o, eA, hb, hc⟩ := hE.nd (by omega)
  subst eA
  obtain ⟨d0, d1, d2, d3, d4⟩ := hc k hk
  rw [c1] at d0
  have x0 := hE.bp.cell 0
  simp at x0
  have hlm := hE.lm
  have i1 : (0 : Int) ≤ (k : Int) := by omega
  have i2 : (k : Int) < (m : Int) := by omega
  have i3 : (2 : Int) < (least : Int) := by omega
  have N := h.nd hk
  obtain ⟨a2, a3⟩ := N.a1 (by omega)
  obtain ⟨a4, a5⟩ := N.b1 (by omega)
  clear N
  obtain ⟨j, hj⟩ : ∃ j : Nat, pa l k = (j : Int) := ⟨(pa l k).toNat, by omega⟩
  rw [hj] at d3 IA hlen ⊢
  rw [Int.toNat_natCast] at IA hlen ⊢
  obtain ⟨i, hi⟩ : ∃ i : Nat, pb l k = (i : Int) := ⟨(pb l k).toNat, by omega⟩
  rw [hi] at d4 IB hlen ⊢
  rw [Int.toNat_natCast] at IB hlen ⊢
  have HIA := Lib.hid IA
  have HIB := Lib.hid IB
  clear IA IB a2 a3 a4 a5
  simp only [List.length_append, List.length_cons, List.length_nil] at hlen
  have Z0 : Hid ((bs).length + 1 ≤ 140737488355328) := Lib.hid (by (try simp only [List.length_append, List.length_cons, List.length_nil]); omega)
  have Z1 : Hid ((bs ++ [40]).length + ((rxN l j).txt 2).length ≤ 140737488355328) := Lib.hid (by (try simp only [List.length_append, List.length_cons, List.length_nil]); omega)
  have Z2 : Hid ((bs ++ [40] ++ (rxN l j).txt 2).length + ((rxN l i).txt 3).length ≤ 140737488355328) := Lib.hid (by (try simp only [List.length_append, List.length_cons, List.length_nil]); omega)
  have Z3 : Hid ((bs ++ [40] ++ (rxN l j).txt 2 ++ (rxN l i).txt 3).length + 1 ≤ 140737488355328) := Lib.hid (by (try simp only [List.length_append, List.length_cons, List.length_nil]); omega)
  have P0 := pw_start hE hB #[.int .i64 2, .int .i64 (plo l k), .int .i64 (phi l k), .int .i64 ((j : Int)), .int .i64 ((i : Int))]
  clear hc hE hlen h
  go_enter Tryz.func31, Tryz.ntmps31
  go_upto_region 1 with fail
  generalize hwa : World.alloc w _ = wa
  have H := P0 _ hwa
  clear hwa P0 d0 d1 d2 d3 d4 x0
  obtain ⟨y0, y3, y4, yw, yn⟩ := pw_cells H
  replace H := Lib.hid H
  go_wp2_with (first
    | (go_at_call 32; with_reducible refine (pstrength_any _ _).mono ?_; rintro e w2 ⟨he, rfl⟩; rw [show sgP 2 = 2 from rfl] at he; subst he)
    | (go_at_call 33; with_reducible refine (H.out.byte _ 40 (by decide) Z0.out).mono ?_; rintro e w2 ⟨rfl, h2⟩; replace H := Lib.hid h2; obtain ⟨y0, y3, y4, yw, yn⟩ := pw_cells H.out; clear h2)
    | (go_at_call 31; with_reducible refine (PwN.call HIA.out H.out _ 2 (by decide) (by decide) (by decide) Z1.out).mono ?_; rintro e w2 ⟨rfl, h2⟩; replace H := Lib.hid h2; obtain ⟨y0, y3, y4, yw, yn⟩ := pw_cells H.out; clear h2)
    | (go_at_call 31; with_reducible refine (PwN.call HIB.out H.out _ 3 (by decide) (by decide) (by decide) Z2.out).mono ?_; rintro e w2 ⟨rfl, h2⟩; replace H := Lib.hid h2; obtain ⟨y0, y3, y4, yw, yn⟩ := pw_cells H.out; clear h2)
    | (go_at_call 33; with_reducible refine (H.out.byte _ 41 (by decide) Z3.out).mono ?_; rintro e w2 ⟨rfl, h2⟩; replace H := Lib.hid h2; obtain ⟨y0, y3, y4, yw, yn⟩ := pw_cells H.out; clear h2))
  go_end0
  exact ⟨rfl, by simpa only [List.append_assoc, List.cons_append, List.nil_append] using H.out.e.pr, H.out.bel, H.out.kp⟩

set_option maxHeartbeats 4000000 in
set_option maxRecDepth 100000 in
theorem wp_alt (B Pb Tb Wb m c k : Nat) (A : Option Addr) (l : List Pn) (h : okP l) (hk : k < l.length) (c1 : pk l k = 3) (IA : WpC B Pb Tb Wb m c A l (pa l k).toNat) (IB : WpC B Pb Tb Wb m c A l (pb l k).toNat) (w : World) (least : Nat) (bs : List UInt8) (hE : PwE w B Pb Tb Wb m c A l bs) (hB : B ≤ w.heap.size) (h1 : 1 ≤ least) (h3 : least ≤ 3) (h2 : ¬ 1 < least) (hlen : bs.length + ((rxN l k).txt least).length ≤ 140737488355328) :
    Calls Tryz.prog 31 #[.int .i64 (k : Int), .int .i64 (least : Int), .pointer (some ⟨Pb, 0, none⟩), .pointer (some ⟨Tb, 0, none⟩), .pointer (some ⟨Wb, 0, none⟩)] w fun e w' => e = .returned (.tuple #[]) ∧ PrS w' B Tb (bc (bs ++ (rxN l k).txt least)) ∧ Below B w w' ∧ PrK w w' Tb := by
  rw [rxN_3 h hk c1, txt_alt, if_neg (by omega)] at hlen ⊢
  obtain ⟨b, o, eA, hb, hc⟩ := hE.nd (by omega)
  subst eA
  obtain ⟨d0, d1, d2, d3, d4⟩ := hc k hk
  rw [c1] at d0
  have x0 := hE.bp.cell 0
  simp at x0
  have hlm := hE.lm
  have i1 : (0 : Int) ≤ (k : Int) := by omega
  have i2 : (k : Int) < (m : Int) := by omega
  have i3 : ¬ (1 : Int) < (least : Int) := by omega
  have N := h.nd hk
  obtain ⟨a2, a3⟩ := N.a1 (by omega)
  obtain ⟨a4, a5⟩ := N.b1 (by omega)
  clear N
  obtain ⟨j, hj⟩ : ∃ j : Nat, pa l k = (j : Int) := ⟨(pa l k).toNat, by omega⟩
  rw [hj] at d3 IA hlen ⊢
  rw [Int.toNat_natCast] at IA hlen ⊢
  obtain ⟨i, hi⟩ : ∃ i : Nat, pb l k = (i : Int) := ⟨(pb l k).toNat, by omega⟩
  rw [hi] at d4 IB hlen ⊢
  rw [Int.toNat_natCast] at IB hlen ⊢
  have HIA := Lib.hid IA
  have HIB := Lib.hid IB
  clear IA IB a2 a3 a4 a5
  simp only [List.length_append, List.length_cons, List.length_nil] at hlen
  have Z0 : Hid ((bs).length + ((rxN l j).txt 1).length ≤ 140737488355328) := Lib.hid (by (try simp only [List.length_append, List.length_cons, List.length_nil]); omega)
  have Z1 : Hid ((bs ++ (rxN l j).txt 1).length + 1 ≤ 140737488355328) := Lib.hid (by (try simp only [List.length_append, List.length_cons, List.length_nil]); omega)
  have Z2 : Hid ((bs ++ (rxN l j).txt 1 ++ [124]).length + ((rxN l i).txt 2).length ≤ 140737488355328) := Lib.hid (by (try simp only [List.length_append, List.length_cons, List.length_nil]); omega)
  have P0 := pw_start hE hB #[.int .i64 3, .int .i64 (plo l k), .int .i64 (phi l k), .int .i64 ((j : Int)), .int .i64 ((i : Int))]
  clear hc hE hlen h
  go_enter Tryz.func31, Tryz.ntmps31
  go_upto_region 1 with fail
  generalize hwa : World.alloc w _ = wa
  have H := P0 _ hwa
  clear hwa P0 d0 d1 d2 d3 d4 x0
  obtain ⟨y0, y3, y4, yw, yn⟩ := pw_cells H
  replace H := Lib.hid H
  go_wp2_with (first
    | (go_at_call 32; with_reducible refine (pstrength_any _ _).mono ?_; rintro e w2 ⟨he, rfl⟩; rw [show sgP 3 = 1 from rfl] at he; subst he)
    | (go_at_call 31; with_reducible refine (PwN.call HIA.out H.out _ 1 (by decide) (by decide) (by decide) Z0.out).mono ?_; rintro e w2 ⟨rfl, h2⟩; replace H := Lib.hid h2; obtain ⟨y0, y3, y4, yw, yn⟩ := pw_cells H.out; clear h2)
    | (go_at_call 33; with_reducible refine (H.out.byte _ 124 (by decide) Z1.out).mono ?_; rintro e w2 ⟨rfl, h2⟩; replace H := Lib.hid h2; obtain ⟨y0, y3, y4, yw, yn⟩ := pw_cells H.out; clear h2)
    | (go_at_call 31; with_reducible refine (PwN.call HIB.out H.out _ 2 (by decide) (by decide) (by decide) Z2.out).mono ?_; rintro e w2 ⟨rfl, h2⟩; replace H := Lib.hid h2; obtain ⟨y0, y3, y4, yw, yn⟩ := pw_cells H.out; clear h2))
  go_end0
  exact ⟨rfl, by simpa only [List.append_assoc, List.cons_append, List.nil_append] using H.out.e.pr, H.out.bel, H.out.kp⟩

set_option maxHeartbeats 4000000 in
set_option maxRecDepth 100000 in
theorem wp_altp (B Pb Tb Wb m c k : Nat) (A : Option Addr) (l : List Pn) (h : okP l) (hk : k < l.length) (c1 : pk l k = 3) (IA : WpC B Pb Tb Wb m c A l (pa l k).toNat) (IB : WpC B Pb Tb Wb m c A l (pb l k).toNat) (w : World) (least : Nat) (bs : List UInt8) (hE : PwE w B Pb Tb Wb m c A l bs) (hB : B ≤ w.heap.size) (h1 : 1 ≤ least) (h3 : least ≤ 3) (h2 : 1 < least) (hlen : bs.length + ((rxN l k).txt least).length ≤ 140737488355328) :
    Calls Tryz.prog 31 #[.int .i64 (k : Int), .int .i64 (least : Int), .pointer (some ⟨Pb, 0, none⟩), .pointer (some ⟨Tb, 0, none⟩), .pointer (some ⟨Wb, 0, none⟩)] w fun e w' => e = .returned (.tuple #[]) ∧ PrS w' B Tb (bc (bs ++ (rxN l k).txt least)) ∧ Below B w w' ∧ PrK w w' Tb := by
  rw [rxN_3 h hk c1, txt_alt, if_pos (by omega)] at hlen ⊢
  obtain ⟨b, o, eA, hb, hc⟩ := hE.nd (by omega)
  subst eA
  obtain ⟨d0, d1, d2, d3, d4⟩ := hc k hk
  rw [c1] at d0
  have x0 := hE.bp.cell 0
  simp at x0
  have hlm := hE.lm
  have i1 : (0 : Int) ≤ (k : Int) := by omega
  have i2 : (k : Int) < (m : Int) := by omega
  have i3 : (1 : Int) < (least : Int) := by omega
  have N := h.nd hk
  obtain ⟨a2, a3⟩ := N.a1 (by omega)
  obtain ⟨a4, a5⟩ := N.b1 (by omega)
  clear N
  obtain ⟨j, hj⟩ : ∃ j : Nat, pa l k = (j : Int) := ⟨(pa l k).toNat, by omega⟩
  rw [hj] at d3 IA hlen ⊢
  rw [Int.toNat_natCast] at IA hlen ⊢
  obtain ⟨i, hi⟩ : ∃ i : Nat, pb l k = (i : Int) := ⟨(pb l k).toNat, by omega⟩
  rw [hi] at d4 IB hlen ⊢
  rw [Int.toNat_natCast] at IB hlen ⊢
  have HIA := Lib.hid IA
  have HIB := Lib.hid IB
  clear IA IB a2 a3 a4 a5
  simp only [List.length_append, List.length_cons, List.length_nil] at hlen
  have Z0 : Hid ((bs).length + 1 ≤ 140737488355328) := Lib.hid (by (try simp only [List.length_append, List.length_cons, List.length_nil]); omega)
  have Z1 : Hid ((bs ++ [40]).length + ((rxN l j).txt 1).length ≤ 140737488355328) := Lib.hid (by (try simp only [List.length_append, List.length_cons, List.length_nil]); omega)
  have Z2 : Hid ((bs ++ [40] ++ (rxN l j).txt 1).length + 1 ≤ 140737488355328) := Lib.hid (by (try simp only [List.length_append, List.length_cons, List.length_nil]); omega)
  have Z3 : Hid ((bs ++ [40] ++ (rxN l j).txt 1 ++ [124]).length + ((rxN l i).txt 2).length ≤ 140737488355328) := Lib.hid (by (try simp only [List.length_append, List.length_cons, List.length_nil]); omega)
  have Z4 : Hid ((bs ++ [40] ++ (rxN l j).txt 1 ++ [124] ++ (rxN l i).txt 2).length + 1 ≤ 140737488355328) := Lib.hid (by (try simp only [List.length_append, List.length_cons, List.length_nil]); omega)
  have P0 := pw_start hE hB #[.int .i64 3, .int .i64 (plo l k), .int .i64 (phi l k), .int .i64 ((j : Int)), .int .i64 ((i : Int))]
  clear hc hE hlen h
  go_enter Tryz.func31, Tryz.ntmps31
  go_upto_region 1 with fail
  generalize hwa : World.alloc w _ = wa
  have H := P0 _ hwa
  clear hwa P0 d0 d1 d2 d3 d4 x0
  obtain ⟨y0, y3, y4, yw, yn⟩ := pw_cells H
  replace H := Lib.hid H
  go_wp2_with (first
    | (go_at_call 32; with_reducible refine (pstrength_any _ _).mono ?_; rintro e w2 ⟨he, rfl⟩; rw [show sgP 3 = 1 from rfl] at he; subst he)
    | (go_at_call 33; with_reducible refine (H.out.byte _ 40 (by decide) Z0.out).mono ?_; rintro e w2 ⟨rfl, h2⟩; replace H := Lib.hid h2; obtain ⟨y0, y3, y4, yw, yn⟩ := pw_cells H.out; clear h2)
    | (go_at_call 31; with_reducible refine (PwN.call HIA.out H.out _ 1 (by decide) (by decide) (by decide) Z1.out).mono ?_; rintro e w2 ⟨rfl, h2⟩; replace H := Lib.hid h2; obtain ⟨y0, y3, y4, yw, yn⟩ := pw_cells H.out; clear h2)
    | (go_at_call 33; with_reducible refine (H.out.byte _ 124 (by decide) Z2.out).mono ?_; rintro e w2 ⟨rfl, h2⟩; replace H := Lib.hid h2; obtain ⟨y0, y3, y4, yw, yn⟩ := pw_cells H.out; clear h2)
    | (go_at_call 31; with_reducible refine (PwN.call HIB.out H.out _ 2 (by decide) (by decide) (by decide) Z3.out).mono ?_; rintro e w2 ⟨rfl, h2⟩; replace H := Lib.hid h2; obtain ⟨y0, y3, y4, yw, yn⟩ := pw_cells H.out; clear h2)
    | (go_at_call 33; with_reducible refine (H.out.byte _ 41 (by decide) Z4.out).mono ?_; rintro e w2 ⟨rfl, h2⟩; replace H := Lib.hid h2; obtain ⟨y0, y3, y4, yw, yn⟩ := pw_cells H.out; clear h2))
  go_end0
  exact ⟨rfl, by simpa only [List.append_assoc, List.cons_append, List.nil_append] using H.out.e.pr, H.out.bel, H.out.kp⟩

set_option maxHeartbeats 4000000 in
set_option maxRecDepth 100000 in
theorem wp_rep (B Pb Tb Wb m c k : Nat) (A : Option Addr) (l : List Pn) (h : okP l) (hk : k < l.length) (c1 : pk l k = 4) (IA : WpC B Pb Tb Wb m c A l (pa l k).toNat) (w : World) (least : Nat) (bs : List UInt8) (hE : PwE w B Pb Tb Wb m c A l bs) (hB : B ≤ w.heap.size) (h1 : 1 ≤ least) (h3 : least ≤ 3) (hlen : bs.length + ((rxN l k).txt least).length ≤ 140737488355328) :
    Calls Tryz.prog 31 #[.int .i64 (k : Int), .int .i64 (least : Int), .pointer (some ⟨Pb, 0, none⟩), .pointer (some ⟨Tb, 0, none⟩), .pointer (some ⟨Wb, 0, none⟩)] w fun e w' => e = .returned (.tuple #[]) ∧ PrS w' B Tb (bc (bs ++ (rxN l k).txt least)) ∧ Below B w w' ∧ PrK w w' Tb := by
  rw [rxN_4 h hk c1, txt_rep, if_neg (by omega)] at hlen ⊢
  obtain ⟨b, o, eA, hb, hc⟩ := hE.nd (by omega)
  subst eA
  obtain ⟨d0, d1, d2, d3, d4⟩ := hc k hk
  rw [c1] at d0
  have x0 := hE.bp.cell 0
  simp at x0
  have hlm := hE.lm
  have i1 : (0 : Int) ≤ (k : Int) := by omega
  have i2 : (k : Int) < (m : Int) := by omega
  have i3 : ¬ (3 : Int) < (least : Int) := by omega
  have N := h.nd hk
  obtain ⟨a2, a3⟩ := N.a1 (by omega)
  clear N
  obtain ⟨j, hj⟩ : ∃ j : Nat, pa l k = (j : Int) := ⟨(pa l k).toNat, by omega⟩
  rw [hj] at d3 IA hlen ⊢
  rw [Int.toNat_natCast] at IA hlen ⊢
  have HIA := Lib.hid IA
  clear IA a2 a3
  simp only [List.length_append, List.length_cons, List.length_nil] at hlen
  have Z0 : Hid ((bs).length + ((rxN l j).txt 3).length ≤ 140737488355328) := Lib.hid (by (try simp only [List.length_append, List.length_cons, List.length_nil]); omega)
  have Z1 : Hid ((bs ++ (rxN l j).txt 3).length + 1 ≤ 140737488355328) := Lib.hid (by (try simp only [List.length_append, List.length_cons, List.length_nil]); omega)
  have P0 := pw_start hE hB #[.int .i64 4, .int .i64 (plo l k), .int .i64 (phi l k), .int .i64 ((j : Int)), .int .i64 (pb l k)]
  clear hc hE hlen h
  go_enter Tryz.func31, Tryz.ntmps31
  go_upto_region 1 with fail
  generalize hwa : World.alloc w _ = wa
  have H := P0 _ hwa
  clear hwa P0 d0 d1 d2 d3 d4 x0
  obtain ⟨y0, y3, y4, yw, yn⟩ := pw_cells H
  replace H := Lib.hid H
  go_wp2_with (first
    | (go_at_call 32; with_reducible refine (pstrength_any _ _).mono ?_; rintro e w2 ⟨he, rfl⟩; rw [show sgP 4 = 3 from rfl] at he; subst he)
    | (go_at_call 31; with_reducible refine (PwN.call HIA.out H.out _ 3 (by decide) (by decide) (by decide) Z0.out).mono ?_; rintro e w2 ⟨rfl, h2⟩; replace H := Lib.hid h2; obtain ⟨y0, y3, y4, yw, yn⟩ := pw_cells H.out; clear h2)
    | (go_at_call 33; with_reducible refine (H.out.byte _ 42 (by decide) Z1.out).mono ?_; rintro e w2 ⟨rfl, h2⟩; replace H := Lib.hid h2; obtain ⟨y0, y3, y4, yw, yn⟩ := pw_cells H.out; clear h2))
  go_end0
  exact ⟨rfl, by simpa only [List.append_assoc, List.cons_append, List.nil_append] using H.out.e.pr, H.out.bel, H.out.kp⟩

/-- Print's walk at every node -/
theorem wp_any (B Pb Tb Wb m c : Nat) (A : Option Addr) (l : List Pn) (h : okP l) : ∀ k, k < l.length → WpC B Pb Tb Wb m c A l k := fun k => Nat.strongRecOn k fun k ih hk => by
  intro w least bs hE hB h1 h3 hlen
  have N := h.nd hk
  obtain ⟨k0, k4⟩ := N.kd
  rcases (show pk l k = 0 ∨ pk l k = 1 ∨ pk l k = 2 ∨ pk l k = 3 ∨ pk l k = 4 by omega) with c | c | c | c | c
  · exact wp_emp _ _ _ _ _ _ _ _ _ h hk c _ _ _ hE hB h1 h3 hlen
  · exact wp_rng _ _ _ _ _ _ _ _ _ h hk c _ _ _ hE hB h1 h3 hlen
  · have a := (N.a1 (by omega)).2
    have b := (N.b1 (by omega)).2
    by_cases h2 : 2 < least
    · exact wp_seqp _ _ _ _ _ _ _ _ _ h hk c (ih _ (by omega) (by omega)) (ih _ (by omega) (by omega)) _ _ _ hE hB h1 h3 h2 hlen
    · exact wp_seq _ _ _ _ _ _ _ _ _ h hk c (ih _ (by omega) (by omega)) (ih _ (by omega) (by omega)) _ _ _ hE hB h1 h3 h2 hlen
  · have a := (N.a1 (by omega)).2
    have b := (N.b1 (by omega)).2
    by_cases h2 : 1 < least
    · exact wp_altp _ _ _ _ _ _ _ _ _ h hk c (ih _ (by omega) (by omega)) (ih _ (by omega) (by omega)) _ _ _ hE hB h1 h3 h2 hlen
    · exact wp_alt _ _ _ _ _ _ _ _ _ h hk c (ih _ (by omega) (by omega)) (ih _ (by omega) (by omega)) _ _ _ hE hB h1 h3 h2 hlen
  · have a := (N.a1 (by omega)).2
    exact wp_rep _ _ _ _ _ _ _ _ _ h hk c (ih _ (by omega) (by omega)) _ _ _ hE hB h1 h3 hlen

end Go.Proofs.YtfkljlncnfeklaaGreatDoor

/-! Print. -/
namespace Go.Proofs.YtfkljlncnfeklaaGreatDoor
open Go.RowKit Go.Shelf
set_option linter.unusedVariables false
set_option linter.unusedSimpArgs false
attribute [local go_sem ↓] Go.wp_at_zero Go.wp_at_succ

/-- what Print returns -/
noncomputable def prS (l : List Pn) : ByteArray := open Classical in if chP l = 0 then ⟨((rxP l).txt 1).toArray⟩ else ByteArray.mk #[]
theorem prs_new {w : World} {B : Nat} (hB : B ≤ w.heap.size) : PrS (w.alloc (.cells #[.pointer none, .slice none 0 0] 55)) B w.heap.size (bc []) :=
  .inl ⟨hB, .slice none 0 0, heap_alloc_new w _, ⟨rfl, .inl ⟨rfl, rfl⟩⟩, by simp [Value.ownBlock]⟩
theorem txt_bound {l : List Pn} (h : okP l) : ((rxP l).txt 1).length ≤ 5632 := by
  have h1 := txt_len (rxP l) 1
  have h2 := rxP_nn h
  have h3 := h.len.2
  omega
theorem pr_start {w w1 : World} {m c : Nat} {A : Option Addr} {l : List Pn} (hl : l.length = m) (hr : Rp w w.heap.size A l) (hb : Below w.heap.size w w1) (hp : Bx w1 w.heap.size #[.slice A m c] 25) : ∀ W, (w1.alloc (.cells #[.pointer none, .slice none 0 0] 55)).alloc (.cells #[.func (.func 31) #[] #[.pointer (some ⟨w.heap.size, 0, none⟩), .pointer (some ⟨w1.heap.size, 0, none⟩), .pointer (some ⟨w1.heap.size + 1, 0, none⟩)]] 56) = W →
    Hid (PwE W w.heap.size w.heap.size w1.heap.size (w1.heap.size + 1) m c A l [] ∧ Below w.heap.size w W) := by
  rintro W rfl
  have b1 := (Below.refl w1.heap.size w1).alloc (Nat.le_refl _) (.cells #[.pointer none, .slice none 0 0] 55)
  have b2 := b1.alloc b1.size (.cells #[.func (.func 31) #[] #[.pointer (some ⟨w.heap.size, 0, none⟩), .pointer (some ⟨w1.heap.size, 0, none⟩), .pointer (some ⟨w1.heap.size + 1, 0, none⟩)]] 56)
  refine Lib.hid ⟨⟨hp.below b2, bx_new (by simp) _ _, (hr.below hb).below (b2.mono hb.size), hl, ?_⟩, hb.trans (b2.mono hb.size)⟩
  exact (prs_new hb.size).later ((Below.refl _ _).alloc (Nat.le_refl _) _)
set_option maxHeartbeats 4000000 in
set_option maxRecDepth 100000 in
theorem print_any (A : Option Addr) (m c : Nat) (l : List Pn) (w : World) (hl : Hid (l.length = m)) (hr : Hid (Rp w w.heap.size A l)) :
    Calls Tryz.prog 10 #[.slice A m c] w fun e w' => e = .returned (.tuple #[.string (prS l), .int .i64 (chP l)]) ∧ Below w.heap.size w w' := by
  have HB := Lib.hid ((Below.refl w.heap.size w).alloc (Nat.le_refl _) (.cells #[.slice A m c] 25))
  have HX : Hid (Bx (w.alloc (.cells #[.slice A m c] 25)) w.heap.size #[.slice A m c] 25) := Lib.hid (bx_new rfl _ _)
  have hr1 := Rp.later hr HB.out
  by_cases h : chP l = 0
  · have hok := chP_zero.1 h
    have hm1 := hok.len
    have hs : prS l = ⟨((rxP l).txt 1).toArray⟩ := if_pos h
    rw [hs, h]
    clear hs
    go_enter Tryz.func10, Tryz.ntmps10
    go_upto_region 1 with fail
    generalize World.alloc w _ = w0 at *
    have HC := Lib.hid (pcheck_any A m c l w0 hl hr1)
    rw [h] at HC
    have x0 := HX.out.cell 0
    simp at x0
    go_upto_region 4 with (go_at_call 12; with_reducible refine HC.out.mono ?_; rintro e w1 ⟨rfl, hb1⟩; have HX1 := Lib.hid (HX.out.below hb1); replace HB := Lib.hid (HB.out.trans (hb1.mono HB.out.size)); clear hb1)
    have P := fun W => pr_start hl.out hr.out HB.out HX1.out W
    have htb := txt_bound hok
    have hne : (rxP l).txt 1 ≠ [] := txt_ne _ _
    have hk : l.length - 1 < l.length := by omega
    have HW := Lib.hid (wp_any w.heap.size w.heap.size w1.heap.size (w1.heap.size + 1) m c A l hok (l.length - 1) hk)
    have hm2 : (m : Int) - 1 = ((l.length - 1 : Nat) : Int) := by have := hl.out; omega
    have HL := Lib.hid (show (rxN l (l.length - 1)).txt 1 = (rxP l).txt 1 from rfl)
    have HT := Lib.hid htb
    clear htb
    go_upto_region 7 with fail
    generalize hW2 : World.alloc (World.alloc w1 _) _ = w2
    have E2 := P _ hW2
    clear hW2 P HX1 HX HC x0
    have x0 := E2.out.1.bp.cell 0
    have x1 := E2.out.1.bw.cell 0
    simp at x0 x1
    have HP : Hid (Calls Tryz.prog 31 #[.int .i64 ((l.length - 1 : Nat) : Int), .int .i64 1, .pointer (some ⟨w.heap.size, 0, none⟩), .pointer (some ⟨w1.heap.size, 0, none⟩), .pointer (some ⟨w1.heap.size + 1, 0, none⟩)] w2 fun e w' => e = .returned (.tuple #[]) ∧ PrS w' w.heap.size w1.heap.size (bc ((rxP l).txt 1)) ∧ Below w.heap.size w2 w' ∧ PrK w2 w' w1.heap.size) :=
      Lib.hid (HW.out w2 1 [] E2.out.1 E2.out.2.size (by decide) (by decide) (by rw [HL.out]; have := HT.out; simp; omega))
    have HN := Lib.hid hne
    clear hne HW
    go_wp2_with (first
      | (go_at_call 31; with_reducible refine HP.out.mono ?_; rintro e w3 ⟨rfl, h1, h2, h3⟩; replace h1 := Lib.hid h1; replace h2 := Lib.hid (E2.out.2.trans h2); clear h3)
      | (go_at_call 36; with_reducible refine (bstring_any w.heap.size w1.heap.size _ _ h1.out HN.out).mono ?_; rintro e w4 ⟨rfl, h4⟩; replace h4 := Lib.hid (h2.out.trans h4)))
    go_ret2
    exact ⟨rfl, h4.out⟩
  · have hs : prS l = ByteArray.mk #[] := if_neg h
    rw [hs]
    clear hs
    go_enter Tryz.func10, Tryz.ntmps10
    go_upto_region 1 with fail
    generalize World.alloc w _ = w0 at *
    have HC := Lib.hid (pcheck_any A m c l w0 hl hr1)
    have x0 := HX.out.cell 0
    simp at x0
    go_wp2_with (go_at_call 12; with_reducible refine HC.out.mono ?_; rintro e w1 ⟨rfl, hb1⟩; replace HB := Lib.hid (HB.out.trans (hb1.mono HB.out.size)); clear hb1)
    go_ret2
    exact ⟨rfl, HB.out⟩

end Go.Proofs.YtfkljlncnfeklaaGreatDoor
