/-
  natural.shiftedLeft, natural.shiftedRight, math/bits.LeadingZeros32.
-/
import Derived.Test.YtogmgomcdhfolaaSmall2
namespace Go.Proofs.Ytogmgomcdhfolaa
open Go.RowKit Nt

structure ShInv (l : List Nat) (p k : Nat) (Y : List Nat) (h : Nat) : Prop where
  len : Y.length = k
  wf : Wf Y
  lt : h < p
  eq : val Y + 4294967296 ^ k * h = val (l.take k) * p
theorem sh_digit {p p' h x : Nat} (hp : p * p' = 4294967296) (hh : h < p) (hx : x < 4294967296) : h + (x * p) % 4294967296 < 4294967296 ∧ x * p / 4294967296 < p := by
  have e : (x * p) % 4294967296 = (x % p') * p := by rw [← hp, Nat.mul_comm p p', Nat.mul_mod_mul_right]
  have hp0 : 0 < p := by omega
  have hp1 : 0 < p' := by
    rcases Nat.eq_zero_or_pos p' with h0 | h0
    · rw [h0] at hp; omega
    · exact h0
  have h1 : (x % p' + 1) * p ≤ p' * p := Nat.mul_le_mul_right p (Nat.mod_lt _ hp1)
  rw [Nat.add_mul, Nat.one_mul, Nat.mul_comm p', hp] at h1
  refine ⟨by omega, ?_⟩
  rw [Nat.div_lt_iff_lt_mul (by omega), Nat.mul_comm p]
  exact Nat.mul_lt_mul_of_pos_right hx hp0
theorem sh_or {s h x p' : Nat} (hp : 2 ^ s * p' = 4294967296) (hh : h < 2 ^ s) : h ||| (x * 2 ^ s) % 4294967296 = h + (x * 2 ^ s) % 4294967296 := by
  have e : (x * 2 ^ s) % 4294967296 = (x % p') * 2 ^ s := by rw [← hp, Nat.mul_comm (2 ^ s) p', Nat.mul_mod_mul_right]
  rw [Nat.or_comm, nat_join s _ _ (by rw [e, Nat.mul_mod_left]) hh, Nat.add_comm]
theorem ShInv.step {l : List Nat} {p p' k : Nat} {Y : List Nat} {h : Nat} (hi : ShInv l p k Y h) (hp : p * p' = 4294967296) (hl : Wf l) :
    ShInv l p (k + 1) (Y ++ [h + (nth l k * p) % 4294967296]) (nth l k * p / 4294967296) := by
  obtain ⟨d1, d2⟩ := sh_digit hp hi.lt (nth_lt hl k)
  refine ⟨by simp [hi.len], wf_append.2 ⟨hi.wf, wf_cons.2 ⟨d1, wf_nil⟩⟩, d2, ?_⟩
  have q := hi.eq
  rw [val_snoc, hi.len, take_step, Nat.pow_succ, Nat.add_mul, ← q]
  have e := Nat.div_add_mod (nth l k * p) 4294967296
  have e2 : 4294967296 ^ k * (nth l k * p) = 4294967296 ^ k * 4294967296 * (nth l k * p / 4294967296) + 4294967296 ^ k * (nth l k * p % 4294967296) := by
    rw [Nat.mul_assoc, ← Nat.mul_add, e]
  rw [Nat.mul_add, Nat.mul_assoc (4294967296 ^ k) (nth l k) p, e2]
  generalize 4294967296 ^ k * 4294967296 * (nth l k * p / 4294967296) = u
  generalize 4294967296 ^ k * (nth l k * p % 4294967296) = v
  omega

/-- the block while it is filled -/
def ShSt (w wr : World) (g n : Nat) (l : List Nat) (p k : Nat) : Prop := ∃ Y h, ShInv l p k Y h ∧ Bk wr g (Y ++ h :: List.replicate (n - k) 0) ∧ Below g w wr

theorem sh_val {x s p p' : Nat} (hp : p = 2 ^ s) (hpp : p * p' = 4294967296) (hx : x < 4294967296) : IntKind.u64.wrap ((x : Int) * 2 ^ s) = ((x * p : Nat) : Int) := by
  have e : (x : Int) * 2 ^ s = ((x * p : Nat) : Int) := by rw [hp, Int.natCast_mul, Int.natCast_pow]; rfl
  have hp1 : p ≤ 4294967296 := by
    rw [← hpp]
    rcases Nat.eq_zero_or_pos p' with h0 | h0
    · rw [h0] at hpp; omega
    · exact Nat.le_mul_of_pos_right p h0
  have h1 : x * p ≤ 4294967295 * 4294967296 := Nat.mul_le_mul (by omega) hp1
  rw [e]
  exact IntWalk.u64_in _ (by omega)
theorem ShSt.step {w wr : World} {g n s p p' k : Nat} {l : List Nat} {Y : List Nat} {h : Nat} (hi : ShInv l p k Y h) (hbk : Bk wr g (Y ++ h :: List.replicate (n - k) 0)) (hbl : Below g w wr) (hk : k < n) (hp : p = 2 ^ s) (hpp : p * p' = 4294967296) (hl : Wf l) :
    ShSt w ((wr.setCell ⟨g, k, none⟩ (.int .u32 (bits BinOp.or IntKind.u32 (h : Int) (IntKind.u64.wrap ((nth l k : Int) * 2 ^ s) % 4294967296)))).setCell ⟨g, k + 1, none⟩ (.int .u32 (IntKind.u64.wrap ((nth l k : Int) * 2 ^ s) / 4294967296 % 4294967296))) g n l p (k + 1) := by
  have hx := nth_lt hl k
  obtain ⟨d1, d2⟩ := sh_digit hpp hi.lt hx
  have hlen := hi.len
  have hlt := hi.lt
  have hp1 : p ≤ 4294967296 := by
    rw [← hpp]
    rcases Nat.eq_zero_or_pos p' with h0 | h0
    · rw [h0] at hpp; omega
    · exact Nat.le_mul_of_pos_right p h0
  have e1 : bits BinOp.or IntKind.u32 (h : Int) (IntKind.u64.wrap ((nth l k : Int) * 2 ^ s) % 4294967296) = ((h + (nth l k * p) % 4294967296 : Nat) : Int) := by
    rw [sh_val hp hpp hx, show (((nth l k * p : Nat) : Int) % 4294967296) = ((nth l k * p % 4294967296 : Nat) : Int) by omega, u32_or_nat _ _ (by omega) (by omega)]
    have := sh_or (s := s) (h := h) (x := nth l k) (p' := p') (by rw [← hp]; exact hpp) (by rw [← hp]; exact hlt)
    rw [← hp] at this
    rw [this]
  have e2 : IntKind.u64.wrap ((nth l k : Int) * 2 ^ s) / 4294967296 % 4294967296 = ((nth l k * p / 4294967296 : Nat) : Int) := by
    rw [sh_val hp hpp hx]; omega
  refine ⟨_, _, hi.step hpp hl, ?_, (hbl.setCell (Nat.le_refl _) _).setCell (Nat.le_refl _) _⟩
  rw [e1, e2]
  have h1 := (hbk.set_ k (h + (nth l k * p) % 4294967296)).set_ (k + 1) (nth l k * p / 4294967296)
  have e3 : ((Y ++ h :: List.replicate (n - k) 0).set k (h + (nth l k * p) % 4294967296)).set (k + 1) (nth l k * p / 4294967296) = (Y ++ [h + (nth l k * p) % 4294967296]) ++ (nth l k * p / 4294967296) :: List.replicate (n - (k + 1)) 0 := by
    rw [List.set_append_right _ _ (by omega), hlen, Nat.sub_self, List.set_cons_zero, List.set_append_right _ _ (by omega), hlen, show k + 1 - k = 1 by omega]
    rw [show n - k = (n - (k + 1)) + 1 by omega, List.replicate_succ]
    simp
  rw [e3] at h1
  exact h1
theorem ShSt.done {w wr : World} {g n p p' : Nat} {l : List Nat} (h : ShSt w wr g n l p n) (hpp : p * p' = 4294967296) (hl : l.length = n) :
    ∃ X, X.length = n + 1 ∧ Wf X ∧ val X = val l * p ∧ Bk wr g X ∧ Below g w wr := by
  obtain ⟨Y, h, hi, hbk, hbl⟩ := h
  have hlt := hi.lt
  have hp1 : p ≤ 4294967296 := by
    rw [← hpp]
    rcases Nat.eq_zero_or_pos p' with h0 | h0
    · rw [h0] at hpp; omega
    · exact Nat.le_mul_of_pos_right p h0
  have q := hi.eq
  rw [List.take_of_length_le (by omega)] at q
  rw [Nat.sub_self] at hbk
  exact ⟨Y ++ [h], by simp [hi.len], wf_append.2 ⟨hi.wf, wf_cons.2 ⟨by omega, wf_nil⟩⟩, by rw [val_snoc, hi.len]; exact q, hbk, hbl⟩

set_option maxHeartbeats 1000000 in
theorem shl_some (b o n c s p p' : Nat) (l : List Nat) (w : World) (hpp : Hid (p * p' = 4294967296)) (hw : Hid (Wf l)) (hl : Hid (l.length = n)) (hn : n ≤ 2000) (hs : s ≤ 31) (hp : Hid (p = 2 ^ s)) (hc : Hid (b < w.heap.size ∧ ∀ j, j < n → w.cell? ⟨b, o + j, none⟩ = some (.int .u32 ((nth l j : Nat) : Int)))) :
    Calls Try.prog 65 #[.slice (some ⟨b, o, none⟩) n c, .int .i64 (s : Int)] w (fun e w' => e = .returned (.slice (some ⟨w.heap.size, 0, none⟩) (n + 1) (n + 1)) ∧ ∃ X, X.length = n + 1 ∧ Wf X ∧ val X = val l * p ∧ Bk w' w.heap.size X ∧ Below w.heap.size w w') := by
  have S0 : ∀ w1 : World, Bk w1 w.heap.size (List.replicate (n + 1) 0) → Below w.heap.size w w1 → Hid (ShSt w w1 w.heap.size n l p 0) := fun w1 h1 h2 => ⟨[], 0, ⟨rfl, wf_nil, by rw [hp.out]; exact Nat.pow_pos (by omega), by simp [val]⟩, h1, h2⟩
  have HS0 := Lib.hid S0
  clear S0
  go_enter Try.func65, Try.ntmps65
  go_wp2_with (first
    | (at_make; refine wpList_make_bk _ rfl _ _ 22 rfl Try.underlying22 _ _ _ _ (n + 1) rfl rfl (by omega) (by omega) (by omega) ?_; intro w1 hbk1 hs1 hb1; have HP := HS0.out w1 hbk1 hb1; clear hbk1 hs1 hb1))
  go_loopw [14] (fun i wr => ∃ k : Nat, k ≤ n ∧ i = .int .i64 k ∧ Hid (ShSt w wr w.heap.size n l p k)) (fun i _ => n - (intOf i).toNat)
  case atStart => exact ⟨0, Nat.zero_le _, rfl, HP⟩
  case round =>
    obtain ⟨k, hk, rfl, hst⟩ := hrel
    by_cases hlt : k < n
    · have hx : nth l k < 4294967296 := nth_lt hw.out _
      obtain ⟨Y, h, hi, hbk, hbl⟩ := hst.out
      have HI := Lib.hid hi
      have HBK := Lib.hid hbk
      have c1 : wr.cell? ⟨b, o + k, none⟩ = some (.int .u32 ((nth l k : Nat) : Int)) := (hbl.cell hc.out.1).trans (hc.out.2 k hlt)
      have c2 : wr.cell? ⟨w.heap.size, k, none⟩ = some (.int .u32 (h : Int)) := by
        have := hbk.cell (i := k) (by simp [hi.len])
        rw [this]
        congr 3
        rw [nth_getElem (by simp [hi.len]), List.getElem_append_right (by rw [hi.len]; exact Nat.le_refl _)]
        simp [hi.len]
      have c3 : (wr.cell? ⟨w.heap.size, k + 1, none⟩).isSome = true := by
        rw [hbk.cell (i := k + 1) (by simp [hi.len]; omega)]; rfl
      obtain ⟨v3, hv3⟩ := Option.isSome_iff_exists.1 c3
      have f2 : wr.frozen? ⟨w.heap.size, k + 1, none⟩ = false := hbk.frozen _
      clear c3
      have f1 : wr.frozen? ⟨w.heap.size, k, none⟩ = false := hbk.frozen _
      clear hi hbk
      go_wp2
      go_roundw
      case rel =>
        exact ⟨k + 1, by omega, by go_num, ShSt.step HI.out HBK.out hbl hlt hp.out hpp.out hw.out⟩
      case measure => simp [intOf]; omega
    · obtain rfl : k = n := by omega
      clear hlt
      go_wp2
      go_ret
      exact ⟨rfl, hst.out.done hpp.out hl.out⟩

end Go.Proofs.Ytogmgomcdhfolaa
