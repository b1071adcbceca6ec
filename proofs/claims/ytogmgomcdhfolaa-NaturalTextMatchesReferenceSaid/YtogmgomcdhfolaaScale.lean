/-
  natural.scaleAndAdd: a number in an owned row is scaled, and a limb is added.
-/
import Derived.Test.YtogmgomcdhfolaaSmall2
namespace Go.Proofs.Ytogmgomcdhfolaa
open Go.RowKit Nt

structure ScInv (L : List Nat) (f a k : Nat) (X : List Nat) (c : Nat) : Prop where
  len : X.length = k
  wf : Wf X
  c1 : c ≤ 4294967295
  eq : val X + 4294967296 ^ k * c = f * val (L.take k) + a
theorem sc_step {vx P c a b m f : Nat} (h : vx + P * c = f * b + a) :
    (vx + P * ((m * f + c) % 4294967296)) + P * 4294967296 * ((m * f + c) / 4294967296) = f * (b + P * m) + a := by
  have e : P * ((m * f + c) % 4294967296) + P * 4294967296 * ((m * f + c) / 4294967296) = P * (m * f) + P * c := by
    rw [Nat.mul_assoc, ← Nat.mul_add, Nat.mod_add_div, Nat.mul_add]
  have e2 : f * (b + P * m) = f * b + P * (m * f) := by
    rw [Nat.mul_add, Nat.mul_left_comm, Nat.mul_comm f m]
  omega
theorem ScInv.start (L : List Nat) (f : Nat) {a : Nat} (ha : a < 4294967296) : ScInv L f a 0 [] a := ⟨rfl, wf_nil, by omega, by simp [val]⟩
theorem ScInv.step {L : List Nat} {f a k : Nat} {X : List Nat} {c : Nat} (h : ScInv L f a k X c) (hL : Wf L) (hf : f < 4294967296) :
    ScInv L f a (k + 1) (X ++ [(nth L k * f + c) % 4294967296]) ((nth L k * f + c) / 4294967296) := by
  have h2 := nth_lt hL k
  have h3 := h.c1
  have h4 := mul_bound h2 hf
  refine ⟨by simp [h.len], wf_append.2 ⟨h.wf, wf_cons.2 ⟨by omega, wf_nil⟩⟩, by omega, ?_⟩
  rw [val_snoc, h.len, take_step, Nat.pow_succ]
  exact sc_step h.eq

/-- an owned row of limbs at block g -/
def Ow (w : World) (base g n c : Nat) (L : List Nat) : Prop := w.ownsRow base 41 1 (.slice (some ⟨g, 0, none⟩) n c) n (L.map U)
theorem Ow.len {w : World} {base g n c : Nat} {L : List Nat} (h : Ow w base g n c L) : L.length = n := by have := h.1; simpa using this
theorem Ow.cell {w : World} {base g n c j : Nat} {L : List Nat} (h : Ow w base g n c L) (hj : j < n) : w.cell? ⟨g, j, none⟩ = some (.int .u32 ((nth L j : Nat) : Int)) := by
  have hl := h.len
  rw [World.ownsRow.cellAt h j (by omega)]
  simp [nth, U, show j < L.length by omega]
theorem Ow.store {w : World} {base g n c : Nat} {L : List Nat} (h : Ow w base g n c L) (j x : Nat) : Ow (w.setCell ⟨g, j, none⟩ (.int .u32 (x : Int))) base g n c (L.set j x) := by
  have := (World.ownsRow.stored h j (.int .u32 (x : Int))).1
  unfold Ow
  rw [List.map_set]
  exact this

def Scaled (w : World) (base g n c : Nat) (L : List Nat) (f a : Nat) (e : Ending) (w' : World) : Prop :=
  ∃ X cr, e = .returned (.int .u32 ((cr : Nat) : Int)) ∧ Wf X ∧ cr < 4294967296 ∧ val X + 4294967296 ^ n * cr = f * val L + a ∧ Ow w' base g n c X ∧ Upd g w w'
def ScSt (w wr : World) (base g n c : Nat) (L : List Nat) (f a k q : Nat) : Prop :=
  ∃ X, ScInv L f a k X q ∧ Ow wr base g n c (X ++ L.drop k) ∧ Upd g w wr

section
variable {w wr : World} {base g n c k q f a : Nat} {L : List Nat}
theorem ScSt.start (h : Ow w base g n c L) (ha : a < 4294967296) : ScSt w w base g n c L f a 0 a := ⟨[], ScInv.start L f ha, h, Upd.refl _ _⟩
theorem ScSt.cell (h : ScSt w wr base g n c L f a k q) (hk : k < n) (_hl : L.length = n) : wr.cell? ⟨g, k, none⟩ = some (.int .u32 ((nth L k : Nat) : Int)) := by
  obtain ⟨X, hi, ho, _⟩ := h
  have hx := hi.len
  rw [ho.cell hk]
  unfold nth
  rw [List.getD_eq_getElem?_getD, List.getD_eq_getElem?_getD, List.getElem?_append_right (by omega), List.getElem?_drop, hx, Nat.sub_self, Nat.add_zero]
theorem ScSt.frozen (h : ScSt w wr base g n c L f a k q) (j : Nat) : wr.frozen? ⟨g, j, none⟩ = false := by
  obtain ⟨X, _, ho, _⟩ := h
  exact World.ownsRow.frozenAt ho j
theorem ScSt.step (h : ScSt w wr base g n c L f a k q) (hL : Wf L) (hf : f < 4294967296) (hk : k < n) (hl : L.length = n) {p : Nat} (hp : nth L k * f = p) :
    ScSt w (wr.setCell ⟨g, k, none⟩ (.int .u32 (((p : Int) + (q : Int)) % 4294967296))) base g n c L f a (k + 1) ((p + q) / 4294967296) := by
  obtain ⟨X, hi, ho, hu⟩ := h
  have hx := hi.len
  have e : ((p : Int) + (q : Int)) % 4294967296 = (((p + q) % 4294967296 : Nat) : Int) := by omega
  have hs := hi.step hL hf
  rw [hp] at hs
  refine ⟨_, hs, ?_, hu.set_ _ _⟩
  rw [e]
  have := ho.store k ((p + q) % 4294967296)
  rw [List.set_append_right _ _ (by omega), hx, Nat.sub_self, List.drop_eq_getElem_cons (by omega), List.set_cons_zero] at this
  simpa using this
theorem ScSt.done (h : ScSt w wr base g n c L f a n q) (hl : L.length = n) : Scaled w base g n c L f a (.returned (.int .u32 ((q : Nat) : Int))) wr := by
  obtain ⟨X, hi, ho, hu⟩ := h
  have q2 := hi.eq
  rw [List.take_of_length_le (by omega)] at q2
  rw [List.drop_eq_nil_of_le (by omega), List.append_nil] at ho
  exact ⟨X, q, rfl, hi.wf, by have := hi.c1; omega, q2, ho, hu⟩
end

set_option maxHeartbeats 1000000 in
theorem scale_any (base g n c f a : Nat) (L : List Nat) (w : World) (hL : Hid (Wf L)) (hn : n ≤ 1000000) (hf : f < 4294967296) (ha : a < 4294967296) (hown : Hid (Ow w base g n c L)) :
    Calls Try.prog 55 #[.slice (some ⟨g, 0, none⟩) n c, .int .u32 (f : Int), .int .u32 (a : Int)] w (Scaled w base g n c L f a) := by
  have hlen : Hid (L.length = n) := hown.out.len
  go_enter Try.func55, Try.ntmps55
  go_wp2
  go_loopw [7, 14] (fun s i wr => ∃ k q : Nat, k ≤ n ∧ i = .int .i64 k ∧ q ≤ 4294967295 ∧ s = .int .u64 q ∧ Hid (ScSt w wr base g n c L f a k q)) (fun _ i _ => n - (intOf i).toNat)
  case atStart => exact ⟨0, a, Nat.zero_le _, rfl, by omega, rfl, ScSt.start hown.out ha⟩
  case round =>
    obtain ⟨k, q, hk, rfl, hq, rfl, hst⟩ := hrel
    by_cases hlt : k < n
    · have hy : nth L k < 4294967296 := nth_lt hL.out _
      obtain ⟨t, ht⟩ : ∃ t, nth L k * f = t := ⟨_, rfl⟩
      have hle : t ≤ 18446744065119617025 := by rw [← ht]; exact mul_bound hy hf
      have hte : (nth L k : Int) * (f : Int) = (t : Int) := by rw [← ht]; exact (Int.natCast_mul _ _).symm
      have HT := Lib.hid ht
      clear ht
      have c1 : wr.cell? ⟨g, k, none⟩ = some (.int .u32 ((nth L k : Nat) : Int)) := hst.out.cell hlt hlen.out
      have f1 : wr.frozen? ⟨g, k, none⟩ = false := hst.out.frozen _
      go_wp2
      clear c1 f1
      go_roundw
      case rel => exact ⟨k + 1, (t + q) / 4294967296, by omega, by go_num, by omega, by go_num, hst.out.step hL.out hf hlt hlen.out HT.out⟩
      case measure => simp [intOf]; omega
    · go_wp2
      go_ret
      obtain rfl : k = n := by omega
      exact hst.out.done hlen.out

end Go.Proofs.Ytogmgomcdhfolaa
