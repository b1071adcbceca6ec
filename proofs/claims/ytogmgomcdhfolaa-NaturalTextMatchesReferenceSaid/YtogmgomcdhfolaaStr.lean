/-
  Texts and numbers correspond to one another.
-/
import Derived.Test.YtogmgomcdhfolaaText
namespace Go.Proofs.Ytogmgomcdhfolaa
open Go.RowKit Nt

theorem wf_digs (N : Nat) : Nd.Wf (digs N) := by
  unfold digs
  split
  · intro x hx; simp at hx; omega
  · intro x hx; exact Nd.wf_dg N x (List.mem_reverse.1 hx)
theorem digs_pos (N : Nat) : 0 < (digs N).length := by
  unfold digs
  split
  · simp
  · rename_i h
    rw [List.length_reverse]
    rcases Nat.eq_zero_or_pos (Nd.dg N).length with h0 | h0
    · exact absurd (Nd.dg_eq_nil.1 (List.eq_nil_of_length_eq_zero h0)) h
    · exact h0
theorem txt_data (N : Nat) : (txt N).data.toList = (digs N).map (fun d => UInt8.ofNat (d + 48)) := by
  unfold txt
  rw [strOfNums_data, List.map_map]
  rfl
theorem txt_size (N : Nat) : (txt N).size = (digs N).length := by
  have := congrArg List.length (txt_data N)
  rw [List.length_map] at this
  exact this
theorem txt_byt {N j : Nat} (hj : j < (digs N).length) : byt (txt N) j = nth (digs N) j + 48 := by
  have h1 : nth (digs N) j < 10 := (wf_digs N).getD j
  rw [byt_get, txt_data, nth_getElem hj, List.getD_eq_getElem?_getD, List.getElem?_map, List.getElem?_eq_getElem hj]
  rw [nth_getElem hj] at h1
  show (UInt8.ofNat _).toNat = _
  rw [UInt8.toNat_ofNat']
  omega
theorem decU_val {s : ByteArray} {D : List Nat} {k : Nat} (h : ∀ j, j < k → byt s j - 48 = nth D j) (hk : k ≤ D.length) : decU s k = Nd.val (D.take k).reverse := by
  induction k with
  | zero => simp [decU, Nd.val]
  | succ k ih =>
    show decU s k * 10 + (byt s k - 48) = _
    rw [ih (fun j hj => h j (by omega)) (by omega), h k (by omega), take_snoc (by omega), List.reverse_append]
    show _ = Nd.val (D.getD k 0 :: (D.take k).reverse)
    rw [Nd.val_cons]
    unfold nth
    omega
theorem digs_val (N : Nat) : Nd.val (digs N).reverse = N := by
  unfold digs
  split
  · rename_i h; subst h; rfl
  · rw [List.reverse_reverse, Nd.val_dg]
theorem decU_txt (N : Nat) : decU (txt N) (txt N).size = N := by
  rw [txt_size, decU_val (D := digs N) (fun j hj => by rw [txt_byt hj]; omega) (Nat.le_refl _), List.take_of_length_le (Nat.le_refl _), digs_val]
theorem dec_txt (N : Nat) : DecS (txt N) := by
  refine ⟨by rw [txt_size]; exact digs_pos N, ?_, fun j hj => ?_⟩
  · rw [txt_size]
    by_cases h : N = 0
    · left; subst h; rfl
    · right
      rw [txt_byt (digs_pos N)]
      have hc := Nd.can_dg N
      rcases hc with e | e
      · exact absurd (Nd.dg_eq_nil.1 e) h
      · have hd : digs N = (Nd.dg N).reverse := by unfold digs; rw [if_neg h]
        have hp := digs_pos N
        rw [hd, List.length_reverse] at hp
        rw [hd, nth_getElem (by rw [List.length_reverse]; exact hp), List.getElem_reverse]
        rw [List.getLast?_eq_getElem?, List.getElem?_eq_getElem (by omega)] at e
        simp only [Nat.sub_zero]
        intro h2
        apply e
        congr 1
        omega
  · rw [txt_size] at hj
    rw [txt_byt hj]
    have h1 : nth (digs N) j < 10 := (wf_digs N).getD j
    omega

/-- the digits of a string -/
def digL (s : ByteArray) : List Nat := s.data.toList.map (fun c => c.toNat - 48)
theorem digL_len (s : ByteArray) : (digL s).length = s.size := by unfold digL; rw [List.length_map]; rfl
theorem digL_nth {s : ByteArray} {j : Nat} (hj : j < s.size) : nth (digL s) j = byt s j - 48 := by
  have hj' : j < s.data.toList.length := hj
  rw [byt_get, nth_getElem (by rw [digL_len]; exact hj), List.getD_eq_getElem?_getD, List.getElem?_eq_getElem hj']
  unfold digL
  rw [List.getElem_map]; rfl
theorem str_ext {s t : ByteArray} (hl : s.size = t.size) (h : ∀ j, j < s.size → byt s j = byt t j) : s = t := by
  have : s.data = t.data := by
    apply Array.ext' 
    apply List.ext_getElem hl
    intro j h1 h2
    have := h j h1
    rw [byt_get, byt_get, List.getD_eq_getElem?_getD, List.getD_eq_getElem?_getD, List.getElem?_eq_getElem h1, List.getElem?_eq_getElem h2] at this
    exact UInt8.toNat_inj.1 this
  cases s
  cases t
  simp_all
theorem txt_decU {s : ByteArray} (h : DecS s) : txt (decU s s.size) = s := by
  have hwf : Nd.Wf (digL s) := by
    intro x hx
    obtain ⟨j, hj, rfl⟩ := List.getElem_of_mem hx
    rw [digL_len] at hj
    have h1 := (h.all j hj).2
    have h2 := digL_nth hj
    rw [nth_getElem (by rw [digL_len]; exact hj)] at h2
    omega
  have hv : decU s s.size = Nd.val (digL s).reverse := by
    rw [decU_val (D := digL s) (fun j hj => (digL_nth hj).symm) (by rw [digL_len]; exact Nat.le_refl _), List.take_of_length_le (by rw [digL_len]; exact Nat.le_refl _)]
  have hd : digs (decU s s.size) = digL s := by
    rw [hv]
    by_cases h0 : byt s 0 = 48
    · have h1 : s.size = 1 := h.lead.elim id (fun h => absurd h0 h)
      have hl : (digL s).length = 1 := by rw [digL_len, h1]
      obtain ⟨x, hx⟩ := List.length_eq_one_iff.1 hl
      have h2 := digL_nth (s := s) (j := 0) (by omega)
      rw [hx] at h2
      have hx0 : x = 0 := by
        have h3 : x = byt s 0 - 48 := h2
        omega
      rw [hx, hx0]
      rfl
    · have hp := h.pos
      have hwr : Nd.Wf (digL s).reverse := fun x hx => hwf x (List.mem_reverse.1 hx)
      have hc : Nd.Can (digL s).reverse := by
        right
        rw [List.getLast?_reverse, List.head?_eq_getElem?]
        have h2 := digL_nth (s := s) (j := 0) hp
        rw [nth_getElem (by rw [digL_len]; exact hp)] at h2
        rw [List.getElem?_eq_getElem (by rw [digL_len]; exact hp), h2]
        have := (h.all 0 hp).1
        intro e
        injection e with e
        omega
      have e := Nd.dg_val hwr hc
      have hne : Nd.val (digL s).reverse ≠ 0 := Nd.val_pos hc (by intro e; have := congrArg List.length e; rw [List.length_reverse, digL_len, List.length_nil] at this; omega)
      unfold digs
      rw [if_neg hne, e, List.reverse_reverse]
  apply str_ext
  · rw [txt_size, hd, digL_len]
  · intro j hj
    rw [txt_size, hd, digL_len] at hj
    rw [txt_byt (by rw [hd, digL_len]; exact hj), hd, digL_nth hj]
    have := (h.all j hj).1
    omega

/-- fewer than 10240 digits -/
theorem txt_short {N : Nat} (h : (dg N).length ≤ 20) : (txt N).size ≤ 200 := by
  rw [txt_size]
  unfold digs
  split
  · simp
  · rw [List.length_reverse]
    apply Nd.dg_length_le
    have h1 := Nat.lt_of_lt_of_le (lt_pow_dg N) (Nat.pow_le_pow_right (by omega : 0 < 4294967296) h)
    exact Nat.lt_of_lt_of_le h1 (pow_le_10 20)

end Go.Proofs.Ytogmgomcdhfolaa
