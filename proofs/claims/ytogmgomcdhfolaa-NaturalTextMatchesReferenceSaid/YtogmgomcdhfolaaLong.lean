/-
  natural.divideLong: a quotient of many limbs, a limb at a time.
-/
import Derived.Test.YtogmgomcdhfolaaQuoLimb
import Derived.Test.YtogmgomcdhfolaaShiftR
import Derived.Test.YtogmgomcdhfolaaLeadZ
namespace Go.Proofs.Ytogmgomcdhfolaa
open Go.RowKit Nt

structure DlInv (v ap la t k : Nat) (L Q : List Nat) : Prop where
  ll : L.length = la
  wl : Wf L
  ql : Q.length = k
  wq : Wf Q
  eq : ap = val L + 4294967296 ^ t * (val Q * v)
  lt : val (L.drop t) < v

theorem val_cut (L : List Nat) (o : Nat) (h : o ≤ L.length) : val L = val (L.take o) + 4294967296 ^ o * val (L.drop o) := by
  conv => lhs; rw [← List.take_append_drop o L]
  rw [val_append, List.length_take, Nat.min_eq_left h]

/-- the window of the next round -/
theorem dl_window {v ap la t n k : Nat} {L Q : List Nat} (h : DlInv v ap la (t + 1) k L Q) (hv : v < 4294967296 ^ n) (hn : t + (n + 1) ≤ la) :
    val (L.drop t) = val ((L.drop t).take (n + 1)) ∧ val ((L.drop t).take (n + 1)) < v * 4294967296 ∧ val (L.drop (t + (n + 1))) = 0 := by
  have hl := h.ll
  have hlt := h.lt
  have e1 := val_cut (L.drop (t + 1)) n (by simp; omega)
  rw [List.drop_drop] at e1
  have e0 : val (L.drop (t + (n + 1))) = 0 := by
    rw [show t + (n + 1) = t + 1 + n by omega]
    rcases Nat.eq_zero_or_pos (val (L.drop (t + 1 + n))) with h0 | h0
    · exact h0
    · have : 4294967296 ^ n * 1 ≤ 4294967296 ^ n * val (L.drop (t + 1 + n)) := Nat.mul_le_mul_left _ h0
      omega
  have e2 := val_cut (L.drop t) (n + 1) (by simp; omega)
  rw [List.drop_drop, e0, Nat.mul_zero, Nat.add_zero] at e2
  have e3 : L.drop t = nth L t :: L.drop (t + 1) := by
    rw [List.drop_eq_getElem_cons (by omega), nth_getElem (by omega)]
  have hx := nth_lt h.wl t
  refine ⟨e2, ?_, e0⟩
  rw [← e2, e3, val_cons]
  have : (val (L.drop (t + 1)) + 1) * 4294967296 ≤ v * 4294967296 := Nat.mul_le_mul_right _ hlt
  omega

theorem DlInv.step {v ap la t n k : Nat} {L Q Z : List Nat} (h : DlInv v ap la (t + 1) k L Q) (hv : v < 4294967296 ^ n) (hv0 : 0 < v) (hn : t + (n + 1) ≤ la) (hz : Z.length = n + 1) (hzw : Wf Z) (hzv : val Z = val ((L.drop t).take (n + 1)) % v) :
    DlInv v ap la t (k + 1) (splice L t Z) (val ((L.drop t).take (n + 1)) / v :: Q) := by
  obtain ⟨e1, e2, e3⟩ := dl_window h hv hn
  have hl := h.ll
  generalize hP : val ((L.drop t).take (n + 1)) = P at *
  have hq : P / v < 4294967296 := by rw [Nat.div_lt_iff_lt_mul hv0, Nat.mul_comm]; exact e2
  have e4 : (splice L t Z).drop t = Z ++ L.drop (t + (n + 1)) := by
    unfold splice
    rw [List.drop_append_of_le_length (by simp; omega), List.drop_of_length_le (by simp; omega), List.nil_append, hz]
  have e5 : val ((splice L t Z).drop t) = P % v := by rw [e4, val_append, e3, Nat.mul_zero, Nat.add_zero, hzv]
  have e6 : (splice L t Z).take t = L.take t := by
    unfold splice
    rw [List.take_append_of_le_length (by simp; omega), List.take_of_length_le (by simp; omega)]
  have hsl : (splice L t Z).length = L.length := length_spl (by omega)
  have e7 := val_cut (splice L t Z) t (by omega)
  rw [e5, e6] at e7
  have e8 := val_cut L t (by omega)
  rw [e1] at e8
  refine ⟨by omega, wf_splice t h.wl hzw, by simp [h.ql], wf_cons.2 ⟨hq, h.wq⟩, ?_, by rw [e5]; exact Nat.mod_lt _ hv0⟩
  have q := h.eq
  rw [e7, val_cons, q, e8]
  have e9 : 4294967296 ^ t * P = 4294967296 ^ t * (P % v) + 4294967296 ^ t * (P / v * v) := by
    rw [← Nat.mul_add, Nat.mul_comm (P / v) v, Nat.mod_add_div]
  rw [e9, Nat.pow_succ, Nat.add_mul, Nat.mul_add, Nat.mul_assoc (4294967296 ^ t) 4294967296, Nat.mul_assoc 4294967296]
  omega

theorem DlInv.start {v la t : Nat} {S : List Nat} (hl : S.length = la) (hS : Wf S) (h : val S < 4294967296 ^ t * v) (ht : t ≤ la) : DlInv v (val S) la t 0 S [] := by
  refine ⟨hl, hS, rfl, wf_nil, by simp [val], ?_⟩
  have e := val_cut S t (by omega)
  have h1 : 4294967296 ^ t * val (S.drop t) < 4294967296 ^ t * v := by omega
  exact Nat.lt_of_mul_lt_mul_left h1

theorem DlInv.done {a b p la k n : Nat} {L Q : List Nat} (h : DlInv (b * p) (a * p) la 0 k L Q) (hp : 0 < p) (hb : 0 < b) (hv : b * p < 4294967296 ^ n) (hn : n ≤ la) :
    val Q = a / b ∧ val (L.take n) / p = a % b := by
  have q := h.eq
  have hlt := h.lt
  rw [List.drop_zero] at hlt
  rw [Nat.pow_zero, Nat.one_mul] at q
  have hl := h.ll
  have e := val_cut L n (by omega)
  have e0 : val (L.drop n) = 0 := by
    rcases Nat.eq_zero_or_pos (val (L.drop n)) with h0 | h0
    · exact h0
    · have : 4294967296 ^ n * 1 ≤ 4294967296 ^ n * val (L.drop n) := Nat.mul_le_mul_left _ h0
      omega
  rw [e0, Nat.mul_zero, Nat.add_zero] at e
  have hvp : 0 < b * p := Nat.mul_pos hb hp
  have d1 : a * p / (b * p) = val Q := by
    rw [q, Nat.add_mul_div_right _ _ hvp, Nat.div_eq_of_lt hlt, Nat.zero_add]
  have d2 : a * p % (b * p) = val L := by
    rw [q, Nat.add_mul_mod_self_right, Nat.mod_eq_of_lt hlt]
  rw [Nat.mul_div_mul_right _ _ hp] at d1
  rw [Nat.mul_mod_mul_right] at d2
  exact ⟨d1.symm, by rw [← e, ← d2, Nat.mul_div_cancel _ hp]⟩

/-- the divisor, shifted, has as many limbs, and its highest bit is set -/
theorem dl_divisor {b m s p p' x : Nat} (hlen : (dg b).length = m + 2) (hx : nth (dg b) (m + 1) = x) (hz : Lz x s p p') :
    (dg (b * p)).length = m + 2 ∧ 2147483648 ≤ nth (dg (b * p)) (m + 1) ∧ b * p < 4294967296 ^ (m + 2) ∧ 4294967296 ^ (m + 1) * p ≤ b * p := by
  obtain ⟨hs, hp, hpp, z1, z2⟩ := hz
  have hp0 : 0 < p := by rw [hp]; exact Nat.pow_pos (by omega)
  have c := take_step (dg b) (m + 1)
  rw [List.take_of_length_le (by omega), val_dg, hx] at c
  have hlo : val ((dg b).take (m + 1)) < 4294967296 ^ (m + 1) := by
    have := val_lt ((wf_dg b).take (m + 1))
    rwa [List.length_take, hlen, Nat.min_eq_left (by omega)] at this
  generalize val ((dg b).take (m + 1)) = lo at c hlo
  have hxp : x < p' := by
    rcases Nat.lt_or_ge x p' with h | h
    · exact h
    · have := Nat.mul_le_mul_right p h
      rw [Nat.mul_comm p' p, hpp] at this
      omega
  have hup : b * p < 4294967296 ^ (m + 2) := by
    have h1 : b < 4294967296 ^ (m + 1) * p' := by
      have : 4294967296 ^ (m + 1) * (x + 1) ≤ 4294967296 ^ (m + 1) * p' := Nat.mul_le_mul_left _ hxp
      rw [Nat.mul_add, Nat.mul_one] at this
      omega
    have h2 : b * p < 4294967296 ^ (m + 1) * p' * p := Nat.mul_lt_mul_of_pos_right h1 hp0
    rwa [Nat.mul_assoc, Nat.mul_comm p' p, hpp, ← Nat.pow_succ] at h2
  have hdn : 4294967296 ^ (m + 1) * 2147483648 ≤ b * p := by
    have h1 : 4294967296 ^ (m + 1) * x * p ≤ b * p := Nat.mul_le_mul_right p (by omega)
    have h2 : 4294967296 ^ (m + 1) * 2147483648 ≤ 4294967296 ^ (m + 1) * (x * p) := Nat.mul_le_mul_left _ z1
    rw [← Nat.mul_assoc] at h2
    omega
  have hlen2 : (dg (b * p)).length = m + 2 := by
    have h1 := dg_length_le hup
    rcases Nat.lt_or_ge (dg (b * p)).length (m + 2) with h2 | h2
    · have h3 := lt_pow_dg (b * p)
      have h4 : 4294967296 ^ (dg (b * p)).length ≤ 4294967296 ^ (m + 1) := Nat.pow_le_pow_right (by omega) (by omega)
      omega
    · omega
  refine ⟨hlen2, ?_, hup, ?_⟩
  · have c2 := take_step (dg (b * p)) (m + 1)
    rw [List.take_of_length_le (by omega), val_dg] at c2
    have hlo2 : val ((dg (b * p)).take (m + 1)) < 4294967296 ^ (m + 1) := by
      have := val_lt ((wf_dg (b * p)).take (m + 1))
      rwa [List.length_take, hlen2, Nat.min_eq_left (by omega)] at this
    rcases Nat.lt_or_ge (nth (dg (b * p)) (m + 1)) 2147483648 with h | h
    · have : 4294967296 ^ (m + 1) * (nth (dg (b * p)) (m + 1) + 1) ≤ 4294967296 ^ (m + 1) * 2147483648 := Nat.mul_le_mul_left _ h
      rw [Nat.mul_add, Nat.mul_one] at this
      omega
    · exact h
  · have hx0 : 1 ≤ x := by
      rcases Nat.eq_zero_or_pos x with h | h
      · rw [h] at z1; omega
      · exact h
    have : 4294967296 ^ (m + 1) * 1 ≤ 4294967296 ^ (m + 1) * x := Nat.mul_le_mul_left _ hx0
    exact Nat.mul_le_mul_right p (by omega)

theorem trimmed_bk {g n k v : Nat} {X : List Nat} {w : World} (hbk : Bk w g X) (hw : Wf X) (hn : X.length = n) (hm : n ≤ 1000000) (hv : val X = v) (hk : (dg v).length = k) :
    Calls Try.prog 56 #[.slice (some ⟨g, 0, none⟩) n n] w fun e w' => e = .returned (.slice (some ⟨g, 0, none⟩) k n) ∧ w = w' := by
  subst hv
  subst hk
  exact trimmed_any n n (hbk.rd hbk.lt) hw hn (by omega) (Nat.le_refl _)

theorem quoLimb_n (g o n N C bb p d : Nat) (L D : List Nat) (w : World) (hL : Hid (Wf L)) (hD : Hid (Wf D)) (hdl : Hid (D.length = n)) (hN : N = n + 1) (hn2 : 2 ≤ n) (hm : n ≤ 2000)
    (hon : Hid (o + (n + 1) ≤ L.length)) (hbk : Hid (Bk w g L)) (hbg : Hid (bb ≠ g ∧ ∀ j, j < n → w.cell? ⟨bb, p + j, none⟩ = some (.int .u32 ((nth D j : Nat) : Int))))
    (hC : n + 1 ≤ C) (htop : 2147483648 ≤ nth D (n - 1)) {v q : Nat} (hv : Hid (val D = v)) (hP : Hid (val ((L.drop o).take (n + 1)) < v * 4294967296)) (hq : Hid (q = val ((L.drop o).take (n + 1)) / v)) :
    Calls Try.prog 66 #[.slice (some ⟨g, o, none⟩) N C, .slice (some ⟨bb, p, none⟩) n d] w (fun e w' => ∃ Z : List Nat, e = .returned (.int .u32 (q : Int)) ∧ Z.length = n + 1 ∧ Wf Z ∧ val Z = val ((L.drop o).take (n + 1)) % v ∧ Bk w' g (splice L o Z) ∧ Upd g w w') := by
  obtain ⟨m, rfl⟩ : ∃ m, n = m + 2 := ⟨n - 2, by omega⟩
  subst hN
  have h1 := hv.out
  have h2 := hq.out
  subst h1
  subst h2
  exact quoLimb_some g o m C bb p d L D w hL hD hdl (by omega) hon hbk hbg hC htop hP

theorem dl_divisor' {b n s p p' x : Nat} (hlen : (dg b).length = n) (hn : 2 ≤ n) (hx : nth (dg b) (n - 1) = x) (hz : Lz x s p p') :
    (dg (b * p)).length = n ∧ 2147483648 ≤ nth (dg (b * p)) (n - 1) ∧ b * p < 4294967296 ^ n ∧ 4294967296 ^ (n - 1) * p ≤ b * p := by
  obtain ⟨m, rfl⟩ : ∃ m, n = m + 2 := ⟨n - 2, by omega⟩
  exact dl_divisor hlen hx hz
theorem dl_start {a b p la n N : Nat} (hla : (dg a).length = la) (hN : N + n = la + 1) (hn : 2 ≤ n) (hp : 0 < p) (h : 4294967296 ^ (n - 1) * p ≤ b * p) : a * p < 4294967296 ^ N * (b * p) := by
  have h1 := lt_pow_dg a
  rw [hla, show la = N + (n - 1) by omega, Nat.pow_add] at h1
  have h2 : a * p < 4294967296 ^ N * 4294967296 ^ (n - 1) * p := Nat.mul_lt_mul_of_pos_right h1 hp
  rw [Nat.mul_assoc] at h2
  exact Nat.lt_of_lt_of_le h2 (Nat.mul_le_mul_left _ h)

/-- the memory while the quotient is made -/
def DlSt (w wr : World) (g h gd : Nat) (X : List Nat) (v ap la N k : Nat) : Prop :=
  ∃ L Q, DlInv v ap (la + 1) (N - k) k L Q ∧ Bk wr g L ∧ Bk wr h (List.replicate (N - k) 0 ++ Q) ∧ Bk wr gd X ∧ Below w.heap.size w wr

theorem DlSt.step {w wr w' : World} {g h gd v ap la N k t n : Nat} {X L Q Z : List Nat} (hi : DlInv v ap (la + 1) (t + 1) k L Q) (hbQ : Bk wr h (List.replicate (t + 1) 0 ++ Q)) (hbX : Bk wr gd X) (hbl : Below w.heap.size w wr) (ht : N - (k + 1) = t)
    (hgh : g ≠ h) (hgd : gd ≠ g) (hdh : gd ≠ h) (hg : w.heap.size ≤ g) (hh : w.heap.size ≤ h) (hv : v < 4294967296 ^ n) (hv0 : 0 < v) (hn : t + (n + 1) ≤ la + 1)
    (hz : Z.length = n + 1) (hzw : Wf Z) (hzv : val Z = val ((L.drop t).take (n + 1)) % v) (hbk : Bk w' g (splice L t Z)) (hu : Upd g wr w') :
    DlSt w (w'.setCell ⟨h, t, none⟩ (.int .u32 ((val ((L.drop t).take (n + 1)) / v : Nat) : Int))) g h gd X v ap la N (k + 1) := by
  have hu2 : Upd h w' (w'.setCell ⟨h, t, none⟩ (.int .u32 ((val ((L.drop t).take (n + 1)) / v : Nat) : Int))) := (Upd.refl h w').set_ t _
  refine ⟨_, _, by rw [ht]; exact hi.step hv hv0 hn hz hzw hzv, hbk.keep (hu2.block g hgh), ?_, (hbX.keep (hu.block gd hgd)).keep (hu2.block gd hdh), (hbl.trans (hu.below hg)).trans (hu2.below hh)⟩
  have := (hbQ.keep (hu.block h hgh.symm)).set_ t (val ((L.drop t).take (n + 1)) / v)
  have e : (List.replicate (t + 1) 0 ++ Q).set t (val ((L.drop t).take (n + 1)) / v) = List.replicate t 0 ++ (val ((L.drop t).take (n + 1)) / v) :: Q := by
    rw [List.replicate_succ', List.append_assoc, List.set_append_right _ _ (by simp), List.length_replicate, Nat.sub_self]
    rfl
  rw [e] at this
  rw [ht]
  exact this

set_option maxHeartbeats 1000000 in
theorem divLong_some (a b la n c d pa qa pb qb : Nat) (w : World) (hla : Hid ((dg a).length = la)) (hlb : Hid ((dg b).length = n)) (hm : la ≤ 1024) (hn2 : 2 ≤ n) (hnl : n ≤ la)
    (ha : Hid (pa < w.heap.size ∧ ∀ j, j < la → w.cell? ⟨pa, qa + j, none⟩ = some (.int .u32 ((nth (dg a) j : Nat) : Int))))
    (hb : Hid (pb < w.heap.size ∧ ∀ j, j < n → w.cell? ⟨pb, qb + j, none⟩ = some (.int .u32 ((nth (dg b) j : Nat) : Int)))) :
    Calls Try.prog 50 #[.slice (some ⟨pa, qa, none⟩) la c, .slice (some ⟨pb, qb, none⟩) n d] w
      (fun e w' => ∃ (g h : Nat) (Q R : List Nat), e = .returned (.tuple #[.slice (some ⟨g, 0, none⟩) Q.length Q.length, .slice (some ⟨h, 0, none⟩) R.length R.length]) ∧ Wf Q ∧ Wf R ∧ Q.length ≤ 1024 ∧ R.length ≤ 1024 ∧ val Q = a / b ∧ val R = a % b ∧ Bk w' g Q ∧ Bk w' h R ∧ Below w.heap.size w w') := by
  obtain ⟨x, hx⟩ : ∃ x, nth (dg b) (n - 1) = x := ⟨_, rfl⟩
  have hx1 : x < 4294967296 := by rw [← hx]; exact nth_lt (wf_dg b) _
  have hx0 : x ≠ 0 := by
    intro h0
    have e : n - 1 + 1 = n := by omega
    have c := take_step (dg b) (n - 1)
    rw [e, List.take_of_length_le (by rw [hlb.out]; exact Nat.le_refl _), val_dg, hx, h0, Nat.mul_zero, Nat.add_zero] at c
    have c2 := val_lt ((wf_dg b).take (n - 1))
    rw [← c, List.length_take, hlb.out, Nat.min_eq_left (by omega)] at c2
    have := dg_length_le c2
    rw [hlb.out] at this
    omega
  have HX := Lib.hid hx
  have cx : w.cell? ⟨pb, qb + (n - 1), none⟩ = some (.int .u32 (x : Int)) := by rw [hb.out.2 (n - 1) (by omega), hx]
  obtain ⟨n1, hn1⟩ : ∃ n1, n1 = n - 1 := ⟨_, rfl⟩
  rw [← hn1] at cx
  have i1 : (n : Int) - 1 = (n1 : Int) := by omega
  have i2 : n1 < n := by omega
  have HN1 := Lib.hid hn1
  obtain ⟨N, hN⟩ : ∃ N, N + n = la + 1 := ⟨la + 1 - n, by omega⟩
  have i3 : (la : Int) - (n : Int) + 1 = (N : Int) := by omega
  have hN2 : N ≤ 1024 := by omega
  clear hx hn1
  go_enter Try.func50, Try.ntmps50
  go_wp2_with (first
    | (go_at_call 64; refine (lz_some x _ hx0 hx1).mono ?_; rintro e w' ⟨⟨s, p, p', rfl, hlz⟩, rfl⟩; have HLZ := Lib.hid hlz; have hs := hlz.1; have HD := Lib.hid (dl_divisor' hlb.out hn2 HX.out hlz); clear hlz)
    | (go_at_call 65; have _k := HXV; refine (shl_some pa qa la c s p p' (dg a) _ HLZ.out.2.2.1 (wf_dg a) hla (by omega) hs HLZ.out.2.1 ⟨Nat.lt_of_lt_of_le ha.out.1 hb1.size, fun j hj => (hb1.cell ha.out.1).trans (ha.out.2 j hj)⟩).mono ?_; rintro e w2 ⟨rfl, Y, hYl, hY, hYv, hbk2, hb2⟩; have HYL := Lib.hid hYl; have HYV : Hid (val Y = a * p) := (by rw [hYv, val_dg] : val Y = a * p); have HB2 := Lib.hid hbk2; have HX2 := Lib.hid (HB1.out.below hb2 HB1.out.lt); clear hYl hYv hbk2)
    | (go_at_call 65; refine (shl_some pb qb n d s p p' (dg b) _ HLZ.out.2.2.1 (wf_dg b) hlb (by omega) hs HLZ.out.2.1 hb).mono ?_; rintro e w1 ⟨rfl, X, hXl, hX, hXv, hbk1, hb1⟩; have HXL := Lib.hid hXl; have HXV : Hid (val X = b * p) := (by rw [hXv, val_dg] : val X = b * p); have HB1 := Lib.hid hbk1; clear hXl hXv hbk1)
    | (go_at_call 56; refine (trimmed_bk HB1.out hX HXL.out (by omega) HXV.out HD.out.1).mono ?_; rintro e w' ⟨rfl, rfl⟩)
    | (at_make; clear _k; refine wpList_make_bk _ rfl _ _ 22 rfl Try.underlying22 _ _ _ _ N rfl rfl (by omega) (by omega) (by omega) ?_; intro w3 hbk3 hs3 hb3; have HB3 := Lib.hid hbk3; clear hbk3 hs3))
  obtain ⟨G, hG⟩ : ∃ G, w.heap.size = G := ⟨_, rfl⟩
  have hp0 : Hid (0 < p) := show 0 < p by rw [HLZ.out.2.1]; exact Nat.pow_pos (by omega)
  have hv0 : Hid (0 < b * p) := show 0 < b * p by
    have h1 := HD.out.2.2.2
    have h2 : 0 < 4294967296 ^ (n - 1) * p := Nat.mul_pos (Nat.pow_pos (by omega)) hp0.out
    omega
  have HG1 : Hid (w.heap.size < w1.heap.size) := HB1.out.lt
  have HG2 : Hid (w1.heap.size < w2.heap.size) := HB2.out.lt
  have HBL : Hid (Below w.heap.size w w3) := (hb1.trans (hb2.mono hb1.size)).trans (hb3.mono (Nat.le_trans hb1.size hb2.size))
  have HP : Hid (DlSt w w3 w1.heap.size w2.heap.size w.heap.size X (b * p) (a * p) la N 0) := by
    refine ⟨Y, [], ?_, HB2.out.below hb3 HB2.out.lt, by simpa using HB3.out, HX2.out.below hb3 (Nat.lt_trans HG1.out HG2.out), HBL.out⟩
    have h1 := dl_start hla.out hN hn2 hp0.out HD.out.2.2.2
    rw [← HYV.out] at h1 ⊢
    exact DlInv.start HYL.out hY (by simpa using h1) (by omega)
  clear hb1 hb2 hb3 hG
  go_loopw [37] (fun i wr => ∃ k : Nat, k ≤ N ∧ i = .int .i64 k ∧ Hid (DlSt w wr w1.heap.size w2.heap.size w.heap.size X (b * p) (a * p) la N k)) (fun i _ => N - (intOf i).toNat)
  case atStart => exact ⟨0, Nat.zero_le _, rfl, HP⟩
  case round =>
    obtain ⟨k, hk, rfl, hst⟩ := hrel
    by_cases hlt : k < N
    · obtain ⟨L, Q, hi, hbL, hbQ, hbX, hbl⟩ := hst.out
      obtain ⟨t, ht⟩ : ∃ t, t = N - 1 - k := ⟨_, rfl⟩
      have i4 : (N : Int) - 1 - (k : Int) = (t : Int) := by omega
      have i5 : t < N := by omega
      have HT : Hid (N - (k + 1) = t) := show _ = _ by omega
      have HT2 : N - k = t + 1 := by omega
      have HT3 : t + (n + 1) ≤ la + 1 := by omega
      rw [HT2] at hi hbQ
      have HI := Lib.hid hi
      have HBL2 := Lib.hid hbL
      have HBQ := Lib.hid hbQ
      have HBX := Lib.hid hbX
      have HBW := Lib.hid hbl
      have HLL := Lib.hid hi.ll
      have HON : Hid (t + (n + 1) ≤ L.length) := show _ ≤ _ by rw [hi.ll]; exact HT3
      have HDC : Hid (∀ j, j < n → wr.cell? ⟨w.heap.size, 0 + j, none⟩ = some (.int .u32 ((nth (dg (b * p)) j : Nat) : Int))) := fun j hj => by
        have e : dg (b * p) = X.take n := by
          have := dg_val_take hX
          rwa [HXV.out, HD.out.1] at this
        rw [e, Nat.zero_add, hbX.cell (by rw [HXL.out]; omega)]
        congr 3
        rw [nth_getElem (by rw [HXL.out]; omega), nth_getElem (by simp [HXL.out]; omega), List.getElem_take]
      have HWIN := Lib.hid (dl_window hi HD.out.2.2.1 HT3)
      have c2 : (wr.cell? ⟨w2.heap.size, t, none⟩).isSome = true := by
        rw [hbQ.cell (i := t) (by simp; omega)]; rfl
      obtain ⟨v3, hv3⟩ := Option.isSome_iff_exists.1 c2
      have f1 : wr.frozen? ⟨w2.heap.size, t, none⟩ = false := hbQ.frozen _
      obtain ⟨q, hq⟩ : ∃ q, q = val ((L.drop t).take (n + 1)) / (b * p) := ⟨_, rfl⟩
      have HQ := Lib.hid hq
      clear hi hbL hbQ hbX hbl c2 ht HT2 hq
      go_wp2_with fail
      refine (quoLimb_n w1.heap.size t n (t + n + 1 - t) (la + 1 - t) w.heap.size 0 (n + 1) L (dg (b * p)) _ HI.out.wl (wf_dg _) HD.out.1 (by omega) hn2 (by omega) HON HBL2 ⟨Nat.ne_of_lt HG1.out, HDC.out⟩ (by omega) HD.out.2.1 (val_dg _) HWIN.out.2.1 HQ).mono ?_
      rintro e w4 ⟨Z, rfl, hzl, hz, hzv, hbk, hu⟩
      have HS : Hid (DlSt w (w4.setCell ⟨w2.heap.size, t, none⟩ (.int .u32 (q : Int))) w1.heap.size w2.heap.size w.heap.size X (b * p) (a * p) la N (k + 1)) := by
        have := DlSt.step (n := n) HI.out HBQ.out HBX.out HBW.out HT.out (Nat.ne_of_lt HG2.out) (Nat.ne_of_lt HG1.out) (Nat.ne_of_lt (Nat.lt_trans HG1.out HG2.out)) (Nat.le_of_lt HG1.out) (Nat.le_of_lt (Nat.lt_trans HG1.out HG2.out)) HD.out.2.2.1 hv0.out HT3 hzl hz hzv hbk hu
        rw [← HQ.out] at this
        exact this
      have c4 : w4.cell? ⟨w2.heap.size, t, none⟩ = some v3 := (hu.cell (Nat.ne_of_gt HG2.out)).trans hv3
      have f4 : w4.frozen? ⟨w2.heap.size, t, none⟩ = false := (HBQ.out.keep (hu.block _ (Nat.ne_of_gt HG2.out))).frozen _
      clear hzl hz hzv hbk hu
      go_wp2_with fail
      go_roundw
      case rel => exact ⟨k + 1, by omega, by go_num, HS⟩
      case measure => simp [intOf]; omega
    · obtain rfl : k = N := by omega
      clear hlt
      obtain ⟨L, Q, hi, hbL, hbQ, hbX, hbl⟩ := hst.out
      rw [Nat.sub_self] at hi hbQ
      have HBL2 := Lib.hid hbL
      have hbQ2 : Bk wr w2.heap.size Q := (by simpa using hbQ); have HBQ := Lib.hid hbQ2; clear hbQ2
      have HBW := Lib.hid hbl
      have HI := Lib.hid hi
      have HR := Lib.hid (hi.done hp0.out (Nat.pos_of_ne_zero (fun h0 => by have := hlb.out; rw [h0, dg_zero] at this; simp at this; omega)) HD.out.2.2.1 (by omega))
      have HC : Hid (w1.heap.size < wr.heap.size ∧ ∀ j, j < n → wr.cell? ⟨w1.heap.size, 0 + j, none⟩ = some (.int .u32 ((nth (L.take n) j : Nat) : Int))) := ⟨hbL.lt, fun j hj => by
        rw [Nat.zero_add, hbL.cell (by rw [hi.ll]; omega)]
        congr 3
        rw [nth_getElem (by rw [hi.ll]; omega), nth_getElem (by simp [hi.ll]; omega), List.getElem_take]⟩
      have HTL : Hid ((L.take n).length = n) := show _ = _ by simp [hi.ll]; omega
      have HQL := Lib.hid hi.ql
      clear hi hbL hbQ hbX hbl
      go_wp2_with fail
      refine (shr_some w1.heap.size 0 n (la + 1) s p p' (L.take n) _ HLZ.out.2.2.1 (HI.out.wl.take n) HTL (by omega) hs HLZ.out.2.1 HC).mono ?_
      rintro e w4 ⟨rfl, R, hRl, hR, hRv, hbk, hbl⟩
      have HF : Hid (Wf Q ∧ Wf R ∧ Q.length ≤ 1024 ∧ R.length ≤ 1024 ∧ val Q = a / b ∧ val R = a % b ∧ Bk w4 w2.heap.size Q ∧ Bk w4 wr.heap.size R ∧ Below w.heap.size w w4) :=
        ⟨HI.out.wq, hR, by rw [HQL.out]; exact hN2, by omega, HR.out.1, by rw [hRv]; exact HR.out.2, HBQ.out.below hbl HBQ.out.lt, hbk, HBW.out.trans (hbl.mono HBW.out.size)⟩
      have HRL := Lib.hid hRl
      clear hRl hR hRv hbk hbl
      go_wp2_with fail
      go_ret2
      exact ⟨w2.heap.size, wr.heap.size, Q, R, by rw [HQL.out, HRL.out]; rfl, HF.out⟩

end Go.Proofs.Ytogmgomcdhfolaa
