/-
  natural.Div: the quotient and the remainder.
-/
import Derived.Test.YtogmgomcdhfolaaLong
import Derived.Test.YtogmgomcdhfolaaDiv1
namespace Go.Proofs.Ytogmgomcdhfolaa
open Go.RowKit Nt

set_option maxHeartbeats 1000000 in
theorem div_less (a b c d n : Nat) (A A' : Option Addr) (w : World) (ha : Hid (Rd w w.heap.size A (dg a))) (hb : Hid (Rd w w.heap.size A' (dg b))) (la : (dg a).length ≤ 1024) (lb : Hid ((dg b).length = n)) (hn : n ≤ 1024) (hn0 : 0 < n) (hc : (dg a).length ≤ c) (hab : a < b) :
    Calls Try.prog 22 #[.slice A (dg a).length c, .slice A' n d] w (Gives3 w 0 a 0) := by
  have VA := Lib.hid (vldB_dg la)
  have VB := Lib.hid (vldB_dg (N := b) (by rw [lb.out]; exact hn))
  obtain ⟨z, hz, hz0⟩ : ∃ z : Int, cmpN a b = z ∧ z < 0 := ⟨_, rfl, by unfold cmpN; rw [if_pos hab]; omega⟩
  have HZ := Lib.hid hz
  clear hz
  go_enter Try.func22, Try.ntmps22
  go_wp2_with (first
    | (go_at_call 26; ((with_reducible refine (valid_yes c _ ha.out rfl (by omega) VA.out).mono ?_); rintro e w' ⟨rfl, rfl⟩))
    | (go_at_call 26; ((with_reducible refine (valid_yes d n hb.out lb.out (by omega) VB.out).mono ?_); rintro e w' ⟨rfl, rfl⟩))
    | (go_at_call 44; refine (compareLimbs_any' c d ha.out hb.out la lb.out (by omega)).mono ?_; rintro e w1 ⟨rfl, hq⟩; rw [HZ.out]; have hbl1 := hq.below w.heap.size; have hs1 := hq.size; have HS1 := Lib.hid hs1; clear hs1)
    | (go_at_call 47; refine (canonical_gives (l := dg a) c _ (ha.out.below hbl1) (by rw [HS1.out]; exact Nat.le_refl _) (wf_dg a) rfl (by omega) hc).mono ?_; rintro e w4 ⟨v, rfl, h1, h2⟩; have H1 := Lib.hid h1; have hb4 := hbl1.trans (h2.mono hbl1.size); clear h1))
  go_ret3
  have h1 := H1.out
  rw [val_dg] at h1
  exact ⟨_, v, rfl, Num.nil _, h1, hb4⟩

set_option maxHeartbeats 1000000 in
theorem div_zero (a c d : Nat) (A A' : Option Addr) (w : World) (ha : Hid (Rd w w.heap.size A (dg a))) (la : (dg a).length ≤ 1024) :
    Calls Try.prog 22 #[.slice A (dg a).length c, .slice A' 0 d] w (Gives3 w 0 0 11) := by
  have VA := Lib.hid (vldB_dg la)
  have RB : Hid (Rd w w.heap.size A' []) := Rd.nil
  go_enter Try.func22, Try.ntmps22
  go_wp2_with (first
    | (go_at_call 26; ((with_reducible refine (valid_yes c _ ha.out rfl (by omega) VA.out).mono ?_); rintro e w' ⟨rfl, rfl⟩))
    | (go_at_call 26; ((with_reducible refine (valid_yes (l := []) d 0 RB.out rfl (by omega) rfl).mono ?_); rintro e w' ⟨rfl, rfl⟩)))
  go_ret3
  exact ⟨_, _, rfl, Num.nil _, Num.nil _, Below.refl _ _⟩

set_option maxHeartbeats 1000000 in
theorem div_many (a b la n c d pa qa pb qb : Nat) (w : World) (hla : Hid ((dg a).length = la)) (hlb : Hid ((dg b).length = n)) (hab : b ≤ a) (hm : la ≤ 1024) (hn2 : 2 ≤ n) (hnl : n ≤ la)
    (ha : Hid (pa < w.heap.size ∧ ∀ j, j < la → w.cell? ⟨pa, qa + j, none⟩ = some (.int .u32 ((nth (dg a) j : Nat) : Int))))
    (hb : Hid (pb < w.heap.size ∧ ∀ j, j < n → w.cell? ⟨pb, qb + j, none⟩ = some (.int .u32 ((nth (dg b) j : Nat) : Int)))) :
    Calls Try.prog 22 #[.slice (some ⟨pa, qa, none⟩) la c, .slice (some ⟨pb, qb, none⟩) n d] w (Gives3 w (a / b) (a % b) 0) := by
  have VA := Lib.hid (vldB_dg (N := a) (by rw [hla.out]; exact hm))
  have VB := Lib.hid (vldB_dg (N := b) (by rw [hlb.out]; omega))
  have RA : Hid (Rd w w.heap.size (some ⟨pa, qa, none⟩) (dg a)) := fun _ => ⟨pa, qa, rfl, ha.out.1, fun j hj => ha.out.2 j (by rw [← hla.out]; exact hj)⟩
  have RB : Hid (Rd w w.heap.size (some ⟨pb, qb, none⟩) (dg b)) := fun _ => ⟨pb, qb, rfl, hb.out.1, fun j hj => hb.out.2 j (by rw [← hlb.out]; exact hj)⟩
  obtain ⟨z, hz, hz0⟩ : ∃ z : Int, cmpN a b = z ∧ ¬ z < 0 := ⟨_, rfl, by unfold cmpN; rw [if_neg (by omega)]; split <;> omega⟩
  have HZ := Lib.hid hz
  clear hz
  have CMP : Hid (Calls Try.prog 44 #[.slice (some ⟨pa, qa, none⟩) la c, .slice (some ⟨pb, qb, none⟩) n d] w (fun e w' => e = .returned (.int .i64 z) ∧ Qt w w')) := by
    have := compareLimbs_any' c d RA.out RB.out (by rw [hla.out]; exact hm) hlb.out (by omega)
    rw [hla.out, HZ.out] at this
    exact this
  go_enter Try.func22, Try.ntmps22
  go_wp2_with (first
    | (go_at_call 26; ((with_reducible refine (valid_yes c _ RA.out hla.out (by omega) VA.out).mono ?_); rintro e w' ⟨rfl, rfl⟩))
    | (go_at_call 26; ((with_reducible refine (valid_yes d n RB.out hlb.out (by omega) VB.out).mono ?_); rintro e w' ⟨rfl, rfl⟩))
    | (go_at_call 44; refine CMP.out.mono ?_; rintro e w1 ⟨rfl, hq⟩; have hbl1 := hq.below w.heap.size; have hs1 := hq.size; have HS1 := Lib.hid hs1; have HA1 : Hid (pa < w1.heap.size ∧ ∀ j, j < la → w1.cell? ⟨pa, qa + j, none⟩ = some (.int .u32 ((nth (dg a) j : Nat) : Int))) := ⟨by rw [hs1]; exact ha.out.1, fun j hj => (hq.cell _).trans (ha.out.2 j hj)⟩; have HB1 : Hid (pb < w1.heap.size ∧ ∀ j, j < n → w1.cell? ⟨pb, qb + j, none⟩ = some (.int .u32 ((nth (dg b) j : Nat) : Int))) := ⟨by rw [hs1]; exact hb.out.1, fun j hj => (hq.cell _).trans (hb.out.2 j hj)⟩; clear hs1)
    | (go_at_call 50; refine (divLong_some a b la n c d pa qa pb qb _ hla hlb hm hn2 hnl HA1 HB1).mono ?_; rintro e w2 ⟨g, h, Q, R, rfl, hQ, hR, hql, hrl, hqv, hrv, hbq, hbr, hbl2⟩; have HBQ := Lib.hid hbq; have HBR := Lib.hid hbr; have HQV := Lib.hid hqv; have HRV := Lib.hid hrv; have hb2 := hbl1.trans (hbl2.mono hbl1.size); clear hbq hbr hqv hrv)
    | (go_at_call 47; have _k := HQ3; refine (canonical_gives (l := R) _ _ ((HBR.out.below hb3 HBR.out.lt).rd (HBR.out.below hb3 HBR.out.lt).lt) (Nat.le_refl _) hR rfl (by omega) (Nat.le_refl _)).mono ?_; rintro e w4 ⟨u, rfl, h3, h4⟩; have HR3 := Lib.hid h3; clear h3)
    | (go_at_call 47; refine (canonical_gives (l := Q) _ _ (HBQ.out.rd HBQ.out.lt) (Nat.le_refl _) hQ rfl (by omega) (Nat.le_refl _)).mono ?_; rintro e w3 ⟨v, rfl, h1, hb3⟩; have HQ3 := Lib.hid h1; clear h1))
  go_ret3
  have h1 := HQ3.out
  rw [HQV.out] at h1
  have h3 := HR3.out
  rw [HRV.out] at h3
  exact ⟨v, u, rfl, h1.below h4, h3, (hb2.trans (hb3.mono hb2.size)).trans (h4.mono (Nat.le_trans hb2.size hb3.size))⟩

end Go.Proofs.Ytogmgomcdhfolaa
