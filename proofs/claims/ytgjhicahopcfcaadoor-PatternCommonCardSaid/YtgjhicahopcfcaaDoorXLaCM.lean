/-
  The law PatternCommon returns true.
-/
import Derived.Test.YtgjhicahopcfcaaDoorPt
namespace Go.Proofs.YtgjhicahopcfcaaDoor
open Go.RowKit Go.Shelf
set_option linter.unusedVariables false
set_option linter.unusedSimpArgs false
attribute [local go_sem ↓] Go.wp_at_zero Go.wp_at_succ

theorem cm_sym {a b : Rx} {s t : List UInt8} {z y : Int} (h : CmR a b s z) (k : CmR b a t y) : t = s ∧ y = z := by
  rcases h with ⟨rfl, h, _⟩ | ⟨rfl, rfl, h⟩ <;> rcases k with ⟨rfl, k, _⟩ | ⟨rfl, rfl, k⟩
  · exact ⟨firstB_uniq ⟨k.1, k.2.2.1, k.2.1, fun v k1 k2 k3 => k.2.2.2 v k1 k3 k2⟩ h, rfl⟩
  · exact absurd ⟨h.2.2.1, h.2.1⟩ (k _ h.1)
  · exact absurd ⟨k.2.2.1, k.2.1⟩ (h _ k.1)
  · exact ⟨rfl, rfl⟩
/-- the shortest of one of them against the common one -/
theorem cm_short {a b c : Rx} {s v : List UInt8} {y : Int} (h : FirstB a b s) (hc : c.mt s) (k : CmR c c v y) : y = 0 ∧ v.length ≤ s.length ∧ (v.length = s.length → Op.bytesLess s v = false) := by
  rcases k with ⟨rfl, k, _⟩ | ⟨rfl, rfl, k⟩
  · exact ⟨rfl, le_geq (k.2.2.2 s h.1 hc hc)⟩
  · exact absurd ⟨hc, hc⟩ (k _ h.1)

set_option maxHeartbeats 8000000 in
set_option maxRecDepth 100000 in
theorem lawC_walk (A0 : Option Addr) (m0 c0 : Nat) (l0 : List Nat) (A1 : Option Addr) (m1 c1 : Nat) (l1 : List Nat) (w : World) (h0 : Hid (B8 w w.heap.size A0 m0 l0)) (hm0 : m0 ≤ 9223372036854775807) (h1 : Hid (B8 w w.heap.size A1 m1 l1)) (hm1 : m1 ≤ 9223372036854775807) (hz : Hid (Tz w ∧ 3 < w.heap.size)) :
    Calls Tryd.prog 6 #[.slice A0 m0 c0, .slice A1 m1 c1] w fun e w' => e = .returned (.bool true) ∧ Below w.heap.size w w' := by
  have k0 := Ky.first hz.out.1 hz.out.2
  obtain ⟨ha, hna⟩ := madeR_ok l0 (most := 20) (by decide)
  obtain ⟨hb, hnb⟩ := madeR_ok l1 (most := 20) (by decide)
  have HMA := lid' (fun W hk => kp_made w W hk A0 c0 m0 20 l0 h0 hm0 (by decide) (by decide) 20 rfl)
  have HMB := lid' (fun W hk => kp_made w W hk A1 c1 m1 20 l1 h1 hm1 (by decide) (by decide) 20 rfl)
  replace ha := ha.by8
  replace hb := hb.by8
  generalize madeR l0 20 = a at *
  generalize madeR l1 20 = b at *
  have HCab := lid' (fun W hk A A' c c' => kp_common w W hk a b ha hb (by omega) (by omega) A A' c c')
  have HCba := lid' (fun W hk A A' c c' => kp_common w W hk b a hb ha (by omega) (by omega) A A' c c')
  have HCaa := lid' (fun W hk A A' c c' => kp_common w W hk a a ha ha (by omega) (by omega) A A' c c')
  have HSa := lid' (fun W hk A c => kp_short w W hk a ha (by omega) A c)
  have HSb := lid' (fun W hk A c => kp_short w W hk b hb (by omega) A c)
  have HXa := lid' (fun W hk A c s hs => kp_match w W hk a A c s hs)
  have HXb := lid' (fun W hk A c s hs => kp_match w W hk b A c s hs)
  have HSan := lid' (fun W hk => kp_san w W hk)
  have HIa := lid' (fun s => maP_iff ha (by omega) s)
  have HIb := lid' (fun s => maP_iff hb (by omega) s)
  clear h0 h1 hz ha hb hna hnb hm0 hm1
  generalize a.po [] = p at *
  generalize b.po [] = q at *
  generalize p.length = pn at *
  generalize q.length = qn at *
  go_enter Tryd.func6, Tryd.ntmps6
  go_wp2_with fail
  with_reducible refine (HSan.out w k0).mono ?_
  rintro e w1 ⟨rfl, b1⟩
  have k1 := Ky.later k0 b1
  clear k0 b1 HSan
  go_wp2_with fail
  with_reducible refine (HMA.out w1 k1).mono ?_
  rintro e w2 ⟨A2, c2, rfl, r2, b2⟩
  have k2 := Ky.later k1 b2
  clear k1 b2 HMA
  go_wp2_with fail
  with_reducible refine (HMB.out w2 k2).mono ?_
  rintro e w3 ⟨A3, c3, rfl, q3, b3⟩
  have k3 := Ky.later k2 b3
  have r3 := Rp.lat r2 b3
  clear k2 r2 b3 HMB
  go_wp2_with fail
  with_reducible refine (HCab.out w3 k3 _ _ _ _ r3 q3).mono ?_
  rintro e w4 ⟨s, z, rfl, hs, b4⟩
  have k4 := Ky.later k3 b4
  have r4 := Rp.lat r3 b4
  have q4 := Rp.lat q3 b4
  clear k3 r3 q3 b4 HCab
  go_wp2_with fail
  with_reducible refine (HCba.out w4 k4 _ _ _ _ q4 r4).mono ?_
  rintro e w5 ⟨t, y, rfl, ht, b5⟩
  obtain ⟨rfl, rfl⟩ := cm_sym hs.out ht.out
  have k5 := Ky.later k4 b5
  have r5 := Rp.lat r4 b5
  have q5 := Rp.lat q4 b5
  clear k4 r4 q4 b5 ht HCba
  go_wp2_with fail
  with_reducible refine (HCaa.out w5 k5 _ _ _ _ r5 r5).mono ?_
  rintro e w6 ⟨u, g, rfl, hu, b6⟩
  have k6 := Ky.later k5 b6
  have r6 := Rp.lat r5 b6
  have q6 := Rp.lat q5 b6
  clear k5 r5 q5 b6 HCaa
  go_wp2_with fail
  with_reducible refine (HSa.out w6 k6 _ _ r6).mono ?_
  rintro e w7 ⟨v, h, rfl, hv, b7⟩
  obtain ⟨rfl, rfl⟩ := cm_sym hu.out hv.out
  have k7 := Ky.later k6 b7
  have r7 := Rp.lat r6 b7
  have q7 := Rp.lat q6 b7
  clear k6 r6 q6 b7 hu HSa
  go_wp2_with fail
  with_reducible refine (HSb.out w7 k7 _ _ q7).mono ?_
  rintro e w8 ⟨x, i, rfl, hx, b8⟩
  have k8 := Ky.later k7 b8
  have r8 := Rp.lat r7 b8
  have q8 := Rp.lat q7 b8
  clear k7 r7 q7 b8 HSb
  rcases hs.out with ⟨rfl, hF, hlen⟩ | ⟨rfl, rfl, hN⟩
  · obtain ⟨rfl, g1, g2⟩ := cm_short hF hF.2.1 hv.out
    obtain ⟨rfl, g3, g4⟩ := cm_short hF hF.2.2.1 hx.out
    have hne := hF.1
    have MA : Hid (∀ (W : World) (A : Option Addr) (c : Nat), Hid (Ky w W) → Hid (Rp W W.heap.size A p) → Calls Tryd.prog 15 #[.slice A pn c, .string ⟨t.toArray⟩] W fun e w' => e = .returned (.bool true) ∧ Hid (Below W.heap.size W w')) := lid' (fun W A c hk hr => by
      have := HXa.out W hk A c ⟨t.toArray⟩ (by show t.toArray.size ≤ _; rw [List.size_toArray]; omega) hr
      rw [show maP p (⟨t.toArray⟩ : ByteArray).data.toList = true from (HIa.out t).2 hF.2.1] at this
      exact this)
    have MB : Hid (∀ (W : World) (A : Option Addr) (c : Nat), Hid (Ky w W) → Hid (Rp W W.heap.size A q) → Calls Tryd.prog 15 #[.slice A qn c, .string ⟨t.toArray⟩] W fun e w' => e = .returned (.bool true) ∧ Hid (Below W.heap.size W w')) := lid' (fun W A c hk hr => by
      have := HXb.out W hk A c ⟨t.toArray⟩ (by show t.toArray.size ≤ _; rw [List.size_toArray]; omega) hr
      rw [show maP q (⟨t.toArray⟩ : ByteArray).data.toList = true from (HIb.out t).2 hF.2.2.1] at this
      exact this)
    clear hs hF hlen HXa HXb HIa HIb hx hv
    obtain ⟨y1, t1, rfl⟩ : ∃ y1 t1, t = y1 :: t1 := by
      cases t with
      | nil => exact absurd rfl hne
      | cons y1 t1 => exact ⟨y1, t1, rfl⟩
    clear hne
    rw [List.length_cons] at g1 g2 g3 g4
    have f1 : (v.length : Int) ≤ (t1.length : Int) + 1 := by omega
    have f2 : (x.length : Int) ≤ (t1.length : Int) + 1 := by omega
    have d1 : (v.length : Int) < (t1.length : Int) + 1 ∨ (¬ (v.length : Int) < (t1.length : Int) + 1 ∧ Op.bytesLess (y1 :: t1) v = false) := by
      rcases Nat.lt_or_ge v.length (t1.length + 1) with h | h
      · exact .inl (by omega)
      · exact .inr ⟨by omega, g2 (by omega)⟩
    have d2 : (x.length : Int) < (t1.length : Int) + 1 ∨ (¬ (x.length : Int) < (t1.length : Int) + 1 ∧ Op.bytesLess (y1 :: t1) x = false) := by
      rcases Nat.lt_or_ge x.length (t1.length + 1) with h | h
      · exact .inl (by omega)
      · exact .inr ⟨by omega, g4 (by omega)⟩
    clear g1 g2 g3 g4
    rcases d1 with a1 | ⟨a1, a2⟩ <;> rcases d2 with a3 | ⟨a3, a4⟩
    all_goals
      go_wp2_with fail
      with_reducible refine (MA.out w8 _ _ k8 r8).mono ?_
      rintro e w9 ⟨rfl, b9⟩
      have k9 := Ky.later k8 b9
      have q9 := Rp.lat q8 b9
      clear k8 q8 r8 b9 MA
      go_wp2_with fail
      with_reducible refine (MB.out w9 _ _ k9 q9).mono ?_
      rintro e w10 ⟨rfl, b10⟩
      have k10 := Ky.later k9 b10
      clear k9 q9 b10 MB
      go_wp2_with fail
      go_ret
      exact ⟨rfl, k10.out.b⟩
  · clear hs hN HXa HXb HIa HIb hx hv
    go_wp2_with fail
    go_ret
    exact ⟨rfl, k8.out.b⟩

end Go.Proofs.YtgjhicahopcfcaaDoor
