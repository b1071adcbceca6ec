/-
  The law PatternCommonMatchesReference returns true. (Seat of the great laws.)
-/
import Derived.Test.YtfkljlncnfeklaaGreatDoorPt
import Derived.Test.YtfkljlncnfeklaaGreatDoorXQrM
namespace Go.Proofs.YtfkljlncnfeklaaGreatDoor
open Go.RowKit Go.Shelf
set_option linter.unusedVariables false
set_option linter.unusedSimpArgs false
attribute [local go_sem ↓] Go.wp_at_zero Go.wp_at_succ

set_option maxHeartbeats 8000000 in
set_option maxRecDepth 100000 in
theorem lawO_walk (A0 : Option Addr) (m0 c0 : Nat) (l0 : List Nat) (A1 : Option Addr) (m1 c1 : Nat) (l1 : List Nat) (w : World) (h0 : Hid (B8 w w.heap.size A0 m0 l0)) (hm0 : m0 ≤ 9223372036854775807) (h1 : Hid (B8 w w.heap.size A1 m1 l1)) (hm1 : m1 ≤ 9223372036854775807) (hz : Hid (Tz w ∧ 2 < w.heap.size)) :
    Calls Tryz.prog 5 #[.slice A0 m0 c0, .slice A1 m1 c1] w fun e w' => e = .returned (.bool true) ∧ Below w.heap.size w w' := by
  have k0 := Ky.first hz.out.1 hz.out.2
  obtain ⟨ha, hna⟩ := madeR_ok l0 (most := 12) (by decide)
  obtain ⟨hb, hnb⟩ := madeR_ok l1 (most := 12) (by decide)
  have HMA := lid' (fun W hk => kp_made w W hk A0 c0 m0 12 l0 h0 hm0 (by decide) (by decide) 12 rfl)
  have HMB := lid' (fun W hk => kp_made w W hk A1 c1 m1 12 l1 h1 hm1 (by decide) (by decide) 12 rfl)
  replace ha := ha.by8
  replace hb := hb.by8
  generalize madeR l0 12 = a at *
  generalize madeR l1 12 = b at *
  have HS1 := lid' (fun W hk A c => kp_short w W hk a ha (by omega) A c)
  have HS2 := lid' (fun W A c => kq_short W a ha hna A c)
  have HC1 := lid' (fun W hk A A' c c' => kp_common w W hk a b ha hb (by omega) (by omega) A A' c c')
  have HC2 := lid' (fun W A A' c c' => kq_common W a b ha hb hna hnb A A' c c')
  have HSan := lid' (fun W hk => kp_san w W hk)
  have HLa := lid' (fun s t z y (h : CmR a a s z) (k : CmQ (a.po []) (a.po []) t y) => cm_like h k)
  have HLb := lid' (fun s t z y (h : CmR a b s z) (k : CmQ (a.po []) (b.po []) t y) => cm_like h k)
  clear h0 h1 hz ha hb hna hnb hm0 hm1
  generalize a.po [] = p at *
  generalize b.po [] = q at *
  generalize hpn : p.length = pn at *
  generalize hqn : q.length = qn at *
  clear hpn hqn
  go_enter Tryz.func5, Tryz.ntmps5
  go_wp2_with fail
  with_reducible refine (HSan.out w k0).mono ?_
  rintro e w1 ⟨rfl, b1⟩
  have k1 := Ky.later k0 b1
  clear k0 b1 HSan
  go_wp2_with fail
  with_reducible refine (HMA.out w1 k1).mono ?_
  rintro e w2 ⟨A2, c2, rfl, r2, b2⟩
  have k2 := Ky.later k1 b2
  clear k1 b2 HMA
  go_wp2_with fail
  with_reducible refine (HMB.out w2 k2).mono ?_
  rintro e w3 ⟨A3, c3, rfl, q3, b3⟩
  have k3 := Ky.later k2 b3
  have r3 := Rp.lat r2 b3
  clear k2 r2 b3 HMB
  go_wp2_with fail
  with_reducible refine (HS1.out w3 k3 _ _ r3).mono ?_
  rintro e w4 ⟨s, z, rfl, hs, b4⟩
  have k4 := Ky.later k3 b4
  have r4 := Rp.lat r3 b4
  have q4 := Rp.lat q3 b4
  clear k3 r3 q3 b4 HS1
  go_wp2_with fail
  with_reducible refine (HS2.out w4 _ _ r4).mono ?_
  rintro e w5 ⟨t, y, rfl, ht, b5⟩
  obtain ⟨rfl, rfl⟩ := HLa.out _ _ _ _ hs.out ht.out
  have k5 := Ky.later k4 b5
  have r5 := Rp.lat r4 b5
  have q5 := Rp.lat q4 b5
  clear k4 r4 q4 b5 ht hs HS2 HLa
  go_wp2_with fail
  with_reducible refine (HC1.out w5 k5 _ _ _ _ r5 q5).mono ?_
  rintro e w6 ⟨u, g, rfl, hu, b6⟩
  have k6 := Ky.later k5 b6
  have r6 := Rp.lat r5 b6
  have q6 := Rp.lat q5 b6
  clear k5 r5 q5 b6 HC1
  go_wp2_with fail
  with_reducible refine (HC2.out w6 _ _ _ _ r6 q6).mono ?_
  rintro e w7 ⟨v, h, rfl, hv, b7⟩
  obtain ⟨rfl, rfl⟩ := HLb.out _ _ _ _ hu.out hv.out
  have k7 := Ky.later k6 b7
  clear k6 r6 q6 b7 hu hv HC2 HLb
  go_wp2
  go_ret
  exact ⟨rfl, k7.out.b⟩

end Go.Proofs.YtfkljlncnfeklaaGreatDoor
