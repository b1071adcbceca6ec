/-
  The reference's Literal. (Seat of the great laws.)
-/
import Derived.Test.YtfkljlncnfeklaaGreatDoorXQtM
import Derived.Test.YtfkljlncnfeklaaGreatDoorPn
import Derived.Test.YtfkljlncnfeklaaGreatDoorPl
import Derived.Test.YtfkljlncnfeklaaGreatDoorPk
import Derived.Test.YtfkljlncnfeklaaGreatDoorPq
namespace Go.Proofs.YtfkljlncnfeklaaGreatDoor
open Go.RowKit Go.Shelf
set_option linter.unusedVariables false
set_option linter.unusedSimpArgs false
attribute [local go_sem ↓] Go.wp_at_zero Go.wp_at_succ
attribute [local go_sem] stIn stAt stUpon

theorem jn_lit (l : List Pn) (b : Nat) (h : l.length ≠ 0) : jnN 2 l [(1, (b : Int), (b : Int), 0, 0)] = jnP l b := by
  unfold jnN jnP
  rw [if_neg h]
  have e : ([(1, (b : Int), (b : Int), 0, 0)] : List Pn).map (shN l.length) = [(1, (b : Int), (b : Int), 0, 0)] := by simp [shN, arP]
  rw [e]
  have e1 : ((l.length - 1 : Nat) : Int) = (l.length : Int) - 1 := by omega
  have e2 : (l.length : Int) + (([(1, (b : Int), (b : Int), 0, 0)] : List Pn).length : Int) - 1 = (l.length : Int) := by simp
  rw [e1, e2]
theorem jnP_pos (l : List Pn) (b : Nat) : 1 ≤ (jnP l b).length := by
  unfold jnP
  split <;> simp
theorem litN_one (b : UInt8) : litN [b] = [(1, (b.toNat : Int), (b.toNat : Int), 0, 0)] := rfl
/-- a byte's pattern in memory -/
theorem one_rp (w : World) (b : Int) : ∀ W, w.alloc (.cells #[.int .i64 1, .int .i64 b, .int .i64 b, .int .i64 0, .int .i64 0] 42) = W → Hid (Rp W W.heap.size (some ⟨w.heap.size, 0, none⟩) [(1, b, b, 0, 0)]) ∧ Hid (Below w.heap.size w W) := by
  rintro W rfl
  refine ⟨Lib.hid (fun _ => ⟨w.heap.size, 0, rfl, by simp, fun j hj => ?_⟩), Lib.hid ((Below.refl _ _).alloc (Nat.le_refl _) _)⟩
  have hj' : j < 1 := hj
  obtain rfl : j = 0 := by omega
  exact bx5 (bx_new rfl _ _)
theorem emp_rp (w : World) : Rp (w.alloc (.cells #[.int .i64 0, .int .i64 0, .int .i64 0, .int .i64 0, .int .i64 0] 42)) (w.alloc (.cells #[.int .i64 0, .int .i64 0, .int .i64 0, .int .i64 0, .int .i64 0] 42)).heap.size (some ⟨w.heap.size, 0, none⟩) [(0, 0, 0, 0, 0)] :=
  fun _ => ⟨w.heap.size, 0, rfl, by simp, fun j hj => by
    have hj' : j < 1 := hj
    obtain rfl : j = 0 := by omega
    exact bx5 (bx_new rfl _ _)⟩
/-- the literal of the first k bytes stands -/
structure LtI (w wr : World) (S : List UInt8) (k n : Nat) (A : Option Addr) : Prop where
  ln : (litN (S.take k)).length = n
  n1 : 1 ≤ n
  rp : Rp wr wr.heap.size A (litN (S.take k))
  bel : Below w.heap.size w wr
set_option maxRecDepth 100000 in
set_option maxHeartbeats 4000000 in
theorem rliteral_any (S : List UInt8) (w : World) : Calls Tryz.prog 17 #[.string ⟨S.toArray⟩] w fun e w' => ∃ A c, e = .returned (.tuple #[.slice A (litP S).1.length c, .int .i64 (litP S).2]) ∧ Hid (Rp w' w'.heap.size A (litP S).1) ∧ Hid (Below w.heap.size w w') := by
  by_cases h8 : 256 < S.length
  · have HP := Lib.hid (show litP S = ([], 2) by unfold litP; rw [if_pos h8])
    have i8 : (256 : Int) < (S.length : Int) := by omega
    go_enter Tryz.func17, Tryz.ntmps17
    go_wp2
    go_ret2
    rw [HP.out]
    exact ⟨none, 0, rfl, Lib.hid Rp.nil, Lib.hid (Below.refl _ _)⟩
  · have i8 : ¬ (256 : Int) < (S.length : Int) := by omega
    rcases S with _ | ⟨b, S'⟩
    · go_enter Tryz.func17, Tryz.ntmps17
      go_wp2_with (go_at_call 24; with_reducible refine (rempty_any _).mono ?_; rintro e w2 ⟨rfl, hw⟩; subst hw)
      go_ret2
      exact ⟨_, _, rfl, Lib.hid (emp_rp w), Lib.hid ((Below.refl _ _).alloc (Nat.le_refl _) _)⟩
    · obtain ⟨S, hS⟩ : ∃ S, b :: S' = S := ⟨_, rfl⟩
      rw [hS] at i8 h8 ⊢
      have hlen : 0 < S.length := by rw [← hS]; simp
      have h0 : S.take 1 = [b] := by rw [← hS]; rfl
      have hg0 : S.getD 0 0 = b := by rw [← hS]; rfl
      have hne : S ≠ [] := by rw [← hS]; simp
      have hne2 : S.isEmpty = false := by rw [← hS]; rfl
      have HP := Lib.hid (show litP S = (litN S, 0) by unfold litP; rw [if_neg h8, if_neg hne])
      have hpf : 0 < (⟨S.toArray⟩ : ByteArray).size := by rw [bs_size]; exact hlen
      have hxx : (⟨S.toArray⟩ : ByteArray)[0]'hpf = b := by
        rw [← hg0, List.getD_eq_getElem?_getD, List.getElem?_eq_getElem hlen]
        rfl
      have l1 : (0 : Int) < (S.length : Int) := by omega
      have hb8 : b.toNat < 256 := UInt8.toNat_lt _
      have hbw : IntKind.i64.wrap ((b.toNat : Nat) : Int) = ((b.toNat : Nat) : Int) := by rw [IntKind.wrap_i64]; omega
      have HO := Lib.hid (fun W => rone_any (b.toNat : Int) (b.toNat : Int) W)
      have HLO := Lib.hid (litN_one b)
      have HT1 := Lib.hid h0
      have hmx : Tryz.prog.follows .mixedOrders = true := by kernel_rfl
      clear hS hg0 hne h0
      go_enter Tryz.func17, Tryz.ntmps17
      go_wp2
      refine region_mix_wp 6 12 (fun w' => ∃ d, w' = w.drewN d) (fun _ w' => ∃ d, w' = w.drewN d) (fun _ => false) (by decide) hmx (by kernel_rfl) (by kernel_rfl) (by kernel_rfl) (fun _ _ h => h) (fun _ _ _ _ => Iff.rfl) ⟨1, rfl⟩ ?_
      simp only [List.take_succ_cons, List.take_zero]
      repeat (refine wpSt_step (by quiet_asked_in) (fun K hK => ?_); go_simp; refine hK _ ?_; clear hK K)
      refine wpSt_nil ?_
      refine mix_rest (i := 6) (by kernel_rfl) (by decide) rfl ?_
      rintro w' ⟨dd, rfl⟩
      refine wpOpIn_step rfl (fun K hK => ?_)
      go_simp
      refine ⟨trivial, ?_⟩
      refine (callsIn_wide.2 (HO.out _)).mono ?_
      rintro e w2 ⟨rfl, hw⟩
      refine hK _ _ ?_
      clear hK K
      obtain ⟨r2, b2⟩ := one_rp _ _ _ hw.symm
      have HT : Hid (LtI w w2 S 1 1 (some ⟨w.heap.size, 0, none⟩)) := Lib.hid ⟨by rw [HT1.out]; rfl, Nat.le_refl _, by rw [HT1.out, HLO.out]; exact r2.out, (below_drewN (Below.refl _ _) dd).trans b2.out⟩
      clear hw r2 b2 HO hxx hb8 hbw
      refine wpAnyIn_ready (rs := [7]) (by kernel_rfl) (by simp) ?_
      refine AllReadyIn.cons rfl (fun K hK => ?_) AllReadyIn.nil
      go_simp
      refine hK _ _ ?_
      clear hK K
      refine wpAnyIn_done (by kernel_rfl) ?_ _
      refine npQ.normal ?_
      go_wp2
      go_loopw [4, 5] (fun v4 v5 wr => ∃ (k n c : Nat) (A : Option Addr), v4 = .slice A n c ∧ v5 = .int .i64 (k : Int) ∧ 1 ≤ k ∧ k ≤ S.length ∧ Hid (LtI w wr S k n A)) (fun v4 v5 wr => S.length - (intOf v5).toNat)
      case atStart => exact ⟨1, 1, 1, _, rfl, rfl, Nat.le_refl _, hlen, HT⟩
      case round =>
        clear HT HLO HT1
        obtain ⟨k, n, c, A, rfl, rfl, hk1, hk, hT⟩ := hrel
        by_cases hlt : k < S.length
        · have i1 : (k : Int) < (S.length : Int) := by omega
          have i0 : (0 : Int) ≤ (k : Int) := by omega
          have hpk : k < (⟨S.toArray⟩ : ByteArray).size := by rw [bs_size]; exact hlt
          have hxk : (⟨S.toArray⟩ : ByteArray)[k]'hpk = S.getD k 0 := by
            rw [List.getD_eq_getElem?_getD, List.getElem?_eq_getElem hlt]
            rfl
          have HTK := Lib.hid (show S.take (k + 1) = S.take k ++ [S.getD k 0] by rw [List.take_succ_eq_append_getElem hlt, List.getD_eq_getElem?_getD, List.getElem?_eq_getElem hlt]; rfl)
          have hb8 : (S.getD k 0).toNat < 256 := UInt8.toNat_lt _
          generalize S.getD k 0 = B at *
          have hbw : IntKind.i64.wrap ((B.toNat : Nat) : Int) = ((B.toNat : Nat) : Int) := by rw [IntKind.wrap_i64]; omega
          have HO := Lib.hid (fun W => rone_any (B.toNat : Int) (B.toNat : Int) W)
          have hln := litN_len (S.take k)
          have hnn : n ≤ 512 := by have := hT.out.ln; rw [List.length_take] at hln; omega
          have hn0 : (litN (S.take k)).length ≠ 0 := by have := hT.out.ln; have := hT.out.n1; omega
          have HJN := Lib.hid (show jnN 2 (litN (S.take k)) [(1, (B.toNat : Int), (B.toNat : Int), 0, 0)] = litN (S.take (k + 1)) by rw [jn_lit _ _ hn0, HTK.out, litN_snoc])
          have HJ : Hid (∀ W A' , Hid (Rp W W.heap.size A (litN (S.take k))) → Hid (Rp W W.heap.size A' [(1, (B.toNat : Int), (B.toNat : Int), 0, 0)]) → Calls Tryz.prog 27 #[.int .i64 2, .slice A n c, .slice A' 1 1] W fun e w' => ∃ A2 c2, e = .returned (.slice A2 (litN (S.take (k + 1))).length c2) ∧ Hid (Rp w' w'.heap.size A2 (litN (S.take (k + 1)))) ∧ Hid (Below W.heap.size W w')) := Lib.hid (fun W A' h1 h2 => (rjoin_any 2 A A' n c 1 1 (litN (S.take k)) [(1, (B.toNat : Int), (B.toNat : Int), 0, 0)] W (Lib.hid hT.out.ln) (Lib.hid rfl) h1 h2 hT.out.n1 (by omega) (by omega) (fun j hj => by
            obtain rfl : j = 0 := by omega
            exact ⟨Int.le_refl _, (by show (0 : Int) ≤ 1000000; decide), Int.le_refl _, (by show (0 : Int) ≤ 1000000; decide)⟩)).mono (fun e w' ⟨v, q1, q2, q3⟩ => by
              rw [HJN.out] at q2
              obtain ⟨A2, c2, rfl, hr2⟩ := rp_own q2 rfl
              exact ⟨A2, c2, q1, Lib.hid hr2, Lib.hid q3⟩))
          have HN1 := Lib.hid (show 1 ≤ (litN (S.take (k + 1))).length by rw [HTK.out, litN_snoc]; exact jnP_pos _ _)
          clear hln hn0 HJN HTK
          generalize hL2 : litN (S.take (k + 1)) = L2 at *
          have HL2 := Lib.hid hL2
          clear hL2
          go_wp2
          have HBd := Lib.hid (hT.out.bel.drew)
          have HRd := Lib.hid (show Rp wr.drew wr.drew.heap.size A (litN (S.take k)) from hT.out.rp)
          have HOd := Lib.hid (fun W (h : W = wr.drew.alloc (.cells #[.int .i64 1, .int .i64 (B.toNat : Int), .int .i64 (B.toNat : Int), .int .i64 0, .int .i64 0] 42)) => one_rp wr.drew (B.toNat : Int) W h.symm)
          have HJ2 : Hid (∀ W, W = wr.drew.alloc (.cells #[.int .i64 1, .int .i64 (B.toNat : Int), .int .i64 (B.toNat : Int), .int .i64 0, .int .i64 0] 42) → Hid (Below w.heap.size w W) ∧ Calls Tryz.prog 27 #[.int .i64 2, .slice A n c, .slice (some ⟨wr.heap.size, 0, none⟩) 1 1] W fun e w' => ∃ A2 c2, e = .returned (.slice A2 L2.length c2) ∧ Hid (Rp w' w'.heap.size A2 L2) ∧ Hid (Below W.heap.size W w')) := Lib.hid (fun W h => by
            obtain ⟨r2, b2⟩ := HOd.out W h
            exact ⟨Lib.hid (HBd.out.trans (b2.out.mono HBd.out.size)), HJ.out W (some ⟨wr.heap.size, 0, none⟩) (Rp.later HRd b2.out) r2⟩)
          clear HOd
          go_region_with (first
            | (go_at_call 25; with_reducible refine (HO.out _).mono ?_; rintro e w2 ⟨rfl, hw⟩; obtain ⟨HB2, HC2⟩ := HJ2.out w2 hw; replace HB2 := HB2; have HC3 := Lib.hid HC2; clear HC2 hw)
            | (go_at_call 27; with_reducible refine HC3.out.mono ?_; rintro e w3 ⟨A3, c3, rfl, r3, b3⟩))
          all_goals
            go_wp2
            go_roundw
            case rel => exact ⟨k + 1, L2.length, c3, A3, rfl, by go_num, by omega, by omega, Lib.hid ⟨by rw [HL2.out], HN1.out, by rw [HL2.out]; exact r3.out, HB2.out.trans (b3.out.mono HB2.out.size)⟩⟩
            case measure => simp only [intOf]; omega
        · obtain rfl : k = S.length := by omega
          have HE := Lib.hid (show S.take S.length = S from List.take_of_length_le (Nat.le_refl _))
          have hln := hT.out.ln
          have hrp := hT.out.rp
          rw [HE.out] at hln hrp
          have HL := Lib.hid hln
          have HR := Lib.hid hrp
          clear hln hrp
          go_wp2
          go_ret2
          rw [HP.out]
          exact ⟨A, c, by rw [HL.out]; rfl, HR, Lib.hid hT.out.bel⟩

end Go.Proofs.YtfkljlncnfeklaaGreatDoor
