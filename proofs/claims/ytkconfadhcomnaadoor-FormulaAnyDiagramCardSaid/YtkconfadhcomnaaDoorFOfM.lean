/-
  formula.Of and Text.
-/
import Derived.Test.YtkconfadhcomnaaDoorFl
import Derived.Test.YtkconfadhcomnaaDoorMx
namespace Go.Proofs.YtkconfadhcomnaaDoor
open Go.RowKit Dg St
set_option linter.unusedVariables false
set_option linter.unusedSimpArgs false
attribute [local go_sem ↓] Go.wp_at_zero Go.wp_at_succ

theorem xexp_any (B g m c : Nat) (A : Option Addr) (M : List Br) (w0 : World) (hrd : Hid (Rd w0 B A (up M))) (hml : Hid (M.length = m)) (hm : m ≤ 1000000) (ho : Ord M) : ∀ n r, r < m + 2 → ExC w0 B g (.slice A m c) (exF M n r) r
  | 0, r, _ => fun W vf vs s s' _ _ _ _ e => by cases e
  | n + 1, r, h => by
    by_cases hlow : r < 2
    · exact xexp_low B g m c A M n r w0 hrd hml hm (Lib.hid (fun _ => by omega)) hlow
    · have hk : r - 2 < M.length := by rw [hml.out]; omega
      obtain ⟨q1, q2, q3, _, _⟩ := ho (r - 2) hk
      have HXH := Lib.hid (xexp_any B g m c A M w0 hrd hml hm ho n (bh M (r - 2)) (by omega))
      have HXL := Lib.hid (xexp_any B g m c A M w0 hrd hml hm ho n (bl M (r - 2)) (by omega))
      have hr : Hid (2 ≤ r → r - 2 < m) := Lib.hid (fun _ => by omega)
      have h2 : 2 ≤ r := by omega
      by_cases h0 : bh M (r - 2) = 0
      · by_cases l0 : bl M (r - 2) = 0
        · exact xexp_00 B g m c A M n r w0 hrd hml hm hr h2 h0 l0 HXH HXL
        · by_cases l1 : bl M (r - 2) = 1
          · exact xexp_01 B g m c A M n r w0 hrd hml hm hr h2 h0 l1 HXH HXL
          · exact xexp_0x B g m c A M n r w0 hrd hml hm hr h2 h0 l0 l1 HXH HXL
      · by_cases h1 : bh M (r - 2) = 1
        · by_cases l0 : bl M (r - 2) = 0
          · exact xexp_10 B g m c A M n r w0 hrd hml hm hr h2 h1 l0 HXH HXL
          · by_cases l1 : bl M (r - 2) = 1
            · exact xexp_11 B g m c A M n r w0 hrd hml hm hr h2 h1 l1 HXH HXL
            · exact xexp_1x B g m c A M n r w0 hrd hml hm hr h2 h1 l0 l1 HXH HXL
        · by_cases l0 : bl M (r - 2) = 0
          · exact xexp_x0 B g m c A M n r w0 hrd hml hm hr h2 h0 h1 l0 HXH HXL
          · by_cases l1 : bl M (r - 2) = 1
            · exact xexp_x1 B g m c A M n r w0 hrd hml hm hr h2 h0 h1 l1 HXH HXL
            · exact xexp_xx B g m c A M n r w0 hrd hml hm hr h2 h0 h1 l0 l1 HXH HXL

set_option maxHeartbeats 4000000 in
set_option maxRecDepth 100000 in
theorem fof_ok (m c r : Nat) (A : Option Addr) (M : List Br) (s : PLs) (w : World) (hd : Hid (DOk w ⟨A, m, c, up M, (r : Int)⟩)) (hc : Hid (chk (up M) (r : Int) = 0)) (e : Hid (exF M (r + 1) r ([], []) = .ok s)) (V : List Fi × Int) (hV : Hid (V = if 512 < s.1.length then ([], 2) else (s.1, 0))) :
    Calls Tryd.prog 19 #[.agg #[.slice A m c, .int .i64 (r : Int)]] w fun e w' => PsR w w' V e := by
  obtain ⟨M', n', hM, hn', hv, h4⟩ := chk_ok.1 hc.out
  have hMM : M' = M := by
    have := congrArg dn hM
    rw [dn_up, dn_up] at this
    exact this.symm
  subst hMM
  have hrr : n' = r := by omega
  subst hrr
  have hml : M'.length = m := by have := hd.out.len; rw [up_len] at this; exact this
  have hrt := hv.lt
  have HORD := Lib.hid hv.good.ord
  have HX := nb2 w (.slice A m c) (.int .i64 (n' : Int)) 40
  have HB0 := Lib.hid (ab2 w (.cells #[.slice A m c, .int .i64 (n' : Int)] 40))
  have HCK : Hid (∀ W, Below w.heap.size w W → Calls Tryd.prog 21 #[.agg #[.slice A m c, .int .i64 (n' : Int)]] W fun e w' => e = .returned (.int .i64 0) ∧ Below W.heap.size W w') := Lib.hid (fun W hW => by
    have d2 := hd.out.below hW
    have := check_any (up M') n' m c A W (Lib.hid d2.rd) (Lib.hid d2.wi) (Lib.hid d2.len) d2.lm d2.mc (Lib.hid d2.ri)
    rw [hc.out] at this
    exact this)
  have HRD := Lib.hid hd.out.rd
  have HML := Lib.hid hml
  clear hc hM hn' hv hd
  go_enter Tryd.func19, Tryd.ntmps19
  obtain ⟨x0, x1, xn⟩ := xb2 HX
  go_wp2_with fail
  generalize w.alloc (.cells #[.slice A m c, .int .i64 (n' : Int)] 40) = w1 at *
  with_reducible refine (HCK.out w1 HB0.out).mono ?_
  rintro e w2 ⟨rfl, b2⟩
  have HX2 := rb2 HX b2
  have HB2 := btr HB0 b2 HB0.out.size
  clear b2 x0 x1 xn HX HB0 HCK
  obtain ⟨x0, x1, xn⟩ := xb2 HX2
  have hw2 := heap_alloc_new w2 (.cells #[.slice A m c, .slice none 0 0, .slice none 0 0] 87)
  have hcc := fun i => cell_of_row _ _ i _ _ _ hw2
  have hff := fun i => frozen_of_row _ _ i _ _ hw2
  have hPO : PoM (w2.alloc (.cells #[.slice A m c, .slice none 0 0, .slice none 0 0] 87)) w2.heap.size w2.heap.size 1 (.slice none 0 0) (.slice none 0 0) [] [] :=
    ⟨by rw [hcc 1]; rfl, by rw [hcc 2]; rfl, hff 1, hff 2, World.ownsRow_nil _ _ _ _, World.ownsRow_nil _ _ _ _, by simp [Value.ownBlock], by simp [Value.ownBlock], Nat.le_refl _⟩
  have hc0 : (w2.alloc (.cells #[.slice A m c, .slice none 0 0, .slice none 0 0] 87)).cell? ⟨w2.heap.size, 0, none⟩ = some (.slice A m c) := by rw [hcc 0]; rfl
  have HEX := Lib.hid (xexp_any w2.heap.size w2.heap.size m c A M' w2 (Lib.hid ((HRD.out.below HB2.out).mono HB2.out.size)) HML (by omega) HORD.out (n' + 1) n' (by omega) _ (.slice none 0 0) (.slice none 0 0) ([], []) s ((Below.refl _ _).alloc (Nat.le_refl _) _) hPO hc0 ⟨rfl, Nat.zero_le _, fun i hi => absurd hi (by simp)⟩ e.out)
  have HB3 := Lib.hid (HB2.out.alloc HB2.out.size (.cells #[.slice A m c, .slice none 0 0, .slice none 0 0] 87))
  have HPO := Lib.hid hPO
  clear hw2 hcc hff hPO hc0 e
  go_wp2_with fail
  with_reducible refine HEX.out.mono ?_
  rintro e w3 ⟨rfl, vf', vs', hE⟩
  have HF := Lib.hid (pform_any w2.heap.size w2.heap.size 1 vf' vs' s.1 s.2 w3 hE.m)
  have HRF := Lib.hid (rf_own hE.m.rf rfl)
  have HB4 := Lib.hid (HB3.out.trans ((hE.below HPO.out).mono HB2.out.size))
  clear hE HEX x0 x1 xn
  by_cases h5 : 512 < s.1.length
  · rw [if_pos h5] at HF
    have HVV : Hid (V = ([], 2)) := Lib.hid (hV.out.trans (if_pos h5))
    clear h5 HRF hV
    go_wp2_with fail
    with_reducible refine HF.out.mono ?_
    rintro e w5 ⟨rfl, rfl⟩
    go_wp2
    go_ret2
    exact PsR.nil HVV.out HB4.out
  · rw [if_neg h5] at HF
    have HVV : Hid (V = (s.1, 0)) := Lib.hid (hV.out.trans (if_neg h5))
    obtain ⟨A', c', ev, hc', hrf, _⟩ := HRF.out
    subst ev
    have HRF2 := Lib.hid hrf
    clear h5 hrf HRF hV
    go_wp2_with fail
    with_reducible refine HF.out.mono ?_
    rintro e w5 ⟨rfl, rfl⟩
    go_wp2
    go_ret2
    rw [HVV.out]
    exact ⟨A', s.1.length, c', rfl, rfl, hc', HRF2.out, HB4.out⟩

end Go.Proofs.YtkconfadhcomnaaDoor
