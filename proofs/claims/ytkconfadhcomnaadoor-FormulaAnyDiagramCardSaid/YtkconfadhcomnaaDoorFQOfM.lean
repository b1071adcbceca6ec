/-
  Of, the package's and the reference's, of any diagram.
-/
import Derived.Test.YtkconfadhcomnaaDoorFSzsM
import Derived.Test.YtkconfadhcomnaaDoorMx
namespace Go.Proofs.YtkconfadhcomnaaDoor
open Go.RowKit Dg St
set_option linter.unusedVariables false
set_option linter.unusedSimpArgs false
attribute [local go_sem ↓] Go.wp_at_zero Go.wp_at_succ

/-- what Of answers -/
def ofW (M : List Br) (r : Nat) : List Fi × Int := if 512 < sz M r then ([], 2) else (wrN M (r + 1) r [], 0)
theorem ofW_ex {M : List Br} (ho : Ord M) {r : Nat} (hr : r < M.length + 2) : ∃ s, exF M (r + 1) r ([], []) = .ok s ∧ ofW M r = if 512 < s.1.length then ([], 2) else (s.1, 0) := by
  obtain ⟨s, e, h⟩ := ex_main M ho (r + 1) r ([], []) (by omega) hr (fun _ => rfl)
  refine ⟨s, e, ?_⟩
  unfold ofW
  rcases h with ⟨a, b, c, _⟩ | ⟨a, b⟩
  · have a' : sz M r ≤ 512 := by have : 0 + sz M r ≤ 512 := a
                                 omega
    have c' : s.1.length = sz M r := by have : s.1.length = 0 + sz M r := c
                                        omega
    rw [if_neg (by omega), if_neg (by omega), b]
  · have a' : 512 < sz M r := by have : 512 < 0 + sz M r := a
                                 omega
    rw [if_pos a', if_pos b]

set_option maxHeartbeats 4000000 in
set_option maxRecDepth 100000 in
theorem qof_ok (m c r : Nat) (A : Option Addr) (M : List Br) (w : World) (hd : Hid (DOk w ⟨A, m, c, up M, (r : Int)⟩)) (hc : Hid (chk (up M) (r : Int) = 0)) (hv : Hid (Valid M r)) (hm : m ≤ 4096) (hml : Hid (M.length = m)) :
    Calls Tryd.prog 20 #[.agg #[.slice A m c, .int .i64 (r : Int)]] w fun e w' => PsR w w' (ofW M r) e := by
  have hrt : r < m + 2 := by have := hv.out.lt; rw [hml.out] at this; exact this
  have HORD := Lib.hid hv.out.good.ord
  have HRED := Lib.hid hv.out.good.red
  have X0 := nb2 w (.slice A m c) (.int .i64 (r : Int)) 40
  have HB0 := Lib.hid (ab2 w (.cells #[.slice A m c, .int .i64 (r : Int)] 40))
  have HCK : Hid (∀ W, Below w.heap.size w W → Calls Tryd.prog 46 #[.agg #[.slice A m c, .int .i64 (r : Int)]] W fun e w' => e = .returned (.int .i64 0) ∧ Below W.heap.size W w') := Lib.hid (fun W hW => by
    have := rcheck_any (up M) r m c A W (Lib.hid (hd.out.below hW)) hm
    rw [hc.out] at this
    exact this)
  have HSZ : Hid (∀ W, Below w.heap.size w W → Calls Tryd.prog 47 #[.agg #[.slice A m c, .int .i64 (r : Int)]] W fun e w' => ∃ q cap, e = .returned (.slice (some ⟨q, 0, none⟩) (m + 2) cap) ∧ w'.cell? ⟨q, r, none⟩ = some (.int .i64 ((sz M r : Nat) : Int)) ∧ Below W.heap.size W w') := Lib.hid (fun W hW => by
    refine (qsizes A m c r M W (Lib.hid (hd.out.below hW).rd) hml HORD hm).mono ?_
    rintro e w' ⟨q, cap, he, ho, hb⟩
    have := (ho.cellAt r (by omega)).trans (niC_at (z := szs M m) (i := r) (by rw [szs_len]; omega))
    rw [sz_at M r m hrt] at this
    exact ⟨q, cap, he, this, hb⟩)
  have HRD := Lib.hid hd.out.rd
  obtain ⟨SZ, hSZ⟩ : ∃ x, sz M r = x := ⟨_, rfl⟩
  have HSE := Lib.hid hSZ
  have hs1 := szs_le M r r
  rw [show (szs M r).getD r 0 = SZ from hSZ] at hs1
  rw [hSZ] at HSZ
  clear hd hc hv hSZ
  have i1 : (0 : Int) ≤ (r : Int) := by omega
  have i2 : (r : Int) < (m : Int) + 2 := by omega
  have HLT := Lib.hid hrt
  clear hrt
  by_cases h5 : 512 < SZ
  · have HV : Hid (ofW M r = ([], 2)) := Lib.hid (if_pos (by rw [HSE.out]; exact h5))
    have i3 : (512 : Int) < (SZ : Int) := by omega
    clear HSE
    go_enter Tryd.func20, Tryd.ntmps20
    obtain ⟨x0, x1, xn⟩ := xb2 X0
    go_wp2_with fail
    generalize w.alloc (.cells #[.slice A m c, .int .i64 (r : Int)] 40) = w1 at *
    with_reducible refine (HCK.out w1 HB0.out).mono ?_
    rintro e w2 ⟨rfl, b2⟩
    have X2 := rb2 X0 b2
    have HB2 := btr HB0 b2 HB0.out.size
    clear b2 x0 x1 xn X0 HB0 HCK
    have hdr : Below w2.heap.size w2 w2.drew := (Below.refl _ _).drew
    replace X2 := rb2 X2 hdr
    replace HB2 := btr HB2 hdr HB2.out.size
    clear hdr
    go_upto_region 4 with fail
    obtain ⟨x0, x1, xn⟩ := xb2 X2
    go_region_with ((first
      | (go_at_call 47; (with_reducible refine (HSZ.out _ HB2.out).mono ?_); rintro e w3 ⟨q, cap, rfl, hq, b3⟩; have X3 := rb2 X2 b3; have HB3 := btr HB2 b3 HB2.out.size; clear b3 x0 x1 xn; obtain ⟨x0, x1, xn⟩ := xb2 X3)))
    all_goals
      go_wp2
      go_ret2
      exact PsR.nil HV.out HB3.out
  · have HV : Hid (ofW M r = (wrN M (r + 1) r [], 0)) := Lib.hid (if_neg (by rw [HSE.out]; exact h5))
    have i3 : ¬ (512 : Int) < (SZ : Int) := by omega
    have HSL : Hid (sz M r ≤ 512) := Lib.hid (by rw [HSE.out]; omega)
    clear HSE h5
    go_enter Tryd.func20, Tryd.ntmps20
    obtain ⟨x0, x1, xn⟩ := xb2 X0
    go_wp2_with fail
    generalize w.alloc (.cells #[.slice A m c, .int .i64 (r : Int)] 40) = w1 at *
    with_reducible refine (HCK.out w1 HB0.out).mono ?_
    rintro e w2 ⟨rfl, b2⟩
    have X2 := rb2 X0 b2
    have HB2 := btr HB0 b2 HB0.out.size
    clear b2 x0 x1 xn X0 HB0 HCK
    have hdr : Below w2.heap.size w2 w2.drew := (Below.refl _ _).drew
    replace X2 := rb2 X2 hdr
    replace HB2 := btr HB2 hdr HB2.out.size
    clear hdr
    go_upto_region 4 with fail
    obtain ⟨x0, x1, xn⟩ := xb2 X2
    go_region_with ((first
      | (go_at_call 47; (with_reducible refine (HSZ.out _ HB2.out).mono ?_); rintro e w3 ⟨q, cap, rfl, hq, b3⟩; have X3 := rb2 X2 b3; have HB3 := btr HB2 b3 HB2.out.size; clear b3 x0 x1 xn; obtain ⟨x0, x1, xn⟩ := xb2 X3)))
    all_goals
      go_upto_region 7 with fail
      have hw := heap_alloc_new w3 (.cells #[.slice A m c, .int .i64 (r : Int), .slice none 0 0] 92)
      have hcc := fun i => cell_of_row _ _ i _ _ _ hw
      have hff := fun i => frozen_of_row _ _ i _ _ hw
      have hWO : WoM (w3.alloc (.cells #[.slice A m c, .int .i64 (r : Int), .slice none 0 0] 92)) w3.heap.size w3.heap.size (.slice none 0 0) [] :=
        ⟨by rw [hcc 2]; rfl, hff 2, World.ownsRow_nil _ _ _ _, by simp [Value.ownBlock], Nat.le_refl _⟩
      have hc0 : (w3.alloc (.cells #[.slice A m c, .int .i64 (r : Int), .slice none 0 0] 92)).cell? ⟨w3.heap.size, 0, none⟩ = some (.slice A m c) := by rw [hcc 0]; rfl
      have hb4 := ab2 w3 (.cells #[.slice A m c, .int .i64 (r : Int), .slice none 0 0] 92)
      have HNU := Lib.hid (qnum_any w3.heap.size w3.heap.size m c A M w3 (Lib.hid ((HRD.out.below HB3.out).mono HB3.out.size)) hml (by omega) HORD.out HRED.out (r + 1) r (by omega) HLT.out HSL.out _ (.slice none 0 0) [] hb4 hWO hc0 (by have := HSL.out; show 0 + _ ≤ _; omega))
      have X4 := rb2 X3 hb4
      have HB4 := btr HB3 hb4 HB3.out.size
      have HWO := Lib.hid hWO
      clear x0 x1 xn hw hcc hff hWO hc0 hb4 X3
      generalize w3.alloc (.cells #[.slice A m c, .int .i64 (r : Int), .slice none 0 0] 92) = w4 at *
      obtain ⟨x0, x1, xn⟩ := xb2 X4
      generalize hF : wrN M (r + 1) r [] = F at *
      have HF := Lib.hid hF
      clear hF
      go_wp2_with fail
      with_reducible refine HNU.out.mono ?_
      rintro e w5 ⟨rfl, vf', hE⟩
      have HB5 := Lib.hid (HB4.out.trans ((hE.below HWO.out).mono HB3.out.size))
      obtain ⟨A', c', ev, hc', hrf, _⟩ := rf_own hE.m.rf rfl
      subst ev
      have y0 := hE.m.cf
      have HRF2 := Lib.hid hrf
      clear hE hrf HNU x0 x1 xn X4
      go_wp2
      go_ret2
      rw [HV.out]
      exact ⟨A', F.length, c', rfl, rfl, hc', HRF2.out, HB5.out⟩

set_option maxHeartbeats 2000000 in
theorem qof_bad (m c : Nat) (A : Option Addr) (l : List Bi) (r : Int) (w : World) (hd : Hid (DOk w ⟨A, m, c, l, r⟩)) (hc : Hid (chk l r = 20)) (hm : m ≤ 4096) :
    Calls Tryd.prog 20 #[.agg #[.slice A m c, .int .i64 r]] w fun e w' => PsR w w' ([], 20) e := by
  have X0 := nb2 w (.slice A m c) (.int .i64 r) 40
  have HB0 := Lib.hid (ab2 w (.cells #[.slice A m c, .int .i64 r] 40))
  have HCK : Hid (∀ W, Below w.heap.size w W → Calls Tryd.prog 46 #[.agg #[.slice A m c, .int .i64 r]] W fun e w' => e = .returned (.int .i64 20) ∧ Below W.heap.size W w') := Lib.hid (fun W hW => by
    have := rcheck_any l r m c A W (Lib.hid (hd.out.below hW)) hm
    rw [hc.out] at this
    exact this)
  clear hd hc
  go_enter Tryd.func20, Tryd.ntmps20
  obtain ⟨x0, x1, xn⟩ := xb2 X0
  go_wp2_with fail
  generalize w.alloc (.cells #[.slice A m c, .int .i64 r] 40) = w1 at *
  with_reducible refine (HCK.out w1 HB0.out).mono ?_
  rintro e w2 ⟨rfl, b2⟩
  have HB2 := btr HB0 b2 HB0.out.size
  clear b2 x0 x1 xn X0 HB0 HCK
  go_wp2
  go_ret2
  exact PsR.nil rfl HB2.out
set_option maxHeartbeats 2000000 in
theorem fof_bad (m c : Nat) (A : Option Addr) (l : List Bi) (r : Int) (w : World) (hd : Hid (DOk w ⟨A, m, c, l, r⟩)) (hc : Hid (chk l r = 20)) :
    Calls Tryd.prog 19 #[.agg #[.slice A m c, .int .i64 r]] w fun e w' => PsR w w' ([], 20) e := by
  have X0 := nb2 w (.slice A m c) (.int .i64 r) 40
  have HB0 := Lib.hid (ab2 w (.cells #[.slice A m c, .int .i64 r] 40))
  have HCK : Hid (∀ W, Below w.heap.size w W → Calls Tryd.prog 21 #[.agg #[.slice A m c, .int .i64 r]] W fun e w' => e = .returned (.int .i64 20) ∧ Below W.heap.size W w') := Lib.hid (fun W hW => by
    have d2 := hd.out.below hW
    have := check_any l r m c A W (Lib.hid d2.rd) (Lib.hid d2.wi) (Lib.hid d2.len) d2.lm d2.mc (Lib.hid d2.ri)
    rw [hc.out] at this
    exact this)
  clear hd hc
  go_enter Tryd.func19, Tryd.ntmps19
  obtain ⟨x0, x1, xn⟩ := xb2 X0
  go_wp2_with fail
  generalize w.alloc (.cells #[.slice A m c, .int .i64 r] 40) = w1 at *
  with_reducible refine (HCK.out w1 HB0.out).mono ?_
  rintro e w2 ⟨rfl, b2⟩
  have HB2 := btr HB0 b2 HB0.out.size
  clear b2 x0 x1 xn X0 HB0 HCK
  go_wp2
  go_ret2
  exact PsR.nil rfl HB2.out

/-- the two Ofs answer the same -/
theorem of_both (m c : Nat) (A : Option Addr) (l : List Bi) (r : Int) (w : World) (hd : Hid (DOk w ⟨A, m, c, l, r⟩)) (hm : m ≤ 4096) :
    ∃ V : List Fi × Int, V.1.length ≤ 512 ∧ ((chk l r = 0 ∧ (V.2 = 0 ∨ V.2 = 2)) ∨ (chk l r = 20 ∧ V.2 = 20)) ∧ ∀ W, Below w.heap.size w W →
      Calls Tryd.prog 19 #[.agg #[.slice A m c, .int .i64 r]] W (fun e w' => PsR W w' V e) ∧ Calls Tryd.prog 20 #[.agg #[.slice A m c, .int .i64 r]] W (fun e w' => PsR W w' V e) := by
  have hlen : l.length = m := (dok_rd hd.out).2
  rcases chk_or (l := l) (r := r) (by omega) with h | h
  · obtain ⟨M, n, hM, hn, hv, h4⟩ := chk_ok.1 h
    subst hM
    subst hn
    have hml : M.length = m := by rw [up_len] at hlen; exact hlen
    obtain ⟨s, e, hV⟩ := ofW_ex hv.good.ord hv.lt
    refine ⟨ofW M n, ?_, .inl ⟨h, ?_⟩, fun W hW => ⟨?_, ?_⟩⟩
    · unfold ofW
      by_cases q : 512 < sz M n
      · rw [if_pos q]; show (0 : Nat) ≤ 512; omega
      · rw [if_neg q]
        have := wrN_len M hv.good.ord (n + 1) n [] (by omega) hv.lt (by show 0 + _ ≤ _; omega)
        show (wrN M (n + 1) n []).length ≤ 512
        rw [this]
        show 0 + _ ≤ _
        omega
    · unfold ofW
      by_cases q : 512 < sz M n
      · rw [if_pos q]; exact .inr rfl
      · rw [if_neg q]; exact .inl rfl
    · exact fof_ok m c n A M s W (Lib.hid (hd.out.below hW)) (Lib.hid h) (Lib.hid e) (ofW M n) (Lib.hid hV)
    · exact qof_ok m c n A M W (Lib.hid (hd.out.below hW)) (Lib.hid h) (Lib.hid hv) hm (Lib.hid hml)
  · exact ⟨([], 20), (by show (0 : Nat) ≤ 512; omega), .inr ⟨h, rfl⟩, fun W hW => ⟨fof_bad m c A l r W (Lib.hid (hd.out.below hW)) (Lib.hid h), qof_bad m c A l r W (Lib.hid (hd.out.below hW)) (Lib.hid h) hm⟩⟩

end Go.Proofs.YtkconfadhcomnaaDoor
