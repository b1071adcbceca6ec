/-
  Plain mathematics and contracts of package diagram, several texts in one: DCount, DCtB, DKit, DLit.
-/
import Derived.Test.YtefepaackdhiiaaDoorMg
import Derived.Test.YtefepaackdhiiaaDoorMn
import Derived.Test.YtefepaackdhiiaaDoorMa
namespace Go.Proofs.YtefepaackdhiiaaDoor
open Go.RowKit Dg St
theorem cnt_lt {M : List Br} (hg : Dg.Good M) {k d : Nat} (hk : k < M.length) (hd : d ≤ 64) : cnt d (Den M (k + 2)) < 2 ^ 64 := by
  have hn := cnt_not d (Den M (k + 2))
  by_cases h : d < 64
  · have : 2 ^ d < 2 ^ 64 := Nat.pow_lt_pow_right (by omega) h
    omega
  · obtain rfl : d = 64 := by omega
    have hlow : Low 64 (fun c => !Den M (k + 2) c) := Low.not (fun c c' hc => den_dep64 hg.ord (n := k + 2) (by omega) c c' (fun i _ h2 => hc i h2))
    have hex : ∃ c, (!Den M (k + 2) c) = true := by
      refine Classical.byContradiction (fun hno => ?_)
      have hall : Den M (k + 2) = Den M 1 := by
        rw [Den_one]
        funext c
        rcases hv : Den M (k + 2) c with _ | _
        · exact absurd ⟨c, by rw [hv]; rfl⟩ hno
        · rfl
      have := Den_inj hg (by omega) (by omega) hall
      omega
    have := cnt_pos 64 _ hlow hex
    omega
def CtOk (w w' : World) (N : Nat) (e : Ending) : Prop := (∃ v, e = .returned (.tuple #[v, .int .i64 0]) ∧ Nn.Num w' v N) ∧ Below w.heap.size w w'
set_option maxHeartbeats 2000000 in
set_option maxRecDepth 100000 in
theorem count_br (m c r d : Nat) (A : Option Addr) (f : Cfg → Bool) (w : World) (h0 : Hid (Dn w A m c r f)) (hd64 : d ≤ 64) (hd1 : 1 ≤ d) (hm0 : 0 < m) (hbv : Hid (∀ k, k < m → bv (cn f).1 k < d)) :
    Calls Tryd.prog 39 #[.agg #[.slice A m c, .int .i64 (r : Int)], .int .i64 (d : Int)] w (fun e w' => CtOk w w' (cnt d f) e) := by
  have hok := h0.out.ok
  have hck := h0.out.chk
  have hlm := h0.out.lm
  have hlt := h0.out.lt
  have hlen := h0.out.len
  have hrd := h0.out.rd
  have hval := h0.out.valid
  have hden := h0.out.den
  unfold Dn.da at hok
  clear h0
  generalize (cn f).1 = M at *
  have HORD := Lib.hid hval.good.ord
  have HLEN := Lib.hid hlen
  have HVAL := Lib.hid hval
  have HDEN := Lib.hid hden
  have b1 := (Below.refl w.heap.size w).alloc (Nat.le_refl _) (.cells #[.slice A m c, .int .i64 (r : Int)] 24)
  have hok1 := Lib.hid (hok.below b1)
  have hx1 := Lib.hid (Blk.new (w := w) rfl [.slice A m c, .int .i64 (r : Int)] 24)
  have HB1 := Lib.hid b1
  have HCK := Lib.hid hck
  have HRD := Lib.hid hrd
  have hdn : decide ((64 : Int) < (d : Int)) = false := decide_eq_false (by omega)
  have hdn2 : ¬ 64 < d := by omega
  have hdn3 : ¬ (64 : Int) < (d : Int) := by omega
  have hdn0 : ¬ (d : Int) < 0 := by omega
  have hr2v : 2 ≤ r ∧ r = m + 1 := by
    rcases hval.root with ⟨e, _⟩ | ⟨_, e⟩
    · rw [e] at hlen; simp at hlen; omega
    · omega
  have hcnt : cnt d f = cnt d (Den M (m + 1)) := by rw [← hden, hr2v.2]
  have HSM : Hid (∀ n, n < m + 2 → 2 ≤ n → cnt d (Den M n) < 2 ^ 64) := fun n hn h2 => by
    obtain ⟨k, rfl⟩ : ∃ k, n = k + 2 := ⟨n - 2, by omega⟩
    have hk : k < M.length := by rw [hlen]; omega
    exact cnt_lt hval.good hk hd64
  have hs64 : cnt d (Den M (m + 1)) < 18446744073709551616 := HSM.out (m + 1) (by omega) (by omega)
  obtain ⟨h2r, hrm⟩ := hr2v
  clear hrm
  clear b1 hok hck hrd hval hden hlen
  go_enter Tryd.func39, Tryd.ntmps39
  go_wp2_with (go_at_call 22; refine (check_any (up M) (r : Int) m c A _ hok1.out.rd hok1.out.wi hok1.out.len hok1.out.lm hok1.out.mc hok1.out.ri).mono ?_; rintro e w2 ⟨rfl, hb2⟩; have hc0 := HCK.out; rw [hc0];  have HB2 := Lib.hid (HB1.out.trans (hb2.mono HB1.out.size)); have HX2 := Lib.hid (hx1.out.below (by simp) hb2); have hx0 : w2.cell? ⟨w.heap.size, 0, none⟩ = some (.slice A m c) := (HX2.out 0 (by simp)).1; clear hb2 hc0)
  clear hx0
  go_loopw [23] (fun i wr => ∃ k : Nat, k ≤ m ∧ i = .int .i64 (k : Int) ∧ Hid (Below w.heap.size w wr ∧ Blk wr w.heap.size 2 (fun i => [Value.slice A m c, .int .i64 (r : Int)].getD i undef))) (fun i _ => m - (intOf i).toNat)
  case atStart => exact ⟨0, Nat.zero_le _, rfl, HB2.out, HX2.out⟩
  case round =>
    obtain ⟨k, hk, rfl, hst⟩ := hrel
    by_cases hlt' : k < m
    · obtain ⟨b', o', e, hb, hc⟩ := ((HRD.out.below hst.out.1).mono hst.out.1.size) (by rw [up_len, HLEN.out]; omega)
      subst e
      obtain ⟨d0, d1, d2⟩ := hc k (by rw [up_len, HLEN.out]; exact hlt')
      rw [iv_up] at d0
      rw [il_up] at d1
      rw [ih_up] at d2
      have hbvk := hbv.out k hlt'
      have hbn : ¬ b' = wr.heap.size := by omega
      have i1 : (0 : Int) ≤ (k : Int) := by omega
      have i2 : (k : Int) < (m : Int) := by omega
      have HST := Lib.hid (And.intro (hst.out.1.alloc hst.out.1.size (.cells #[.int .i64 ((bv M k : Nat) : Int), .int .i64 ((bl M k : Nat) : Int), .int .i64 ((bh M k : Nat) : Int)] 72)) (hst.out.2.alloc (by omega) (.cells #[.int .i64 ((bv M k : Nat) : Int), .int .i64 ((bl M k : Nat) : Int), .int .i64 ((bh M k : Nat) : Int)] 72)))
      clear hc
      generalize bv M k = V at *
      generalize bl M k = LL at *
      generalize bh M k = UU at *
      have hge : decide ((d : Int) ≤ (V : Int)) = false := decide_eq_false (by omega)
      have hge2 : decide (d ≤ V) = false := decide_eq_false (by omega)
      go_wp2
      go_roundw
      case rel => exact ⟨k + 1, by omega, by go_num, HST.out⟩
      case measure => simp [intOf]; omega
    · obtain rfl : k = m := by omega
      have hx0 : wr.cell? ⟨w.heap.size, 0, none⟩ = some (.slice A k c) := (hst.out.2 0 (by omega)).1
      have hx1' : wr.cell? ⟨w.heap.size, 1, none⟩ = some (.int .i64 (r : Int)) := (hst.out.2 1 (by omega)).1
      have HBR := Lib.hid hst.out.1
      have hr1 : ((r : Int) == 0) = false := beq_eq_false_iff_ne.2 (by omega)
      have hr2 : ((r : Int) == 1) = false := beq_eq_false_iff_ne.2 (by omega)
      have HCB := Lib.hid (countBr_ok k c r d A M wr ((HRD.out.below HBR.out).mono HBR.out.size) HLEN hlm hm0 HORD hbv hd64 hd1 HSM.out)
      have HCN := Lib.hid hcnt
      have HS64 := Lib.hid hs64
      clear hcnt hs64
      generalize cnt d (Den M (k + 1)) = Z at *
      go_wp2_with (first
        | (go_at_call 91; refine HCB.out.mono ?_; rintro e w5 ⟨rfl, hb5⟩; have HB5 := Lib.hid (HBR.out.trans (hb5.mono HBR.out.size)); clear hb5)
        | (go_at_call 57; refine (Nn.of_64 Z _ HS64).mono ?_; rintro e w6 ⟨v, rfl, hn6, hb6⟩; have HB6 := Lib.hid (HB5.out.trans (hb6.mono HB5.out.size)); have HN6 := Lib.hid hn6; clear hb6 hn6))
      go_ret2
      exact ⟨⟨v, rfl, by rw [HCN.out]; exact HN6.out⟩, HB6.out⟩
set_option maxHeartbeats 2000000 in
set_option maxRecDepth 100000 in
theorem count_zero (m c r d : Nat) (A : Option Addr) (f : Cfg → Bool) (w : World) (h0 : Hid (Dn w A m c r f)) (hd64 : d ≤ 64) (hr : Hid (r = 0)) :
    Calls Tryd.prog 39 #[.agg #[.slice A m c, .int .i64 (r : Int)], .int .i64 (d : Int)] w (fun e w' => CtOk w w' (cnt d f) e) := by
  have hok := h0.out.ok
  have hck := h0.out.chk
  have hlm := h0.out.lm
  have hlt := h0.out.lt
  have hlen := h0.out.len
  have hrd := h0.out.rd
  have hval := h0.out.valid
  have hden := h0.out.den
  unfold Dn.da at hok
  clear h0
  generalize (cn f).1 = M at *
  have HORD := Lib.hid hval.good.ord
  have HLEN := Lib.hid hlen
  have HVAL := Lib.hid hval
  have HDEN := Lib.hid hden
  have b1 := (Below.refl w.heap.size w).alloc (Nat.le_refl _) (.cells #[.slice A m c, .int .i64 (r : Int)] 24)
  have hok1 := Lib.hid (hok.below b1)
  have hx1 := Lib.hid (Blk.new (w := w) rfl [.slice A m c, .int .i64 (r : Int)] 24)
  have HB1 := Lib.hid b1
  have HCK := Lib.hid hck
  have HRD := Lib.hid hrd
  have hdn : decide ((64 : Int) < (d : Int)) = false := decide_eq_false (by omega)
  have hdn2 : ¬ 64 < d := by omega
  have hdn3 : ¬ (64 : Int) < (d : Int) := by omega
  have hdn0 : ¬ (d : Int) < 0 := by omega
  have hm0 : m ≤ 0 := by
    rcases hval.root with ⟨e, _⟩ | ⟨_, e⟩
    · rw [e] at hlen; simp at hlen; omega
    · have := hr.out; omega
  have HOF : Hid (∀ W : World, Calls Tryd.prog 57 #[.int .u64 0] W (Nn.Gives1 W 0)) := fun W => Nn.of_64 0 W (show 0 < 18446744073709551616 by omega)
  have HCZ : Hid (cnt d f = 0) := by
    show _ = _
    rw [← hden, hr.out, Den_zero, cnt_const]; rfl
  clear b1 hok hck hrd hval hden hlen
  go_enter Tryd.func39, Tryd.ntmps39
  go_wp2_with (go_at_call 22; refine (check_any (up M) (r : Int) m c A _ hok1.out.rd hok1.out.wi hok1.out.len hok1.out.lm hok1.out.mc hok1.out.ri).mono ?_; rintro e w2 ⟨rfl, hb2⟩; have hc0 := HCK.out; rw [hc0];  have HB2 := Lib.hid (HB1.out.trans (hb2.mono HB1.out.size)); have HX2 := Lib.hid (hx1.out.below (by simp) hb2); have hx0 : w2.cell? ⟨w.heap.size, 0, none⟩ = some (.slice A m c) := (HX2.out 0 (by simp)).1; clear hb2 hc0)
  clear hx0
  go_loopw [23] (fun i wr => ∃ k : Nat, k ≤ m ∧ i = .int .i64 (k : Int) ∧ Hid (Below w.heap.size w wr ∧ Blk wr w.heap.size 2 (fun i => [Value.slice A m c, .int .i64 (r : Int)].getD i undef))) (fun i _ => m - (intOf i).toNat)
  case atStart => exact ⟨0, Nat.zero_le _, rfl, HB2.out, HX2.out⟩
  case round =>
    obtain ⟨k, hk, rfl, hst⟩ := hrel
    by_cases hlt' : k < m
    · omega
    · obtain rfl : k = m := by omega
      have hx0 : wr.cell? ⟨w.heap.size, 0, none⟩ = some (.slice A k c) := (hst.out.2 0 (by omega)).1
      have hx1' : wr.cell? ⟨w.heap.size, 1, none⟩ = some (.int .i64 (r : Int)) := (hst.out.2 1 (by omega)).1
      have HBR := Lib.hid hst.out.1
      have hr1 : ((r : Int) == 0) = true := by rw [hr.out]; rfl
      go_wp2_with (go_at_call 57; refine (HOF.out _).mono ?_; rintro e w6 ⟨v, rfl, hn6, hb6⟩; have HB6 := Lib.hid (HBR.out.trans (hb6.mono HBR.out.size)); have HN6 := Lib.hid hn6; clear hb6 hn6)
      go_ret2
      exact ⟨⟨v, rfl, by rw [HCZ.out]; exact HN6.out⟩, HB6.out⟩
set_option maxHeartbeats 2000000 in
set_option maxRecDepth 100000 in
theorem count_all (m c r d : Nat) (A : Option Addr) (f : Cfg → Bool) (w : World) (h0 : Hid (Dn w A m c r f)) (hd64 : d ≤ 64) (hr : Hid (r = 1)) :
    Calls Tryd.prog 39 #[.agg #[.slice A m c, .int .i64 (r : Int)], .int .i64 (d : Int)] w (fun e w' => CtOk w w' (cnt d f) e) := by
  have hok := h0.out.ok
  have hck := h0.out.chk
  have hlm := h0.out.lm
  have hlt := h0.out.lt
  have hlen := h0.out.len
  have hrd := h0.out.rd
  have hval := h0.out.valid
  have hden := h0.out.den
  unfold Dn.da at hok
  clear h0
  generalize (cn f).1 = M at *
  have HORD := Lib.hid hval.good.ord
  have HLEN := Lib.hid hlen
  have HVAL := Lib.hid hval
  have HDEN := Lib.hid hden
  have b1 := (Below.refl w.heap.size w).alloc (Nat.le_refl _) (.cells #[.slice A m c, .int .i64 (r : Int)] 24)
  have hok1 := Lib.hid (hok.below b1)
  have hx1 := Lib.hid (Blk.new (w := w) rfl [.slice A m c, .int .i64 (r : Int)] 24)
  have HB1 := Lib.hid b1
  have HCK := Lib.hid hck
  have HRD := Lib.hid hrd
  have hdn : decide ((64 : Int) < (d : Int)) = false := decide_eq_false (by omega)
  have hdn2 : ¬ 64 < d := by omega
  have hdn3 : ¬ (64 : Int) < (d : Int) := by omega
  have hdn0 : ¬ (d : Int) < 0 := by omega
  have hm0 : m ≤ 0 := by
    rcases hval.root with ⟨e, _⟩ | ⟨_, e⟩
    · rw [e] at hlen; simp at hlen; omega
    · have := hr.out; omega
  have HOF : Hid (∀ W : World, Calls Tryd.prog 57 #[.int .u64 1] W (Nn.Gives1 W 1)) := fun W => Nn.of_64 1 W (show 1 < 18446744073709551616 by omega)
  have HCZ : Hid (cnt d f = 2 ^ d) := by
    show _ = _
    rw [← hden, hr.out, Den_one, cnt_const]; rfl
  have hp64 : 1 ≤ 2 ^ d ∧ 2 ^ d ≤ 18446744073709551616 := ⟨Nat.pow_pos (by omega), (Nat.pow_le_pow_right (by omega) hd64 : 2 ^ d ≤ 2 ^ 64)⟩
  obtain ⟨Q, hQ⟩ : ∃ Q, Q = 2 ^ d - 1 := ⟨_, rfl⟩
  have hqq : IntKind.u64.wrap (IntKind.u64.wrap ((2 : Int) ^ d) - 1) = (Q : Int) := by
    by_cases h : d < 64
    · rw [shl_one h, IntKind.wrap_u64]
      generalize 2 ^ d = q at *
      omega
    · obtain rfl : d = 64 := by omega
      rw [hQ]
      decide
  have HOQ : Hid (∀ W : World, Calls Tryd.prog 57 #[.int .u64 (Q : Int)] W (Nn.Gives1 W Q)) := fun W => Nn.of_64 Q W (show Q < 18446744073709551616 by omega)
  have hlq : (Nn.Nt.dg Q).length ≤ 1024 := Nat.le_trans (Nn.Nt.dg_length_le (k := 3) (by omega)) (by omega)
  have hl1 : (Nn.Nt.dg 1).length ≤ 1024 := Nat.le_trans (Nn.Nt.dg_length_le (k := 1) (by omega)) (by omega)
  have hls : (Nn.Nt.dg (Q + 1)).length ≤ 1024 := Nat.le_trans (Nn.Nt.dg_length_le (k := 3) (by omega)) (by omega)
  have HLE : Hid (Nn.lim (Q + 1) = 2 ^ d ∧ Nn.limE (Q + 1) = 0) := ⟨by rw [Nn.lim_of hls]; omega, Nn.limE_of hls⟩
  have HLQ := Lib.hid hlq
  have HL1 := Lib.hid hl1
  clear hQ hlq hl1 hls hp64
  clear b1 hok hck hrd hval hden hlen
  go_enter Tryd.func39, Tryd.ntmps39
  go_wp2_with (go_at_call 22; refine (check_any (up M) (r : Int) m c A _ hok1.out.rd hok1.out.wi hok1.out.len hok1.out.lm hok1.out.mc hok1.out.ri).mono ?_; rintro e w2 ⟨rfl, hb2⟩; have hc0 := HCK.out; rw [hc0];  have HB2 := Lib.hid (HB1.out.trans (hb2.mono HB1.out.size)); have HX2 := Lib.hid (hx1.out.below (by simp) hb2); have hx0 : w2.cell? ⟨w.heap.size, 0, none⟩ = some (.slice A m c) := (HX2.out 0 (by simp)).1; clear hb2 hc0)
  clear hx0
  go_loopw [23] (fun i wr => ∃ k : Nat, k ≤ m ∧ i = .int .i64 (k : Int) ∧ Hid (Below w.heap.size w wr ∧ Blk wr w.heap.size 2 (fun i => [Value.slice A m c, .int .i64 (r : Int)].getD i undef))) (fun i _ => m - (intOf i).toNat)
  case atStart => exact ⟨0, Nat.zero_le _, rfl, HB2.out, HX2.out⟩
  case round =>
    obtain ⟨k, hk, rfl, hst⟩ := hrel
    by_cases hlt' : k < m
    · omega
    · obtain rfl : k = m := by omega
      have hx0 : wr.cell? ⟨w.heap.size, 0, none⟩ = some (.slice A k c) := (hst.out.2 0 (by omega)).1
      have hx1' : wr.cell? ⟨w.heap.size, 1, none⟩ = some (.int .i64 (r : Int)) := (hst.out.2 1 (by omega)).1
      have HBR := Lib.hid hst.out.1
      have hr1 : ((r : Int) == 0) = false := by rw [hr.out]; rfl
      have hr2 : ((r : Int) == 1) = true := by rw [hr.out]; rfl
      go_wp2_with (first
        | (go_at_call 57; (with_reducible refine (HOQ.out _).mono ?_); rintro e w6 ⟨v1, rfl, ⟨A1, c1, rfl, hc1, hr1'⟩, hb6⟩; have HB6 := Lib.hid (HBR.out.trans (hb6.mono HBR.out.size)); have HN6 := Lib.hid hr1'; clear hb6 hr1' hc1 hqq)
        | (go_at_call 57; (with_reducible refine (HOF.out _).mono ?_); rintro e w7 ⟨v2, rfl, ⟨A2, c2, rfl, hc2, hr2'⟩, hb7⟩; have HB7 := Lib.hid (HB6.out.trans (hb7.mono HB6.out.size)); have HN7 := Lib.hid hr2'; have HN67 := Lib.hid ((HN6.out.below hb7).mono hb7.size); clear hb7 hr2' hc2)
        | (go_at_call 55; refine (Nn.add_ok Q 1 c1 c2 A1 A2 _ HN67.out HN7.out HLQ.out HL1.out).mono ?_; rintro e w8 ⟨v3, rfl, hn8, hb8⟩; have hle := HLE.out; rw [hle.2]; rw [hle.1] at hn8; have HN8 := Lib.hid hn8; have HB8 := Lib.hid (HB7.out.trans (hb8.mono HB7.out.size)); clear hn8 hb8 hle))
      go_ret2
      exact ⟨⟨v3, rfl, by rw [HCZ.out]; exact HN8.out⟩, HB8.out⟩
end Go.Proofs.YtefepaackdhiiaaDoor
namespace Go.Proofs.YtefepaackdhiiaaDoor
open Go.RowKit Dg St
set_option maxHeartbeats 2000000 in
set_option maxRecDepth 100000 in
theorem count_few (m c r d : Nat) (A : Option Addr) (f : Cfg → Bool) (w : World) (h0 : Hid (Dn w A m c r f)) (hd64 : d ≤ 64) (hbv : Hid (∃ k, k < m ∧ d ≤ bv (cn f).1 k)) :
    Calls Tryd.prog 39 #[.agg #[.slice A m c, .int .i64 (r : Int)], .int .i64 (d : Int)] w (fun e w' => e = .returned (.tuple #[.slice none 0 0, .int .i64 1]) ∧ Below w.heap.size w w') := by
  have hok := h0.out.ok
  have hck := h0.out.chk
  have hlen := h0.out.len
  have hrd := h0.out.rd
  have hlm := h0.out.lm
  unfold Dn.da at hok
  clear h0
  generalize (cn f).1 = M at *
  have HLEN := Lib.hid hlen
  have b1 := (Below.refl w.heap.size w).alloc (Nat.le_refl _) (.cells #[.slice A m c, .int .i64 (r : Int)] 24)
  have hok1 := Lib.hid (hok.below b1)
  have hx1 := Lib.hid (Blk.new (w := w) rfl [.slice A m c, .int .i64 (r : Int)] 24)
  have HB1 := Lib.hid b1
  have HCK := Lib.hid hck
  have HRD := Lib.hid hrd
  have hdn : decide ((64 : Int) < (d : Int)) = false := decide_eq_false (by omega)
  have hdn2 : ¬ 64 < d := by omega
  have hdn3 : ¬ (64 : Int) < (d : Int) := by omega
  have hdn0 : ¬ (d : Int) < 0 := by omega
  clear b1 hok hck hrd hlen
  go_enter Tryd.func39, Tryd.ntmps39
  go_wp2_with (go_at_call 22; refine (check_any (up M) (r : Int) m c A _ hok1.out.rd hok1.out.wi hok1.out.len hok1.out.lm hok1.out.mc hok1.out.ri).mono ?_; rintro e w2 ⟨rfl, hb2⟩; have hc0 := HCK.out; rw [hc0];  have HB2 := Lib.hid (HB1.out.trans (hb2.mono HB1.out.size)); have HX2 := Lib.hid (hx1.out.below (by simp) hb2); have hx0 : w2.cell? ⟨w.heap.size, 0, none⟩ = some (.slice A m c) := (HX2.out 0 (by simp)).1; clear hb2 hc0)
  clear hx0
  go_loopw [23] (fun i wr => ∃ k : Nat, k ≤ m ∧ i = .int .i64 (k : Int) ∧ Hid (∀ j, j < k → bv M j < d) ∧ Hid (Below w.heap.size w wr ∧ Blk wr w.heap.size 2 (fun i => [Value.slice A m c, .int .i64 (r : Int)].getD i undef))) (fun i _ => m - (intOf i).toNat)
  case atStart => exact ⟨0, Nat.zero_le _, rfl, fun j hj => absurd hj (by omega), HB2.out, HX2.out⟩
  case round =>
    obtain ⟨k, hk, rfl, hfew, hst⟩ := hrel
    by_cases hlt' : k < m
    · obtain ⟨b', o', e, hb, hc⟩ := ((HRD.out.below hst.out.1).mono hst.out.1.size) (by rw [up_len, HLEN.out]; omega)
      subst e
      obtain ⟨d0, d1, d2⟩ := hc k (by rw [up_len, HLEN.out]; exact hlt')
      rw [iv_up] at d0
      rw [il_up] at d1
      rw [ih_up] at d2
      have hbn : ¬ b' = wr.heap.size := by omega
      have i1 : (0 : Int) ≤ (k : Int) := by omega
      have i2 : (k : Int) < (m : Int) := by omega
      have HST := Lib.hid (And.intro (hst.out.1.alloc hst.out.1.size (.cells #[.int .i64 ((bv M k : Nat) : Int), .int .i64 ((bl M k : Nat) : Int), .int .i64 ((bh M k : Nat) : Int)] 72)) (hst.out.2.alloc (by omega) (.cells #[.int .i64 ((bv M k : Nat) : Int), .int .i64 ((bl M k : Nat) : Int), .int .i64 ((bh M k : Nat) : Int)] 72)))
      have hnx : bv M k < d → ∀ j, j < k + 1 → bv M j < d := fun h j hj => by
        by_cases e : j < k
        · exact hfew.out j e
        · obtain rfl : j = k := by omega
          exact h
      have HNX := Lib.hid hnx
      clear hc hnx
      generalize bv M k = V at *
      generalize bl M k = LL at *
      generalize bh M k = UU at *
      by_cases q : d ≤ V
      · have hge : decide ((d : Int) ≤ (V : Int)) = true := decide_eq_true (by omega)
        have hge2 : decide (d ≤ V) = true := decide_eq_true (by omega)
        have hge3 : (d : Int) ≤ (V : Int) := by omega
        go_wp2
        go_ret2
        exact ⟨rfl, HST.out.1⟩
      · have hge : decide ((d : Int) ≤ (V : Int)) = false := decide_eq_false (by omega)
        have hge2 : decide (d ≤ V) = false := decide_eq_false (by omega)
        have HN := Lib.hid (HNX.out (by omega))
        go_wp2
        go_roundw
        case rel => exact ⟨k + 1, by omega, by go_num, HN, HST.out⟩
        case measure => simp [intOf]; omega
    · exfalso
      obtain ⟨j, hj, hd⟩ := hbv.out
      have := hfew.out j (by omega)
      omega
set_option maxHeartbeats 2000000 in
set_option maxRecDepth 100000 in
theorem count_out (m c r : Nat) (d : Int) (A : Option Addr) (f : Cfg → Bool) (w : World) (h0 : Hid (Dn w A m c r f)) (hd64 : d < 0 ∨ 64 < d) :
    Calls Tryd.prog 39 #[.agg #[.slice A m c, .int .i64 (r : Int)], .int .i64 d] w (fun e w' => e = .returned (.tuple #[.slice none 0 0, .int .i64 1]) ∧ Below w.heap.size w w') := by
  have hok := h0.out.ok
  have hck := h0.out.chk
  unfold Dn.da at hok
  clear h0
  generalize (cn f).1 = M at *
  have b1 := (Below.refl w.heap.size w).alloc (Nat.le_refl _) (.cells #[.slice A m c, .int .i64 (r : Int)] 24)
  have hok1 := Lib.hid (hok.below b1)
  have HB1 := Lib.hid b1
  have HCK := Lib.hid hck
  clear b1 hok hck
  by_cases hneg : d < 0
  · go_enter Tryd.func39, Tryd.ntmps39
    go_wp2_with (go_at_call 22; refine (check_any (up M) (r : Int) m c A _ hok1.out.rd hok1.out.wi hok1.out.len hok1.out.lm hok1.out.mc hok1.out.ri).mono ?_; rintro e w2 ⟨rfl, hb2⟩; have hc0 := HCK.out; rw [hc0];  have HB2 := Lib.hid (HB1.out.trans (hb2.mono HB1.out.size)); clear hb2 hc0)
    go_ret2
    exact ⟨rfl, HB2.out⟩
  · have hgt : 64 < d := by omega
    go_enter Tryd.func39, Tryd.ntmps39
    go_wp2_with (go_at_call 22; refine (check_any (up M) (r : Int) m c A _ hok1.out.rd hok1.out.wi hok1.out.len hok1.out.lm hok1.out.mc hok1.out.ri).mono ?_; rintro e w2 ⟨rfl, hb2⟩; have hc0 := HCK.out; rw [hc0];  have HB2 := Lib.hid (HB1.out.trans (hb2.mono HB1.out.size)); clear hb2 hc0)
    go_ret2
    exact ⟨rfl, HB2.out⟩
end Go.Proofs.YtefepaackdhiiaaDoor
namespace Go.Proofs.YtefepaackdhiiaaDoor
open Go.RowKit Dg St
def LitOk (w w' : World) (f : Cfg → Bool) (m r : Nat) (R : Int) (e : Ending) : Prop := ∃ A c, e = .returned (.tuple #[.agg #[.slice A m c, .int .i64 R], .int .i64 0]) ∧ Dn w' A m c r f ∧ Below w.heap.size w w'
theorem BinOk.lit {w w' : World} {f : Cfg → Bool} {e : Ending} {M : List Br} {m r : Nat} {R : Int} (h : BinOk w w' f e) (hc : cn f = (M, r)) (hm : M.length = m) (hR : R = (r : Int)) : LitOk w w' f m r R e := by
  obtain ⟨⟨A, m', c, r', rfl, hd, _⟩, hb⟩ := h
  have h1 := hd.len
  have h2 := hd.rt
  rw [hc] at h1 h2
  simp only at h1 h2
  subst hR
  obtain rfl : m' = m := by omega
  subst h2
  exact ⟨A, c, rfl, hd, hb⟩
theorem Dn.congr {w : World} {A : Option Addr} {m c r : Nat} {f g : Cfg → Bool} (h : Dn w A m c r f) (e : f = g) : Dn w A m c r g := e ▸ h
theorem BinOk.congr {w w' : World} {f g : Cfg → Bool} {e : Ending} (h : BinOk w w' f e) (q : f = g) : BinOk w w' g e := q ▸ h
theorem rdn {w w' : World} {A : Option Addr} {m c r : Nat} {f : Cfg → Bool} (h : Hid (Dn w A m c r f)) (b : Below w.heap.size w w') : Hid (Dn w' A m c r f) := Lib.hid (h.out.below b)
theorem rin {w w' : World} (h : Hid (Ins w 0)) (b : Below w.heap.size w w') : Hid (Ins w' 0) := Lib.hid (h.out.below b)
abbrev B2 (w : World) (g : Nat) (a b : Value) : Prop := Blk w g 2 (fun i => [a, b].getD i undef)
theorem rb2 {w w' : World} {g : Nat} {a b : Value} (h : Hid (B2 w g a b)) (k : Below w.heap.size w w') : Hid (B2 w' g a b) := Lib.hid (h.out.below (by omega) k)
theorem xb2 {w : World} {g : Nat} {a b : Value} (h : Hid (B2 w g a b)) : w.cell? ⟨g, 0, none⟩ = some a ∧ w.cell? ⟨g, 1, none⟩ = some b ∧ g < w.heap.size := ⟨(h.out 0 (by omega)).1, (h.out 1 (by omega)).1, h.out.lt (by omega)⟩
theorem nb2 (w : World) (a b : Value) (T : Nat) : Hid (B2 (w.alloc (.cells #[a, b] T)) w.heap.size a b) := Lib.hid (Blk.new (w := w) rfl [a, b] T)
theorem ab2 (w : World) (o : Obj) : Below w.heap.size w (w.alloc o) := (Below.refl _ _).alloc (Nat.le_refl _) o
theorem btr {a b c : World} {B : Nat} (h : Hid (Below B a b)) (k : Below b.heap.size b c) (hB : B ≤ b.heap.size) : Hid (Below B a c) := Lib.hid (h.out.trans (k.mono hB))
theorem rd_block {w : World} {g T : Nat} {x : Nat × Nat} {M : List Br} (hb : w.heap[g]? = some (.cells (flat M).toArray T x)) (hl : g < w.heap.size) : Rd w w.heap.size (some ⟨g, 0, none⟩) (up M) := fun _ => by
  refine ⟨g, 0, rfl, hl, fun j hj => ?_⟩
  rw [up_len] at hj
  obtain ⟨f1, f2, f3⟩ := flat_at M j hj
  rw [iv_up, il_up, ih_up, Nat.zero_add]
  have hx := flat_len M
  refine ⟨?_, ?_, ?_⟩
  · rw [cell_of_row _ _ (j * 3) _ _ _ hb, List.getElem?_toArray]; exact f1
  · rw [cell_of_row _ _ (j * 3 + 1) _ _ _ hb, List.getElem?_toArray]; exact f2
  · rw [cell_of_row _ _ (j * 3 + 2) _ _ _ hb, List.getElem?_toArray]; exact f3
theorem rd_new (w : World) (M : List Br) (a : Array Value) (T : Nat) (h : a = (flat M).toArray) : Rd (w.alloc (.cells a T)) (w.alloc (.cells a T)).heap.size (some ⟨w.heap.size, 0, none⟩) (up M) := by
  subst h
  exact rd_block (heap_alloc_new _ _) (by simp)
set_option maxHeartbeats 2000000 in
set_option maxRecDepth 100000 in
theorem is_any (A A' : Option Addr) (m c n c' : Nat) (r q : Int) (l l' : List Bi) (w : World) (hl : Hid (l.length = m)) (hl' : Hid (l'.length = n)) (hm : m ≤ 9223372036854775800) (hr : Hid (Rd w w.heap.size A l)) (hr' : Hid (Rd w w.heap.size A' l')) :
    Calls Tryd.prog 58 #[.agg #[.slice A m c, .int .i64 r], .int .i64 q, .slice A' n c'] w fun e w' => e = .returned (.bool (decide (r = q) && decide (l = l'))) ∧ Below w.heap.size w w' := by
  have HB1 := Lib.hid (ab2 w (.cells #[.slice A m c, .int .i64 r] 24))
  have hr1 := Lib.hid ((hr.out.below HB1.out).mono HB1.out.size)
  have hr1' := Lib.hid ((hr'.out.below HB1.out).mono HB1.out.size)
  go_enter Tryd.func58, Tryd.ntmps58
  go_wp2_with (go_at_call 21; refine (rsame_any A A' c c' m n l l' r q _ hl hl' hm hr1 hr1').mono ?_; rintro e w2 ⟨rfl, hb2⟩; have HB2 := Lib.hid hb2; clear hb2)
  go_ret
  exact ⟨rfl, HB1.out.trans (HB2.out.mono HB1.out.size)⟩
theorem is_yes {w : World} {A A' : Option Addr} {m c r n c' : Nat} {R Q : Int} {f : Cfg → Bool} (M : List Br) (h : Hid (Dn w A m c r f)) (hc : cn f = (M, r)) (hn : M.length = n) (hr' : Hid (Rd w w.heap.size A' (up M))) (hm : m ≤ 4096) (hR : R = Q) :
    Calls Tryd.prog 58 #[.agg #[.slice A m c, .int .i64 R], .int .i64 Q, .slice A' n c'] w fun e w' => e = .returned (.bool true) ∧ Below w.heap.size w w' := by
  have h1 := h.out.len
  have h2 := h.out.rd
  rw [hc] at h1 h2
  simp only at h1 h2
  refine (is_any A A' m c n c' R Q (up M) (up M) w (Lib.hid (by rw [up_len, h1])) (Lib.hid (by rw [up_len, hn])) (by omega) (Lib.hid h2) hr').mono ?_
  rintro e w' ⟨rfl, hb⟩
  exact ⟨ret_bool (by simp [hR]), hb⟩
theorem rsame_dn {w : World} {A A' : Option Addr} {m c r m' c' r' : Nat} {R R' : Int} {f g : Cfg → Bool} (h : Hid (Dn w A m c r f)) (h' : Hid (Dn w A' m' c' r' g)) (hR : R = (r : Int)) (hR' : R' = (r' : Int)) (x : Bool) (hx : Hid (x = true ↔ f = g)) :
    Calls Tryd.prog 21 #[.agg #[.slice A m c, .int .i64 R], .agg #[.slice A' m' c', .int .i64 R']] w fun e w' => e = .returned (.bool x) ∧ Below w.heap.size w w' := by
  have l1 := h.out.len
  have l2 := h'.out.len
  have r1 := h.out.rt
  have r2 := h'.out.rt
  refine (rsame_any A A' c c' m m' _ _ R R' w (Lib.hid (by rw [up_len, l1])) (Lib.hid (by rw [up_len, l2])) (by have := h.out.lm; omega) (Lib.hid h.out.rd) (Lib.hid h'.out.rd)).mono ?_
  rintro e w' ⟨rfl, hb⟩
  refine ⟨ret_bool ?_, hb⟩
  rw [Bool.eq_iff_iff, hx.out, Bool.and_eq_true, decide_eq_true_iff, decide_eq_true_iff]
  have hinj := cn_inj h.out.d h'.out.d
  subst hR
  subst hR'
  constructor
  · rintro ⟨h1, h2⟩
    refine hinj.1 (Prod.ext (up_inj h2) ?_)
    rw [r1, r2]; omega
  · intro e
    subst e
    exact ⟨by omega, rfl⟩
end Go.Proofs.YtefepaackdhiiaaDoor
namespace Go.Proofs.YtefepaackdhiiaaDoor
open Go.RowKit Dg St
def DiaOk (w w' : World) (f : Cfg → Bool) (e : Ending) : Prop := (∃ (A : Option Addr) (m c r : Nat), e = .returned (.agg #[.slice A m c, .int .i64 (r : Int)]) ∧ Dn w' A m c r f ∧ Fr A w.heap.size) ∧ Below w.heap.size w w'
theorem DiaOk.congr {w w' : World} {f g : Cfg → Bool} {e : Ending} (h : DiaOk w w' f e) (q : f = g) : DiaOk w w' g e := q ▸ h
theorem Dn.put {w : World} {H m c r : Nat} {A : Option Addr} {f : Cfg → Bool} (h : Dn w A m c r f) (hf : Fr A (H + 1)) (u v : Value) : Dn ((w.setCell ⟨H, 0, none⟩ u).setCell ⟨H, 1, none⟩ v) A m c r f := by
  refine ⟨?_, h.len, h.rt, h.mc, h.lm, h.d⟩
  have k := (h.rd.setF (n := 0) hf u).setF (n := 1) hf v
  simpa [World.setCell] using k
end Go.Proofs.YtefepaackdhiiaaDoor
