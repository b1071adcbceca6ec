/-
  natural.Parse: the number of a decimal string.
-/
import Derived.Test.YtogmgomcdhfolaaDec
namespace Go.Proofs.Ytogmgomcdhfolaa
open Go.RowKit Nt

theorem own_form {w : World} {base n : Nat} {v : Value} {l : List Nat} (h : w.ownsRow base 41 1 v n (l.map U)) (hn : 0 < n) : ∃ g c, v = .slice (some ⟨g, 0, none⟩) n c ∧ Ow w base g n c l := by
  rcases h.2 with ⟨rfl, h0⟩ | ⟨g, cap, cur, rfl, hg, hh, hnc, _⟩
  · omega
  · exact ⟨g, cap, rfl, h⟩
theorem Ow.base {w : World} {base g n c : Nat} {L : List Nat} (h : Ow w base g n c L) : base ≤ g ∧ g < w.heap.size := World.ownsRow.lt h g rfl
theorem Ow.rd {w : World} {base g n c : Nat} {L : List Nat} (h : Ow w base g n c L) : Rd w w.heap.size (some ⟨g, 0, none⟩) L ∧ n ≤ c := by
  obtain ⟨A, c', e, h1, _, h2⟩ := own_rd h
  injection e with e1 _ e3
  subst e1
  subst e3
  exact ⟨h2, h1⟩

/-- the scales -/
def Sc (v : Nat) : Prop := v = 1 ∨ v = 10 ∨ v = 100 ∨ v = 1000 ∨ v = 10000 ∨ v = 100000 ∨ v = 1000000 ∨ v = 10000000 ∨ v = 100000000
theorem Sc.step {v f : Nat} (h : Sc v) (hf : f = v * 10) (hn : ¬ f = 1000000000) : Sc f ∧ f ≤ 100000000 := by unfold Sc at *; omega

structure PaSt (w wr : World) (s : ByteArray) (k gb n c gv sv : Nat) (X : List Nat) : Prop where
  own : Ow wr w.heap.size gb n c X
  wf : Wf X
  eq : val X * sv + gv = decU s k
  fin : k = s.size → sv = 1
  sc : Sc sv
  bel : Below w.heap.size w wr

theorem PaSt.skip {w wr : World} {s : ByteArray} {k gb n c gv sv f a : Nat} {X : List Nat} (h : PaSt w wr s k gb n c gv sv X) (hk : k + 1 ≠ s.size) (hf : f = sv * 10) (hn : ¬ f = 1000000000) (ha : a = gv * 10 + (byt s k - 48)) :
    PaSt w wr s (k + 1) gb n c a f X :=
  ⟨h.own, h.wf, by
    have e := h.eq
    show _ = decU s k * 10 + (byt s k - 48)
    rw [hf, ha, ← e, ← Nat.mul_assoc, Nat.add_mul]; omega, fun e => absurd e hk, (h.sc.step hf hn).1, h.bel⟩
theorem PaSt.flush {w wr w2 : World} {s : ByteArray} {k gb n c gv sv f a g2 c2 cr : Nat} {X Y : List Nat} (h : PaSt w wr s k gb n c gv sv X) (hf : f = sv * 10) (ha : a = gv * 10 + (byt s k - 48))
    (hY : Wf Y) (hyl : Y.length = n) (hc : cr < 4294967296) (hv : val Y + 4294967296 ^ n * cr = f * val X + a) (ho : Ow w2 w.heap.size g2 (n + 1) c2 (Y ++ [cr])) (hb : Below w.heap.size w w2) :
    PaSt w w2 s (k + 1) g2 (n + 1) c2 0 1 (Y ++ [cr]) :=
  ⟨ho, wf_append.2 ⟨hY, wf_cons.2 ⟨hc, wf_nil⟩⟩, by
    have e := h.eq
    show _ = decU s k * 10 + (byt s k - 48)
    rw [val_snoc, hyl, hv, hf, ha, ← e, Nat.mul_comm (sv * 10), ← Nat.mul_assoc, Nat.add_mul]; omega, fun _ => rfl, .inl rfl, hb⟩

theorem bk_rd_one (w : World) {x : Nat} : Rd (w.alloc (.cells #[.int .u32 (x : Int)] 41)) (w.heap.size + 1) (some ⟨w.heap.size, 0, none⟩) [x] :=
  (bk_one w (X := (x : Int)) (x := x) rfl).rd (Nat.lt_succ_self _)

set_option maxHeartbeats 2000000 in
theorem parse_ok (s : ByteArray) (w : World) (hs : s.size ≤ 9865) (hd : Hid (DecS s)) :
    Calls Try.prog 32 #[.string s] w (Gives w (lim (decU s s.size)) (limE (decU s s.size))) := by
  have hget := get_byt s
  have hb0 := (Below.refl w.heap.size w).alloc (Nat.le_refl _) (.cells #[] 41)
  have P0 : Hid (PaSt w (w.alloc (.cells #[] 41)) s 0 w.heap.size 0 0 0 1 []) := ⟨own_empty w, wf_nil, by simp [val, decU], fun _ => rfl, .inl rfl, hb0⟩
  clear hb0
  go_enter Try.func32, Try.ntmps32
  go_wp2_with (first
    | (go_at_call 54; refine (isDec s true _ (by omega) ⟨fun _ => hd.out, fun _ => rfl⟩).mono ?_; rintro e w' ⟨rfl, rfl⟩))
  go_loopw [4, 5, 6, 17] (fun v g sc i wr => ∃ (k gb n c gv sv : Nat) (X : List Nat), k ≤ s.size ∧ i = .int .i64 k ∧ v = .slice (some ⟨gb, 0, none⟩) n c ∧ g = .int .u32 gv ∧ sc = .int .u32 sv ∧ 1 ≤ sv ∧ sv ≤ 100000000 ∧ gv < sv ∧ n ≤ k ∧ Hid (PaSt w wr s k gb n c gv sv X))
    (fun _ _ _ i _ => s.size - (intOf i).toNat)
  case atStart => exact ⟨0, w.heap.size, 0, 0, 0, 1, [], Nat.zero_le _, rfl, rfl, rfl, rfl, by omega, by omega, by omega, by omega, P0⟩
  case round =>
    obtain ⟨k, gb, n, c, gv, sv, X, hk, rfl, rfl, rfl, rfl, hs1, hs2, hg1, hnk, hst⟩ := hrel
    by_cases hlt : k < s.size
    · have hdg := hd.out.all k hlt
      obtain ⟨f, hf⟩ : ∃ f, f = sv * 10 := ⟨_, rfl⟩
      obtain ⟨a, ha⟩ : ∃ a, a = gv * 10 + (byt s k - 48) := ⟨_, rfl⟩
      have hfi : (sv : Int) * 10 = (f : Int) := by omega
      have hai : (gv : Int) * 10 + ((byt s k : Int) - 48) = (a : Int) := by omega
      have hf1 : f ≤ 1000000000 := by omega
      have ha1 : a < f := by omega
      have hf0 : 1 ≤ f := by omega
      have HF := Lib.hid hf
      have HA := Lib.hid ha
      clear hf ha
      by_cases hflush : f = 1000000000 ∨ k + 1 = s.size
      · have hor : (((f : Int) == 1000000000) = true) ∨ (((f : Int) == 1000000000) = false ∧ ((k : Int) == (s.size : Int) - 1) = true) := by
          by_cases h : f = 1000000000
          · left; rw [h]; rfl
          · right
            exact ⟨beq_eq_false_iff_ne.2 (by omega), beq_iff_eq.2 (by omega)⟩
        clear hflush
        rcases hor with hq | ⟨hq, hq2⟩
        all_goals
          go_wp2_with (first
            | (go_at_call 55; refine (scale_any w.heap.size gb n c f a X _ hst.out.wf (by omega) (by omega) (by omega) hst.out.own).mono ?_; rintro e w2 ⟨Y, cr, rfl, hY, hcr, hv, ho, hu⟩; have HV := Lib.hid hv; have HO := Lib.hid ho; have hb2 := hst.out.bel.trans (hu.below hst.out.own.base.1); have hb3 := hb2.alloc hb2.size (.cells #[.int .u32 (cr : Int)] 41); clear hv ho)
            | (at_builtin; refine wpList_append_rd _ rfl _ _ 22 22 rfl Try.underlying22 Try.underlying22 w.heap.size _ n Y [cr] rfl (HO.out.alloc _) _ _ 1 1 rfl (bk_rd_one w2) rfl (by omega) hb3.size ?_; intro v3 w3 hown3 hg3; have hg4 : (w2.alloc (.cells #[.int .u32 (cr : Int)] 41)).grownBy w3 (some gb) := hg3; clear hg3; have hb4 := hb3.grown hg4 hb3.size (fun q hq => by injection hq with hq; rw [← hq]; exact hst.out.own.base.1); obtain ⟨g3, c3, rfl, hown4⟩ := own_form hown3 (Nat.succ_pos _); have HO4 := Lib.hid hown4; clear hown3 hown4))
          have hlen := HO.out.len
          have hfin := hst.out.flush HF.out HA.out hY hlen hcr HV.out HO4.out hb4
          have HFIN := Lib.hid hfin
          clear hfin hlen
          go_roundw
          case rel => exact ⟨k + 1, g3, n + 1, c3, 0, 1, Y ++ [cr], by omega, by go_num, rfl, rfl, rfl, by omega, by omega, by omega, by omega, HFIN⟩
          case measure => simp [intOf]; omega
      · have h1 : ¬ f = 1000000000 := fun h => hflush (.inl h)
        have h2 : ¬ k + 1 = s.size := fun h => hflush (.inr h)
        clear hflush
        have hq : ((f : Int) == 1000000000) = false := beq_eq_false_iff_ne.2 (by omega)
        have hq2 : ((k : Int) == (s.size : Int) - 1) = false := beq_eq_false_iff_ne.2 (by omega)
        go_wp2
        go_roundw
        case rel => exact ⟨k + 1, gb, n, c, a, f, X, by omega, by go_num, rfl, rfl, rfl, hf0, (hst.out.sc.step HF.out h1).2, ha1, by omega, hst.out.skip h2 HF.out h1 HA.out⟩
        case measure => simp [intOf]; omega
    · obtain rfl : k = s.size := by omega
      have hsv := hst.out.fin rfl
      have heq := hst.out.eq
      rw [hsv, Nat.mul_one, show gv = 0 by omega, Nat.add_zero] at heq
      have HEQ := Lib.hid heq
      have hbel := hst.out.bel
      clear hsv heq
      go_wp2_with (first
        | (go_at_call 41; refine (limited_any c n hst.out.own.rd.1 (Nat.le_refl _) hst.out.wf hst.out.own.len (by omega) hst.out.own.rd.2).mono ?_; rintro e w4 ⟨v, rfl, h1, h2⟩))
      go_ret2
      rw [← HEQ.out]
      exact ⟨v, rfl, h1, hbel.trans (h2.mono hbel.size)⟩

set_option maxHeartbeats 400000 in
theorem parse_bad (s : ByteArray) (w : World) (hs : s.size ≤ 1000000) (hd : Hid (¬ DecS s)) :
    Calls Try.prog 32 #[.string s] w (Gives w 0 12) := by
  have hb : Hid (false = true ↔ DecS s) := ⟨fun h => absurd h Bool.false_ne_true, fun h => absurd h hd.out⟩
  go_enter Try.func32, Try.ntmps32
  go_wp2_with (first
    | (go_at_call 54; refine (isDec s false _ hs hb).mono ?_; rintro e w' ⟨rfl, rfl⟩))
  go_ret2
  exact ⟨_, rfl, Num.nil _, Below.refl _ _⟩

end Go.Proofs.Ytogmgomcdhfolaa
