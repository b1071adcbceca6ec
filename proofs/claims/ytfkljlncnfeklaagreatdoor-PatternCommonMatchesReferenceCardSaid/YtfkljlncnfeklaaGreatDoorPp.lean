/-
  Plain mathematics and contracts of package diagram, several texts in one: XGr, XEt, XFi, XSc.
-/
import Derived.Test.YtfkljlncnfeklaaGreatDoorPo
import Derived.Test.YtfkljlncnfeklaaGreatDoorPa

/-! The search's groups in plain mathematics. -/
namespace Go.Proofs.YtfkljlncnfeklaaGreatDoor
set_option linter.unusedVariables false
set_option linter.unusedSimpArgs false

theorem Sv.less {π : Type} {st : π → Prop} {nx : π → π → Prop} {rd : π → UInt8 → Prop} {ac : π → Prop} {le : π → UInt8} {Fs : List (List UInt8 × List π)} {P P' : Nat → π → Prop} (h : Sv st nx rd ac le Fs P) (hP : ∀ (k : Nat) (t : List UInt8) (l : List π), Fs[k]? = some (t, l) → ∀ x ∈ l, P' k x → P k x) : Sv st nx rd ac le Fs P' :=
  ⟨h.reach, h.start, fun k t l hk x hx hp => h.proc k t l hk x hx (hP k t l hk x hx hp)⟩
def txs (Fs : List Fr) : List (List UInt8 × List (Nat × Nat)) := Fs.map fun f => (f.tx, f.ps)
theorem txs_app (Fs : List Fr) (f : Fr) : txs (Fs ++ [f]) = txs Fs ++ [(f.tx, f.ps)] := by unfold txs; simp
theorem txs_at {Fs : List Fr} {n : Nat} (h : n < Fs.length) : (txs Fs)[n]? = some ((Fs.getD n frZ).tx, (Fs.getD n frZ).ps) := by
  unfold txs
  rw [List.getElem?_map, List.getElem?_eq_getElem h, List.getD_eq_getElem?_getD, List.getElem?_eq_getElem h]
  rfl
theorem txs_len (Fs : List Fr) : (txs Fs).length = Fs.length := List.length_map _
def totF : List Fr → Nat
  | [] => 0
  | f :: l => f.ps.length + totF l
theorem totF_app : ∀ (Fs : List Fr) (f : Fr), totF (Fs ++ [f]) = totF Fs + f.ps.length
  | [], f => by show f.ps.length + 0 = 0 + f.ps.length; omega
  | g :: l, f => by show g.ps.length + totF (l ++ [f]) = g.ps.length + totF l + f.ps.length; rw [totF_app l f]; omega
theorem totF_len : ∀ (Fs : List Fr), (∀ f ∈ Fs, f.ps ≠ []) → Fs.length ≤ totF Fs
  | [], _ => Nat.zero_le _
  | f :: l, h => by
    have h1 := totF_len l (fun g hg => h g (by simp [hg]))
    have h2 := h f (by simp)
    have h3 : 0 < f.ps.length := by rcases hh : f.ps with _ | ⟨x, t⟩; exact absurd hh h2; simp
    show l.length + 1 ≤ f.ps.length + totF l
    omega
theorem totF_mem : ∀ (Fs : List Fr) {f : Fr}, f ∈ Fs → f.ps.length ≤ totF Fs
  | g :: l, f, h => by
    show f.ps.length ≤ g.ps.length + totF l
    rcases List.mem_cons.1 h with rfl | h
    · omega
    · have := totF_mem l h; omega
/-- what is done when the places dn of front n are passed -/
def Pd (n : Nat) (dn : List (Nat × Nat)) : Nat → Nat × Nat → Prop := fun k y => k < n ∨ (k = n ∧ y ∈ dn)
structure PiF (a b : Rx) (Fs : List Fr) (sn : List (List Nat)) (n B : Nat) (dn : List (Nat × Nat)) : Prop where
  sv : SvP a b (txs Fs) (Pd n dn)
  se : Seen a b (txs Fs) sn
  tx : Txs (txs Fs) n B
  cn : cnS sn = totF Fs
  so : ∀ f ∈ Fs, srtP a b f.ps
  ne : ∀ f ∈ Fs, f.ps ≠ []
  li : ∀ i, i < Fs.length → ((Fs.getD i frZ).be = -1 ∧ (Fs.getD i frZ).tx = []) ∨ ∃ p : Nat, p < i ∧ (Fs.getD i frZ).be = (p : Int) ∧ (Fs.getD i frZ).tx = (Fs.getD p frZ).tx ++ [(Fs.getD i frZ).la]
structure PiG (a b : Rx) (Fs : List Fr) (sn : List (List Nat)) (n : Nat) (bb : UInt8) (l dn : List (Nat × Nat)) : Prop where
  sv : SvP a b (txs Fs ++ [((Fs.getD n frZ).tx ++ [bb], l)]) (Pd n dn)
  se : Seen a b (txs Fs ++ [((Fs.getD n frZ).tx ++ [bb], l)]) sn
  cn : cnS sn = totF Fs + l.length
section
variable {a b : Rx} {Fs : List Fr} {sn sn0 : List (List Nat)} {n B : Nat} {dn dn0 l : List (Nat × Nat)} {bb : UInt8}
theorem PiF.few (h : PiF a b Fs sn n B dn) (hp : a.pl ≤ 256) : Fs.length ≤ 65536 := by
  have h1 := totF_len Fs h.ne
  have h2 := h.cn
  have h3 := cnS_le sn
  have h4 := h.se.len
  omega
theorem PiF.txl (h : PiF a b Fs sn n B dn) : ∀ i, i < Fs.length → (Fs.getD i frZ).tx.length ≤ i := by
  intro i
  induction i using Nat.strongRecOn with
  | ind i ih =>
    intro hi
    rcases h.li i hi with ⟨_, q⟩ | ⟨p, hp, _, q⟩
    · rw [q]; exact Nat.zero_le _
    · have := ih p hp (by omega)
      rw [q, List.length_append, List.length_singleton]
      omega
theorem PiF.small (h : PiF a b Fs sn n B dn) (hp : a.pl ≤ 256) {f : Fr} (hf : f ∈ Fs) : f.ps.length ≤ 65536 := by
  have h1 := totF_mem Fs hf
  have h2 := h.cn
  have h3 := cnS_le sn
  have h4 := h.se.len
  omega
theorem PiG.few (h : PiG a b Fs sn n bb l dn) (hp : a.pl ≤ 256) : l.length ≤ 65536 ∧ l.length ≤ cnS sn := by
  have h2 := h.cn
  have h3 := cnS_le sn
  have h4 := h.se.len
  omega
theorem PiF.group (h : PiF a b Fs sn n B dn) (bb : UInt8) : PiG a b Fs sn n bb [] dn := ⟨h.sv.add _, h.se.add _, h.cn⟩
theorem PiG.pass {ag fa fb : List (List Nat)} {f1 l1 f2 l2 : List Nat} (hA : AgW a b ag) (ma : McW a fa f1 l1) (mb : McW b fb f2 l2) (hba : ∀ i, i < a.pl → (rgA a i).1 ≤ (rgA a i).2 ∧ (rgA a i).2 < 256) (hbb : ∀ i, i < b.pl → (rgA b i).1 ≤ (rgA b i).2 ∧ (rgA b i).2 < 256)
    (h0 : PiF a b Fs sn0 n B dn0) (h : PiG a b Fs sn n bb l dn) (hn : n < Fs.length) {x : Nat × Nat} (hx : x ∈ (Fs.getD n frZ).ps) (hb : leP a b x = bb) (hB : B ≤ bb.toNat) (hac : ¬ acP a b x) :
    PiG a b Fs (mtW ag (fb.getD x.2 noW) (l, sn) (els (fa.getD x.1 noW))).2 n bb (mtW ag (fb.getD x.2 noW) (l, sn) (els (fa.getD x.1 noW))).1 (dn ++ [x]) := by
  subst hb
  obtain ⟨nw, e1, e2, e3, e4⟩ := pass_ok hA ma mb hba hbb h.sv h.se (txs_at hn) hx hac (fun k y hk => by
    rw [txs_len] at hk
    rintro (q | ⟨q, _⟩) <;> omega) (fun k t' l' hk => .inl (h0.tx.lt (txs_at hn) hB hk))
  rw [e1]
  refine ⟨e4.less (fun k t l' hk y hy hp => ?_), e3, ?_⟩
  · rcases hp with q | ⟨q1, q2⟩
    · exact .inl (.inl q)
    · rcases List.mem_append.1 q2 with q | q
      · exact .inl (.inr ⟨q1, q⟩)
      · exact .inr ⟨q1, by simpa using q⟩
  · rw [e2, h.cn, List.length_append]; omega
theorem PiF.inn (h : PiF a b Fs sn n B dn) {k : Nat} (hk : k < Fs.length) {x : Nat × Nat} (hx : x ∈ (Fs.getD k frZ).ps) : agP a b x = true := h.se.inn x ⟨k, _, _, txs_at hk, hx⟩
theorem PiG.found (hba : ∀ i, i < a.pl → (rgA a i).1 ≤ (rgA a i).2 ∧ (rgA a i).2 < 256) (hbb : ∀ i, i < b.pl → (rgA b i).1 ≤ (rgA b i).2 ∧ (rgA b i).2 < 256)
    (h0 : PiF a b Fs sn0 n B dn0) (h : PiG a b Fs sn n bb l dn) (hn : n < Fs.length) {x : Nat × Nat} (hx : x ∈ (Fs.getD n frZ).ps) (hb : leP a b x = bb) (hB : B ≤ bb.toNat) (hac : acP a b x) (hall : ∀ y ∈ (Fs.getD n frZ).ps, leN a b y < leN a b x → y ∈ dn) : FirstB a b ((Fs.getD n frZ).tx ++ [bb]) := by
  subst hb
  have hag := h0.inn hn hx
  have hn' : (txs Fs ++ [((Fs.getD n frZ).tx ++ [leP a b x], l)])[n]? = some ((Fs.getD n frZ).tx, (Fs.getD n frZ).ps) := by rw [List.getElem?_append_left (by rw [txs_len]; exact hn)]; exact txs_at hn
  have e1 := (le_least hba hbb hag).1
  refine found_ok hba hbb h.sv (h0.tx.app (txs_at hn) hB l) hn' hx hag hac (fun k y hk => .inl hk) (fun y hy hlt => .inr ⟨rfl, hall y hy ?_⟩)
  have e2 := (le_least hba hbb (h0.inn hn hy)).1
  omega
theorem PiG.none (h0 : PiF a b Fs sn0 n B dn0) (h : PiG a b Fs sn n bb [] dn) (hB : B ≤ bb.toNat) : PiF a b Fs sn n (bb.toNat + 1) dn :=
  ⟨h.sv.drop, h.se.drop, h0.tx.up (by omega), by have := h.cn; simpa using this, h0.so, h0.ne, h0.li⟩
theorem PiG.done (h0 : PiF a b Fs sn0 n B dn0) (h : PiG a b Fs sn n bb l dn) (hB : B ≤ bb.toNat) (hn : n < Fs.length) {f : Fr} (h1 : f.be = (n : Int)) (h2 : f.la = bb) (h3 : f.tx = (Fs.getD n frZ).tx ++ [bb]) (h4 : f.ps.Perm l) (h5 : srtP a b f.ps) (h6 : l ≠ []) : PiF a b (Fs ++ [f]) sn n (bb.toNat + 1) dn := by
  have hm : ∀ x, x ∈ f.ps ↔ x ∈ l := fun x => h4.mem_iff
  refine ⟨?_, ?_, ?_, ?_, fun g hg => ?_, fun g hg => ?_, fun i hi => ?_⟩
  · rw [txs_app, h3]; exact h.sv.perm hm
  · rw [txs_app, h3]; exact h.se.perm hm
  · rw [txs_app, h3]; exact h0.tx.app (txs_at hn) hB _
  · rw [totF_app, h4.length_eq]; exact h.cn
  · rcases List.mem_append.1 hg with q | q
    · exact h0.so g q
    · obtain rfl : g = f := by simpa using q
      exact h5
  · rcases List.mem_append.1 hg with q | q
    · exact h0.ne g q
    · obtain rfl : g = f := by simpa using q
      intro e
      rw [e] at h4
      exact h6 (List.nil_perm.1 h4)
  · have lo : ∀ k, k < Fs.length → (Fs ++ [f]).getD k frZ = Fs.getD k frZ := fun k hk => by rw [List.getD_eq_getElem?_getD, List.getElem?_append_left hk, ← List.getD_eq_getElem?_getD]
    rw [List.length_append, List.length_singleton] at hi
    by_cases c : i < Fs.length
    · rw [lo i c]
      rcases h0.li i c with q | ⟨p, q1, q2, q3⟩
      · exact .inl q
      · exact .inr ⟨p, q1, q2, by rw [lo p (by omega)]; exact q3⟩
    · obtain rfl : i = Fs.length := by omega
      have e : (Fs ++ [f]).getD Fs.length frZ = f := by rw [List.getD_eq_getElem?_getD, List.getElem?_append_right (Nat.le_refl _), Nat.sub_self]; rfl
      rw [e]
      exact .inr ⟨n, hn, h1, by rw [lo n hn, h2]; exact h3⟩
theorem PiF.fin (h : PiF a b Fs sn n B dn) (hn : n < Fs.length) (hall : ∀ y ∈ (Fs.getD n frZ).ps, y ∈ dn) : PiF a b Fs sn (n + 1) 0 [] := by
  refine ⟨h.sv.less (fun k t l hk y hy hp => ?_), h.se, h.tx.next, h.cn, h.so, h.ne, h.li⟩
  rcases hp with q | ⟨_, q⟩
  · by_cases c : k = n
    · subst c
      rw [txs_at hn] at hk
      injection hk with hk
      injection hk with _ hk
      subst hk
      exact .inr ⟨rfl, hall y hy⟩
    · exact .inl (by omega)
  · cases q
/-- all fronts are done -/
theorem PiF.nothing (hba : ∀ i, i < a.pl → (rgA a i).1 ≤ (rgA a i).2 ∧ (rgA a i).2 < 256) (hbb : ∀ i, i < b.pl → (rgA b i).1 ≤ (rgA b i).2 ∧ (rgA b i).2 < 256) (h : PiF a b Fs sn Fs.length B dn) : ∀ v, v ≠ [] → ¬ (a.mt v ∧ b.mt v) :=
  none_ok hba hbb h.sv (fun k t l hk x hx => .inl (by have := lt_of_get hk; rwa [txs_len] at this))
/-- the first front -/
theorem PiF.first {nw : List (Nat × Nat)} {f : Fr} (hs : Seen a b [([], nw)] sn) (hv : SvP a b [([], nw)] (fun _ _ => False)) (hc : cnS sn = nw.length) (h1 : f.be = -1) (h3 : f.tx = []) (h4 : f.ps.Perm nw) (h5 : srtP a b f.ps) (h6 : nw ≠ []) : PiF a b [f] sn 0 0 [] := by
  have hm : ∀ x, x ∈ f.ps ↔ x ∈ nw := fun x => h4.mem_iff
  have e : txs [f] = [([], f.ps)] := by unfold txs; rw [List.map_singleton, h3]
  refine ⟨?_, ?_, ?_, ?_, fun g hg => ?_, fun g hg => ?_, fun i hi => ?_⟩
  · rw [e]
    exact (Sv.perm (Fs := []) hv hm).less (fun k t l hk y hy hp => by
      rcases hp with q | ⟨_, q⟩
      · omega
      · cases q)
  · rw [e]; exact Seen.perm (Fs := []) hs hm
  · rw [e]; exact Txs.nil _ rfl _
  · show cnS sn = f.ps.length + 0
    rw [hc, h4.length_eq]; rfl
  · obtain rfl : g = f := by simpa using hg
    exact h5
  · obtain rfl : g = f := by simpa using hg
    intro e
    rw [e] at h4
    exact h6 (List.nil_perm.1 h4)
  · obtain rfl : i = 0 := by simpa using hi
    exact .inl ⟨h1, h3⟩
end

end Go.Proofs.YtfkljlncnfeklaaGreatDoor

/-! search.extend. -/
namespace Go.Proofs.YtfkljlncnfeklaaGreatDoor
open Go.RowKit Go.Shelf
set_option linter.unusedVariables false
set_option linter.unusedSimpArgs false
attribute [local go_sem ↓] Go.wp_at_zero Go.wp_at_succ
attribute [local go_sem] stIn stAt stUpon

theorem FrM.cells {w2 W : World} {H mb1 mb2 ab sb n : Nat} {a b : Rx} {ag : List (List Nat)} {vf : Value} {Fs : List Fr} {sn : List (List Nat)} (h : FrM w2 W H mb1 mb2 ab sb n a b ag vf Fs sn) {f : Fr} (hf : f ∈ Fs) {d c : Nat} {x : Nat × Nat} (hx : f.ps[d + c]? = some x) :
    W.cell? ⟨f.pb, d * 3 + c * 3, none⟩ = some (.int .i64 (x.1 : Int)) ∧ W.cell? ⟨f.pb, d * 3 + c * 3 + 1, none⟩ = some (.int .i64 (x.2 : Int)) ∧ W.cell? ⟨f.pb, d * 3 + c * 3 + 2, none⟩ = some (.int .i64 (leN a b x : Int)) := by
  have hlt := (List.getElem?_eq_some_iff.1 hx).1
  obtain ⟨p0, p1, p2⟩ := prC_at a b f.ps hx
  have hc := h.ps f hf
  rw [show d * 3 + c * 3 = (d + c) * 3 by omega]
  exact ⟨(World.ownsRow.cellAt hc _ (by omega)).trans p0, (World.ownsRow.cellAt hc _ (by omega)).trans p1, (World.ownsRow.cellAt hc _ (by omega)).trans p2⟩
theorem FrM.frv {w2 W : World} {H mb1 mb2 ab sb n : Nat} {a b : Rx} {ag : List (List Nat)} {Fs : List Fr} {sn sn0 : List (List Nat)} {fb cf k B : Nat} {dn : List (Nat × Nat)} (h : FrM w2 W H mb1 mb2 ab sb n a b ag (.slice (some ⟨fb, 0, none⟩) Fs.length cf) Fs sn) (hp : PiF a b Fs sn0 k B dn) :
    FrV W w2.heap.size fb Fs.length cf (fun i => (Fs.getD i frZ).be) (fun i => (Fs.getD i frZ).la) (fun i => (Fs.getD i frZ).tx) :=
  ⟨by simpa using h.sr.bx.cell 4, fun i hi => by
    obtain ⟨q0, q1, _⟩ := frC_at Fs hi
    exact ⟨(World.ownsRow.cellAt h.fo _ (by omega)).trans q0, (World.ownsRow.cellAt h.fo _ (by omega)).trans q1⟩, hp.li, h.sr.lt, (World.ownsRow.lt h.fo fb rfl).2⟩
theorem FrM.drewN {w2 W : World} {H mb1 mb2 ab sb n : Nat} {a b : Rx} {ag : List (List Nat)} {vf : Value} {Fs : List Fr} {sn : List (List Nat)} (h : FrM w2 W H mb1 mb2 ab sb n a b ag vf Fs sn) (d : Nat) : FrM w2 (W.drewN d) H mb1 mb2 ab sb n a b ag vf Fs sn := h.below (below_drewN (Below.refl _ W) d)
def slL : Value → Nat
  | .slice _ n _ => n
  | _ => 0
theorem getD_mem {Fs : List Fr} {k : Nat} (h : k < Fs.length) : Fs.getD k frZ ∈ Fs := by
  rw [List.getD_eq_getElem?_getD, List.getElem?_eq_getElem h]
  exact List.getElem_mem h
set_option maxRecDepth 100000 in
set_option maxHeartbeats 4000000 in
theorem extend_any (w2 w : World) (H k mb1 mb2 ab sb n B1 B2 : Nat) (a b : Rx) (vr1 vf1 vr2 vf2 vf : Value) (fl1 fl2 : List (List Nat)) (f1 la1 f2 la2 : List Nat) (ag sn : List (List Nat)) (Fs : List Fr)
    (hM1 : Hid (McM w2 B1 mb1 a vr1 vf1 fl1 f1 la1)) (hM2 : Hid (McM w2 B2 mb2 b vr2 vf2 fl2 f2 la2)) (hn : Hid (n = a.pl)) (hag : AgW a b ag) (hba : ∀ i, i < a.pl → (rgA a i).1 ≤ (rgA a i).2 ∧ (rgA a i).2 < 256) (hbb : ∀ i, i < b.pl → (rgA b i).1 ≤ (rgA b i).2 ∧ (rgA b i).2 < 256)
    (ht : Hid (Tz w2)) (hts : 2 < w2.heap.size) (hF : Hid (FrM w2 w H mb1 mb2 ab sb n a b ag vf Fs sn)) (hP : Hid (PiF a b Fs sn k 0 [])) (hk : k < Fs.length) :
    Calls Tryz.prog 70 #[.pointer (some ⟨w2.heap.size, 0, none⟩), .int .i64 (k : Int)] w fun e w' => Below w2.heap.size w w' ∧ ((∃ s : List UInt8, e = .returned (.tuple #[.string ⟨s.toArray⟩, .bool true]) ∧ FirstB a b s ∧ s.length ≤ 65537) ∨ (e = .returned (.tuple #[.string ⟨#[]⟩, .bool false]) ∧ ∃ H' vf' Fs' sn', FrM w2 w' H' mb1 mb2 ab sb n a b ag vf' Fs' sn' ∧ PiF a b Fs' sn' (k + 1) 0 [] ∧ Fs.length ≤ Fs'.length)) := by
  obtain ⟨fb, cf, rfl, _⟩ := World.ownsRow.form hF.out.fo (by omega)
  obtain ⟨q0, q1, q2⟩ := frC_at Fs hk
  have hf0 := getD_mem hk
  have y2 := (World.ownsRow.cellAt hF.out.fo (k * 3 + 2) (by omega)).trans q2
  clear q0 q1 q2
  obtain ⟨f0, hfe⟩ : ∃ f0, Fs.getD k frZ = f0 := ⟨_, rfl⟩
  rw [hfe] at y2
  have HFE := lid' hfe
  clear hfe hf0
  have y4 := hF.out.sr.bx.cell 4
  simp at y4
  have k0 : (0 : Int) ≤ (k : Int) := by omega
  have k1 : (k : Int) < (Fs.length : Int) := by omega
  have hb0 := lid' (Below.refl w2.heap.size w)
  go_enter Tryz.func70, Tryz.ntmps70
  go_wp2
  clear y2 y4
  go_loopw [6] (fun v6 wr => ∃ (d L c H B : Nat) (A : Option Addr) (vf : Value) (Fs' : List Fr) (sn : List (List Nat)), v6 = .slice A L c ∧ d + L = f0.ps.length ∧ L ≤ c ∧ (0 < L → A = some ⟨f0.pb, d * 3, none⟩) ∧ Hid (FrM w2 wr H mb1 mb2 ab sb n a b ag vf Fs' sn) ∧ Hid (PiF a b Fs' sn k B (f0.ps.take d)) ∧ Hid (Fs'.getD k frZ = f0) ∧ Fs.length ≤ Fs'.length ∧ Hid (∀ x ∈ f0.ps.drop d, B ≤ leN a b x) ∧ Hid (Below w2.heap.size w wr)) (fun v6 wr => slL v6)
  case atStart => exact ⟨0, _, _, H, 0, _, _, Fs, sn, rfl, by omega, by
      have := own_form (hF.out.ps f0 (by rw [← HFE.out]; exact getD_mem hk))
      obtain ⟨_, _, e, h, _⟩ := this
      injection e with _ _ e
      omega, fun _ => by rw [Nat.zero_mul], hF, hP, HFE, Nat.le_refl _, lid' (fun x _ => Nat.zero_le _), hb0⟩
  case round =>
    clear hF hP hb0
    obtain ⟨d, L, c, H1, B, A, vf1', Fs1, sn1, rfl, hdL, hLc, hA, hFr, hPi, hF1, hle, hB, hBel⟩ := hrel
    by_cases hL : L = 0
    · subst hL
      have hfin := lid' (hPi.out.fin (by omega) (fun y hy => by rw [hF1.out] at hy; rw [List.take_of_length_le (by omega)]; exact hy))
      go_wp2
      go_ret2
      exact ⟨hBel.out, .inr ⟨rfl, _, _, _, _, hFr.out, hfin.out, hle⟩⟩
    · have hL0 : 0 < L := by omega
      obtain rfl := hA hL0
      have hk1 : k < Fs1.length := by omega
      have hmem : f0 ∈ Fs1 := by rw [← hF1.out]; exact getD_mem hk1
      have hL6 := hPi.out.small hM1.out.mw.pl hmem
      obtain ⟨x0, hx0⟩ : ∃ x, f0.ps[d]? = some x := ⟨_, List.getElem?_eq_getElem (by omega)⟩
      have hxin : x0 ∈ (Fs1.getD k frZ).ps := by rw [hF1.out]; exact List.mem_of_getElem? hx0
      have hb0 := le_least hba hbb (hPi.out.inn hk1 hxin)
      obtain ⟨bb, hbb0⟩ : ∃ bb, leP a b x0 = bb := ⟨_, rfl⟩
      rw [hbb0] at hb0
      have HLN := lid' hb0.1
      have z2 : wr.cell? ⟨f0.pb, d * 3 + 2, none⟩ = some (.int .i64 ((bb.toNat : Nat) : Int)) := by
        have := (hFr.out.cells hmem (d := d) (c := 0) hx0).2.2
        rw [← HLN.out] at this
        simpa using this
      have c0 : decide ((L : Int) > 0) = true := by simp; omega
      have HBB := lid' hbb0
      clear hb0 hbb0
      go_wp2
      clear z2 c0
      obtain ⟨wo, hwo⟩ : ∃ wo, wo = wr := ⟨_, rfl⟩
      subst hwo
      have hFo := lid' (hFr.out.up hFr.out.hH (Nat.le_refl _))
      have hG0 := lid' (hPi.out.group bb)
      have hrow0 : Hid (wo.ownsRow wo.heap.size 148 3 (.slice none ([] : List (Nat × Nat)).length 0) ([] : List (Nat × Nat)).length (prC a b [])) := lid' (World.ownsRow_nil _ _ _ _)
      clear hFr
      go_loopw [8, 9] (fun v8 v9 wi => ∃ (e c2 : Nat) (l : List (Nat × Nat)) (A2 : Option Addr) (sn2 : List (List Nat)), v8 = .slice A2 l.length c2 ∧ v9 = .int .i64 (e : Int) ∧ e ≤ L ∧ Hid (FrM w2 wi wo.heap.size mb1 mb2 ab sb n a b ag vf1' Fs1 sn2) ∧ Hid (PiG a b Fs1 sn2 k bb l (f0.ps.take (d + e))) ∧ Hid (wi.ownsRow wo.heap.size 148 3 (.slice A2 l.length c2) l.length (prC a b l)) ∧ Hid (Below w2.heap.size w wi)) (fun v8 v9 wi => L - (intOf v9).toNat)
      case atStart => exact ⟨0, 0, [], none, sn1, rfl, rfl, Nat.zero_le _, hFo, hG0, hrow0, hBel⟩
      case round =>
        clear hFo hG0 hrow0 hBel
        obtain ⟨e, c2, l, A2, sn2, rfl, rfl, heL, hFi, hG, hrow, hBi⟩ := hrel
        by_cases hgo : ∃ x, e < L ∧ f0.ps[d + e]? = some x ∧ leN a b x = bb.toNat
        · obtain ⟨x, hlt, hx, hlx⟩ := hgo
          obtain ⟨z0, z1, z2⟩ := hFi.out.cells hmem hx
          rw [hlx] at z2
          have hxin : x ∈ (Fs1.getD k frZ).ps := by rw [hF1.out]; exact List.mem_of_getElem? hx
          have hagx := hPi.out.inn hk1 hxin
          have hxa := (agP_lt hagx).1
          have hxb := (agP_lt hagx).2
          have hlb : leP a b x = bb := UInt8.toNat_inj.1 (by rw [(le_least hba hbb hagx).1]; exact hlx)
          have hBb : B ≤ bb.toNat := by
            rw [HLN.out]
            exact hB.out x0 (by
              have hd : d < f0.ps.length := by omega
              rw [List.getElem?_eq_getElem hd] at hx0
              rw [List.drop_eq_getElem_cons hd, Option.some.inj hx0]
              exact List.mem_cons_self ..)
          have e0 : (0 : Int) ≤ (e : Int) := by omega
          have e1 : (e : Int) < (L : Int) := by omega
          have HLB := lid' hlb
          have HLX := lid' hlx
          have HX := lid' hx
          clear hlb hlx hx
          go_upto_region 8 with fail
          go_quiet (fail)
          have hFd := lid' (hFi.out.drewN nq)
          have hrd : Hid ((wr.drewN nq).ownsRow wo.heap.size 148 3 (.slice A2 l.length c2) l.length (prC a b l)) := hrow
          have hBd := lid' (below_drewN hBi.out nq)
          clear hFi hrow hBi z0 z1 z2
          generalize wr.drewN nq = Wd at *
          have hx1 : x.1 < 256 := by have := hM1.out.mw.pl; omega
          have hx2 : x.2 < 256 := by have := hM2.out.mw.pl; omega
          have hbel := hFd.out.sr.bel
          have h41 := hM1.out.mw.pr.l4
          have h42 := hM2.out.mw.pr.l4
          have N1 := lid' (has_any mb1 7 x.1 la1 Wd hx1 h41 (lid' (hM1.out.below hbel).pl))
          have N2 := lid' (has_any mb2 7 x.2 la2 Wd hx2 h42 (lid' (hM2.out.below hbel).pl))
          have y0 := hFd.out.sr.bx.cell 0
          have y1 := hFd.out.sr.bx.cell 1
          simp at y0 y1
          have hac : acP a b x ↔ hasW la1 x.1 = true ∧ hasW la2 x.2 = true := by unfold acP; rw [hM1.out.mw.pr.lst _ hx1, hM2.out.mw.pr.lst _ hx2]
          have HAC := lid' hac
          clear hac hbel h41 h42
          by_cases hyes : hasW la1 x.1 = true ∧ hasW la2 x.2 = true
          · obtain ⟨r1, r2⟩ := hyes
            have hacc := HAC.out.2 ⟨r1, r2⟩
            have hfb := hG.out.found hba hbb hPi.out hk1 hxin HLB.out hBb hacc (fun y hy hly => by
              rw [hF1.out] at hy
              obtain ⟨i, hi⟩ := List.mem_iff_getElem?.1 hy
              have hs := hPi.out.so f0 hmem
              by_cases c : i < d + e
              · exact List.mem_of_getElem? (by rw [List.getElem?_take, if_pos c]; exact hi)
              · exfalso
                rcases Nat.lt_or_ge (d + e) i with q | q
                · have := hs (d + e) i x y q HX.out hi; omega
                · obtain rfl : i = d + e := by omega
                  rw [HX.out] at hi
                  cases hi
                  omega)
            rw [hF1.out] at hfb
            have hxl := hPi.out.txl k hk1
            rw [hF1.out] at hxl
            have HFB := lid' (And.intro hfb (show (f0.tx ++ [leP a b x]).length ≤ 65537 by have := hPi.out.few (by have := hM1.out.mw.pl; omega); rw [List.length_append, List.length_singleton]; omega))
            rw [HLB.out] at HFB
            clear hxl
            obtain ⟨fb2, cf2, rfl, _⟩ := World.ownsRow.form hFd.out.fo (by omega)
            have hV := lid' (hFd.out.frv hPi.out)
            have hTX : Hid (Calls Tryz.prog 90 #[.pointer (some ⟨w2.heap.size, 0, none⟩), .int .i64 (k : Int), .int .u8 ((bb.toNat : Nat) : Int)] Wd fun e w' => e = .returned (.string ⟨(f0.tx ++ [bb]).toArray⟩) ∧ Below Wd.heap.size Wd w') := lid' (by rw [← hF1.out]; exact text_any w2.heap.size fb2 Fs1.length cf2 k _ _ _ bb Wd hV hk1 (by have := hPi.out.few (by have := hM1.out.mw.pl; omega); omega))
            rw [r1] at N1
            rw [r2] at N2
            have cw : IntKind.u8.wrap ((bb.toNat : Nat) : Int) = ((bb.toNat : Nat) : Int) := by have := bb.toNat_lt; rw [IntKind.wrap_u8]; omega
            clear hfb hacc
            go_wp2_with (first
              | (go_at_call 82; with_reducible refine N1.out.mono ?_; rintro e1 W1 ⟨rfl, hW1⟩; cases hW1; clear N1)
              | (go_at_call 82; with_reducible refine N2.out.mono ?_; rintro e1 W1 ⟨rfl, hW1⟩; cases hW1; clear N2)
              | (go_at_call 90; with_reducible refine hTX.out.mono ?_; rintro e1 W1 ⟨rfl, hW1⟩; have HW1 := lid' hW1; clear hW1))
            go_ret2
            exact ⟨hBd.out.trans (HW1.out.mono (by have := hFd.out.sr.lt; omega)), .inl ⟨_, rfl, HFB.out⟩⟩
          · have hno := lid' hyes
            by_cases r1 : hasW la1 x.1 = true
            · have r2 : hasW la2 x.2 = false := by
                cases h : hasW la2 x.2 with
                | false => rfl
                | true => exact absurd ⟨r1, h⟩ hyes
              rw [r1] at N1
              rw [r2] at N2
              clear hyes
              replace hno := hno.out
              have hzn := hn.out
              have hlx1 : (x.1 : Int) < (fl1.length : Int) := by have := hM1.out.mw.len; omega
              have hlx2 : (x.2 : Int) < (fl2.length : Int) := by have := hM2.out.mw.len; omega
              have hl0 : (0 : Int) ≤ (x.1 : Int) := by omega
              have hl1 : (0 : Int) ≤ (x.2 : Int) := by omega
              obtain ⟨gb1, cr1, rfl, _, hg1⟩ := World.ownsRow.form hM1.out.ma.rs (by omega)
              obtain ⟨gb2, cr2, rfl, _, hg2⟩ := World.ownsRow.form hM2.out.ma.rs (by omega)
              have m1 := (hM1.out.below hFd.out.sr.bel).ma.cs
              have m2 := (hM2.out.below hFd.out.sr.bel).ma.cs
              have hbw := hFd.out.hH
              have hb2 := hFd.out.b2
              have hsb := hFd.out.sr.os.lt.1
              have hsl := hM1.out.mw.fols hxa
              have hsr := hM2.out.mw.fols hxb
              have hm256 := hM1.out.mw.pl
              have hq256 := hM2.out.mw.pl
              have hpass := lid' (PiG.pass hag hM1.out.mw hM2.out.mw hba hbb hPi.out hG.out hk1 hxin HLB.out hBb (fun q => hno (HAC.out.1 q)))
              have hMT : Hid (∀ dd, CallsIn Fence.wide 8 Tryz.prog 68 #[.pointer (some ⟨w2.heap.size, 0, none⟩), .slice A2 l.length c2, .pointer (some ⟨gb1, x.1 * 4, none⟩), .pointer (some ⟨gb2, x.2 * 4, none⟩)] (Wd.drewN dd) (fun e' w' => ∃ v', e' = .returned v' ∧ Hid (FrM w2 w' wo.heap.size mb1 mb2 ab sb n a b ag vf1' Fs1 (mtW ag (fl2.getD x.2 noW) (l, sn2) (els (fl1.getD x.1 noW))).2 ∧ w'.ownsRow wo.heap.size 148 3 v' (mtW ag (fl2.getD x.2 noW) (l, sn2) (els (fl1.getD x.1 noW))).1.length (prC a b (mtW ag (fl2.getD x.2 noW) (l, sn2) (els (fl1.getD x.1 noW))).1) ∧ Below w2.heap.size w w'))) := lid' (fun dd =>
                (callsIn_wide.2 (callsIn_wide.1 (meet_any w2 (Wd.drewN dd) mb1 mb2 ab sb n wo.heap.size B1 B2 gb1 (x.1 * 4) gb2 (x.2 * 4) a b _ _ _ _ _ fl1 fl2 f1 la1 f2 la2 ag sn2 (fl1.getD x.1 noW) (fl2.getD x.2 noW) l _ (lid' (hFd.out.drewN dd).sr) hM1 hM2 hn hag hG.out.se.all (lid' (FoO.pl hM1.out.ma.rs (by have := hM1.out.mw.len; omega))) (lid' (FoO.pl hM2.out.ma.rs (by have := hM2.out.mw.len; omega))) hg1 hg2 hsl.w4 hsr.w4 (fun p hp => by rw [hn.out]; exact hsl.inn p ((hsl.els hm256).1 hp)) hrd hb2 (by simpa using hbw) (hG.out.few hm256).2 ht hts))).mono (fun e' w' h => by
                  obtain ⟨v', h1, h2, h3, h4⟩ := h
                  exact ⟨v', h1, lid' ⟨(hFd.out.drewN dd).met h2 h4, h3, (below_drewN hBd.out dd).trans ((h4.mono (Nat.le_of_lt hb2)).below hsb)⟩⟩))
              have hmx : Tryz.prog.follows .mixedOrders = true := by kernel_rfl
              clear hFd hrd hsl hsr hG hzn hm256 hq256
              go_wp2_with (first
                | (go_at_call 82; with_reducible refine N1.out.mono ?_; rintro e1 W1 ⟨rfl, hW1⟩; cases hW1; clear N1)
                | (go_at_call 82; with_reducible refine N2.out.mono ?_; rintro e1 W1 ⟨rfl, hW1⟩; cases hW1; clear N2))
              refine region_mix_wp 20 24 (fun w' => ∃ d, w' = Wd.drewN d) (fun _ w' => ∃ d, w' = Wd.drewN d) (fun _ => false) (by decide) hmx (by kernel_rfl) (by kernel_rfl) (by kernel_rfl) (fun _ _ h => h) (fun _ _ _ _ => Iff.rfl) ⟨1, rfl⟩ ?_
              simp only [List.take_succ_cons, List.take_zero]
              repeat (refine wpSt_step (by quiet_asked_in) (fun K hK => ?_); go_simp; refine hK _ ?_; clear hK K)
              refine wpSt_nil ?_
              refine mix_rest (i := 20) (by kernel_rfl) (by decide) rfl ?_
              rintro w' ⟨dd, rfl⟩
              refine wpOpIn_step rfl (fun K hK => ?_)
              go_simp
              refine ⟨trivial, ?_⟩
              refine (hMT.out dd).mono ?_
              rintro e' W2 ⟨v', rfl, hMM⟩
              obtain ⟨A3, c3, rfl, _, _⟩ := own_form hMM.out.2.1
              refine hK _ _ ?_
              clear hK K hMT
              refine wpAnyIn_ready (rs := [21]) (by kernel_rfl) (by simp) ?_
              refine AllReadyIn.cons rfl (fun K hK => ?_) AllReadyIn.nil
              go_simp
              refine hK _ _ ?_
              clear hK K
              refine wpAnyIn_done (by kernel_rfl) ?_ _
              refine npQ.normal ?_
              have hR1 := lid' hMM.out.1
              have hR2 := lid' hMM.out.2.1
              have hR3 := lid' hMM.out.2.2
              have hT : Hid (f0.ps.take (d + (e + 1)) = f0.ps.take (d + e) ++ [x]) := lid' (by rw [← Nat.add_assoc, List.take_add_one, HX.out]; rfl)
              clear hMM
              go_wp2
              go_roundw
              case rel => exact ⟨e + 1, c3, _, A3, _, rfl, rfl, by omega, hR1, lid' (by rw [hT.out]; exact hpass.out), hR2, hR3⟩
              case measure => simp only [intOf]; omega
            · have r1' : hasW la1 x.1 = false := by simpa using r1
              rw [r1'] at N1
              clear hyes r1
              replace hno := hno.out
              have hzn := hn.out
              have hlx1 : (x.1 : Int) < (fl1.length : Int) := by have := hM1.out.mw.len; omega
              have hlx2 : (x.2 : Int) < (fl2.length : Int) := by have := hM2.out.mw.len; omega
              have hl0 : (0 : Int) ≤ (x.1 : Int) := by omega
              have hl1 : (0 : Int) ≤ (x.2 : Int) := by omega
              obtain ⟨gb1, cr1, rfl, _, hg1⟩ := World.ownsRow.form hM1.out.ma.rs (by omega)
              obtain ⟨gb2, cr2, rfl, _, hg2⟩ := World.ownsRow.form hM2.out.ma.rs (by omega)
              have m1 := (hM1.out.below hFd.out.sr.bel).ma.cs
              have m2 := (hM2.out.below hFd.out.sr.bel).ma.cs
              have hbw := hFd.out.hH
              have hb2 := hFd.out.b2
              have hsb := hFd.out.sr.os.lt.1
              have hsl := hM1.out.mw.fols hxa
              have hsr := hM2.out.mw.fols hxb
              have hm256 := hM1.out.mw.pl
              have hq256 := hM2.out.mw.pl
              have hpass := lid' (PiG.pass hag hM1.out.mw hM2.out.mw hba hbb hPi.out hG.out hk1 hxin HLB.out hBb (fun q => hno (HAC.out.1 q)))
              have hMT : Hid (∀ dd, CallsIn Fence.wide 8 Tryz.prog 68 #[.pointer (some ⟨w2.heap.size, 0, none⟩), .slice A2 l.length c2, .pointer (some ⟨gb1, x.1 * 4, none⟩), .pointer (some ⟨gb2, x.2 * 4, none⟩)] (Wd.drewN dd) (fun e' w' => ∃ v', e' = .returned v' ∧ Hid (FrM w2 w' wo.heap.size mb1 mb2 ab sb n a b ag vf1' Fs1 (mtW ag (fl2.getD x.2 noW) (l, sn2) (els (fl1.getD x.1 noW))).2 ∧ w'.ownsRow wo.heap.size 148 3 v' (mtW ag (fl2.getD x.2 noW) (l, sn2) (els (fl1.getD x.1 noW))).1.length (prC a b (mtW ag (fl2.getD x.2 noW) (l, sn2) (els (fl1.getD x.1 noW))).1) ∧ Below w2.heap.size w w'))) := lid' (fun dd =>
                (callsIn_wide.2 (callsIn_wide.1 (meet_any w2 (Wd.drewN dd) mb1 mb2 ab sb n wo.heap.size B1 B2 gb1 (x.1 * 4) gb2 (x.2 * 4) a b _ _ _ _ _ fl1 fl2 f1 la1 f2 la2 ag sn2 (fl1.getD x.1 noW) (fl2.getD x.2 noW) l _ (lid' (hFd.out.drewN dd).sr) hM1 hM2 hn hag hG.out.se.all (lid' (FoO.pl hM1.out.ma.rs (by have := hM1.out.mw.len; omega))) (lid' (FoO.pl hM2.out.ma.rs (by have := hM2.out.mw.len; omega))) hg1 hg2 hsl.w4 hsr.w4 (fun p hp => by rw [hn.out]; exact hsl.inn p ((hsl.els hm256).1 hp)) hrd hb2 (by simpa using hbw) (hG.out.few hm256).2 ht hts))).mono (fun e' w' h => by
                  obtain ⟨v', h1, h2, h3, h4⟩ := h
                  exact ⟨v', h1, lid' ⟨(hFd.out.drewN dd).met h2 h4, h3, (below_drewN hBd.out dd).trans ((h4.mono (Nat.le_of_lt hb2)).below hsb)⟩⟩))
              have hmx : Tryz.prog.follows .mixedOrders = true := by kernel_rfl
              clear hFd hrd hsl hsr hG hzn hm256 hq256
              clear N2
              go_wp2_with (go_at_call 82; with_reducible refine N1.out.mono ?_; rintro e1 W1 ⟨rfl, hW1⟩; cases hW1; clear N1)
              refine region_mix_wp 20 24 (fun w' => ∃ d, w' = Wd.drewN d) (fun _ w' => ∃ d, w' = Wd.drewN d) (fun _ => false) (by decide) hmx (by kernel_rfl) (by kernel_rfl) (by kernel_rfl) (fun _ _ h => h) (fun _ _ _ _ => Iff.rfl) ⟨1, rfl⟩ ?_
              simp only [List.take_succ_cons, List.take_zero]
              repeat (refine wpSt_step (by quiet_asked_in) (fun K hK => ?_); go_simp; refine hK _ ?_; clear hK K)
              refine wpSt_nil ?_
              refine mix_rest (i := 20) (by kernel_rfl) (by decide) rfl ?_
              rintro w' ⟨dd, rfl⟩
              refine wpOpIn_step rfl (fun K hK => ?_)
              go_simp
              refine ⟨trivial, ?_⟩
              refine (hMT.out dd).mono ?_
              rintro e' W2 ⟨v', rfl, hMM⟩
              obtain ⟨A3, c3, rfl, _, _⟩ := own_form hMM.out.2.1
              refine hK _ _ ?_
              clear hK K hMT
              refine wpAnyIn_ready (rs := [21]) (by kernel_rfl) (by simp) ?_
              refine AllReadyIn.cons rfl (fun K hK => ?_) AllReadyIn.nil
              go_simp
              refine hK _ _ ?_
              clear hK K
              refine wpAnyIn_done (by kernel_rfl) ?_ _
              refine npQ.normal ?_
              have hR1 := lid' hMM.out.1
              have hR2 := lid' hMM.out.2.1
              have hR3 := lid' hMM.out.2.2
              have hT : Hid (f0.ps.take (d + (e + 1)) = f0.ps.take (d + e) ++ [x]) := lid' (by rw [← Nat.add_assoc, List.take_add_one, HX.out]; rfl)
              clear hMM
              go_wp2
              go_roundw
              case rel => exact ⟨e + 1, c3, _, A3, _, rfl, rfl, by omega, hR1, lid' (by rw [hT.out]; exact hpass.out), hR2, hR3⟩
              case measure => simp only [intOf]; omega
        · have he1 : 0 < e := by
            rcases Nat.eq_zero_or_pos e with h | h
            · subst h
              exact absurd ⟨x0, hL0, by simpa using hx0, HLN.out.symm⟩ hgo
            · exact h
          have hBb : B ≤ bb.toNat := by
            rw [HLN.out]
            exact hB.out x0 (by
              have hd : d < f0.ps.length := by omega
              rw [List.getElem?_eq_getElem hd] at hx0
              rw [List.drop_eq_getElem_cons hd, Option.some.inj hx0]
              exact List.mem_cons_self ..)
          have hsrt := hPi.out.so f0 hmem
          have hrest : Hid (∀ x ∈ f0.ps.drop (d + e), bb.toNat + 1 ≤ leN a b x) := lid' (fun x hx => by
            obtain ⟨i, hi⟩ := List.mem_iff_getElem?.1 hx
            rw [List.getElem?_drop] at hi
            have hil := (List.getElem?_eq_some_iff.1 hi).1
            have hde : d + e < f0.ps.length := by omega
            obtain ⟨y, hy⟩ : ∃ y, f0.ps[d + e]? = some y := ⟨_, List.getElem?_eq_getElem hde⟩
            have h1 := hsrt d (d + e) x0 y (by omega) hx0 hy
            have h2 : leN a b y ≠ bb.toNat := fun q => hgo ⟨y, by omega, hy, q⟩
            have h3 := HLN.out
            rcases Nat.eq_zero_or_pos i with rfl | hi0
            · rw [Nat.add_zero, hy] at hi
              cases hi
              omega
            · have h4 := hsrt (d + e) (d + e + i) y x (by omega) hy hi
              omega)
          have hm256 := hM1.out.mw.pl
          have hfew := hPi.out.few hm256
          have hAV := lid' (advance_any w2 wr wo.heap.size mb1 mb2 ab sb n c2 A2 a b ag sn2 vf1' Fs1 (k : Int) bb (f0.tx ++ [bb]) l hFi hrow (hG.out.few hm256).1 hfew)
          have cw : IntKind.u8.wrap ((bb.toNat : Nat) : Int) = ((bb.toNat : Nat) : Int) := by have := bb.toNat_lt; rw [IntKind.wrap_u8]; omega
          have e0 : (0 : Int) ≤ (e : Int) := by omega
          have hnx : Hid (∀ (Wn : World) (Hn : Nat) (vn : Value) (Fn : List Fr), FrM w2 Wn Hn mb1 mb2 ab sb n a b ag vn Fn sn2 → PiF a b Fn sn2 k (bb.toNat + 1) (f0.ps.take (d + e)) → Fn.getD k frZ = f0 → Fs1.length ≤ Fn.length → True) := lid' (fun _ _ _ _ _ _ _ _ => trivial)
          have hNX : Hid (∀ W4 : World, ((l = [] ∧ W4 = wr) ∨ (l ≠ [] ∧ ∃ f vf', f.be = (k : Int) ∧ f.la = bb ∧ f.tx = f0.tx ++ [bb] ∧ f.ps.Perm l ∧ srtP a b f.ps ∧ FrM w2 W4 W4.heap.size mb1 mb2 ab sb n a b ag vf' (Fs1 ++ [f]) sn2)) → ∃ Hn vn Fn, FrM w2 W4 Hn mb1 mb2 ab sb n a b ag vn Fn sn2 ∧ PiF a b Fn sn2 k (bb.toNat + 1) (f0.ps.take (d + e)) ∧ Fn.getD k frZ = f0 ∧ Fs1.length ≤ Fn.length) := lid' (fun W4 hc => by
            rcases hc with ⟨rfl, rfl⟩ | ⟨hne, f, vf', g1, g2, g3, g4, g5, g6⟩
            · exact ⟨_, _, Fs1, hFi.out, hG.out.none hPi.out hBb, hF1.out, Nat.le_refl _⟩
            · exact ⟨_, _, _, g6, hG.out.done hPi.out hBb hk1 g1 g2 (by rw [hF1.out]; exact g3) g4 g5 hne, by rw [List.getD_eq_getElem?_getD, List.getElem?_append_left hk1, ← List.getD_eq_getElem?_getD]; exact hF1.out, by simp⟩)
          clear hnx hsrt hm256 hfew
          by_cases hlt : e < L
          · obtain ⟨x, hx⟩ : ∃ x, f0.ps[d + e]? = some x := ⟨_, List.getElem?_eq_getElem (by omega)⟩
            have hlx : leN a b x ≠ bb.toNat := fun q => hgo ⟨x, hlt, hx, q⟩
            obtain ⟨_, _, z2⟩ := hFi.out.cells hmem hx
            have cf : (((leN a b x : Nat) : Int) == ((bb.toNat : Nat) : Int)) = false := by simp; omega
            have e1 : (e : Int) < (L : Int) := by omega
            generalize leN a b x = lx at *
            clear hgo hx hlx hFi hG hrow
            go_wp2_with (go_at_call 69; with_reducible refine hAV.out.mono ?_; rintro e' W4 ⟨rfl, hb4, hc4⟩; have HB4 := lid' (hBi.out.trans hb4); have HC4 := lid' hc4; clear hb4 hc4)
            obtain ⟨Hn, vn, Fn, g1, g2, g3, g4⟩ := hNX.out W4 HC4.out
            exact ⟨⟨d + e, L - e, c - e, Hn, bb.toNat + 1, _, vn, Fn, sn2, rfl, by omega, by omega, fun _ => by rw [show (d + e) * 3 = d * 3 + e * 3 by omega], lid' g1, lid' g2, lid' g3, by omega, hrest, HB4⟩, by simp only [slL]; omega⟩
          · obtain rfl : e = L := by omega
            clear hgo hFi hG hrow
            go_wp2_with (go_at_call 69; with_reducible refine hAV.out.mono ?_; rintro e' W4 ⟨rfl, hb4, hc4⟩; have HB4 := lid' (hBi.out.trans hb4); have HC4 := lid' hc4; clear hb4 hc4)
            obtain ⟨Hn, vn, Fn, g1, g2, g3, g4⟩ := hNX.out W4 HC4.out
            exact ⟨⟨d + e, 0, c - e, Hn, bb.toNat + 1, _, vn, Fn, sn2, rfl, by omega, by omega, fun q => absurd q (by omega), lid' g1, lid' g2, lid' g3, by omega, hrest, HB4⟩, by simp only [slL]; omega⟩

end Go.Proofs.YtfkljlncnfeklaaGreatDoor

/-! search.first. -/
namespace Go.Proofs.YtfkljlncnfeklaaGreatDoor
open Go.RowKit Go.Shelf
set_option linter.unusedVariables false
set_option linter.unusedSimpArgs false
attribute [local go_sem ↓] Go.wp_at_zero Go.wp_at_succ
attribute [local go_sem] stIn stAt stUpon

/-- what Common answers -/
def CmR (a b : Rx) (s : List UInt8) (z : Int) : Prop := (z = 0 ∧ FirstB a b s ∧ s.length ≤ 65537) ∨ (z = 3 ∧ s = [] ∧ ∀ v, v ≠ [] → ¬ (a.mt v ∧ b.mt v))
theorem cnS_rep : ∀ n, cnS (List.replicate n noW) = 0
  | 0 => rfl
  | n + 1 => by
    rw [List.replicate_succ]
    show (els noW).length + cnS (List.replicate n noW) = 0
    rw [cnS_rep n]
    rfl
theorem rep_getD (n i : Nat) : (List.replicate n noW).getD i noW = noW := by
  rw [List.getD_eq_getElem?_getD, List.getElem?_replicate]
  split <;> rfl
set_option maxRecDepth 100000 in
set_option maxHeartbeats 4000000 in
theorem first_any (w2 w : World) (mb1 mb2 ab sb n B1 B2 : Nat) (a b : Rx) (vr1 vf1 vr2 vf2 : Value) (fl1 fl2 : List (List Nat)) (f1 la1 f2 la2 : List Nat) (ag : List (List Nat))
    (hM1 : Hid (McM w2 B1 mb1 a vr1 vf1 fl1 f1 la1)) (hM2 : Hid (McM w2 B2 mb2 b vr2 vf2 fl2 f2 la2)) (hn : Hid (n = a.pl)) (hag : AgW a b ag) (hba : ∀ i, i < a.pl → (rgA a i).1 ≤ (rgA a i).2 ∧ (rgA a i).2 < 256) (hbb : ∀ i, i < b.pl → (rgA b i).1 ≤ (rgA b i).2 ∧ (rgA b i).2 < 256)
    (ht : Hid (Tz w2)) (hts : 2 < w2.heap.size) (hS : Hid (SrA w2 w mb1 mb2 ab sb n ag (List.replicate n noW))) :
    Calls Tryz.prog 45 #[.pointer (some ⟨w2.heap.size, 0, none⟩)] w fun e w' => Below w2.heap.size w w' ∧ ∃ (s : List UInt8) (z : Int), e = .returned (.tuple #[.string ⟨s.toArray⟩, .int .i64 z]) ∧ CmR a b s z := by
  have h256 := hM1.out.mw.pl
  have hlt := hS.out.bx.lt
  have hall : AllW (List.replicate n noW) := fun i _ => by rw [rep_getD]; exact no_w4
  obtain ⟨nw, e1, e2, e3, e4⟩ := start_ok hag hM1.out.mw hM2.out.mw (seen := List.replicate n noW) (by rw [List.length_replicate]; exact hn.out) (fun i _ => rep_getD n i)
  rw [cnS_rep, Nat.zero_add] at e2
  have hMT : Hid (∀ dd, CallsIn Fence.wide 8 Tryz.prog 68 #[.pointer (some ⟨w2.heap.size, 0, none⟩), .slice none 0 0, .pointer (some ⟨mb1, 3, none⟩), .pointer (some ⟨mb2, 3, none⟩)] (w.drewN dd) (fun e' w' => ∃ v', e' = .returned v' ∧ Hid (FrM w2 w' w.heap.size mb1 mb2 ab sb n a b ag (.slice none 0 0) [] (mtW ag f2 ([], List.replicate n noW) (els f1)).2 ∧ w'.ownsRow w.heap.size 148 3 v' nw.length (prC a b nw) ∧ Below w2.heap.size w w'))) := lid' (fun dd =>
    (callsIn_wide.2 (callsIn_wide.1 (meet_any w2 (w.drewN dd) mb1 mb2 ab sb n w.heap.size B1 B2 mb1 3 mb2 3 a b _ _ _ _ _ fl1 fl2 f1 la1 f2 la2 ag (List.replicate n noW) f1 f2 [] (.slice none 0 0) (lid' (hS.out.b.later (below_drewN (Below.refl _ _) dd))) hM1 hM2 hn hag hall (lid' hM1.out.pf) (lid' hM2.out.pf) (lt_of_cell hM1.out.em) (lt_of_cell hM2.out.em) hM1.out.mw.start.w4 hM2.out.mw.start.w4 (fun p hp => by rw [hn.out]; exact hM1.out.mw.start.inn p ((hM1.out.mw.start.els h256).1 hp)) (lid' (World.ownsRow_nil _ _ _ _)) hlt (Nat.le_refl _) (Nat.zero_le _) ht hts))).mono (fun e' w' h => by
      obtain ⟨v', h1, h2, h3, h4⟩ := h
      rw [e1] at h3
      have h5 := h4.size
      exact ⟨v', h1, lid' ⟨⟨h2, World.ownsRow_nil _ _ _ _, fun f hf => (by cases hf), fun k hk => (by cases hk), fun f hf => (by cases hf), hS.out.oa.lt.2, hS.out.os.lt.2, hlt, by simpa using h5⟩, h3, (below_drewN (Below.refl _ w) dd).trans ((h4.mono (Nat.le_of_lt hlt)).below hS.out.os.lt.1)⟩⟩))
  have hmx : Tryz.prog.follows .mixedOrders = true := by kernel_rfl
  have y0 := hS.out.bx.cell 0
  have y1 := hS.out.bx.cell 1
  simp at y0 y1
  generalize hsn1 : (mtW ag f2 ([], List.replicate n noW) (els f1)).2 = sn1 at *
  have E2 := lid' e2
  have E3 := lid' e3
  have E4 := lid' e4
  have hnl : nw.length ≤ 65536 := by
    have h1 := cnS_le sn1
    have h2 := E3.out.len
    omega
  clear e1 e2 e3 e4 hall hsn1
  go_enter Tryz.func45, Tryz.ntmps45
  go_wp2
  refine region_mix_wp 15 24 (fun w' => ∃ d, w' = w.drewN d) (fun _ w' => ∃ d, w' = w.drewN d) (fun _ => false) (by decide) hmx (by kernel_rfl) (by kernel_rfl) (by kernel_rfl) (fun _ _ h => h) (fun _ _ _ _ => Iff.rfl) ⟨1, rfl⟩ ?_
  simp only [List.take_succ_cons, List.take_zero]
  repeat (refine wpSt_step (by quiet_asked_in) (fun K hK => ?_); go_simp; refine hK _ ?_; clear hK K)
  refine wpSt_nil ?_
  refine mix_rest (i := 15) (by kernel_rfl) (by decide) rfl ?_
  rintro w' ⟨dd, rfl⟩
  refine wpOpIn_step rfl (fun K hK => ?_)
  go_simp
  refine ⟨trivial, ?_⟩
  refine (hMT.out dd).mono ?_
  rintro e' W2 ⟨v', rfl, hMM⟩
  obtain ⟨A3, c3, rfl, _, _⟩ := own_form hMM.out.2.1
  refine hK _ _ ?_
  clear hK K hMT
  refine wpAnyIn_ready (rs := [16]) (by kernel_rfl) (by simp) ?_
  refine AllReadyIn.cons rfl (fun K hK => ?_) AllReadyIn.nil
  go_simp
  refine hK _ _ ?_
  clear hK K
  refine wpAnyIn_done (by kernel_rfl) ?_ _
  refine npQ.normal ?_
  have hF := lid' hMM.out.1
  have hR2 := lid' hMM.out.2.1
  have hB2 := lid' hMM.out.2.2
  clear hMM y0 y1 hS dd
  have hAV : Hid (Calls Tryz.prog 69 #[.pointer (some ⟨w2.heap.size, 0, none⟩), .int .i64 (-1), .int .u8 0, .slice A3 nw.length c3] W2 fun e w' => e = .returned (.tuple #[]) ∧ Below w2.heap.size W2 w' ∧ ((nw = [] ∧ w' = W2) ∨ (nw ≠ [] ∧ ∃ f vf', f.be = -1 ∧ f.la = 0 ∧ f.tx = [] ∧ f.ps.Perm nw ∧ srtP a b f.ps ∧ FrM w2 w' w'.heap.size mb1 mb2 ab sb n a b ag vf' ([] ++ [f]) sn1))) := lid' (advance_any w2 W2 w.heap.size mb1 mb2 ab sb n c3 A3 a b ag sn1 (.slice none 0 0) [] (-1) 0 [] nw hF hR2 hnl (Nat.zero_le _))
  have hNX : Hid (∀ W4 : World, ((nw = [] ∧ W4 = W2) ∨ (nw ≠ [] ∧ ∃ f vf', f.be = -1 ∧ f.la = 0 ∧ f.tx = [] ∧ f.ps.Perm nw ∧ srtP a b f.ps ∧ FrM w2 W4 W4.heap.size mb1 mb2 ab sb n a b ag vf' ([] ++ [f]) sn1)) → ∃ Hn vn Fn, FrM w2 W4 Hn mb1 mb2 ab sb n a b ag vn Fn sn1 ∧ (PiF a b Fn sn1 0 0 [] ∨ (Fn = [] ∧ ∀ v, v ≠ [] → ¬ (a.mt v ∧ b.mt v)))) := lid' (fun W4 hc => by
    rcases hc with ⟨h1, rfl⟩ | ⟨hne, f, vf', g1, g2, g3, g4, g5, g6⟩
    · refine ⟨_, _, [], hF.out, .inr ⟨rfl, none_ok hba hbb E4.out (fun k t l hk x hx => ?_)⟩⟩
      have := lt_of_get hk
      obtain rfl : k = 0 := by simpa using this
      injection hk with hk
      injection hk with _ hk
      subst hk
      rw [h1] at hx
      cases hx
    · exact ⟨_, _, [f], g6, .inl (PiF.first E3.out E4.out E2.out g1 g3 g4 g5 hne)⟩)
  clear hF hR2
  go_wp2_with (go_at_call 69; with_reducible refine hAV.out.mono ?_; rintro e' W4 ⟨rfl, hb4, hc4⟩; have HB4 := lid' (hB2.out.trans hb4); have HC4 := lid' hc4; clear hb4 hc4)
  obtain ⟨Hn, vn, Fn, g1, g2⟩ := hNX.out W4 HC4.out
  have hFn := lid' g1
  have hPn := lid' g2
  clear g1 g2 hNX HC4 hAV hB2 E2 E3 E4
  go_loopw [5] (fun v5 wr => ∃ (i H : Nat) (vf : Value) (Fs : List Fr) (sn : List (List Nat)), v5 = .int .i64 (i : Int) ∧ i ≤ Fs.length ∧ Hid (FrM w2 wr H mb1 mb2 ab sb n a b ag vf Fs sn) ∧ Hid (PiF a b Fs sn i 0 [] ∨ (Fs = [] ∧ ∀ v, v ≠ [] → ¬ (a.mt v ∧ b.mt v))) ∧ Hid (Below w2.heap.size w wr)) (fun v5 wr => 65537 - (intOf v5).toNat)
  case atStart => exact ⟨0, Hn, vn, Fn, sn1, rfl, Nat.zero_le _, hFn, hPn, HB4⟩
  case round =>
    clear hFn hPn HB4
    obtain ⟨i, H, vf, Fs, sn, rfl, hi, hF, hP, hB⟩ := hrel
    obtain ⟨A', cf, rfl, _, _⟩ := own_form hF.out.fo
    have y4 := hF.out.sr.bx.cell 4
    simp at y4
    by_cases hlt : i < Fs.length
    · have hPi : Hid (PiF a b Fs sn i 0 []) := lid' (hP.out.resolve_right (fun q => by rw [q.1] at hlt; cases hlt))
      have hfew := hPi.out.few h256
      have hEX := lid' (extend_any w2 wr H i mb1 mb2 ab sb n B1 B2 a b _ _ _ _ _ fl1 fl2 f1 la1 f2 la2 ag sn Fs hM1 hM2 hn hag hba hbb ht hts hF hPi hlt)
      have j1 : (i : Int) < (Fs.length : Int) := by omega
      have hi6 : i < 65537 := by omega
      have hEY : Hid (Calls Tryz.prog 70 #[.pointer (some ⟨w2.heap.size, 0, none⟩), .int .i64 (i : Int)] wr fun e w' => ∃ (s : List UInt8) (t : Bool), e = .returned (.tuple #[.string ⟨s.toArray⟩, .bool t]) ∧ Hid (Below w2.heap.size w w' ∧ ((t = true ∧ FirstB a b s ∧ s.length ≤ 65537) ∨ (t = false ∧ ∃ H' vf' Fs' sn', FrM w2 w' H' mb1 mb2 ab sb n a b ag vf' Fs' sn' ∧ PiF a b Fs' sn' (i + 1) 0 [] ∧ Fs.length ≤ Fs'.length)))) := lid' (hEX.out.mono (fun e' W5 h => by
        obtain ⟨hb5, ⟨s, h1, hfb⟩ | ⟨h1, h2⟩⟩ := h
        · exact ⟨s, true, h1, lid' ⟨hB.out.trans hb5, .inl ⟨rfl, hfb⟩⟩⟩
        · exact ⟨[], false, h1, lid' ⟨hB.out.trans hb5, .inr ⟨rfl, h2⟩⟩⟩))
      clear hEX
      go_wp2_with (go_at_call 70; with_reducible refine hEY.out.mono ?_; rintro e' W5 ⟨s, t, rfl, hh⟩)
      · rename_i ht1
        obtain ⟨hb5, ⟨_, hfb⟩ | ⟨h1, _⟩⟩ := hh.out
        · go_ret2
          exact ⟨hb5, s, 0, rfl, .inl ⟨rfl, hfb⟩⟩
        · rw [h1] at ht1; cases ht1
      · rename_i ht1
        obtain ⟨hb5, ⟨h1, _⟩ | ⟨_, H', vf', Fs', sn', g1, g2, g3⟩⟩ := hh.out
        · rw [h1] at ht1; cases ht1
        · exact ⟨⟨i + 1, H', vf', Fs', sn', rfl, by omega, lid' g1, lid' (.inl g2), lid' hb5⟩, by simp only [intOf]; omega⟩
    · obtain rfl : i = Fs.length := by omega
      have hno : Hid (∀ v, v ≠ [] → ¬ (a.mt v ∧ b.mt v)) := lid' (by
        rcases hP.out with q | q
        · exact q.nothing hba hbb
        · exact q.2)
      go_wp2
      go_ret2
      exact ⟨hB.out, [], 3, rfl, .inr ⟨rfl, rfl, hno.out⟩⟩

end Go.Proofs.YtfkljlncnfeklaaGreatDoor

/-! Shortest and Common. -/
namespace Go.Proofs.YtfkljlncnfeklaaGreatDoor
open Go.RowKit Go.Shelf
set_option linter.unusedVariables false
set_option linter.unusedSimpArgs false
attribute [local go_sem ↓] Go.wp_at_zero Go.wp_at_succ

/-- what Common answers, of any lists of nodes -/
def CoR (l l' : List Pn) (s : List UInt8) (z : Int) : Prop := (chP l ≠ 0 ∧ s = [] ∧ z = chP l) ∨ (chP l = 0 ∧ chP l' ≠ 0 ∧ s = [] ∧ z = chP l') ∨ (chP l = 0 ∧ chP l' = 0 ∧ CmR (rxP l) (rxP l') s z)
set_option maxRecDepth 100000 in
set_option maxHeartbeats 4000000 in
theorem found_any (A A' : Option Addr) (m c m' c' : Nat) (l l' : List Pn) (w : World) (h : okP l) (h' : okP l') (hl : Hid (l.length = m)) (hl' : Hid (l'.length = m')) (hr : Hid (Rp w w.heap.size A l)) (hr' : Hid (Rp w w.heap.size A' l')) (ht : Hid (Tz w)) (hts : 2 < w.heap.size) :
    Calls Tryz.prog 44 #[.slice A m c, .slice A' m' c'] w fun e w' => ∃ v, e = .returned (.pointer (some ⟨v, 0, none⟩)) ∧ Hid (Calls Tryz.prog 45 #[.pointer (some ⟨v, 0, none⟩)] w' fun e w'' => ∃ (s : List UInt8) (z : Int), e = .returned (.tuple #[.string ⟨s.toArray⟩, .int .i64 z]) ∧ Hid (CmR (rxP l) (rxP l') s z ∧ Below w.heap.size w w'')) := by
  refine (newsearch_any A A' m c m' c' l l' w h h' hl hl' hr hr' ht hts).mono ?_
  rintro e w' ⟨mb1, mb2, ab, sb, vr1, vf1, vr2, vf2, fl1, f1, la1, fl2, f2, la2, w2, he, hb, hM1, ⟨B2, hM2⟩, hS⟩
  refine ⟨w2.heap.size, he, lid' ?_⟩
  have hts2 : 2 < w2.heap.size := Nat.lt_of_lt_of_le hts hb.size
  refine (first_any w2 w' mb1 mb2 ab sb (rxP l).pl _ B2 (rxP l) (rxP l') vr1 vf1 vr2 vf2 fl1 fl2 f1 la1 f2 la2 _ (lid' hM1) (lid' hM2) (lid' rfl) (agF_ok _ _ hM2.mw.pl) (by8_rgs (rxP_by8 h)) (by8_rgs (rxP_by8 h')) (Tz.below ht hb hts) hts2 (lid' hS)).mono ?_
  rintro e2 w'' ⟨hb2, s, z, he2, hc⟩
  exact ⟨s, z, he2, lid' ⟨hc, hb.trans ((hS.bel.trans hb2).mono hb.size)⟩⟩
set_option maxRecDepth 100000 in
set_option maxHeartbeats 4000000 in
theorem common_any (A A' : Option Addr) (m c m' c' : Nat) (l l' : List Pn) (w : World) (hl : Hid (l.length = m)) (hl' : Hid (l'.length = m')) (hr : Hid (Rp w w.heap.size A l)) (hr' : Hid (Rp w w.heap.size A' l')) (ht : Hid (Tz w)) (hts : 2 < w.heap.size) :
    Calls Tryz.prog 21 #[.slice A m c, .slice A' m' c'] w fun e w' => ∃ (s : List UInt8) (z : Int), e = .returned (.tuple #[.string ⟨s.toArray⟩, .int .i64 z]) ∧ Hid (CoR l l' s z ∧ Below w.heap.size w w') := by
  have hC := lid' (pcheck_any A m c l w hl hr)
  by_cases h : chP l = 0
  · have hok := chP_zero.1 h
    have h0 := lid' h
    rw [h] at hC
    clear h
    have hC' := lid' (fun W hW => pcheck_any A' m' c' l' W hl' hW)
    by_cases h' : chP l' = 0
    · have hok' := chP_zero.1 h'
      have h0' := lid' h'
      rw [h'] at hC'
      clear h'
      go_enter Tryz.func21, Tryz.ntmps21
      go_wp2_with (first
        | (go_at_call 12; with_reducible refine hC.out.mono ?_; rintro e w1 ⟨rfl, hb1⟩; clear hC; have hr1 := Rp.later hr hb1; have hr1' := Rp.later hr' hb1; have ht1 := Tz.below ht hb1 hts; have hts1 := Nat.lt_of_lt_of_le hts hb1.size; have HB1 := lid' hb1; clear hb1)
        | (go_at_call 12; with_reducible refine (hC'.out _ hr1').mono ?_; rintro e w2 ⟨rfl, hb2⟩; clear hC'; have hr2 := Rp.later hr1 hb2; have hr2' := Rp.later hr1' hb2; have ht2 := Tz.below ht1 hb2 hts1; have hts2 := Nat.lt_of_lt_of_le hts1 hb2.size; have HB2 := lid' (HB1.out.trans (hb2.mono HB1.out.size)); clear hb2)
        | (go_at_call 44; with_reducible refine (found_any A A' m c m' c' l l' w2 hok hok' hl hl' hr2 hr2' ht2 hts2).mono ?_; rintro e w3 ⟨v3, rfl, hFI⟩)
        | (go_at_call 45; with_reducible refine hFI.out.mono ?_; rintro e w4 ⟨s4, z4, rfl, hcm⟩))
      go_ret2
      exact ⟨s4, z4, rfl, lid' ⟨.inr (.inr ⟨h0.out, h0'.out, hcm.out.1⟩), HB2.out.trans (hcm.out.2.mono HB2.out.size)⟩⟩
    · have h0' := lid' h'
      have hz : (chP l' == 0) = false := by simpa using h'
      clear h'
      go_enter Tryz.func21, Tryz.ntmps21
      go_wp2_with (first
        | (go_at_call 12; with_reducible refine hC.out.mono ?_; rintro e w1 ⟨rfl, hb1⟩; clear hC; have hr1' := Rp.later hr' hb1; have HB1 := lid' hb1; clear hb1)
        | (go_at_call 12; with_reducible refine (hC'.out _ hr1').mono ?_; rintro e w2 ⟨rfl, hb2⟩; clear hC'; have HB2 := lid' (HB1.out.trans (hb2.mono HB1.out.size)); clear hb2))
      go_ret2
      exact ⟨[], _, rfl, lid' ⟨.inr (.inl ⟨h0.out, h0'.out, rfl, rfl⟩), HB2.out⟩⟩
  · have h0 := lid' h
    have hz : (chP l == 0) = false := by simpa using h
    clear h
    go_enter Tryz.func21, Tryz.ntmps21
    go_wp2_with (go_at_call 12; with_reducible refine hC.out.mono ?_; rintro e w1 ⟨rfl, hb1⟩; clear hC; have HB1 := lid' hb1; clear hb1)
    go_ret2
    exact ⟨[], _, rfl, lid' ⟨.inl ⟨h0.out, rfl, rfl⟩, HB1.out⟩⟩

/-- everything -/
def evL : List Pn := [(1, 0, 255, 0, 0), (4, 0, 0, 0, 0)]
theorem ev_ok : okP evL := po_ok (r := .rep (.rng 0 255)) ⟨by decide, by decide⟩ (by decide)
theorem ev_rx : rxP evL = anyR := rxN_po (r := anyR)
theorem ev_all (v : List UInt8) : (rxP evL).mt v := by rw [ev_rx]; exact any_mt v
/-- what Shortest answers -/
def ShR (l : List Pn) (s : List UInt8) (z : Int) : Prop := (chP l ≠ 0 ∧ s = [] ∧ z = chP l) ∨ (chP l = 0 ∧ ((z = 0 ∧ s ≠ [] ∧ (rxP l).mt s ∧ (∀ v, v ≠ [] → (rxP l).mt v → leS s v) ∧ s.length ≤ 65537) ∨ (z = 3 ∧ s = [] ∧ ∀ v, v ≠ [] → ¬ (rxP l).mt v)))
theorem sh_of {l : List Pn} {s : List UInt8} {z : Int} (h : CoR l evL s z) : ShR l s z := by
  rcases h with h | ⟨_, h, _⟩ | ⟨h0, _, h⟩
  · exact .inl h
  · exact absurd (chP_ok ev_ok) h
  · rcases h with ⟨hz, ⟨h1, h2, h3, h4⟩, h5⟩ | ⟨hz, hs, h4⟩
    · exact .inr ⟨h0, .inl ⟨hz, h1, h2, fun v k1 k2 => h4 v k1 k2 (ev_all v), h5⟩⟩
    · exact .inr ⟨h0, .inr ⟨hz, hs, fun v k1 k2 => h4 v k1 ⟨k2, ev_all v⟩⟩⟩
set_option maxRecDepth 100000 in
set_option maxHeartbeats 4000000 in
theorem shortest_any (A : Option Addr) (m c : Nat) (l : List Pn) (w : World) (hl : Hid (l.length = m)) (hr : Hid (Rp w w.heap.size A l)) (ht : Hid (Tz w)) (hts : 2 < w.heap.size) :
    Calls Tryz.prog 19 #[.slice A m c] w fun e w' => ∃ (s : List UInt8) (z : Int), e = .returned (.tuple #[.string ⟨s.toArray⟩, .int .i64 z]) ∧ Hid (ShR l s z ∧ Below w.heap.size w w') := by
  have hev := ev_ok
  have hC := lid' (pcheck_any A m c l w hl hr)
  by_cases h : chP l = 0
  · have hok := chP_zero.1 h
    have h0 := lid' h
    rw [h] at hC
    clear h
    go_enter Tryz.func19, Tryz.ntmps19
    go_upto_region 4 with (go_at_call 12; with_reducible refine hC.out.mono ?_; rintro e w1 ⟨rfl, hb1⟩; clear hC; have hr1 := Rp.later hr hb1; have ht1 := Tz.below ht hb1 hts; have hts1 := Nat.lt_of_lt_of_le hts hb1.size; have HB1 := lid' hb1; clear hb1)
    have hb2 := (Below.refl w1.heap.size w1).alloc (Nat.le_refl _) (.cells #[.int .i64 1, .int .i64 0, .int .i64 255, .int .i64 0, .int .i64 0, .int .i64 4, .int .i64 0, .int .i64 0, .int .i64 0, .int .i64 0] 42)
    have hx := bx_new (w := w1) rfl #[.int .i64 1, .int .i64 0, .int .i64 255, .int .i64 0, .int .i64 0, .int .i64 4, .int .i64 0, .int .i64 0, .int .i64 0, .int .i64 0] 42
    have hr2 := Rp.later hr1 hb2
    have ht2 := Tz.below ht1 hb2 hts1
    have hts2 := Nat.lt_of_lt_of_le hts1 hb2.size
    have hr2' : Hid (Rp (w1.alloc (.cells #[.int .i64 1, .int .i64 0, .int .i64 255, .int .i64 0, .int .i64 0, .int .i64 4, .int .i64 0, .int .i64 0, .int .i64 0, .int .i64 0] 42)) (w1.alloc (.cells #[.int .i64 1, .int .i64 0, .int .i64 255, .int .i64 0, .int .i64 0, .int .i64 4, .int .i64 0, .int .i64 0, .int .i64 0, .int .i64 0] 42)).heap.size (some ⟨w1.heap.size, 0, none⟩) evL) := lid' (fun _ => ⟨_, 0, rfl, hx.lt, fun j hj => by
      have hj : j < 2 := hj
      rcases (show j = 0 ∨ j = 1 by omega) with rfl | rfl
      · exact ⟨hx.cell 0, hx.cell 1, hx.cell 2, hx.cell 3, hx.cell 4⟩
      · exact ⟨hx.cell 5, hx.cell 6, hx.cell 7, hx.cell 8, hx.cell 9⟩⟩)
    have HB2 := lid' (HB1.out.trans (hb2.mono HB1.out.size))
    have hlE : Hid (evL.length = 2) := lid' rfl
    go_upto_region 5 with fail
    clear hx hb2
    generalize hw1 : w1.heap.size = g1 at *
    generalize World.alloc w1 _ = w2 at *
    have FA := lid' (found_any A (some ⟨g1, 0, none⟩) m c 2 2 l evL w2 hok hev hl hlE hr2 hr2' ht2 hts2)
    go_wp2_with (first
      | (go_at_call 44; with_reducible refine FA.out.mono ?_; rintro e w3 ⟨v3, rfl, hFI⟩)
      | (go_at_call 45; with_reducible refine hFI.out.mono ?_; rintro e w4 ⟨s4, z4, rfl, hcm⟩))
    go_ret2
    exact ⟨s4, z4, rfl, lid' ⟨sh_of (.inr (.inr ⟨h0.out, chP_ok hev, hcm.out.1⟩)), HB2.out.trans (hcm.out.2.mono HB2.out.size)⟩⟩
  · have h0 := lid' h
    have hz : (chP l == 0) = false := by simpa using h
    clear h
    go_enter Tryz.func19, Tryz.ntmps19
    go_wp2_with (go_at_call 12; with_reducible refine hC.out.mono ?_; rintro e w1 ⟨rfl, hb1⟩; clear hC; have HB1 := lid' hb1; clear hb1)
    go_ret2
    exact ⟨[], _, rfl, lid' ⟨.inl ⟨h0.out, rfl, rfl⟩, HB1.out⟩⟩

end Go.Proofs.YtfkljlncnfeklaaGreatDoor
