/-
  The reference's trim; append of a list that reads.
-/
import Derived.Test.YtogmgomcdhfolaaMul
import Derived.Test.YtogmgomcdhfolaaCmp
namespace Go.Proofs.Ytogmgomcdhfolaa
open Go.RowKit Nt

set_option maxHeartbeats 400000 in
theorem rtrim_some (b o c n : Nat) (l : List Nat) (w : World) (hw : Hid (Wf l)) (hN : Hid (l.length = n)) (hm : n ≤ 9223372036854775807) (hnc : n ≤ c)
    (hc : Hid (∀ j, j < n → w.cell? ⟨b, o + j, none⟩ = some (.int .u32 ((nth l j : Nat) : Int)))) :
    Calls Try.prog 53 #[.slice (some ⟨b, o, none⟩) n c] w fun e w' => e = .returned (.slice (some ⟨b, o, none⟩) (dg (val l)).length c) ∧ w = w' := by
  go_enter Try.func53, Try.ntmps53
  go_wp2
  go_loop [3] (fun i => ∃ k : Nat, k ≤ n ∧ i = .int .i64 k ∧ Hid (Cut l k)) (fun i => (intOf i).toNat)
  case atStart => exact ⟨n, Nat.le_refl _, rfl, by have := Cut.all l; rw [hN.out] at this; exact this⟩
  case round =>
    obtain ⟨k, hk, rfl, hcut⟩ := hrel
    by_cases hp : 0 < k
    · have hcell := hc.out (k - 1) (by omega)
      by_cases hz : nth l (k - 1) = 0
      · have HZ : Hid (nth l (k - 1) = 0) := hz
        have hb : ((nth l (k - 1) : Int) == 0) = true := by simp [hz]
        clear hz
        go_wp2
        go_round
        case rel => exact ⟨k - 1, by omega, by go_num, hcut.out.step hp HZ.out⟩
        case measure => simp [intOf]; omega
      · have HZ : Hid (¬ nth l (k - 1) = 0) := hz
        have hb : ((nth l (k - 1) : Int) == 0) = false := beq_eq_false_iff_ne.2 (by omega)
        clear hz
        go_wp2
        go_ret
        have e := hcut.out.dg hw.out (.inr HZ.out)
        exact ⟨ret_slice (by rw [e, List.length_take, hN.out]; omega), rfl⟩
    · go_wp2
      go_ret
      have e := hcut.out.dg hw.out (.inl (by omega))
      exact ⟨ret_slice (by rw [e, List.length_take, hN.out]; omega), rfl⟩

set_option maxHeartbeats 400000 in
theorem rtrim_none (A : Option Addr) (c : Nat) (w : World) :
    Calls Try.prog 53 #[.slice A 0 c] w fun e w' => e = .returned (.slice A 0 c) ∧ w = w' := by
  go_enter Try.func53, Try.ntmps53
  go_wp2
  go_rounds 1
  go_ret
  exact ⟨rfl, rfl⟩

theorem rtrim_any {B : Nat} {A : Option Addr} {l : List Nat} {w : World} (c n : Nat) (hr : Rd w B A l) (hw : Wf l) (hn : l.length = n) (hm : n ≤ 9223372036854775807) (hnc : n ≤ c) :
    Calls Try.prog 53 #[.slice A n c] w fun e w' => e = .returned (.slice A (dg (val l)).length c) ∧ w = w' := by
  rcases Nat.eq_zero_or_pos l.length with h0 | h0
  · have e : l = [] := List.eq_nil_of_length_eq_zero h0
    subst e
    subst hn
    rw [val_nil, dg_zero]
    exact rtrim_none A c w
  · obtain ⟨b, o, rfl, _, hc⟩ := hr h0
    subst hn
    exact rtrim_some b o c l.length l w hw rfl hm hnc hc


/-- a row that is owned reads as a list -/
theorem own_rd {w : World} {base n : Nat} {v : Value} {l : List Nat} (h : w.ownsRow base 41 1 v n (l.map U)) : ∃ A c, v = .slice A n c ∧ n ≤ c ∧ l.length = n ∧ Rd w w.heap.size A l := by
  have hl : l.length = n := by have := h.1; simpa using this
  rcases h.2 with ⟨rfl, h0⟩ | ⟨g, cap, cur, rfl, hg, hh, hnc, _⟩
  · subst h0
    have e : l = [] := List.eq_nil_of_length_eq_zero hl
    subst e
    exact ⟨none, 0, rfl, Nat.le_refl _, rfl, Rd.nil⟩
  · refine ⟨_, cap, rfl, hnc, hl, fun _ => ⟨g, 0, rfl, ?_, fun j hj => ?_⟩⟩
    · exact (h.lt g rfl).2
    · rw [Nat.zero_add, h.cellAt j (by omega)]
      simp [nth, U, hj]

/-- append asks of its second argument's type only that it is a slice -/
theorem append_types {P : Program} {t t' ty e e' : TypeId} {args : Array Value} {i : TypeInfo} (w : World) (hi : P.info? e = some i) (ht : P.underlying t = some (.slice e)) (ht' : P.underlying t' = some (.slice e')) :
    (Builtin.append_ #[t, t'] ty args).run P w = (Builtin.append_ #[t, t] ty args).run P w := by
  simp only [Builtin.append_]
  rcases hs : args[0]? with _ | s <;> rcases hx : args[1]? with _ | x <;> simp [run_underlying ht]
  cases s <;> simp [sizeOf, typeInfo, hi, run_underlying ht, run_underlying ht']

theorem run_append_none (base : Nat) (t ty e : TypeId) (i : TypeInfo) (size : Nat) (P : Program) (w : World) (ht : P.underlying t = some (.slice e)) (hi : P.info? e = some i)
    (v : Value) (n c : Nat) (A : Option Addr) (xs : List Value) (hown : w.ownsRow base e size v n xs) :
    (Builtin.append_ #[t, t] ty #[v, .slice A 0 c]).run P w = .ok v w := by
  rcases hown.2 with ⟨rfl, rfl⟩ | ⟨g, cap, cur, rfl, _, _, hnc, _⟩
  · rcases A with _ | ad <;> simp [Builtin.append_, run_underlying ht, sizeOf, typeInfo, hi, Builtin.lenOf, Builtin.firstCells, loadCells, loadCellsFrom]
  · rcases A with _ | ad <;> simp [Builtin.append_, run_underlying ht, sizeOf, typeInfo, hi, Builtin.lenOf, Builtin.firstCells, hnc, storeCells, loadCells, loadCellsFrom]

/-- append of a list that reads onto an owned row -/
theorem wpList_append_rd (w : World) {ops : Array Oper} {rest : List Oper} {o : Oper} {a : Act} {Q : Exit → Act → World → Prop} (hgd : o.guard = none) (s x : Operand) (t t' : TypeId)
    (ho : o.op = .call { callee := .builtin .append, args := #[s, x], argTypes := #[t, t'] }) (ht : Try.prog.underlying t = some (.slice 41)) (ht' : Try.prog.underlying t' = some (.slice 41))
    (base : Nat) (v : Value) (n : Nat) (xs l : List Nat) (hs : a.eval s = v) (hown : w.ownsRow base 41 1 v n (xs.map U))
    (B : Nat) (A : Option Addr) (m c : Nat) (hx : a.eval x = .slice A m c) (hr : Rd w B A l) (hl : l.length = m) (hb : n + m ≤ 1000000) (hbase : base ≤ w.heap.size)
    (hK : ∀ v' w', w'.ownsRow base 41 1 v' (n + m) ((xs ++ l).map U) → w.grownBy w' v.ownBlock → wpList Try.prog ops Q rest (a.put o.dst v') w') :
    wpList Try.prog ops Q (o :: rest) a w := by
  obtain ⟨i0, hi, hz0, hz1, hz2⟩ := info_parts Try.infoU
  have hrun : ∃ v' w', (Builtin.append_ #[t, t'] o.type #[v, .slice A m c]).run Try.prog w = .ok v' w' ∧ w'.ownsRow base 41 1 v' (n + m) ((xs ++ l).map U) ∧ w.grownBy w' v.ownBlock := by
    rcases Nat.eq_zero_or_pos m with h0 | h0
    · have e : l = [] := List.eq_nil_of_length_eq_zero (by omega)
      subst e
      subst h0
      refine ⟨v, w, ?_, by simpa using hown, World.grownBy.refl w _⟩
      rw [append_types w hi ht ht']
      exact run_append_none base t o.type 41 i0 1 _ w ht hi v n c A _ hown
    · obtain ⟨ad, rfl, hcells⟩ := rd_copy hr (by rw [List.length_map]; omega)
      obtain ⟨v', w', h1, h2, h3, _⟩ := run_append_own (P := Try.prog) w base t o.type 41 i0 _ 1 4 ht hi hz0 hz1 hz2 rfl (by omega) v n _ hown ad m c (l.map U) (by simp [hl]) hcells (oneCell_map l)
        (by unfold maxLen; omega) (by omega) hbase
      exact ⟨v', w', by rw [append_types w hi ht ht', h1], by rw [List.map_append]; exact h2, h3⟩
  obtain ⟨v', w', hrun, h2, h3⟩ := hrun
  refine wpList_plain hgd fun K hK' => ?_
  unfold Oper.wp execOp
  simp only [ho, resolve, invoke, builtin, Sem.run_bind, Sem.run_pure, Result.andThen_ok, List.map_toArray, List.map_cons, List.map_nil, hs, hx, hrun]
  exact hK' _ _ (hK v' w' h2 h3)

theorem own_empty (w : World) : (w.alloc (.cells #[] 41)).ownsRow w.heap.size 41 1 (.slice (some ⟨w.heap.size, 0, none⟩) 0 0) 0 (([] : List Nat).map U) :=
  ⟨rfl, .inr ⟨w.heap.size, 0, #[], rfl, Nat.le_refl _, heap_alloc_new w _, Nat.le_refl _, by unfold maxLen; omega, rfl, rfl⟩⟩

end Go.Proofs.Ytogmgomcdhfolaa
