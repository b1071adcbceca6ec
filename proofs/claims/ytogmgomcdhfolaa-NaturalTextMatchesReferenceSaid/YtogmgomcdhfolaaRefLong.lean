/-
  The reference's Long.
-/
import Derived.Test.YtogmgomcdhfolaaRefLeaf
import Derived.Test.YtogmgomcdhfolaaParse
namespace Go.Proofs.Ytogmgomcdhfolaa
open Go.RowKit Nt

/-- a row that grows at its end -/
def GrSt (w wr : World) (g n c : Nat) (L : List Nat) : Prop := Ow wr w.heap.size g n c L ∧ Below w.heap.size w wr

set_option maxHeartbeats 1000000 in
theorem rlong_any (x k : Nat) (w : World) (hx : x < 4294967296) (hk : k ≤ 2000) :
    Calls Try.prog 36 #[.int .u32 (x : Int), .int .i64 (k : Int)] w (Gives1 w (val (List.replicate k x))) := by
  have HP : Hid (GrSt w (w.alloc (.cells #[] 41)) w.heap.size 0 0 []) := ⟨own_empty w, (Below.refl _ _).alloc (Nat.le_refl _) _⟩
  go_enter Try.func36, Try.ntmps36
  go_wp2_with fail
  go_loopw [5, 6] (fun v i wr => ∃ (j g c : Nat), j ≤ k ∧ i = .int .i64 j ∧ v = .slice (some ⟨g, 0, none⟩) j c ∧ Hid (GrSt w wr g j c (List.replicate j x))) (fun _ i _ => k - (intOf i).toNat)
  case atStart => exact ⟨0, _, _, Nat.zero_le _, rfl, rfl, HP⟩
  case round =>
    obtain ⟨j, g, c, hj, rfl, rfl, hst⟩ := hrel
    by_cases hlt : j < k
    · have HO : Hid (Ow wr w.heap.size g j c (List.replicate j x)) := hst.out.1
      have hbl := hst.out.2
      have hb3 := hbl.alloc hbl.size (.cells #[.int .u32 (x : Int)] 41)
      go_wp2_with (first
        | (at_builtin; refine wpList_append_rd _ rfl _ _ 23 23 rfl Try.underlying23 Try.underlying23 w.heap.size _ j (List.replicate j x) [x] rfl (HO.out.alloc _) _ _ 1 1 rfl (bk_rd_one wr) rfl (by omega) hb3.size ?_; intro v3 w3 hown3 hg3; have hg4 : (wr.alloc (.cells #[.int .u32 (x : Int)] 41)).grownBy w3 (some g) := hg3; clear hg3; have hb4 := hb3.grown hg4 hb3.size (fun q hq => by injection hq with hq; rw [← hq]; exact HO.out.base.1); obtain ⟨g3, c3, rfl, hown4⟩ := own_form hown3 (Nat.succ_pos _); rw [← List.replicate_succ'] at hown4; have HO4 := Lib.hid hown4; clear hown3 hown4))
      go_roundw
      case rel => exact ⟨j + 1, g3, c3, by omega, by go_num, rfl, HO4.out, hb4⟩
      case measure => simp [intOf]; omega
    · obtain rfl : j = k := by omega
      clear hlt
      have HO := Lib.hid hst.out.1
      have hbl := hst.out.2
      obtain ⟨A1, c1, he, hc1, hl1, hr1⟩ := own_rd HO.out
      have HR1 := Lib.hid hr1
      injection he with he1 he2 he3
      subst he1
      subst he3
      clear hr1 hl1 he2
      have hW : Hid (Wf (List.replicate j x)) := fun y hy => by have := List.eq_of_mem_replicate hy; omega
      have hle2 : (dg (val (List.replicate j x))).length ≤ j := by
        have h2 := congrArg List.length (dg_val_take hW.out)
        rw [List.length_take, List.length_replicate] at h2; omega
      have HLE := Lib.hid hle2
      clear hle2
      go_wp2_with (first
        | (go_at_call 53; refine (rtrim_any c j HR1.out hW.out (List.length_replicate ..) (by omega) hc1).mono ?_; rintro e w' ⟨rfl, rfl⟩))
      go_ret
      exact ⟨_, rfl, ⟨_, _, rfl, by have := HLE.out; omega, HR1.out.dg hW.out⟩, hbl⟩

end Go.Proofs.Ytogmgomcdhfolaa
