/-
  Small functions of the reference and of the laws: Made, Same, add, mul; natural.Of.
-/
import Derived.Test.YtogmgomcdhfolaaApnd
namespace Go.Proofs.Ytogmgomcdhfolaa
open Go.RowKit Nt

set_option maxHeartbeats 1000000 in
theorem made_any {A : Option Addr} {l : List Nat} {w : World} (c n N : Nat) (hr : Rd w w.heap.size A l) (hw : Wf l) (hn : l.length = n) (hm : n ≤ 9223372036854775807) (hnc : n ≤ c) (hN : N ≤ 1000) :
    Calls Try.prog 37 #[.slice A n c, .int .i64 (N : Int)] w (Gives1 w (val (l.take N))) := by
  have HR := Lib.hid hr
  have HW := Lib.hid hw
  have HN := Lib.hid hn
  clear hr hw hn
  have HRa : Hid (Rd (w.alloc (.cells #[] 41)) w.heap.size A l) := HR.out.below ((Below.refl _ _).alloc (Nat.le_refl _) _)
  have hba := (Below.refl w.heap.size w).alloc (Nat.le_refl _) (.cells #[] 41)
  by_cases hle : n ≤ N
  · have e : l.take N = l := List.take_of_length_le (by rw [HN.out]; exact hle)
    rw [e]
    go_enter Try.func37, Try.ntmps37
    go_wp2_with (first
      | (at_builtin; refine wpList_append_rd _ rfl (.tmp 6) (.tmp 12) 23 22 rfl Try.underlying23 Try.underlying22 w.heap.size _ 0 [] l rfl (own_empty w) w.heap.size A n c rfl HRa.out HN.out (by omega) (by simp) ?_; intro v1 w1 hown hg; have hg' : (w.alloc (.cells #[] 41)).grownBy w1 (some w.heap.size) := hg; clear hg; have hb1 := hba.grown hg' (by simp) (fun k hk => by injection hk with hk; omega); rw [Nat.zero_add, List.nil_append] at hown; obtain ⟨A1, c1, rfl, hc1, hl1, hr1⟩ := own_rd hown; have HR1 := Lib.hid hr1; clear hr1 hl1 hown)
      | (go_at_call 53; refine (rtrim_any c1 n HR1.out HW.out HN.out hm hc1).mono ?_; rintro e w' ⟨rfl, rfl⟩))
    go_ret
    have hr2 := HR1.out.dg HW.out
    have hle2 : (dg (val l)).length ≤ n := by
      have h2 := congrArg List.length (dg_val_take HW.out)
      rw [List.length_take, HN.out] at h2; omega
    exact ⟨_, rfl, ⟨_, _, rfl, by omega, hr2⟩, hb1⟩
  · have hlt : N < n := by omega
    have HRt := HRa.out.take N
    have HLt : (l.take N).length = N := by rw [List.length_take, HN.out]; omega
    have HRT := Lib.hid HRt
    have HLT := Lib.hid HLt
    have hmin : min (n : Int) (N : Int) = (N : Int) := by omega
    clear HRt HLt
    go_enter Try.func37, Try.ntmps37
    go_wp2_with (first
      | (at_builtin; refine wpList_append_rd _ rfl (.tmp 6) (.tmp 12) 23 22 rfl Try.underlying23 Try.underlying22 w.heap.size _ 0 [] (l.take N) rfl (own_empty w) w.heap.size A N c rfl HRT.out HLT.out (by omega) (by simp) ?_; intro v1 w1 hown hg; have hg' : (w.alloc (.cells #[] 41)).grownBy w1 (some w.heap.size) := hg; clear hg; have hb1 := hba.grown hg' (by simp) (fun k hk => by injection hk with hk; omega); rw [Nat.zero_add, List.nil_append] at hown; obtain ⟨A1, c1, rfl, hc1, hl1, hr1⟩ := own_rd hown; have HR1 := Lib.hid hr1; clear hr1 hl1 hown)
      | (go_at_call 53; refine (rtrim_any c1 N HR1.out (HW.out.take N) HLT.out (by omega) hc1).mono ?_; rintro e w' ⟨rfl, rfl⟩))
    go_ret
    have hr2 := HR1.out.dg (HW.out.take N)
    have hle2 : (dg (val (l.take N))).length ≤ N := by
      have h2 := congrArg List.length (dg_val_take (HW.out.take N))
      rw [List.length_take, HLT.out] at h2; omega
    exact ⟨_, rfl, ⟨_, _, rfl, by omega, hr2⟩, hb1⟩

end Go.Proofs.Ytogmgomcdhfolaa
