/-
  Plain mathematics and contracts of package diagram, several texts in one: PLaw, DSix.
-/
import Derived.Test.YtefepaackdhiiaaDoorMa
import Derived.Test.YtefepaackdhiiaaDoorMh
namespace Go.Proofs.YtefepaackdhiiaaDoor
open Dg St
def sv (M : List Br) (v : Nat) : Bool := M.any fun b => b.1 == v
def supn (M : List Br) (n : Nat) : List Nat := (List.range n).filter (sv M)
theorem supn_succ (M : List Br) (n : Nat) : supn M (n + 1) = supn M n ++ if sv M n then [n] else [] := by
  unfold supn
  rw [List.range_succ, List.filter_append]
  congr 1
  simp only [List.filter_cons, List.filter_nil]
theorem supn_yes {M : List Br} {n : Nat} (h : sv M n = true) : supn M (n + 1) = supn M n ++ [n] := by rw [supn_succ, if_pos h]
theorem supn_no {M : List Br} {n : Nat} (h : sv M n = false) : supn M (n + 1) = supn M n := by rw [supn_succ, h, if_neg (by simp), List.append_nil]
theorem supn_len (M : List Br) (n : Nat) : (supn M n).length ≤ n := by
  have := List.length_filter_le (sv M) (List.range n)
  rw [List.length_range] at this
  exact this
def num (c : Cfg) : Nat → Nat
  | 0 => 0
  | n + 1 => num c n + if c n then 2 ^ n else 0
end Go.Proofs.YtefepaackdhiiaaDoor
namespace Go.Proofs.YtefepaackdhiiaaDoor
open Go.RowKit Dg St
def BIff (x : Bool) (P : Prop) : Prop := x = true ↔ P
theorem BIff.hid {x : Bool} {P : Prop} (h : Hid (BIff x P)) : Hid (x = true ↔ P) := Lib.hid h.out
section
variable {w : World} {A0 A1 : Option Addr} {m0 c0 r0 m1 c1 r1 : Nat} {fa fb g : Cfg → Bool}
end
end Go.Proofs.YtefepaackdhiiaaDoor
