/-
  Plain mathematics and contracts of package diagram, several texts in one: FLKit.
-/
import Derived.Test.YtpaednfinlaioaaGreatDoorFq
import Derived.Test.YtpaednfinlaioaaGreatDoorFE
import Derived.Test.YtpaednfinlaioaaGreatDoorFo
import Derived.Test.YtpaednfinlaioaaGreatDoorMo
import Derived.Test.YtpaednfinlaioaaGreatDoorFt
import Derived.Test.YtpaednfinlaioaaGreatDoorFd
namespace Go.Proofs.YtpaednfinlaioaaGreatDoor
open Go.RowKit Dg St
set_option linter.unusedVariables false
set_option linter.unusedSimpArgs false
theorem b8_r8 {w:World} {A:Option Addr} {n:Nat} {l:List Nat} (h:B8 w w.heap.size A n l):R8 w A n l:=⟨h.len,h.lt,fun h0=>by
 obtain ⟨b,o,e,hb,hc⟩:=h.rd h0
 exact ⟨b,o,e,hb,hc⟩⟩
theorem sg_take (j n:Nat):(sg (L12.take n) j).size≤1048576:=by
 by_cases h:j<n
 ·have e:sg (L12.take n) j=sg L12 j:=by
   unfold sg
   rw [List.getD_eq_getElem?_getD,List.getD_eq_getElem?_getD,List.getElem?_take,if_pos h]
  rw [e]
  exact L12_size j
 ·have e:sg (L12.take n) j=ByteArray.empty:=by
   unfold sg
   rw [List.getD_eq_getElem?_getD,List.getElem?_take,if_neg h]
   rfl
  rw [e]
  decide
theorem made_low (l:List Nat) {n:Nat} (hn:1≤n) (hn6:n≤6):∀ j,j<(made l n).length→Low 6 (fun x=>val (made l n) x j):=fun j hj =>
 (val_low (made_ok l n hn (by omega)).2.2.1 (n:=6) (fun i hi e=>by have:=made_vars l hn i hi e;omega) j hj)
end Go.Proofs.YtpaednfinlaioaaGreatDoor
