/-
  Plain mathematics and contracts of package diagram, several texts in one: DLawKit, DSetRow, DArrRow.
-/
import Derived.Test.YtpaednfinlaioaaGreatDoorMh
import Derived.ProofKit
import Derived.OpenShut
import Derived.Lib.SmallJoins
namespace Go.Proofs.YtpaednfinlaioaaGreatDoor
open Go.RowKit Dg St
structure R8 (w:World) (A:Option Addr) (n:Nat) (l:List Nat):Prop where
 len:l.length=n
 lt:∀ x∈l,x<256
 rd:0<n→∃ b o,A=some ⟨b,o,none⟩∧b<w.heap.size∧∀ j,j<n→w.cell? ⟨b,o+j,none⟩=some (.int .u8 ((l.getD j 0:Nat):Int))
theorem R8.below {w w':World} {A:Option Addr} {n:Nat} {l:List Nat} (h:R8 w A n l) (hb:Below w.heap.size w w'):R8 w' A n l :=
 ⟨h.len,h.lt,fun h0=>by
  obtain ⟨b,o,e,hlt,hc⟩:=h.rd h0
  exact ⟨b,o,e,Nat.lt_of_lt_of_le hlt hb.size,fun j hj=>(hb.cell (p:=⟨b,o+j,none⟩) hlt).trans (hc j hj)⟩⟩
end Go.Proofs.YtpaednfinlaioaaGreatDoor
namespace Go.Proofs.YtpaednfinlaioaaGreatDoor
open Go.ChangeShapes Go.WideShapes Go.ChangeAt Go.RowKit
end Go.Proofs.YtpaednfinlaioaaGreatDoor
namespace Go.Proofs.YtpaednfinlaioaaGreatDoor
open Go.ChangeShapes Go.WideShapes Go.ChangeAt Go.RowKit Go.Deep
section
variable {H : Type} {enc : TypeId × Value → H} {P : Program} {w : World} {base : Nat} {spare : Nat → Bool} {held : Bool}
end
end Go.Proofs.YtpaednfinlaioaaGreatDoor
