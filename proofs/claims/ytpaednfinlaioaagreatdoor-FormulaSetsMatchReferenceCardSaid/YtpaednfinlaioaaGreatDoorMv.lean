/-
  Plain mathematics and contracts of package diagram, several texts in one: DBad.
-/
import Derived.Test.YtpaednfinlaioaaGreatDoorMt
import Derived.Test.YtpaednfinlaioaaGreatDoorMg
import Derived.Test.YtpaednfinlaioaaGreatDoorMh
namespace Go.Proofs.YtpaednfinlaioaaGreatDoor
open Go.RowKit Dg St
attribute [local go_sem ↓] Go.wp_at_zero Go.wp_at_succ
def Bad (w:World) (A:Option Addr) (m c:Nat) (l:List Bi) (r:Int):Prop:=DOk w ⟨A,m,c,l,r⟩∧chk l r=20
theorem Bad.below {w w':World} {A:Option Addr} {m c:Nat} {l:List Bi} {r:Int} (h:Bad w A m c l r) (hb:Below w.heap.size w w'):Bad w' A m c l r:=⟨h.1.below hb,h.2⟩
end Go.Proofs.YtpaednfinlaioaaGreatDoor
