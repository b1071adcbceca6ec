/-
  Plain mathematics and contracts of package diagram, several texts in one: DBig, DChOv.
-/
import Derived.Test.YtpaednfinlaioaaGreatDoorMk
import Derived.Test.YtpaednfinlaioaaGreatDoorMt
namespace Go.Proofs.YtpaednfinlaioaaGreatDoor
open Go.RowKit Dg St Go.Maps
set_option linter.unusedVariables false
set_option linter.unusedSimpArgs false
structure Dg6 (w:World) (A:Option Addr) (m c r:Nat) (f:Cfg→Bool):Prop where
 rd:Rd w w.heap.size A (up (cn f).1)
 len:(cn f).1.length=m
 rt:(cn f).2=r
 mc:m≤c
 lm:m≤1000000
 d:D64 f
theorem Dg6.below {w w':World} {A:Option Addr} {m c r:Nat} {f:Cfg→Bool} (h:Dg6 w A m c r f) (hb:Below w.heap.size w w'):Dg6 w' A m c r f:=⟨(h.rd.below hb).mono hb.size,h.len,h.rt,h.mc,h.lm,h.d⟩
theorem Dg6.congr {w:World} {A:Option Addr} {m c r:Nat} {f g:Cfg→Bool} (h:Dg6 w A m c r f) (q:f=g):Dg6 w A m c r g:=q ▸ h
theorem Dg6.put {w:World} {H m c r:Nat} {A:Option Addr} {f:Cfg→Bool} (h:Dg6 w A m c r f) (hf:Fr A (H+1)) (u v:Value):Dg6 ((w.setCell ⟨H,0,none⟩ u).setCell ⟨H,1,none⟩ v) A m c r f:=by
 refine ⟨?_,h.len,h.rt,h.mc,h.lm,h.d⟩
 have k:=(h.rd.setF (n:=0) hf u).setF (n:=1) hf v
 simpa [World.setCell] using k
def DgOk (w w':World) (f:Cfg→Bool) (e:Ending):Prop:=(∃ (A:Option Addr) (m c r:Nat),e=.returned (.agg #[.slice A m c,.int .i64 (r:Int)])∧Dg6 w' A m c r f∧Fr A w.heap.size)∧Below w.heap.size w w'
theorem DgOk.congr {w w':World} {f g:Cfg→Bool} {e:Ending} (h:DgOk w w' f e) (q:f=g):DgOk w w' g e:=q ▸ h
end Go.Proofs.YtpaednfinlaioaaGreatDoor
namespace Go.Proofs.YtpaednfinlaioaaGreatDoor
open Go.RowKit Dg St
set_option linter.unusedVariables false
set_option linter.unusedSimpArgs false
attribute [local go_sem ↓] Go.wp_at_zero Go.wp_at_succ
end Go.Proofs.YtpaednfinlaioaaGreatDoor
