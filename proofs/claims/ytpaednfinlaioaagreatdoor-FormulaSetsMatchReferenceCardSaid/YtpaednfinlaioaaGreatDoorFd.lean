/-
  Plain mathematics and contracts of package diagram, several texts in one: FHol, FVal.
-/
import Derived.Test.YtpaednfinlaioaaGreatDoorFc
import Derived.Test.YtpaednfinlaioaaGreatDoorMc
namespace Go.Proofs.YtpaednfinlaioaaGreatDoor
open Go.RowKit Dg St
set_option linter.unusedVariables false
set_option linter.unusedSimpArgs false
attribute [local go_sem ↓] Go.wp_at_zero Go.wp_at_succ
def vd (l:List Fi) (c:Nat→Bool) (k j:Nat):Value:=.bool (if j<k then val l c j else false)
structure HoI (w wr:World) (g:Nat) (l:List Fi) (c:Nat→Bool) (k:Nat):Prop where
 blk:Blk wr g 512 (vd l c k)
 bel:Below w.heap.size w wr
theorem HoI.next {w wr w':World} {g:Nat} {l:List Fi} {c:Nat→Bool} {k:Nat} (h:HoI w wr g l c k) (hB:Blk w' g 512 (fup (vd l c k) k (.bool (val l c k)))) (hw:Below w.heap.size w w'):HoI w w' g l c (k+1) :=
 ⟨hB.congr fun i _=>by
  show (if i=k then Value.bool (val l c k) else Value.bool (if i<k then val l c i else false))=Value.bool (if i<k+1 then val l c i else false)
  by_cases e:i=k
  ·subst e;rw [if_pos rfl,if_pos (by omega)]
  ·rw [if_neg e]
   by_cases q:i<k
   ·rw [if_pos q,if_pos (by omega)]
   ·rw [if_neg q,if_neg (by omega)],hw⟩
theorem HoI.none {w wr w':World} {g:Nat} {l:List Fi} {c:Nat→Bool} {k:Nat} (h:HoI w wr g l c k) (h0:fo l k=0) (hB:Blk w' g 512 (vd l c k)) (hw:Below w.heap.size w w'):HoI w w' g l c (k+1) :=
 ⟨hB.congr fun i _=>by
  show Value.bool (if i<k then val l c i else false)=Value.bool (if i<k+1 then val l c i else false)
  by_cases q:i<k
  ·rw [if_pos q,if_pos (by omega)]
  ·rw [if_neg q]
   by_cases e:i=k
   ·subst e;rw [if_pos (by omega),val_false l c h0]
   ·rw [if_neg (by omega)],hw⟩
theorem ok_node {l:List Fi} {k:Nat} (h:okN l k):(0≤fo l k∧fo l k≤5)∧(0≤fv l k∧fv l k<64)∧(3≤fo l k→0≤fa l k∧fa l k<(k:Int))∧(4≤fo l k→0≤fb l k∧fb l k<(k:Int)):=by
 have h1:=h.1
 simp only [plN,Bool.and_eq_true,decide_eq_true_eq] at h1
 obtain ⟨⟨⟨⟨⟨⟨a,b⟩,c⟩,d⟩,_⟩,_⟩,_⟩:=h1
 refine ⟨⟨a,b⟩,⟨c,d⟩,fun q=>opN_a h.2 ?_,fun q=>opN_b h.2 ?_⟩
 ·rcases (show fo l k=3∨fo l k=4∨fo l k=5 by omega) with e | e | e <;> rw [e] <;> decide
 ·rcases (show fo l k=4∨fo l k=5 by omega) with e | e <;> rw [e] <;> decide
theorem nat_of {x:Int} {k:Nat} (h:0≤x∧x<(k:Int)):∃ a:Nat,x=(a:Int)∧a<k:=⟨x.toNat,by omega,by omega⟩
set_option linter.unusedVariables false
set_option linter.unusedSimpArgs false
attribute [local go_sem ↓] Go.wp_at_zero Go.wp_at_succ
end Go.Proofs.YtpaednfinlaioaaGreatDoor
