/-
  Plain mathematics and contracts of package diagram, several texts in one: PEO, PRt, PFc, PLf, PRo, PSp.
-/
import Derived.Test.YtpaednfinlaioaaGreatDoorFo
import Derived.Test.YtpaednfinlaioaaGreatDoorFu
import Derived.Test.YtpaednfinlaioaaGreatDoorFh
namespace Go.Proofs.YtpaednfinlaioaaGreatDoor
set_option linter.unusedVariables false
set_option linter.unusedSimpArgs false
section
variable {L : List (List UInt8)} {s : PSt} {r : List UInt8}
end
set_option linter.unusedVariables false
set_option linter.unusedSimpArgs false
def upd (r:List UInt8) (w:List Int) (s:PSt):PSt:={ s with rest:=r,wait:=w }
def fin (l:List Fi):Nat→Nat→PSt→POut PSt
 | 0,_,_=>.bad
 | n+1,k,s =>
   if ar (fo l k)=0 then add (fo l k) (fv l k) s else
   if ar (fo l k)=1 then (fin l n (fa l k).toNat s).bind fun t=>add (fo l k) 0 t else
   (fin l n (fa l k).toNat s).bind fun t=>(fin l n (fb l k).toNat t).bind fun u=>add (fo l k) 0 u
def Top (w:List Int) (g:Nat):Prop:=w=[]∨∃ w' x,w=w'++[x]∧(x = -1∨sgv x<g)
section
variable {l : List Fi} {L : List ByteArray} {LL : List (List UInt8)} {m k : Nat}
end
set_option linter.unusedVariables false
set_option linter.unusedSimpArgs false
set_option linter.unusedVariables false
set_option linter.unusedSimpArgs false
def NmW (L:List ByteArray) (v:Nat):Prop:=(∃ b x,(sg L v).data.toList=b::x∧lt8 b=true∧∀ c∈x,(lt8 c||dg8 c)=true)∧(sg L v).data.toList≠[116,114,117,101]∧(sg L v).data.toList≠[102,97,108,115,101]∧v<L.length∧∀ j,j<v→sg L j≠sg L v
set_option linter.unusedVariables false
set_option linter.unusedSimpArgs false
theorem opN_1 {o a b:Int} {i:Nat} (h:ar o=1) (h0:0≤a) (h1:a<(i:Int)):opN o a b i=true:=by
 unfold opN
 simp only [Bool.and_eq_true,Bool.or_eq_true,decide_eq_true_eq]
 omega
theorem opN_2 {o a b:Int} {i:Nat} (h0:0≤a) (h1:a<(i:Int)) (h2:0≤b) (h3:b<(i:Int)):opN o a b i=true:=by
 unfold opN
 simp only [Bool.and_eq_true,Bool.or_eq_true,decide_eq_true_eq]
 omega
set_option linter.unusedVariables false
set_option linter.unusedSimpArgs false
def Tk:List (List UInt8)→List UInt8→Prop
 | [],r=>nxt r=some ([],[])
 | t::ts,r=>t≠[]∧∃ r',nxt r=some (t,r')∧Tk ts r'
section
variable {L : List (List UInt8)} {s : PSt} {r : List UInt8} {t : List UInt8}
end
end Go.Proofs.YtpaednfinlaioaaGreatDoor
