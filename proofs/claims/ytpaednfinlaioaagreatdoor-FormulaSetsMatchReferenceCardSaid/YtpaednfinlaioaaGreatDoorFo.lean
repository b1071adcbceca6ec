/-
  Plain mathematics and contracts of package diagram, several texts in one: PNb, FLet, FCp.
-/
import Derived.Test.YtpaednfinlaioaaGreatDoorFg
import Derived.Test.YtpaednfinlaioaaGreatDoorFn
import Derived.Test.YtpaednfinlaioaaGreatDoorFk
import Derived.Test.YtpaednfinlaioaaGreatDoorFb
import Derived.Test.YtpaednfinlaioaaGreatDoorFm
set_option maxHeartbeats 2000000
set_option maxRecDepth 100000
namespace Go.Proofs.YtpaednfinlaioaaGreatDoor
open Go.Lib (hid)
set_option linter.unusedVariables false
set_option linter.unusedSimpArgs false
def segW:List Nat→List Nat→Prop
 | [],z=>z=[]
 | k::ks,z=>1≤k∧k≤z.length∧z.getD (z.length - 1) 0=k∧segW ks (z.take (z.length - k))
def StkW (ks:List Nat) (s:PSt):Prop:=512<s.nodes.length∨(s.sizes.length=s.nodes.length∧segW ks s.sizes)
end Go.Proofs.YtpaednfinlaioaaGreatDoor
namespace Go.Proofs.YtpaednfinlaioaaGreatDoor
open Go.Lib (hid)
open Go.RowKit Dg St
set_option linter.unusedVariables false
set_option linter.unusedSimpArgs false
attribute [local go_sem ↓] Go.wp_at_zero Go.wp_at_succ
def L12:List ByteArray:=[⟨#[65]⟩,⟨#[66]⟩,⟨#[67]⟩,⟨#[68]⟩,⟨#[108,111,110,103,95,110,97,109,101]⟩,⟨#[95]⟩,⟨#[120,49]⟩,⟨#[84,82,85,69]⟩,⟨#[116]⟩,⟨#[102]⟩,⟨#[116,114,117]⟩,⟨#[102,97,108,115,101,101]⟩]
theorem qletters (n:Nat) (w:World) (hn:n≤12):Calls Tryz.prog 15 #[.int .i64 (n:Int)] w fun e w'=>∃ q,e=.returned (.slice (some ⟨q,0,none⟩) n 12)∧Rstr w' w'.heap.size (some ⟨q,0,none⟩) (L12.take n)∧Below w.heap.size w w':=by
 have RS:=hid (rstr_new w L12)
 have HB:=hid (ab2 w (.cells (L12.map Value.string).toArray 9))
 have i1:(0:Int)≤(n:Int):=by omega
 have i2:(n:Int)≤12:=by omega
 go_enter Tryz.func15,Tryz.ntmps15
 go_wp2
 go_ret
 refine ⟨w.heap.size,rfl,fun h0=>?_,HB.out⟩
 rw [List.length_take] at h0
 have hl:L12.length=12:=rfl
 obtain ⟨b,o,e,hb,hc⟩:=RS.out (by omega)
 injection e with e
 injection e with e1 e2 _
 subst e1
 subst e2
 refine ⟨_,_,rfl,hb,fun j hj=>?_⟩
 rw [List.length_take] at hj
 have e3:sg (L12.take n) j=sg L12 j:=by
  unfold sg
  rw [List.getD_eq_getElem?_getD,List.getElem?_take_of_lt (by omega),← List.getD_eq_getElem?_getD]
 rw [e3]
 exact hc j (by omega)
set_option linter.unusedVariables false
set_option linter.unusedSimpArgs false
attribute [local go_sem ↓] Go.wp_at_zero Go.wp_at_succ
def cp (l:List Fi):Nat→Nat→List Fi→List Fi
 | 0,_,o=>o
 | n+1,i,o =>
   if ar (fo l i)=0 then o++[(fo l i,fv l i,fa l i,fb l i)] else
   if ar (fo l i)=1 then cp l n (fa l i).toNat o++[(fo l i,fv l i,(((cp l n (fa l i).toNat o).length - 1:Nat):Int),fb l i)] else
   cp l n (fb l i).toNat (cp l n (fa l i).toNat o)++[(fo l i,fv l i,(((cp l n (fa l i).toNat o).length - 1:Nat):Int),(((cp l n (fb l i).toNat (cp l n (fa l i).toNat o)).length - 1:Nat):Int))]
structure CoE (w w':World) (B:Nat) (vo vo':Value) (o:List Fi):Prop where
 own:w'.ownsRow B 58 4 vo' o.length (fiC o)
 chg:Chg (fun k=>vo.ownBlock=some k) w w'
 obf:∀ k,vo'.ownBlock=some k→vo.ownBlock=some k∨w.heap.size≤k
structure CpS (w w1:World) (B b0:Nat) (vo v1:Value) (o:List Fi) (p q r s:Int):Prop where
 own:w1.ownsRow B 58 4 v1 o.length (fiC o)
 chg:Chg (fun k=>vo.ownBlock=some k) w w1
 obf:∀ k,v1.ownBlock=some k→vo.ownBlock=some k∨w.heap.size≤k
 nb:v1.ownBlock≠some b0
 box:w1.heap[b0]? = some (.cells #[.int .i64 p,.int .i64 q,.int .i64 r,.int .i64 s] 58 (0,0))
 lb:w.heap.size≤b0
section
variable {w w1 w2 w6 : World} {B b0 : Nat} {vo v1 v2 : Value} {o o2 : List Fi} {p q r s : Int}
theorem CpS.lt (h:CpS w w1 B b0 vo v1 o p q r s):b0<w1.heap.size:=(Array.getElem?_eq_some_iff.1 h.box).1
theorem CpS.start (h:w.ownsRow B 58 4 vo o.length (fiC o)):CpS w (w.alloc (.cells #[.int .i64 p,.int .i64 q,.int .i64 r,.int .i64 s] 58)) B w.heap.size vo vo o p q r s:=by
 have hb:=ab2 w (.cells #[.int .i64 p,.int .i64 q,.int .i64 r,.int .i64 s] 58)
 exact ⟨own_below h hb,Chg.of_below hb,fun k e=>.inl e,fun e=>by have:=(h.lt _ e).2;omega,heap_alloc_new w _,Nat.le_refl _⟩
theorem CpS.call (h:CpS w w1 B b0 vo v1 o p q r s) (k:CoE w1 w2 B v1 v2 o2):CpS w w2 B b0 vo v2 o2 p q r s:=by
 have hl:=h.lt
 refine ⟨k.own,h.chg.trans k.chg (fun j hj e=>?_),fun j e=>?_,fun e=>?_,?_,h.lb⟩
 ·rcases h.obf j e with x | x
  ·exact x
  ·omega
 ·rcases k.obf j e with x | x
  ·exact h.obf j x
  ·have:=h.chg.size;exact .inr (by omega)
 ·rcases k.obf b0 e with x | x
  ·exact h.nb x
  ·omega
 ·rw [k.chg.block b0 hl h.nb];exact h.box
theorem CpS.set2 (h:CpS w w1 B b0 vo v1 o p q r s) (u:Int):CpS w (w1.setCell ⟨b0,2,none⟩ (.int .i64 u)) B b0 vo v1 o p q u s :=
 ⟨h.own.kept (grown_set w1 b0 2 _) (.inr h.nb),h.chg.setNew h.lb 2 _,h.obf,h.nb,by simp [World.setCell,Array.getElem?_modify,h.box],h.lb⟩
theorem CpS.done {gn cap:Nat} (h:CpS w w1 B b0 vo v1 o p q r s) (hown:w6.ownsRow B 58 4 (.slice (some ⟨gn,0,none⟩) (o.length+1) cap) (o.length+1) (fiC o++c4 (p,q,r,s)))
  (hgr:(w1.alloc (.cells #[.int .i64 p,.int .i64 q,.int .i64 r,.int .i64 s] 58)).grownBy w6 v1.ownBlock) (hat:v1.ownBlock=some gn∨gn=(w1.alloc (.cells #[.int .i64 p,.int .i64 q,.int .i64 r,.int .i64 s] 58)).heap.size):CoE w w6 B vo (.slice (some ⟨gn,0,none⟩) (o.length+1) cap) (o++[(p,q,r,s)]):=by
 have hs:=h.chg.size
 refine ⟨by rw [fiC_snoc,List.length_append];exact hown,?_,fun k e=>?_⟩
 ·exact (h.chg.trans (T:=fun k=>v1.ownBlock=some k) ((Chg.of_below (ab2 w1 _)).trans (Chg.of_grown hgr (fun k e=>e)) (fun j _ e=>e)) (fun j hj e=>by
   rcases h.obf j e with x | x
   ·exact x
   ·omega))
 ·simp [Value.ownBlock] at e
  subst e
  rcases hat with x | x
  ·exact h.obf _ x
  ·rw [x];simp;omega
end
end Go.Proofs.YtpaednfinlaioaaGreatDoor
