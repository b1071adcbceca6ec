/-
  Plain mathematics and contracts of package diagram, several texts in one: PWr, FWrr, FNum, FSzs, FQOf.
-/
import Derived.Test.YtpaednfinlaioaaGreatDoorFl
import Derived.Test.YtpaednfinlaioaaGreatDoorFk
import Derived.Test.YtpaednfinlaioaaGreatDoorFg
import Derived.Test.YtpaednfinlaioaaGreatDoorFm
import Derived.Lib.MinMax
import Derived.Test.YtpaednfinlaioaaGreatDoorMx
namespace Go.Proofs.YtpaednfinlaioaaGreatDoor
open Dg
set_option linter.unusedVariables false
def szC (o:List Nat) (l h:Nat):Nat :=
 if h=1∧l=0 then 1 else if h=0∧l=1 then 2 else if l=0 then 2+o.getD h 0 else if h=0 then 3+o.getD l 0 else if h=1 then 2+o.getD l 0 else if l=1 then 3+o.getD h 0 else o.getD l 0+o.getD h 0+6
def szs (M:List (Nat × Nat × Nat)):Nat→List Nat
 | 0=>[1,1]
 | k+1=>szs M k++[min (szC (szs M k) (bl M k) (bh M k)) 10000]
theorem szs_len (M:List (Nat × Nat × Nat)):∀ k,(szs M k).length=k+2
 | 0=>rfl
 | k+1=>by rw [szs,List.length_append,szs_len M k];rfl
theorem szs_at (M:List (Nat × Nat × Nat)) (r:Nat):∀ k k',k≤k'→r<k+2→(szs M k').getD r 0=(szs M k).getD r 0:=by
 intro k k' h hr
 induction k' with
 | zero=>have:k=0:=by omega
         subst this;rfl
 | succ n ih =>
   by_cases e:k=n+1
   ·subst e;rfl
   ·rw [← ih (by omega),szs,List.getD_eq_getElem?_getD,List.getD_eq_getElem?_getD,List.getElem?_append_left (by rw [szs_len];omega)]
def sz (M:List (Nat × Nat × Nat)) (r:Nat):Nat:=(szs M r).getD r 0
theorem sz_at (M:List (Nat × Nat × Nat)) (r k:Nat) (h:r<k+2):(szs M k).getD r 0=sz M r:=by
 unfold sz
 by_cases e:k≤r
 ·exact (szs_at M r k r e h).symm
 ·exact szs_at M r r k (by omega) (by omega)
theorem sz_low (M:List (Nat × Nat × Nat)) (r:Nat) (h:r<2):sz M r=1:=by
 rw [← sz_at M r 0 (by omega)]
 rcases (show r=0∨r=1 by omega) with rfl | rfl <;> rfl
theorem sz_br (M:List (Nat × Nat × Nat)) (k:Nat):sz M (k+2)=min (szC (szs M k) (bl M k) (bh M k)) 10000:=by
 rw [← sz_at M (k+2) (k+1) (by omega),szs,List.getD_eq_getElem?_getD,List.getElem?_append_right (by rw [szs_len];omega),szs_len]
 simp
theorem sz_pos (M:List (Nat × Nat × Nat)) (r:Nat):1≤sz M r:=by
 by_cases h:r<2
 ·rw [sz_low M r h];omega
 ·obtain ⟨k,rfl⟩:∃ k,r=k+2:=⟨r - 2,by omega⟩
  rw [sz_br]
  unfold szC
  repeat' (split <;> try omega)
def litW (v:Nat) (b:Bool) (f:List Fi):List Fi:=if b then f++[(2,(v:Int),0,0)] else (f++[(2,(v:Int),0,0)])++[(3,0,(f.length:Int),0)]
def jnW (op:Int) (v:Nat) (b:Bool) (g:List Fi→List Fi) (f:List Fi):List Fi :=
 g (litW v b f)++[(op,0,(((litW v b f).length - 1:Nat):Int),(((g (litW v b f)).length - 1:Nat):Int))]
def wrN (M:List (Nat × Nat × Nat)):Nat→Nat→List Fi→List Fi
 | 0,_,f=>f
 | n+1,r,f =>
   if r<2 then f++[(if r=1 then 1 else 0,0,0,0)] else
   if bh M (r - 2)=1∧bl M (r - 2)=0 then litW (bv M (r - 2)) true f else
   if bh M (r - 2)=0∧bl M (r - 2)=1 then litW (bv M (r - 2)) false f else
   if bl M (r - 2)=0 then jnW 4 (bv M (r - 2)) true (wrN M n (bh M (r - 2))) f else
   if bh M (r - 2)=0 then jnW 4 (bv M (r - 2)) false (wrN M n (bl M (r - 2))) f else
   if bh M (r - 2)=1 then jnW 5 (bv M (r - 2)) true (wrN M n (bl M (r - 2))) f else
   if bl M (r - 2)=1 then jnW 5 (bv M (r - 2)) false (wrN M n (bh M (r - 2))) f else
   jnW 4 (bv M (r - 2)) false (wrN M n (bl M (r - 2))) (jnW 4 (bv M (r - 2)) true (wrN M n (bh M (r - 2))) f) ++
    [(5,0,(((jnW 4 (bv M (r - 2)) true (wrN M n (bh M (r - 2))) f).length - 1:Nat):Int),(((jnW 4 (bv M (r - 2)) false (wrN M n (bl M (r - 2))) (jnW 4 (bv M (r - 2)) true (wrN M n (bh M (r - 2))) f)).length - 1:Nat):Int))]
def Rs1 (s s':PLs) (k:Nat) (F:List Fi):Prop :=
 (s.1.length+k≤512∧s'.1=F∧s'.1.length=s.1.length+k∧s'.2.length=s'.1.length∧s'.2.getD (s'.1.length - 1) 0=k∧∀ i,i<s.1.length→s'.2.getD i 0=s.2.getD i 0) ∨
 (512<s.1.length+k∧512<s'.1.length)
theorem getD_snoc (z:List Nat) (a i:Nat):(z++[a]).getD i 0=if i<z.length then z.getD i 0 else if i=z.length then a else 0:=by
 rw [List.getD_eq_getElem?_getD]
 by_cases h:i<z.length
 ·rw [if_pos h,List.getElem?_append_left h,List.getD_eq_getElem?_getD]
 ·rw [if_neg h,List.getElem?_append_right (by omega)]
  by_cases e:i=z.length
  ·rw [if_pos e,e];simp
  ·rw [if_neg e,List.getElem?_eq_none (by simp;omega)];rfl
theorem Rs1.cap {s s':PLs} {k:Nat} {F:List Fi} (h:Rs1 s s' k F):Rs1 s s' (min k 10000) F:=by
 rcases h with ⟨a,b,c,d,e,f⟩ | ⟨a,b⟩
 ·have:min k 10000=k:=by omega
  rw [this]
  exact .inl ⟨a,b,c,d,e,f⟩
 ·exact .inr ⟨by omega,b⟩
def Gz (s:PLs):Prop:=s.1.length≤512→s.2.length=s.1.length
theorem ad0 (op v:Int) (har:ar op=0) (s:PLs) (hg:Gz s):∃ s',adN op v s=.ok s'∧Rs1 s s' 1 (s.1++[(op,v,0,0)]):=by
 unfold adN
 by_cases h:512<s.1.length
 ·rw [if_pos h]
  exact ⟨s,rfl,.inr ⟨by omega,h⟩⟩
 ·have hz:=hg (by omega)
  rw [if_neg h,if_pos har]
  refine ⟨_,rfl,?_⟩
  by_cases e:s.1.length+1≤512
  ·refine .inl ⟨e,rfl,by simp,by simp [hz],?_,fun i hi=>?_⟩
   ·simp only [List.length_append,List.length_cons,List.length_nil,Nat.zero_add,Nat.add_sub_cancel]
    rw [getD_snoc,if_neg (by omega),if_pos hz.symm]
   ·rw [getD_snoc,if_pos (by omega)]
  ·exact .inr ⟨by omega,by simp;omega⟩
theorem ad1 (op v:Int) (har:ar op=1) {s s1:PLs} {k:Nat} {F:List Fi} (hk:1≤k) (h:Rs1 s s1 k F):∃ s',adN op v s1=.ok s'∧Rs1 s s' (k+1) (F++[(op,v,((F.length - 1:Nat):Int),0)]):=by
 unfold adN
 rcases h with ⟨a,rfl,c,d,e,f⟩ | ⟨a,b⟩
 ·rw [if_neg (by omega),if_neg (by omega),if_neg (by omega),if_pos har]
  refine ⟨_,rfl,?_⟩
  by_cases q:s.1.length+(k+1)≤512
  ·refine .inl ⟨q,rfl,by simp;omega,by simp [d],?_,fun i hi=>?_⟩
   ·simp only [List.length_append,List.length_cons,List.length_nil,Nat.zero_add,Nat.add_sub_cancel]
    rw [getD_snoc,if_neg (by omega),if_pos d.symm,e,Nat.add_comm]
   ·rw [getD_snoc,if_pos (by omega),f i hi]
  ·exact .inr ⟨by omega,by simp;omega⟩
 ·rw [if_pos b]
  exact ⟨s1,rfl,.inr ⟨by omega,b⟩⟩
theorem ad2 (op v:Int) (har:ar op=2) {s s1 s2:PLs} {k1 k2:Nat} {F1 F2:List Fi} (h1:1≤k1) (h2:1≤k2) (h:Rs1 s s1 k1 F1) (g:Rs1 s1 s2 k2 F2) :
  ∃ s',adN op v s2=.ok s'∧Rs1 s s' (k1+k2+1) (F2++[(op,v,((F1.length - 1:Nat):Int),((F2.length - 1:Nat):Int))]):=by
 unfold adN
 rcases g with ⟨a',rfl,c',d',e',f'⟩ | ⟨a',b'⟩
 ·rcases h with ⟨a,rfl,c,d,e,f⟩ | ⟨a,b⟩
  ·rw [if_neg (by omega),if_neg (by omega),if_neg (by omega),if_neg (by omega),if_neg (by rw [e'];omega),e']
   have q1:s2.1.length - 1 - k2=s1.1.length - 1:=by omega
   rw [q1,f' (s1.1.length - 1) (by omega),e]
   refine ⟨_,rfl,?_⟩
   by_cases q:s.1.length+(k1+k2+1)≤512
   ·refine .inl ⟨q,rfl,by simp;omega,by simp [d'],?_,fun i hi=>?_⟩
    ·simp only [List.length_append,List.length_cons,List.length_nil,Nat.zero_add,Nat.add_sub_cancel]
     rw [getD_snoc,if_neg (by omega),if_pos d'.symm,Nat.add_comm]
    ·rw [getD_snoc,if_pos (by omega),f' i (by omega),f i hi]
   ·exact .inr ⟨by omega,by simp;omega⟩
  ·omega
 ·rw [if_pos b']
  refine ⟨s2,rfl,.inr ⟨?_,b'⟩⟩
  rcases h with ⟨a,_,c,_⟩ | ⟨a,b⟩ <;> omega
theorem Rs1.gz {s s':PLs} {k:Nat} {F:List Fi} (h:Rs1 s s' k F):Gz s':=fun hs=>by
 rcases h with ⟨_,_,_,d,_⟩ | ⟨_,b⟩
 ·exact d
 ·omega
theorem Rs1.of {s s':PLs} {k:Nat} {F F':List Fi} (h:Rs1 s s' k F) (e:s.1.length+k≤512→F=F'):Rs1 s s' k F':=by
 rcases h with ⟨a,b,c⟩ | h
 ·exact .inl ⟨a,b.trans (e a),c⟩
 ·exact .inr h
theorem Rs1.eq {s s':PLs} {k k':Nat} {F:List Fi} (h:Rs1 s s' k F) (hk:k'≤k) (hl:s.1.length+k≤512):s'.1=F:=by
 rcases h with ⟨_,b,_⟩ | ⟨a,_⟩
 ·exact b
 ·omega
def litK (b:Bool):Nat:=if b then 1 else 2
theorem lit_ok (v:Nat) (b:Bool) (s:PLs) (hg:Gz s):∃ s',litF v b s=.ok s'∧Rs1 s s' (litK b) (litW v b s.1):=by
 obtain ⟨s1,e1,h1⟩:=ad0 2 (v:Int) rfl s hg
 unfold litF
 rw [e1]
 cases b
 ·obtain ⟨s2,e2,h2⟩:=ad1 3 0 rfl (Nat.le_refl _) h1
  refine ⟨s2,e2,?_⟩
  have e3:(s.1++[((2:Int),(v:Int),(0:Int),(0:Int))]).length - 1=s.1.length:=by simp
  rw [e3] at h2
  exact h2
 ·exact ⟨s1,rfl,h1⟩
theorem jn_ok (op:Int) (har:ar op=2) (v:Nat) (b:Bool) (g:PLs→POut PLs) (G:List Fi→List Fi) (k:Nat) (s:PLs) (hg:Gz s) (hk:1≤k) (h:∀ t,Gz t→∃ t',g t=.ok t'∧Rs1 t t' k (G t.1)) :
  ∃ s',jnF op v b g s=.ok s'∧Rs1 s s' (litK b+k+1) (jnW op v b G s.1):=by
 obtain ⟨s1,e1,h1⟩:=lit_ok v b s hg
 obtain ⟨s2,e2,h2⟩:=h s1 h1.gz
 obtain ⟨s3,e3,h3⟩:=ad2 op 0 har (by cases b <;> decide) hk h1 h2
 refine ⟨s3,?_,h3.of fun hl=>?_⟩
 ·unfold jnF
  rw [e1]
  show (g s1).bind _=_
  rw [e2]
  exact e3
 ·have e:s1.1=litW v b s.1:=h1.eq (Nat.le_refl _) (by omega)
  rw [e]
  rfl
theorem ex_main (M:List (Nat × Nat × Nat)) (ho:Ord M):∀ n r s,r<n→r<M.length+2→Gz s→∃ s',exF M n r s=.ok s'∧Rs1 s s' (sz M r) (wrN M n r s.1)
 | 0,r,s,h,_,_=>by omega
 | n+1,r,s,hr,hl,hg=>by
   show ∃ s',(if 512<s.1.length then .ok s else
    if r<2 then (if r=1 then adN 1 0 s else adN 0 0 s) else
    if bh M (r - 2)=1∧bl M (r - 2)=0 then litF (bv M (r - 2)) true s else
    if bh M (r - 2)=0∧bl M (r - 2)=1 then litF (bv M (r - 2)) false s else
    if bl M (r - 2)=0 then jnF 4 (bv M (r - 2)) true (exF M n (bh M (r - 2))) s else
    if bh M (r - 2)=0 then jnF 4 (bv M (r - 2)) false (exF M n (bl M (r - 2))) s else
    if bh M (r - 2)=1 then jnF 5 (bv M (r - 2)) true (exF M n (bl M (r - 2))) s else
    if bl M (r - 2)=1 then jnF 5 (bv M (r - 2)) false (exF M n (bh M (r - 2))) s else
    (jnF 4 (bv M (r - 2)) true (exF M n (bh M (r - 2))) s).bind fun s=>(jnF 4 (bv M (r - 2)) false (exF M n (bl M (r - 2))) s).bind fun s=>adN 5 0 s)=.ok s'∧_
   by_cases c0:512<s.1.length
   ·rw [if_pos c0]
    exact ⟨s,rfl,.inr ⟨by omega,c0⟩⟩
   rw [if_neg c0]
   by_cases c1:r<2
   ·rw [if_pos c1,sz_low M r c1]
    unfold wrN
    rw [if_pos c1]
    by_cases c2:r=1
    ·rw [if_pos c2,if_pos c2]
     exact ad0 1 0 rfl s hg
    ·rw [if_neg c2,if_neg c2]
     exact ad0 0 0 rfl s hg
   rw [if_neg c1]
   unfold wrN
   rw [if_neg c1]
   obtain ⟨k,rfl⟩:∃ k,r=k+2:=⟨r - 2,by omega⟩
   rw [Nat.add_sub_cancel,sz_br]
   obtain ⟨_,q2,q3,_,_⟩:=ho k (by omega)
   have zl:=sz_at M (bl M k) k q2
   have zh:=sz_at M (bh M k) k q3
   have il:=fun t ht=>ex_main M ho n (bl M k) t (by omega) (by omega) ht
   have ih:=fun t ht=>ex_main M ho n (bh M k) t (by omega) (by omega) ht
   have pl:=sz_pos M (bl M k)
   have ph:=sz_pos M (bh M k)
   unfold szC
   rw [zl,zh]
   by_cases c2:bh M k=1∧bl M k=0
   ·rw [if_pos c2,if_pos c2,if_pos c2]
    obtain ⟨s',e,h⟩:=lit_ok (bv M k) true s hg
    exact ⟨s',e,h.cap⟩
   rw [if_neg c2,if_neg c2,if_neg c2]
   by_cases c3:bh M k=0∧bl M k=1
   ·rw [if_pos c3,if_pos c3,if_pos c3]
    obtain ⟨s',e,h⟩:=lit_ok (bv M k) false s hg
    exact ⟨s',e,h.cap⟩
   rw [if_neg c3,if_neg c3,if_neg c3]
   by_cases c4:bl M k=0
   ·rw [if_pos c4,if_pos c4,if_pos c4]
    obtain ⟨s',e,h⟩:=jn_ok 4 rfl (bv M k) true _ (wrN M n (bh M k)) _ s hg ph ih
    rw [show litK true+sz M (bh M k)+1=2+sz M (bh M k) by unfold litK;simp;omega] at h
    exact ⟨s',e,h.cap⟩
   rw [if_neg c4,if_neg c4,if_neg c4]
   by_cases c5:bh M k=0
   ·rw [if_pos c5,if_pos c5,if_pos c5]
    obtain ⟨s',e,h⟩:=jn_ok 4 rfl (bv M k) false _ (wrN M n (bl M k)) _ s hg pl il
    rw [show litK false+sz M (bl M k)+1=3+sz M (bl M k) by unfold litK;simp;omega] at h
    exact ⟨s',e,h.cap⟩
   rw [if_neg c5,if_neg c5,if_neg c5]
   by_cases c6:bh M k=1
   ·rw [if_pos c6,if_pos c6,if_pos c6]
    obtain ⟨s',e,h⟩:=jn_ok 5 rfl (bv M k) true _ (wrN M n (bl M k)) _ s hg pl il
    rw [show litK true+sz M (bl M k)+1=2+sz M (bl M k) by unfold litK;simp;omega] at h
    exact ⟨s',e,h.cap⟩
   rw [if_neg c6,if_neg c6,if_neg c6]
   by_cases c7:bl M k=1
   ·rw [if_pos c7,if_pos c7,if_pos c7]
    obtain ⟨s',e,h⟩:=jn_ok 5 rfl (bv M k) false _ (wrN M n (bh M k)) _ s hg ph ih
    rw [show litK false+sz M (bh M k)+1=3+sz M (bh M k) by unfold litK;simp;omega] at h
    exact ⟨s',e,h.cap⟩
   rw [if_neg c7,if_neg c7,if_neg c7]
   obtain ⟨s1,e1,h1⟩:=jn_ok 4 rfl (bv M k) true _ (wrN M n (bh M k)) _ s hg ph ih
   obtain ⟨s2,e2,h2⟩:=jn_ok 4 rfl (bv M k) false _ (wrN M n (bl M k)) _ s1 h1.gz pl il
   obtain ⟨s3,e3,h3⟩:=ad2 5 0 rfl (by omega) (by omega) h1 h2
   have ek:litK true+sz M (bh M k)+1+(litK false+sz M (bl M k)+1)+1=sz M (bl M k)+sz M (bh M k)+6:=by unfold litK;simp;omega
   rw [ek] at h3
   refine ⟨s3,?_,(h3.of fun hl=>?_).cap⟩
   ·rw [e1]
    show (jnF 4 (bv M k) false (exF M n (bl M k)) s1).bind _=_
    rw [e2]
    exact e3
   ·have e:s1.1=jnW 4 (bv M k) true (wrN M n (bh M k)) s.1:=h1.eq (Nat.le_refl _) (by unfold litK;simp;omega)
    rw [e]
end Go.Proofs.YtpaednfinlaioaaGreatDoor
namespace Go.Proofs.YtpaednfinlaioaaGreatDoor
open Go.RowKit Dg St
set_option linter.unusedVariables false
set_option linter.unusedSimpArgs false
attribute [local go_sem ↓] Go.wp_at_zero Go.wp_at_succ
structure WoM (w:World) (B g:Nat) (vf:Value) (l:List Fi):Prop where
 cf:w.cell? ⟨g,2,none⟩=some vf
 ff:w.frozen? ⟨g,2,none⟩=false
 rf:w.ownsRow B 58 4 vf l.length (fiC l)
 gf:vf.ownBlock≠some g
 gb:B≤g
theorem WoM.lt {w:World} {B g:Nat} {vf:Value} {l:List Fi} (h:WoM w B g vf l):g<w.heap.size:=block_lt_of_cell (a:=⟨g,2,none⟩) h.cf
theorem WoM.keep {w w':World} {B g:Nat} {vf:Value} {l:List Fi} (h:WoM w B g vf l) (hb:Below w.heap.size w w'):WoM w' B g vf l:=by
 have hg:=h.lt
 refine ⟨(hb.cell (p:=⟨g,2,none⟩) hg).trans h.cf,(hb.frozen (p:=⟨g,2,none⟩) hg).trans h.ff,?_,h.gf,h.gb⟩
 exact h.rf.kept (row:=none) ⟨hb.os,hb.tape,hb.output,hb.size,fun k hk _=>hb.block k hk⟩ (by rcases h0:vf.ownBlock with _ | _ <;> simp)
structure WoE (w w':World) (B g:Nat) (vf vf':Value) (l:List Fi):Prop where
 m:WoM w' B g vf' l
 chg:Chg (fun k=>k=g∨vf.ownBlock=some k) w w'
 cel:∀ j,j≠2→w'.cell? ⟨g,j,none⟩=w.cell? ⟨g,j,none⟩
 frz:∀ j,w'.frozen? ⟨g,j,none⟩=w.frozen? ⟨g,j,none⟩
 obf:∀ k,vf'.ownBlock=some k→vf.ownBlock=some k∨w.heap.size≤k
section
variable {w w' w1 w2 w3 : World} {B g : Nat} {vf vf1 vf2 : Value} {l l1 l2 : List Fi}
theorem WoE.trans (h:WoE w w1 B g vf vf1 l1) (k:WoE w1 w2 B g vf1 vf2 l2):WoE w w2 B g vf vf2 l2:=by
 refine ⟨k.m,h.chg.trans k.chg ?_,fun j h1=>(k.cel j h1).trans (h.cel j h1),fun j=>(k.frz j).trans (h.frz j),?_⟩
 ·rintro j hj (e | e)
  ·exact .inl e
  ·rcases h.obf j e with q | q
   ·exact .inr q
   ·omega
 ·intro j e
  rcases k.obf j e with q | q
  ·exact h.obf j q
  ·have:=h.chg.size;exact .inr (by omega)
theorem WoE.same (h:WoM w B g vf l) (hb:Below w.heap.size w w'):WoE w w' B g vf vf l :=
 ⟨h.keep hb,Chg.of_below hb,fun j _=>hb.cell (p:=⟨g,j,none⟩) h.lt,fun j=>hb.frozen (p:=⟨g,j,none⟩) h.lt,fun _ e=>.inl e⟩
theorem WoM.node {gn cap:Nat} {x:Fi} (h:WoM w B g vf l) (hb:Below w.heap.size w w2) (hown:w3.ownsRow B 58 4 (.slice (some ⟨gn,0,none⟩) (l.length+1) cap) (l.length+1) (fiC l++c4 x)) (hgr:w2.grownBy w3 vf.ownBlock) (hat:vf.ownBlock=some gn∨w.heap.size≤gn) :
  WoE w (w3.setCell ⟨g,2,none⟩ (.slice (some ⟨gn,0,none⟩) (l.length+1) cap)) B g vf (.slice (some ⟨gn,0,none⟩) (l.length+1) cap) (l++[x]):=by
 have hg:=h.lt
 have hgn:gn≠g:=by
  rcases hat with e | e
  ·exact fun e2=>h.gf (by rw [e,e2])
  ·omega
 have far:∀ a:Addr,a.block<w.heap.size→some a.block≠vf.ownBlock→w3.cell? a=w.cell? a∧w3.frozen? a=w.frozen? a:=fun a ha hne =>
  ⟨(hgr.cell_far a (Nat.lt_of_lt_of_le ha hb.size) hne).trans (hb.cell ha),(hgr.frozen_far a (Nat.lt_of_lt_of_le ha hb.size) hne).trans (hb.frozen ha)⟩
 have fg:=fun j=>far ⟨g,j,none⟩ hg (Ne.symm h.gf)
 have hset:=grown_set w3 g 2 (.slice (some ⟨gn,0,none⟩) (l.length+1) cap)
 refine ⟨⟨World.cell?_setCell_same _ _ _ ((fg 2).1.trans h.cf),?_,?_,?_,h.gb⟩,?_,?_,?_,?_⟩
 ·rw [World.frozen?_setCell];exact (fg 2).2.trans h.ff
 ·rw [fiC_snoc,List.length_append]
  exact hown.kept hset (.inr (by simp [Value.ownBlock,hgn]))
 ·simp [Value.ownBlock,hgn]
 ·exact Chg.set ((Chg.of_below hb).trans (T:=fun k=>vf.ownBlock=some k) (Chg.of_grown hgr (fun k e=>e)) (fun j _ e=>.inr e)) (.inl rfl) _
 ·intro j h1
  rw [cell_set_off _ _ _ _ _ h1];exact (fg j).1
 ·intro j
  rw [World.frozen?_setCell];exact (fg j).2
 ·intro k e
  simp [Value.ownBlock] at e
  subst e
  exact hat
theorem WoE.below (h:WoM w B g vf l) (e:WoE w w' B g vf vf1 l1):Below B w w':=by
 refine e.chg.below (by have:=h.lt;have:=h.gb;omega) (fun k hk=>?_)
 rintro (e1 | e1)
 ·have:=h.gb;omega
 ·have:=(h.rf.lt k e1).1;omega
end
set_option linter.unusedVariables false
set_option linter.unusedSimpArgs false
attribute [local go_sem ↓] Go.wp_at_zero Go.wp_at_succ
set_option linter.unusedVariables false
set_option linter.unusedSimpArgs false
attribute [local go_sem ↓] Go.wp_at_zero Go.wp_at_succ
structure Sr (w3 wr:World) (q cap:Nat) (M:List Br) (k:Nat):Prop where
 row:wr.ownsRow w3.heap.size 3 1 (.slice (some ⟨q,0,none⟩) (k+2) cap) (k+2) (niC (szs M k))
 bel:Below w3.heap.size w3 wr
theorem Sr.step {w5 wr w6 w7:World} {q cap:Nat} {M:List Br} {k s gn cap2:Nat} (h:Sr w5 wr q cap M k) (hq:Below wr.heap.size wr w6) (x:Value) (hx:x=.int .i64 ((s:Nat):Int)) (hs:s=min (szC (szs M k) (bl M k) (bh M k)) 10000)
  (hown:w7.ownsRow w5.heap.size 3 1 (.slice (some ⟨gn,0,none⟩) (k+2+1) cap2) (k+2+1) (niC (szs M k)++[x])) (hgrow:(w6.alloc (.cells #[x] 3)).grownBy w7 (some q)):Sr w5 w7 gn cap2 M (k+1):=by
 subst hx
 subst hs
 have b0:=h.bel.trans (hq.mono h.bel.size)
 have hba:=b0.alloc b0.size (.cells #[.int .i64 (((min (szC (szs M k) (bl M k) (bh M k)) 10000:Nat)):Int)] 3)
 refine ⟨?_,hba.trans ((Chg.of_grown (S:=fun j=>some q=some j) hgrow (fun j e=>e)).below hba.size (fun j hj e=>?_))⟩
 ·rw [szs,niC_snoc,show k+1+2=k+2+1 by omega]
  exact hown
 ·have:=(World.ownsRow.lt h.row j e).1
  omega
set_option linter.unusedVariables false
set_option linter.unusedSimpArgs false
attribute [local go_sem ↓] Go.wp_at_zero Go.wp_at_succ
def ofW (M:List Br) (r:Nat):List Fi × Int:=if 512<sz M r then ([],2) else (wrN M (r+1) r [],0)
theorem ofW_ex {M:List Br} (ho:Ord M) {r:Nat} (hr:r<M.length+2):∃ s,exF M (r+1) r ([],[])=.ok s∧ofW M r=if 512<s.1.length then ([],2) else (s.1,0):=by
 obtain ⟨s,e,h⟩:=ex_main M ho (r+1) r ([],[]) (by omega) hr (fun _=>rfl)
 refine ⟨s,e,?_⟩
 unfold ofW
 rcases h with ⟨a,b,c,_⟩ | ⟨a,b⟩
 ·have a':sz M r≤512:=by have:0+sz M r≤512:=a
                         omega
  have c':s.1.length=sz M r:=by have:s.1.length=0+sz M r:=c
                                omega
  rw [if_neg (by omega),if_neg (by omega),b]
 ·have a':512<sz M r:=by have:512<0+sz M r:=a
                         omega
  rw [if_pos a',if_pos b]
end Go.Proofs.YtpaednfinlaioaaGreatDoor
