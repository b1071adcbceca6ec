/-
  Plain mathematics and contracts of package diagram, several texts in one: PWr, FWrr, FNum, FSzs, FQOf.
-/
import Derived.Test.YtpaednfinlaioaaGreatDoorFl
import Derived.Test.YtpaednfinlaioaaGreatDoorFk
import Derived.Test.YtpaednfinlaioaaGreatDoorFg
import Derived.Test.YtpaednfinlaioaaGreatDoorFm
import Derived.Lib.MinMax
import Derived.Test.YtpaednfinlaioaaGreatDoorMx
set_option maxHeartbeats 8000000
set_option maxRecDepth 100000
namespace Go.Proofs.YtpaednfinlaioaaGreatDoor
open Go.Lib (hid)
open Dg
set_option linter.unusedVariables false
def szC (o:List Nat) (l h:Nat):Nat :=
 if h=1∧l=0 then 1 else if h=0∧l=1 then 2 else if l=0 then 2+o.getD h 0 else if h=0 then 3+o.getD l 0 else if h=1 then 2+o.getD l 0 else if l=1 then 3+o.getD h 0 else o.getD l 0+o.getD h 0+6
def szs (M:List (Nat × Nat × Nat)):Nat→List Nat
 | 0=>[1,1]
 | k+1=>szs M k++[min (szC (szs M k) (bl M k) (bh M k)) 10000]
theorem szs_len (M:List (Nat × Nat × Nat)):∀ k,(szs M k).length=k+2
 | 0=>rfl
 | k+1=>by rw [szs,List.length_append,szs_len M k];rfl
theorem szs_at (M:List (Nat × Nat × Nat)) (r:Nat):∀ k k',k≤k'→r<k+2→(szs M k').getD r 0=(szs M k).getD r 0:=by
 intro k k' h hr
 induction k' with
 | zero=>have:k=0:=by omega
         subst this;rfl
 | succ n ih =>
   by_cases e:k=n+1
   ·subst e;rfl
   ·rw [← ih (by omega),szs,List.getD_eq_getElem?_getD,List.getD_eq_getElem?_getD,List.getElem?_append_left (by rw [szs_len];omega)]
def sz (M:List (Nat × Nat × Nat)) (r:Nat):Nat:=(szs M r).getD r 0
theorem sz_at (M:List (Nat × Nat × Nat)) (r k:Nat) (h:r<k+2):(szs M k).getD r 0=sz M r:=by
 unfold sz
 by_cases e:k≤r
 ·exact (szs_at M r k r e h).symm
 ·exact szs_at M r r k (by omega) (by omega)
theorem sz_low (M:List (Nat × Nat × Nat)) (r:Nat) (h:r<2):sz M r=1:=by
 rw [← sz_at M r 0 (by omega)]
 rcases (show r=0∨r=1 by omega) with rfl | rfl <;> rfl
theorem sz_br (M:List (Nat × Nat × Nat)) (k:Nat):sz M (k+2)=min (szC (szs M k) (bl M k) (bh M k)) 10000:=by
 rw [← sz_at M (k+2) (k+1) (by omega),szs,List.getD_eq_getElem?_getD,List.getElem?_append_right (by rw [szs_len];omega),szs_len]
 simp
theorem sz_pos (M:List (Nat × Nat × Nat)) (r:Nat):1≤sz M r:=by
 by_cases h:r<2
 ·rw [sz_low M r h];omega
 ·obtain ⟨k,rfl⟩:∃ k,r=k+2:=⟨r - 2,by omega⟩
  rw [sz_br]
  unfold szC
  repeat' (split <;> try omega)
def litW (v:Nat) (b:Bool) (f:List Fi):List Fi:=if b then f++[(2,(v:Int),0,0)] else (f++[(2,(v:Int),0,0)])++[(3,0,(f.length:Int),0)]
def jnW (op:Int) (v:Nat) (b:Bool) (g:List Fi→List Fi) (f:List Fi):List Fi :=
 g (litW v b f)++[(op,0,(((litW v b f).length - 1:Nat):Int),(((g (litW v b f)).length - 1:Nat):Int))]
def wrN (M:List (Nat × Nat × Nat)):Nat→Nat→List Fi→List Fi
 | 0,_,f=>f
 | n+1,r,f =>
   if r<2 then f++[(if r=1 then 1 else 0,0,0,0)] else
   if bh M (r - 2)=1∧bl M (r - 2)=0 then litW (bv M (r - 2)) true f else
   if bh M (r - 2)=0∧bl M (r - 2)=1 then litW (bv M (r - 2)) false f else
   if bl M (r - 2)=0 then jnW 4 (bv M (r - 2)) true (wrN M n (bh M (r - 2))) f else
   if bh M (r - 2)=0 then jnW 4 (bv M (r - 2)) false (wrN M n (bl M (r - 2))) f else
   if bh M (r - 2)=1 then jnW 5 (bv M (r - 2)) true (wrN M n (bl M (r - 2))) f else
   if bl M (r - 2)=1 then jnW 5 (bv M (r - 2)) false (wrN M n (bh M (r - 2))) f else
   jnW 4 (bv M (r - 2)) false (wrN M n (bl M (r - 2))) (jnW 4 (bv M (r - 2)) true (wrN M n (bh M (r - 2))) f) ++
    [(5,0,(((jnW 4 (bv M (r - 2)) true (wrN M n (bh M (r - 2))) f).length - 1:Nat):Int),(((jnW 4 (bv M (r - 2)) false (wrN M n (bl M (r - 2))) (jnW 4 (bv M (r - 2)) true (wrN M n (bh M (r - 2))) f)).length - 1:Nat):Int))]
def Rs1 (s s':PLs) (k:Nat) (F:List Fi):Prop :=
 (s.1.length+k≤512∧s'.1=F∧s'.1.length=s.1.length+k∧s'.2.length=s'.1.length∧s'.2.getD (s'.1.length - 1) 0=k∧∀ i,i<s.1.length→s'.2.getD i 0=s.2.getD i 0) ∨
 (512<s.1.length+k∧512<s'.1.length)
theorem getD_snoc (z:List Nat) (a i:Nat):(z++[a]).getD i 0=if i<z.length then z.getD i 0 else if i=z.length then a else 0:=by
 rw [List.getD_eq_getElem?_getD]
 by_cases h:i<z.length
 ·rw [if_pos h,List.getElem?_append_left h,List.getD_eq_getElem?_getD]
 ·rw [if_neg h,List.getElem?_append_right (by omega)]
  by_cases e:i=z.length
  ·rw [if_pos e,e];simp
  ·rw [if_neg e,List.getElem?_eq_none (by simp;omega)];rfl
theorem Rs1.cap {s s':PLs} {k:Nat} {F:List Fi} (h:Rs1 s s' k F):Rs1 s s' (min k 10000) F:=by
 rcases h with ⟨a,b,c,d,e,f⟩ | ⟨a,b⟩
 ·have:min k 10000=k:=by omega
  rw [this]
  exact .inl ⟨a,b,c,d,e,f⟩
 ·exact .inr ⟨by omega,b⟩
def Gz (s:PLs):Prop:=s.1.length≤512→s.2.length=s.1.length
theorem ad0 (op v:Int) (har:ar op=0) (s:PLs) (hg:Gz s):∃ s',adN op v s=.ok s'∧Rs1 s s' 1 (s.1++[(op,v,0,0)]):=by
 unfold adN
 by_cases h:512<s.1.length
 ·rw [if_pos h]
  exact ⟨s,rfl,.inr ⟨by omega,h⟩⟩
 ·have hz:=hg (by omega)
  rw [if_neg h,if_pos har]
  refine ⟨_,rfl,?_⟩
  by_cases e:s.1.length+1≤512
  ·refine .inl ⟨e,rfl,by simp,by simp [hz],?_,fun i hi=>?_⟩
   ·simp only [List.length_append,List.length_cons,List.length_nil,Nat.zero_add,Nat.add_sub_cancel]
    rw [getD_snoc,if_neg (by omega),if_pos hz.symm]
   ·rw [getD_snoc,if_pos (by omega)]
  ·exact .inr ⟨by omega,by simp;omega⟩
theorem ad1 (op v:Int) (har:ar op=1) {s s1:PLs} {k:Nat} {F:List Fi} (hk:1≤k) (h:Rs1 s s1 k F):∃ s',adN op v s1=.ok s'∧Rs1 s s' (k+1) (F++[(op,v,((F.length - 1:Nat):Int),0)]):=by
 unfold adN
 rcases h with ⟨a,rfl,c,d,e,f⟩ | ⟨a,b⟩
 ·rw [if_neg (by omega),if_neg (by omega),if_neg (by omega),if_pos har]
  refine ⟨_,rfl,?_⟩
  by_cases q:s.1.length+(k+1)≤512
  ·refine .inl ⟨q,rfl,by simp;omega,by simp [d],?_,fun i hi=>?_⟩
   ·simp only [List.length_append,List.length_cons,List.length_nil,Nat.zero_add,Nat.add_sub_cancel]
    rw [getD_snoc,if_neg (by omega),if_pos d.symm,e,Nat.add_comm]
   ·rw [getD_snoc,if_pos (by omega),f i hi]
  ·exact .inr ⟨by omega,by simp;omega⟩
 ·rw [if_pos b]
  exact ⟨s1,rfl,.inr ⟨by omega,b⟩⟩
theorem ad2 (op v:Int) (har:ar op=2) {s s1 s2:PLs} {k1 k2:Nat} {F1 F2:List Fi} (h1:1≤k1) (h2:1≤k2) (h:Rs1 s s1 k1 F1) (g:Rs1 s1 s2 k2 F2) :
  ∃ s',adN op v s2=.ok s'∧Rs1 s s' (k1+k2+1) (F2++[(op,v,((F1.length - 1:Nat):Int),((F2.length - 1:Nat):Int))]):=by
 unfold adN
 rcases g with ⟨a',rfl,c',d',e',f'⟩ | ⟨a',b'⟩
 ·rcases h with ⟨a,rfl,c,d,e,f⟩ | ⟨a,b⟩
  ·rw [if_neg (by omega),if_neg (by omega),if_neg (by omega),if_neg (by omega),if_neg (by rw [e'];omega),e']
   have q1:s2.1.length - 1 - k2=s1.1.length - 1:=by omega
   rw [q1,f' (s1.1.length - 1) (by omega),e]
   refine ⟨_,rfl,?_⟩
   by_cases q:s.1.length+(k1+k2+1)≤512
   ·refine .inl ⟨q,rfl,by simp;omega,by simp [d'],?_,fun i hi=>?_⟩
    ·simp only [List.length_append,List.length_cons,List.length_nil,Nat.zero_add,Nat.add_sub_cancel]
     rw [getD_snoc,if_neg (by omega),if_pos d'.symm,Nat.add_comm]
    ·rw [getD_snoc,if_pos (by omega),f' i (by omega),f i hi]
   ·exact .inr ⟨by omega,by simp;omega⟩
  ·omega
 ·rw [if_pos b']
  refine ⟨s2,rfl,.inr ⟨?_,b'⟩⟩
  rcases h with ⟨a,_,c,_⟩ | ⟨a,b⟩ <;> omega
theorem Rs1.gz {s s':PLs} {k:Nat} {F:List Fi} (h:Rs1 s s' k F):Gz s':=fun hs=>by
 rcases h with ⟨_,_,_,d,_⟩ | ⟨_,b⟩
 ·exact d
 ·omega
theorem Rs1.of {s s':PLs} {k:Nat} {F F':List Fi} (h:Rs1 s s' k F) (e:s.1.length+k≤512→F=F'):Rs1 s s' k F':=by
 rcases h with ⟨a,b,c⟩ | h
 ·exact .inl ⟨a,b.trans (e a),c⟩
 ·exact .inr h
theorem Rs1.eq {s s':PLs} {k k':Nat} {F:List Fi} (h:Rs1 s s' k F) (hk:k'≤k) (hl:s.1.length+k≤512):s'.1=F:=by
 rcases h with ⟨_,b,_⟩ | ⟨a,_⟩
 ·exact b
 ·omega
def litK (b:Bool):Nat:=if b then 1 else 2
theorem lit_ok (v:Nat) (b:Bool) (s:PLs) (hg:Gz s):∃ s',litF v b s=.ok s'∧Rs1 s s' (litK b) (litW v b s.1):=by
 obtain ⟨s1,e1,h1⟩:=ad0 2 (v:Int) rfl s hg
 unfold litF
 rw [e1]
 cases b
 ·obtain ⟨s2,e2,h2⟩:=ad1 3 0 rfl (Nat.le_refl _) h1
  refine ⟨s2,e2,?_⟩
  have e3:(s.1++[((2:Int),(v:Int),(0:Int),(0:Int))]).length - 1=s.1.length:=by simp
  rw [e3] at h2
  exact h2
 ·exact ⟨s1,rfl,h1⟩
theorem jn_ok (op:Int) (har:ar op=2) (v:Nat) (b:Bool) (g:PLs→POut PLs) (G:List Fi→List Fi) (k:Nat) (s:PLs) (hg:Gz s) (hk:1≤k) (h:∀ t,Gz t→∃ t',g t=.ok t'∧Rs1 t t' k (G t.1)) :
  ∃ s',jnF op v b g s=.ok s'∧Rs1 s s' (litK b+k+1) (jnW op v b G s.1):=by
 obtain ⟨s1,e1,h1⟩:=lit_ok v b s hg
 obtain ⟨s2,e2,h2⟩:=h s1 h1.gz
 obtain ⟨s3,e3,h3⟩:=ad2 op 0 har (by cases b <;> decide) hk h1 h2
 refine ⟨s3,?_,h3.of fun hl=>?_⟩
 ·unfold jnF
  rw [e1]
  show (g s1).bind _=_
  rw [e2]
  exact e3
 ·have e:s1.1=litW v b s.1:=h1.eq (Nat.le_refl _) (by omega)
  rw [e]
  rfl
theorem ex_main (M:List (Nat × Nat × Nat)) (ho:Ord M):∀ n r s,r<n→r<M.length+2→Gz s→∃ s',exF M n r s=.ok s'∧Rs1 s s' (sz M r) (wrN M n r s.1)
 | 0,r,s,h,_,_=>by omega
 | n+1,r,s,hr,hl,hg=>by
   show ∃ s',(if 512<s.1.length then .ok s else
    if r<2 then (if r=1 then adN 1 0 s else adN 0 0 s) else
    if bh M (r - 2)=1∧bl M (r - 2)=0 then litF (bv M (r - 2)) true s else
    if bh M (r - 2)=0∧bl M (r - 2)=1 then litF (bv M (r - 2)) false s else
    if bl M (r - 2)=0 then jnF 4 (bv M (r - 2)) true (exF M n (bh M (r - 2))) s else
    if bh M (r - 2)=0 then jnF 4 (bv M (r - 2)) false (exF M n (bl M (r - 2))) s else
    if bh M (r - 2)=1 then jnF 5 (bv M (r - 2)) true (exF M n (bl M (r - 2))) s else
    if bl M (r - 2)=1 then jnF 5 (bv M (r - 2)) false (exF M n (bh M (r - 2))) s else
    (jnF 4 (bv M (r - 2)) true (exF M n (bh M (r - 2))) s).bind fun s=>(jnF 4 (bv M (r - 2)) false (exF M n (bl M (r - 2))) s).bind fun s=>adN 5 0 s)=.ok s'∧_
   by_cases c0:512<s.1.length
   ·rw [if_pos c0]
    exact ⟨s,rfl,.inr ⟨by omega,c0⟩⟩
   rw [if_neg c0]
   by_cases c1:r<2
   ·rw [if_pos c1,sz_low M r c1]
    unfold wrN
    rw [if_pos c1]
    by_cases c2:r=1
    ·rw [if_pos c2,if_pos c2]
     exact ad0 1 0 rfl s hg
    ·rw [if_neg c2,if_neg c2]
     exact ad0 0 0 rfl s hg
   rw [if_neg c1]
   unfold wrN
   rw [if_neg c1]
   obtain ⟨k,rfl⟩:∃ k,r=k+2:=⟨r - 2,by omega⟩
   rw [Nat.add_sub_cancel,sz_br]
   obtain ⟨_,q2,q3,_,_⟩:=ho k (by omega)
   have zl:=sz_at M (bl M k) k q2
   have zh:=sz_at M (bh M k) k q3
   have il:=fun t ht=>ex_main M ho n (bl M k) t (by omega) (by omega) ht
   have ih:=fun t ht=>ex_main M ho n (bh M k) t (by omega) (by omega) ht
   have pl:=sz_pos M (bl M k)
   have ph:=sz_pos M (bh M k)
   unfold szC
   rw [zl,zh]
   by_cases c2:bh M k=1∧bl M k=0
   ·rw [if_pos c2,if_pos c2,if_pos c2]
    obtain ⟨s',e,h⟩:=lit_ok (bv M k) true s hg
    exact ⟨s',e,h.cap⟩
   rw [if_neg c2,if_neg c2,if_neg c2]
   by_cases c3:bh M k=0∧bl M k=1
   ·rw [if_pos c3,if_pos c3,if_pos c3]
    obtain ⟨s',e,h⟩:=lit_ok (bv M k) false s hg
    exact ⟨s',e,h.cap⟩
   rw [if_neg c3,if_neg c3,if_neg c3]
   by_cases c4:bl M k=0
   ·rw [if_pos c4,if_pos c4,if_pos c4]
    obtain ⟨s',e,h⟩:=jn_ok 4 rfl (bv M k) true _ (wrN M n (bh M k)) _ s hg ph ih
    rw [show litK true+sz M (bh M k)+1=2+sz M (bh M k) by unfold litK;simp;omega] at h
    exact ⟨s',e,h.cap⟩
   rw [if_neg c4,if_neg c4,if_neg c4]
   by_cases c5:bh M k=0
   ·rw [if_pos c5,if_pos c5,if_pos c5]
    obtain ⟨s',e,h⟩:=jn_ok 4 rfl (bv M k) false _ (wrN M n (bl M k)) _ s hg pl il
    rw [show litK false+sz M (bl M k)+1=3+sz M (bl M k) by unfold litK;simp;omega] at h
    exact ⟨s',e,h.cap⟩
   rw [if_neg c5,if_neg c5,if_neg c5]
   by_cases c6:bh M k=1
   ·rw [if_pos c6,if_pos c6,if_pos c6]
    obtain ⟨s',e,h⟩:=jn_ok 5 rfl (bv M k) true _ (wrN M n (bl M k)) _ s hg pl il
    rw [show litK true+sz M (bl M k)+1=2+sz M (bl M k) by unfold litK;simp;omega] at h
    exact ⟨s',e,h.cap⟩
   rw [if_neg c6,if_neg c6,if_neg c6]
   by_cases c7:bl M k=1
   ·rw [if_pos c7,if_pos c7,if_pos c7]
    obtain ⟨s',e,h⟩:=jn_ok 5 rfl (bv M k) false _ (wrN M n (bh M k)) _ s hg ph ih
    rw [show litK false+sz M (bh M k)+1=3+sz M (bh M k) by unfold litK;simp;omega] at h
    exact ⟨s',e,h.cap⟩
   rw [if_neg c7,if_neg c7,if_neg c7]
   obtain ⟨s1,e1,h1⟩:=jn_ok 4 rfl (bv M k) true _ (wrN M n (bh M k)) _ s hg ph ih
   obtain ⟨s2,e2,h2⟩:=jn_ok 4 rfl (bv M k) false _ (wrN M n (bl M k)) _ s1 h1.gz pl il
   obtain ⟨s3,e3,h3⟩:=ad2 5 0 rfl (by omega) (by omega) h1 h2
   have ek:litK true+sz M (bh M k)+1+(litK false+sz M (bl M k)+1)+1=sz M (bl M k)+sz M (bh M k)+6:=by unfold litK;simp;omega
   rw [ek] at h3
   refine ⟨s3,?_,(h3.of fun hl=>?_).cap⟩
   ·rw [e1]
    show (jnF 4 (bv M k) false (exF M n (bl M k)) s1).bind _=_
    rw [e2]
    exact e3
   ·have e:s1.1=jnW 4 (bv M k) true (wrN M n (bh M k)) s.1:=h1.eq (Nat.le_refl _) (by unfold litK;simp;omega)
    rw [e]
end Go.Proofs.YtpaednfinlaioaaGreatDoor
namespace Go.Proofs.YtpaednfinlaioaaGreatDoor
open Go.Lib (hid)
open Go.RowKit Dg St
set_option linter.unusedVariables false
set_option linter.unusedSimpArgs false
attribute [local go_sem ↓] Go.wp_at_zero Go.wp_at_succ
structure WoM (w:World) (B g:Nat) (vf:Value) (l:List Fi):Prop where
 cf:w.cell? ⟨g,2,none⟩=some vf
 ff:w.frozen? ⟨g,2,none⟩=false
 rf:w.ownsRow B 58 4 vf l.length (fiC l)
 gf:vf.ownBlock≠some g
 gb:B≤g
theorem WoM.lt {w:World} {B g:Nat} {vf:Value} {l:List Fi} (h:WoM w B g vf l):g<w.heap.size:=block_lt_of_cell (a:=⟨g,2,none⟩) h.cf
theorem WoM.keep {w w':World} {B g:Nat} {vf:Value} {l:List Fi} (h:WoM w B g vf l) (hb:Below w.heap.size w w'):WoM w' B g vf l:=by
 have hg:=h.lt
 refine ⟨(hb.cell (p:=⟨g,2,none⟩) hg).trans h.cf,(hb.frozen (p:=⟨g,2,none⟩) hg).trans h.ff,?_,h.gf,h.gb⟩
 exact h.rf.kept (row:=none) ⟨hb.os,hb.tape,hb.output,hb.size,fun k hk _=>hb.block k hk⟩ (by rcases h0:vf.ownBlock with _ | _ <;> simp)
structure WoE (w w':World) (B g:Nat) (vf vf':Value) (l:List Fi):Prop where
 m:WoM w' B g vf' l
 chg:Chg (fun k=>k=g∨vf.ownBlock=some k) w w'
 cel:∀ j,j≠2→w'.cell? ⟨g,j,none⟩=w.cell? ⟨g,j,none⟩
 frz:∀ j,w'.frozen? ⟨g,j,none⟩=w.frozen? ⟨g,j,none⟩
 obf:∀ k,vf'.ownBlock=some k→vf.ownBlock=some k∨w.heap.size≤k
section
variable {w w' w1 w2 w3 : World} {B g : Nat} {vf vf1 vf2 : Value} {l l1 l2 : List Fi}
theorem WoE.trans (h:WoE w w1 B g vf vf1 l1) (k:WoE w1 w2 B g vf1 vf2 l2):WoE w w2 B g vf vf2 l2:=by
 refine ⟨k.m,h.chg.trans k.chg ?_,fun j h1=>(k.cel j h1).trans (h.cel j h1),fun j=>(k.frz j).trans (h.frz j),?_⟩
 ·rintro j hj (e | e)
  ·exact .inl e
  ·rcases h.obf j e with q | q
   ·exact .inr q
   ·omega
 ·intro j e
  rcases k.obf j e with q | q
  ·exact h.obf j q
  ·have:=h.chg.size;exact .inr (by omega)
theorem WoE.same (h:WoM w B g vf l) (hb:Below w.heap.size w w'):WoE w w' B g vf vf l :=
 ⟨h.keep hb,Chg.of_below hb,fun j _=>hb.cell (p:=⟨g,j,none⟩) h.lt,fun j=>hb.frozen (p:=⟨g,j,none⟩) h.lt,fun _ e=>.inl e⟩
theorem WoM.node {gn cap:Nat} {x:Fi} (h:WoM w B g vf l) (hb:Below w.heap.size w w2) (hown:w3.ownsRow B 58 4 (.slice (some ⟨gn,0,none⟩) (l.length+1) cap) (l.length+1) (fiC l++c4 x)) (hgr:w2.grownBy w3 vf.ownBlock) (hat:vf.ownBlock=some gn∨w.heap.size≤gn) :
  WoE w (w3.setCell ⟨g,2,none⟩ (.slice (some ⟨gn,0,none⟩) (l.length+1) cap)) B g vf (.slice (some ⟨gn,0,none⟩) (l.length+1) cap) (l++[x]):=by
 have hg:=h.lt
 have hgn:gn≠g:=by
  rcases hat with e | e
  ·exact fun e2=>h.gf (by rw [e,e2])
  ·omega
 have far:∀ a:Addr,a.block<w.heap.size→some a.block≠vf.ownBlock→w3.cell? a=w.cell? a∧w3.frozen? a=w.frozen? a:=fun a ha hne =>
  ⟨(hgr.cell_far a (Nat.lt_of_lt_of_le ha hb.size) hne).trans (hb.cell ha),(hgr.frozen_far a (Nat.lt_of_lt_of_le ha hb.size) hne).trans (hb.frozen ha)⟩
 have fg:=fun j=>far ⟨g,j,none⟩ hg (Ne.symm h.gf)
 have hset:=grown_set w3 g 2 (.slice (some ⟨gn,0,none⟩) (l.length+1) cap)
 refine ⟨⟨World.cell?_setCell_same _ _ _ ((fg 2).1.trans h.cf),?_,?_,?_,h.gb⟩,?_,?_,?_,?_⟩
 ·rw [World.frozen?_setCell];exact (fg 2).2.trans h.ff
 ·rw [fiC_snoc,List.length_append]
  exact hown.kept hset (.inr (by simp [Value.ownBlock,hgn]))
 ·simp [Value.ownBlock,hgn]
 ·exact Chg.set ((Chg.of_below hb).trans (T:=fun k=>vf.ownBlock=some k) (Chg.of_grown hgr (fun k e=>e)) (fun j _ e=>.inr e)) (.inl rfl) _
 ·intro j h1
  rw [cell_set_off _ _ _ _ _ h1];exact (fg j).1
 ·intro j
  rw [World.frozen?_setCell];exact (fg j).2
 ·intro k e
  simp [Value.ownBlock] at e
  subst e
  exact hat
theorem WoE.below (h:WoM w B g vf l) (e:WoE w w' B g vf vf1 l1):Below B w w':=by
 refine e.chg.below (by have:=h.lt;have:=h.gb;omega) (fun k hk=>?_)
 rintro (e1 | e1)
 ·have:=h.gb;omega
 ·have:=(h.rf.lt k e1).1;omega
end
def WdO (w w':World) (B g:Nat) (vf:Value) (l:List Fi):Prop:=∃ vf',WoE w w' B g vf vf' l
theorem wdO_trans {w w1 w2:World} {B g:Nat} {vf vf1:Value} {l1 l2:List Fi} (h:WoE w w1 B g vf vf1 l1) (k:WdO w1 w2 B g vf1 l2):WdO w w2 B g vf l2:=by
 obtain ⟨vf2,hk⟩:=k
 exact ⟨vf2,h.trans hk⟩
theorem qput (B g n:Nat) (vf:Value) (p q r s:Int) (l:List Fi) (w:World) (h:Hid (WoM w B g vf l)) (hl:Hid (l.length=n)) (hn1:n≤512) :
  Calls Tryz.prog 81 #[.pointer (some ⟨g,0,none⟩),.agg #[.int .i64 p,.int .i64 q,.int .i64 r,.int .i64 s]] w fun e w'=>e=.returned (.int .i64 (n:Int))∧WdO w w' B g vf (l++[(p,q,r,s)]):=by
 obtain ⟨i0,hi,hz0,hz1,hz2⟩:=info_parts Tryz.infoFn
 have HSZ:Hid (B≤w.heap.size):=hid (by have:=h.out.lt;have:=h.out.gb;omega)
 have HB1:Hid (Below w.heap.size w (w.alloc (.cells #[.int .i64 p,.int .i64 q,.int .i64 r,.int .i64 s] 58))):=hid ((Below.refl _ _).alloc (Nat.le_refl _) _)
 obtain ⟨Af,cf,ef,hcf,_⟩:=own_form h.out.rf
 rw [hl.out] at ef
 subst ef
 have hbw:w.heap.size<(w.alloc (.cells #[.int .i64 p,.int .i64 q,.int .i64 r,.int .i64 s] 58)).heap.size:=by simp
 have HX:=hid (heap_alloc_new w (.cells #[.int .i64 p,.int .i64 q,.int .i64 r,.int .i64 s] 58))
 clear hcf
 go_enter Tryz.func81,Tryz.ntmps81
 go_upto_region 1 with fail
 have E2:=hid (WoE.same h.out HB1.out)
 generalize w.alloc (.cells #[.int .i64 p,.int .i64 q,.int .i64 r,.int .i64 s] 58)=w1 at *
 generalize hb:w.heap.size=b at *
 have HL1:Hid (w.heap.size=b):=hid hb
 clear hb
 obtain ⟨u0,u1,u2,u3⟩:=bx4 HX.out
 have c0:=E2.out.m.cf
 have f0:=E2.out.m.ff
 have HO:Hid (w1.ownsRow B 58 4 (.slice Af n cf) n (fiC l)):=hid (by have:=E2.out.m.rf;rw [hl.out] at this;exact this)
 have hgl:=E2.out.m.lt
 have hgn:¬ g=w1.heap.size:=by omega
 have hbn:¬ b=w1.heap.size:=by omega
 have hsz2:B≤w1.heap.size:=by have:=HSZ.out;omega
 have hvg:(Value.slice Af n cf).ownBlock≠some g:=E2.out.m.gf
 go_region_law ((refine step_append_lies _ (by rfl) _ _ _ (by rfl) B 58 i0 _ 4 32 Tryz.underlying27 hi hz0 hz1 hz2 rfl (by omega) (.slice Af n cf) n (fiC l) (by rfl) (by first | exact HO.out.alloc_own _ | exact HO.out.alloc_own2 _) _ _ _ (c4 (p,q,r,s)) (by rfl) (by rfl) (World.news_of_block (heap_alloc_new _ _)) (by simp [c4,Value.oneCell']) (by omega) (by simp only [maxLen];omega) (by omega) (by simp;omega) _ rfl ?_;intro gn cap w4 hown hgrow hat hlt;have d1:=(hgrow.cell_far ⟨g,2,none⟩ (by simp;omega) (Ne.symm hvg)).trans (show _=some (Value.slice Af n cf) by go_simp);have e1:=(hgrow.frozen_far ⟨g,2,none⟩ (by simp;omega) (Ne.symm hvg)).trans (show _=false by go_simp)))
 all_goals
  have hE:=WoM.node E2.out.m (by first | exact ((Below.refl _ _).alloc (Nat.le_refl _) _).drew | exact (Below.refl _ _).drew.alloc (Nat.le_refl _) _) (by rw [hl.out];exact hown) hgrow (hat.imp id (fun e=>by rw [e];simp))
  rw [hl.out] at hE
  have E3:=hid (E2.out.trans hE)
  clear hE hown hgrow hat hlt d1 e1 c0 f0 u0 u1 u2 u3 HO
  generalize hw5:World.setCell _ ⟨g,2,none⟩ (.slice (some ⟨gn,0,none⟩) (n+1) cap)=w5 at *
  clear hw5
  have c1:=E3.out.m.cf
  go_wp2
  go_ret
  exact ⟨rfl,_,E3.out⟩
theorem litW_len (v:Nat) (b:Bool) (l:List Fi):(litW v b l).length=l.length+litK b:=by cases b <;> simp [litW,litK]
theorem qvar (B g v:Nat) (b:Bool) (vf:Value) (l:List Fi) (w:World) (h:Hid (WoM w B g vf l)) (hl:l.length+litK b≤512) :
  Calls Tryz.prog 82 #[.pointer (some ⟨g,0,none⟩),.int .i64 (v:Int),.bool b] w fun e w'=>e=.returned (.int .i64 (((litW v b l).length - 1:Nat):Int))∧WdO w w' B g vf (litW v b l):=by
 have HN:Hid ((litW v b l).length - 1=if b then l.length else l.length+1):=hid (by rw [litW_len];cases b <;> simp [litK])
 have HA:=hid (qput B g l.length vf 2 (v:Int) 0 0 l w h (hid rfl) (by unfold litK at hl;split at hl <;> omega))
 cases b
 ·have HB2:Hid (∀ (W:World) (vf1:Value),WoM W B g vf1 (l++[(2,(v:Int),0,0)])→Calls Tryz.prog 81 #[.pointer (some ⟨g,0,none⟩),.agg #[.int .i64 3,.int .i64 0,.int .i64 (l.length:Int),.int .i64 0]] W fun e w'=>e=.returned (.int .i64 ((l.length:Int)+1))∧WdO W w' B g vf1 (litW v false l)):=hid (fun W vf1 h1=>by
   have:=qput B g (l.length+1) vf1 3 0 (l.length:Int) 0 _ W (hid h1) (hid (by simp)) (show l.length+1≤512 by have h9:l.length+2≤512:=hl;omega)
   exact this)
  have HR:Hid ((((litW v false l).length - 1:Nat):Int)=(l.length:Int)+1):=hid (by rw [HN.out];simp)
  clear h hl HN
  generalize litW v false l=LW at *
  rw [HR.out]
  go_enter Tryz.func82,Tryz.ntmps82
  go_wp2_with fail
  with_reducible refine HA.out.mono ?_
  rintro e w2 ⟨rfl,vf1,hE⟩
  have HC:=hid (HB2.out w2 vf1 hE.m)
  have HE:=hid hE
  clear hE HA HB2
  go_wp2_with fail
  with_reducible refine HC.out.mono ?_
  rintro e w3 ⟨rfl,hx⟩
  have HX:=hid (wdO_trans HE.out hx)
  clear hx HC
  go_wp2
  go_ret
  exact ⟨rfl,HX.out⟩
 ·have HR:Hid ((((litW v true l).length - 1:Nat):Int)=(l.length:Int)):=hid (by rw [HN.out];simp)
  rw [HR.out]
  clear h hl HN
  go_enter Tryz.func82,Tryz.ntmps82
  go_wp2_with fail
  with_reducible refine HA.out.mono ?_
  rintro e w2 ⟨rfl,hx⟩
  have HX:=hid hx
  clear hx HA
  go_wp2
  go_ret
  exact ⟨rfl,HX.out⟩
abbrev NuC (w0:World) (B g:Nat) (vn:Value) (F:List Fi→List Fi) (k r:Nat):Prop:=∀ (W:World) (vf:Value) (l:List Fi),Below B w0 W→WoM W B g vf l→W.cell? ⟨g,0,none⟩=some vn→l.length+k≤512 →
 Calls Tryz.prog 44 #[.pointer (some ⟨g,0,none⟩),.int .i64 (r:Int)] W fun e w'=>e=.returned (.int .i64 (((F l).length - 1:Nat):Int))∧WdO W w' B g vf (F l)
theorem qjoin (B g v r k:Nat) (op:Int) (b:Bool) (F:List Fi→List Fi) (vn vf:Value) (l:List Fi) (w0 w:World) (hb:Hid (Below B w0 w)) (h:Hid (WoM w B g vf l)) (hc:Hid (w.cell? ⟨g,0,none⟩=some vn)) (hl:l.length+(litK b+k+1)≤512)
  (hF:Hid (∀ l,l.length+k≤512→(F l).length=l.length+k)) (HX:Hid (NuC w0 B g vn F k r)) :
  Calls Tryz.prog 83 #[.pointer (some ⟨g,0,none⟩),.int .i64 op,.int .i64 (v:Int),.bool b,.int .i64 (r:Int)] w fun e w'=>e=.returned (.int .i64 (((jnW op v b F l).length - 1:Nat):Int))∧WdO w w' B g vf (jnW op v b F l):=by
 have hll:=litW_len v b l
 have hfl:=hF.out (litW v b l) (by rw [hll];omega)
 have HA:=hid (qvar B g v b vf l w h (by omega))
 have HD:Hid (∀ (W:World) (vf1:Value),WoM W B g vf1 (F (litW v b l))→Calls Tryz.prog 81 #[.pointer (some ⟨g,0,none⟩),.agg #[.int .i64 op,.int .i64 0,.int .i64 (((litW v b l).length - 1:Nat):Int),.int .i64 (((F (litW v b l)).length - 1:Nat):Int)]] W fun e w'=>e=.returned (.int .i64 ((F (litW v b l)).length:Int))∧WdO W w' B g vf1 (jnW op v b F l)):=hid (fun W vf1 h1=>by
  have:=qput B g (F (litW v b l)).length vf1 op 0 (((litW v b l).length - 1:Nat):Int) (((F (litW v b l)).length - 1:Nat):Int) _ W (hid h1) (hid rfl) (by omega)
  exact this)
 have HC:Hid (∀ (W:World) (vf1:Value),Below B w0 W→WoM W B g vf1 (litW v b l)→W.cell? ⟨g,0,none⟩=some vn→Calls Tryz.prog 44 #[.pointer (some ⟨g,0,none⟩),.int .i64 (r:Int)] W fun e w'=>e=.returned (.int .i64 (((F (litW v b l)).length - 1:Nat):Int))∧WdO W w' B g vf1 (F (litW v b l))):=hid (fun W vf1 h1 h2 h3=>HX.out W vf1 _ h1 h2 h3 (by omega))
 have HR:Hid ((((jnW op v b F l).length - 1:Nat):Int)=((F (litW v b l)).length:Int)):=hid (by unfold jnW;simp)
 rw [HR.out]
 clear HX hll hfl hF hl
 generalize jnW op v b F l=J at *
 generalize F (litW v b l)=FL at *
 generalize litW v b l=LW at *
 generalize (((LW.length - 1:Nat)):Int)=x1 at *
 generalize (((FL.length - 1:Nat)):Int)=x2 at *
 generalize ((FL.length:Nat):Int)=x3 at *
 go_enter Tryz.func83,Tryz.ntmps83
 go_wp2_with fail
 with_reducible refine HA.out.mono ?_
 rintro e w2 ⟨rfl,vf1,hE⟩
 have HC2:=hid (HC.out w2 vf1 (hb.out.trans (hE.below h.out)) hE.m ((hE.cel 0 (by omega)).trans hc.out))
 have HE:=hid hE
 clear hE HA HC
 go_wp2_with fail
 with_reducible refine HC2.out.mono ?_
 rintro e w3 ⟨rfl,vf2,hE2⟩
 have HD2:=hid (HD.out w3 vf2 hE2.m)
 have HEE:=hid (HE.out.trans hE2)
 clear hE2 HC2 HD
 go_wp2_with fail
 with_reducible refine HD2.out.mono ?_
 rintro e w4 ⟨rfl,hx⟩
 have HXX:=hid (wdO_trans HEE.out hx)
 clear hx HD2
 go_wp2
 go_ret
 exact ⟨rfl,HXX.out⟩
set_option linter.unusedVariables false
set_option linter.unusedSimpArgs false
attribute [local go_sem ↓] Go.wp_at_zero Go.wp_at_succ
theorem wrN_len (M:List (Nat × Nat × Nat)) (ho:Ord M) (n r:Nat) (l:List Fi) (hr:r<n) (hl:r<M.length+2) (h:l.length+sz M r≤512):(wrN M n r l).length=l.length+sz M r:=by
 obtain ⟨s',_,hs⟩:=ex_main M ho n r (l,List.replicate l.length 0) hr hl (fun _=>by simp)
 rcases hs with ⟨_,b,c,_⟩ | ⟨a,_⟩
 ·rw [← b,c]
 ·exact absurd h (by simp only at a;omega)
theorem WoE.mk0 {w w':World} {B g:Nat} {vf:Value} {l:List Fi} (h:WoM w B g vf l) (o:Obj):WoE w (w.alloc o) B g vf vf l:=WoE.same h ((Below.refl _ _).alloc (Nat.le_refl _) o)
theorem qnum_low (B g n r:Nat) (vn:Value) (M:List Br) (w0:World) (h2:r<2):NuC w0 B g vn (wrN M (n+1) r) (sz M r) r:=by
 intro w vf l hb hp hc hlen
 rw [sz_low M r h2] at hlen
 have eF:wrN M (n+1) r l=l++[(if r=1 then 1 else 0,0,0,0)]:=by
  show (if r<2 then _ else _)=_
  rw [if_pos h2]
 rw [eF]
 have HR:Hid ((((l++[((if r=1 then (1:Int) else 0),(0:Int),(0:Int),(0:Int))]).length - 1:Nat):Int)=(l.length:Int)):=hid (by simp)
 rw [HR.out]
 have E1:=hid (WoE.mk0 (w':=w) hp (.cells #[.int .i64 0,.int .i64 1] 3))
 have HA:=hid (qput B g l.length vf (if r=1 then 1 else 0) 0 0 0 l (w.alloc (.cells #[.int .i64 0,.int .i64 1] 3)) (hid E1.out.m) (hid rfl) (by omega))
 clear hb hp hc eF HR
 rcases (show r=0∨r=1 by omega) with rfl | rfl
 ·rw [if_neg (by omega)] at HA ⊢
  go_enter Tryz.func44,Tryz.ntmps44
  go_wp2_with fail
  with_reducible refine HA.out.mono ?_
  rintro e w2 ⟨rfl,hx⟩
  have HX:=hid (wdO_trans E1.out hx)
  clear hx HA
  go_wp2
  go_ret
  exact ⟨rfl,HX.out⟩
 ·rw [if_pos rfl] at HA ⊢
  go_enter Tryz.func44,Tryz.ntmps44
  go_wp2_with fail
  with_reducible refine HA.out.mono ?_
  rintro e w2 ⟨rfl,hx⟩
  have HX:=hid (wdO_trans E1.out hx)
  clear hx HA
  go_wp2
  go_ret
  exact ⟨rfl,HX.out⟩
theorem qnum_10 (B g m c:Nat) (A:Option Addr) (M:List Br) (n k:Nat) (w0:World) (hrd:Hid (Rd w0 B A (up M))) (hml:Hid (M.length=m)) (hm:m≤1000000) (hkm:k<m) (q2:bl M k<k+2) (q3:bh M k<k+2) (hh:bh M k=1) (hl:bl M k=0) (hsz:sz M (k+2)≤512) :
  NuC w0 B g (.slice A m c) (wrN M (n+1) (k+2)) (sz M (k+2)) (k+2):=by
 intro w vf l hb hp hc hlen
 have eF:wrN M (n+1) (k+2) l =
   if bh M k=1∧bl M k=0 then litW (bv M k) true l else
   if bh M k=0∧bl M k=1 then litW (bv M k) false l else
   if bl M k=0 then jnW 4 (bv M k) true (wrN M n (bh M k)) l else
   if bh M k=0 then jnW 4 (bv M k) false (wrN M n (bl M k)) l else
   if bh M k=1 then jnW 5 (bv M k) true (wrN M n (bl M k)) l else
   if bl M k=1 then jnW 5 (bv M k) false (wrN M n (bh M k)) l else
   jnW 4 (bv M k) false (wrN M n (bl M k)) (jnW 4 (bv M k) true (wrN M n (bh M k)) l) ++
    [(5,0,(((jnW 4 (bv M k) true (wrN M n (bh M k)) l).length - 1:Nat):Int),(((jnW 4 (bv M k) false (wrN M n (bl M k)) (jnW 4 (bv M k) true (wrN M n (bh M k)) l)).length - 1:Nat):Int))]:=by
  show (if k+2<2 then _ else _)=_
  rw [if_neg (by omega),Nat.add_sub_cancel]
 have eS:=sz_br M k
 unfold szC at eS
 rw [sz_at M (bl M k) k q2,sz_at M (bh M k) k q3] at eS
 rw [eF]
 clear eF
 obtain ⟨b,o,eA,hbB,hcl⟩:=(hrd.out.below hb) (by rw [up_len,hml.out];omega)
 subst eA
 obtain ⟨d0,d1,d2⟩:=hcl k (by rw [up_len,hml.out];exact hkm)
 rw [iv_up] at d0
 rw [il_up] at d1
 rw [ih_up] at d2
 clear hcl
 generalize sz M (k+2)=SZ at *
 generalize sz M (bh M k)=ZH at *
 generalize sz M (bl M k)=ZL at *
 generalize wrN M n (bh M k)=FH at *
 generalize wrN M n (bl M k)=FL at *
 generalize bv M k=V at *
 generalize bl M k=LL at *
 generalize bh M k=HH at *
 have hc1:¬ (HH=1∧LL=0)∨(HH=1∧LL=0):=by omega
 rw [if_pos (by omega)] at eS ⊢
 clear hc1
 have bh0:((HH:Int) == 0)=false:=beq_eq_false_iff_ne.2 (by omega)
 have bl0:((LL:Int) == 0)=true:=beq_iff_eq.2 (by omega)
 have bh1:((HH:Int) == 1)=true:=beq_iff_eq.2 (by omega)
 have bl1:((LL:Int) == 1)=false:=beq_eq_false_iff_ne.2 (by omega)
 have ih2:(HH:Int)<2:=by omega
 have il2:(LL:Int)<2:=by omega
 have i0:¬ ((k:Int)+2)<2:=by omega
 have i1:(0:Int)≤(k:Int):=by omega
 have i2:(k:Int)<(m:Int):=by omega
 have HP:=hid hp
 have HC:=hid hc
 have HB:=hid hb
 have HSS:=hid eS
 have HLN:=hid hlen
 have HSL:=hid hsz
 have HGW:Hid (g<w.heap.size):=hid hp.lt
 clear hh hl eS hlen hsz hp hb hkm q2 q3 hml
 obtain ⟨ix,HIX⟩:∃ ix:Int,Hid ((((litW V true l).length - 1:Nat):Int)=ix):=⟨_,hid rfl⟩
 rw [HIX.out]
 go_enter Tryz.func44,Tryz.ntmps44
 go_upto_region 4 with fail
 have E1:=hid (WoE.mk0 (w':=w) HP.out (.cells #[.int .i64 (V:Int),.int .i64 (LL:Int),.int .i64 (HH:Int)] 80))
 have HB1:=hid (HB.out.trans (E1.out.below HP.out))
 have HC1:=hid ((E1.out.cel 0 (by omega)).trans HC.out)
 have HX:=hid (heap_alloc_new w (.cells #[.int .i64 (V:Int),.int .i64 (LL:Int),.int .i64 (HH:Int)] 80))
 have HNG:Hid (w.heap.size≠g):=hid (by have:=HGW.out;omega)
 have HNF:Hid (vf.ownBlock≠some w.heap.size):=hid (fun e=>by have:=(HP.out.rf.lt _ e).2;omega)
 clear hc d0 d1 d2
 generalize w.alloc (.cells #[.int .i64 (V:Int),.int .i64 (LL:Int),.int .i64 (HH:Int)] 80)=w1 at *
 have x0:w1.cell? ⟨w.heap.size,0,none⟩=some (.int .i64 (V:Int)):=by rw [cell_of_row _ _ 0 _ _ _ HX.out];rfl
 have x1:w1.cell? ⟨w.heap.size,1,none⟩=some (.int .i64 (LL:Int)):=by rw [cell_of_row _ _ 1 _ _ _ HX.out];rfl
 have x2:w1.cell? ⟨w.heap.size,2,none⟩=some (.int .i64 (HH:Int)):=by rw [cell_of_row _ _ 2 _ _ _ HX.out];rfl
 have HK:=hid (qvar B g V true vf l w1 (hid E1.out.m) (by have:=HLN.out;have:=HSS.out;have:=HSL.out;unfold litK;simp;omega))
 rw [HIX.out] at HK
 go_wp2_with fail
 with_reducible refine HK.out.mono ?_
 rintro e w2 ⟨rfl,hx⟩
 have HR:=hid (wdO_trans (l1:=l) E1.out hx)
 clear hx HK
 go_wp2
 go_ret
 exact ⟨rfl,HR.out⟩
theorem qnum_01 (B g m c:Nat) (A:Option Addr) (M:List Br) (n k:Nat) (w0:World) (hrd:Hid (Rd w0 B A (up M))) (hml:Hid (M.length=m)) (hm:m≤1000000) (hkm:k<m) (q2:bl M k<k+2) (q3:bh M k<k+2) (hh:bh M k=0) (hl:bl M k=1) (hsz:sz M (k+2)≤512) :
  NuC w0 B g (.slice A m c) (wrN M (n+1) (k+2)) (sz M (k+2)) (k+2):=by
 intro w vf l hb hp hc hlen
 have eF:wrN M (n+1) (k+2) l =
   if bh M k=1∧bl M k=0 then litW (bv M k) true l else
   if bh M k=0∧bl M k=1 then litW (bv M k) false l else
   if bl M k=0 then jnW 4 (bv M k) true (wrN M n (bh M k)) l else
   if bh M k=0 then jnW 4 (bv M k) false (wrN M n (bl M k)) l else
   if bh M k=1 then jnW 5 (bv M k) true (wrN M n (bl M k)) l else
   if bl M k=1 then jnW 5 (bv M k) false (wrN M n (bh M k)) l else
   jnW 4 (bv M k) false (wrN M n (bl M k)) (jnW 4 (bv M k) true (wrN M n (bh M k)) l) ++
    [(5,0,(((jnW 4 (bv M k) true (wrN M n (bh M k)) l).length - 1:Nat):Int),(((jnW 4 (bv M k) false (wrN M n (bl M k)) (jnW 4 (bv M k) true (wrN M n (bh M k)) l)).length - 1:Nat):Int))]:=by
  show (if k+2<2 then _ else _)=_
  rw [if_neg (by omega),Nat.add_sub_cancel]
 have eS:=sz_br M k
 unfold szC at eS
 rw [sz_at M (bl M k) k q2,sz_at M (bh M k) k q3] at eS
 rw [eF]
 clear eF
 obtain ⟨b,o,eA,hbB,hcl⟩:=(hrd.out.below hb) (by rw [up_len,hml.out];omega)
 subst eA
 obtain ⟨d0,d1,d2⟩:=hcl k (by rw [up_len,hml.out];exact hkm)
 rw [iv_up] at d0
 rw [il_up] at d1
 rw [ih_up] at d2
 clear hcl
 generalize sz M (k+2)=SZ at *
 generalize sz M (bh M k)=ZH at *
 generalize sz M (bl M k)=ZL at *
 generalize wrN M n (bh M k)=FH at *
 generalize wrN M n (bl M k)=FL at *
 generalize bv M k=V at *
 generalize bl M k=LL at *
 generalize bh M k=HH at *
 have hc1:¬ (HH=1∧LL=0)∨(HH=1∧LL=0):=by omega
 rw [if_neg (by omega),if_pos (by omega)] at eS ⊢
 clear hc1
 have bh0:((HH:Int) == 0)=true:=beq_iff_eq.2 (by omega)
 have bl0:((LL:Int) == 0)=false:=beq_eq_false_iff_ne.2 (by omega)
 have bh1:((HH:Int) == 1)=false:=beq_eq_false_iff_ne.2 (by omega)
 have bl1:((LL:Int) == 1)=true:=beq_iff_eq.2 (by omega)
 have ih2:(HH:Int)<2:=by omega
 have il2:(LL:Int)<2:=by omega
 have i0:¬ ((k:Int)+2)<2:=by omega
 have i1:(0:Int)≤(k:Int):=by omega
 have i2:(k:Int)<(m:Int):=by omega
 have HP:=hid hp
 have HC:=hid hc
 have HB:=hid hb
 have HSS:=hid eS
 have HLN:=hid hlen
 have HSL:=hid hsz
 have HGW:Hid (g<w.heap.size):=hid hp.lt
 clear hh hl eS hlen hsz hp hb hkm q2 q3 hml
 obtain ⟨ix,HIX⟩:∃ ix:Int,Hid ((((litW V false l).length - 1:Nat):Int)=ix):=⟨_,hid rfl⟩
 rw [HIX.out]
 go_enter Tryz.func44,Tryz.ntmps44
 go_upto_region 4 with fail
 have E1:=hid (WoE.mk0 (w':=w) HP.out (.cells #[.int .i64 (V:Int),.int .i64 (LL:Int),.int .i64 (HH:Int)] 80))
 have HB1:=hid (HB.out.trans (E1.out.below HP.out))
 have HC1:=hid ((E1.out.cel 0 (by omega)).trans HC.out)
 have HX:=hid (heap_alloc_new w (.cells #[.int .i64 (V:Int),.int .i64 (LL:Int),.int .i64 (HH:Int)] 80))
 have HNG:Hid (w.heap.size≠g):=hid (by have:=HGW.out;omega)
 have HNF:Hid (vf.ownBlock≠some w.heap.size):=hid (fun e=>by have:=(HP.out.rf.lt _ e).2;omega)
 clear hc d0 d1 d2
 generalize w.alloc (.cells #[.int .i64 (V:Int),.int .i64 (LL:Int),.int .i64 (HH:Int)] 80)=w1 at *
 have x0:w1.cell? ⟨w.heap.size,0,none⟩=some (.int .i64 (V:Int)):=by rw [cell_of_row _ _ 0 _ _ _ HX.out];rfl
 have x1:w1.cell? ⟨w.heap.size,1,none⟩=some (.int .i64 (LL:Int)):=by rw [cell_of_row _ _ 1 _ _ _ HX.out];rfl
 have x2:w1.cell? ⟨w.heap.size,2,none⟩=some (.int .i64 (HH:Int)):=by rw [cell_of_row _ _ 2 _ _ _ HX.out];rfl
 have HK:=hid (qvar B g V false vf l w1 (hid E1.out.m) (by have:=HLN.out;have:=HSS.out;have:=HSL.out;unfold litK;simp;omega))
 rw [HIX.out] at HK
 go_wp2_with fail
 with_reducible refine HK.out.mono ?_
 rintro e w2 ⟨rfl,hx⟩
 have HR:=hid (wdO_trans (l1:=l) E1.out hx)
 clear hx HK
 go_wp2
 go_ret
 exact ⟨rfl,HR.out⟩
theorem qnum_x0 (B g m c:Nat) (A:Option Addr) (M:List Br) (n k:Nat) (w0:World) (hrd:Hid (Rd w0 B A (up M))) (hml:Hid (M.length=m)) (hm:m≤1000000) (hkm:k<m) (q2:bl M k<k+2) (q3:bh M k<k+2) (hh0:bh M k≠0) (hh1:bh M k≠1) (hl:bl M k=0) (hsz:sz M (k+2)≤512) (HXH:Hid (NuC w0 B g (.slice A m c) (wrN M n (bh M k)) (sz M (bh M k)) (bh M k))) (HLH:Hid (∀ l,l.length+sz M (bh M k)≤512→(wrN M n (bh M k) l).length=l.length+sz M (bh M k))) :
  NuC w0 B g (.slice A m c) (wrN M (n+1) (k+2)) (sz M (k+2)) (k+2):=by
 intro w vf l hb hp hc hlen
 have eF:wrN M (n+1) (k+2) l =
   if bh M k=1∧bl M k=0 then litW (bv M k) true l else
   if bh M k=0∧bl M k=1 then litW (bv M k) false l else
   if bl M k=0 then jnW 4 (bv M k) true (wrN M n (bh M k)) l else
   if bh M k=0 then jnW 4 (bv M k) false (wrN M n (bl M k)) l else
   if bh M k=1 then jnW 5 (bv M k) true (wrN M n (bl M k)) l else
   if bl M k=1 then jnW 5 (bv M k) false (wrN M n (bh M k)) l else
   jnW 4 (bv M k) false (wrN M n (bl M k)) (jnW 4 (bv M k) true (wrN M n (bh M k)) l) ++
    [(5,0,(((jnW 4 (bv M k) true (wrN M n (bh M k)) l).length - 1:Nat):Int),(((jnW 4 (bv M k) false (wrN M n (bl M k)) (jnW 4 (bv M k) true (wrN M n (bh M k)) l)).length - 1:Nat):Int))]:=by
  show (if k+2<2 then _ else _)=_
  rw [if_neg (by omega),Nat.add_sub_cancel]
 have eS:=sz_br M k
 unfold szC at eS
 rw [sz_at M (bl M k) k q2,sz_at M (bh M k) k q3] at eS
 rw [eF]
 clear eF
 obtain ⟨b,o,eA,hbB,hcl⟩:=(hrd.out.below hb) (by rw [up_len,hml.out];omega)
 subst eA
 obtain ⟨d0,d1,d2⟩:=hcl k (by rw [up_len,hml.out];exact hkm)
 rw [iv_up] at d0
 rw [il_up] at d1
 rw [ih_up] at d2
 clear hcl
 generalize sz M (k+2)=SZ at *
 generalize sz M (bh M k)=ZH at *
 generalize sz M (bl M k)=ZL at *
 generalize wrN M n (bh M k)=FH at *
 generalize wrN M n (bl M k)=FL at *
 generalize bv M k=V at *
 generalize bl M k=LL at *
 generalize bh M k=HH at *
 have hc1:¬ (HH=1∧LL=0)∨(HH=1∧LL=0):=by omega
 rw [if_neg (by omega),if_neg (by omega),if_pos (by omega)] at eS ⊢
 clear hc1
 have bh0:((HH:Int) == 0)=false:=beq_eq_false_iff_ne.2 (by omega)
 have bl0:((LL:Int) == 0)=true:=beq_iff_eq.2 (by omega)
 have bh1:((HH:Int) == 1)=false:=beq_eq_false_iff_ne.2 (by omega)
 have bl1:((LL:Int) == 1)=false:=beq_eq_false_iff_ne.2 (by omega)
 have ih2:¬ (HH:Int)<2:=by omega
 have il2:(LL:Int)<2:=by omega
 have i0:¬ ((k:Int)+2)<2:=by omega
 have i1:(0:Int)≤(k:Int):=by omega
 have i2:(k:Int)<(m:Int):=by omega
 have HP:=hid hp
 have HC:=hid hc
 have HB:=hid hb
 have HSS:=hid eS
 have HLN:=hid hlen
 have HSL:=hid hsz
 have HGW:Hid (g<w.heap.size):=hid hp.lt
 clear hh0 hh1 hl eS hlen hsz hp hb hkm q2 q3 hml
 obtain ⟨ix,HIX⟩:∃ ix:Int,Hid ((((jnW 4 V true FH l).length - 1:Nat):Int)=ix):=⟨_,hid rfl⟩
 rw [HIX.out]
 go_enter Tryz.func44,Tryz.ntmps44
 go_upto_region 4 with fail
 have E1:=hid (WoE.mk0 (w':=w) HP.out (.cells #[.int .i64 (V:Int),.int .i64 (LL:Int),.int .i64 (HH:Int)] 80))
 have HB1:=hid (HB.out.trans (E1.out.below HP.out))
 have HC1:=hid ((E1.out.cel 0 (by omega)).trans HC.out)
 have HX:=hid (heap_alloc_new w (.cells #[.int .i64 (V:Int),.int .i64 (LL:Int),.int .i64 (HH:Int)] 80))
 have HNG:Hid (w.heap.size≠g):=hid (by have:=HGW.out;omega)
 have HNF:Hid (vf.ownBlock≠some w.heap.size):=hid (fun e=>by have:=(HP.out.rf.lt _ e).2;omega)
 clear hc d0 d1 d2
 generalize w.alloc (.cells #[.int .i64 (V:Int),.int .i64 (LL:Int),.int .i64 (HH:Int)] 80)=w1 at *
 have x0:w1.cell? ⟨w.heap.size,0,none⟩=some (.int .i64 (V:Int)):=by rw [cell_of_row _ _ 0 _ _ _ HX.out];rfl
 have x1:w1.cell? ⟨w.heap.size,1,none⟩=some (.int .i64 (LL:Int)):=by rw [cell_of_row _ _ 1 _ _ _ HX.out];rfl
 have x2:w1.cell? ⟨w.heap.size,2,none⟩=some (.int .i64 (HH:Int)):=by rw [cell_of_row _ _ 2 _ _ _ HX.out];rfl
 have HK:=hid (qjoin B g V HH ZH 4 true FH (.slice (some ⟨b,o,none⟩) m c) vf l w0 w1 HB1 (hid E1.out.m) HC1 (by have:=HLN.out;have:=HSS.out;have:=HSL.out;unfold litK;simp;omega) HLH HXH)
 rw [HIX.out] at HK
 go_wp2_with fail
 with_reducible refine HK.out.mono ?_
 rintro e w2 ⟨rfl,hx⟩
 have HR:=hid (wdO_trans (l1:=l) E1.out hx)
 clear hx HK
 go_wp2
 go_ret
 exact ⟨rfl,HR.out⟩
theorem qnum_0x (B g m c:Nat) (A:Option Addr) (M:List Br) (n k:Nat) (w0:World) (hrd:Hid (Rd w0 B A (up M))) (hml:Hid (M.length=m)) (hm:m≤1000000) (hkm:k<m) (q2:bl M k<k+2) (q3:bh M k<k+2) (hh:bh M k=0) (hl0:bl M k≠0) (hl1:bl M k≠1) (hsz:sz M (k+2)≤512) (HXL:Hid (NuC w0 B g (.slice A m c) (wrN M n (bl M k)) (sz M (bl M k)) (bl M k))) (HLL:Hid (∀ l,l.length+sz M (bl M k)≤512→(wrN M n (bl M k) l).length=l.length+sz M (bl M k))) :
  NuC w0 B g (.slice A m c) (wrN M (n+1) (k+2)) (sz M (k+2)) (k+2):=by
 intro w vf l hb hp hc hlen
 have eF:wrN M (n+1) (k+2) l =
   if bh M k=1∧bl M k=0 then litW (bv M k) true l else
   if bh M k=0∧bl M k=1 then litW (bv M k) false l else
   if bl M k=0 then jnW 4 (bv M k) true (wrN M n (bh M k)) l else
   if bh M k=0 then jnW 4 (bv M k) false (wrN M n (bl M k)) l else
   if bh M k=1 then jnW 5 (bv M k) true (wrN M n (bl M k)) l else
   if bl M k=1 then jnW 5 (bv M k) false (wrN M n (bh M k)) l else
   jnW 4 (bv M k) false (wrN M n (bl M k)) (jnW 4 (bv M k) true (wrN M n (bh M k)) l) ++
    [(5,0,(((jnW 4 (bv M k) true (wrN M n (bh M k)) l).length - 1:Nat):Int),(((jnW 4 (bv M k) false (wrN M n (bl M k)) (jnW 4 (bv M k) true (wrN M n (bh M k)) l)).length - 1:Nat):Int))]:=by
  show (if k+2<2 then _ else _)=_
  rw [if_neg (by omega),Nat.add_sub_cancel]
 have eS:=sz_br M k
 unfold szC at eS
 rw [sz_at M (bl M k) k q2,sz_at M (bh M k) k q3] at eS
 rw [eF]
 clear eF
 obtain ⟨b,o,eA,hbB,hcl⟩:=(hrd.out.below hb) (by rw [up_len,hml.out];omega)
 subst eA
 obtain ⟨d0,d1,d2⟩:=hcl k (by rw [up_len,hml.out];exact hkm)
 rw [iv_up] at d0
 rw [il_up] at d1
 rw [ih_up] at d2
 clear hcl
 generalize sz M (k+2)=SZ at *
 generalize sz M (bh M k)=ZH at *
 generalize sz M (bl M k)=ZL at *
 generalize wrN M n (bh M k)=FH at *
 generalize wrN M n (bl M k)=FL at *
 generalize bv M k=V at *
 generalize bl M k=LL at *
 generalize bh M k=HH at *
 have hc1:¬ (HH=1∧LL=0)∨(HH=1∧LL=0):=by omega
 rw [if_neg (by omega),if_neg (by omega),if_neg (by omega),if_pos (by omega)] at eS ⊢
 clear hc1
 have bh0:((HH:Int) == 0)=true:=beq_iff_eq.2 (by omega)
 have bl0:((LL:Int) == 0)=false:=beq_eq_false_iff_ne.2 (by omega)
 have bh1:((HH:Int) == 1)=false:=beq_eq_false_iff_ne.2 (by omega)
 have bl1:((LL:Int) == 1)=false:=beq_eq_false_iff_ne.2 (by omega)
 have ih2:(HH:Int)<2:=by omega
 have il2:¬ (LL:Int)<2:=by omega
 have i0:¬ ((k:Int)+2)<2:=by omega
 have i1:(0:Int)≤(k:Int):=by omega
 have i2:(k:Int)<(m:Int):=by omega
 have HP:=hid hp
 have HC:=hid hc
 have HB:=hid hb
 have HSS:=hid eS
 have HLN:=hid hlen
 have HSL:=hid hsz
 have HGW:Hid (g<w.heap.size):=hid hp.lt
 clear hh hl0 hl1 eS hlen hsz hp hb hkm q2 q3 hml
 obtain ⟨ix,HIX⟩:∃ ix:Int,Hid ((((jnW 4 V false FL l).length - 1:Nat):Int)=ix):=⟨_,hid rfl⟩
 rw [HIX.out]
 go_enter Tryz.func44,Tryz.ntmps44
 go_upto_region 4 with fail
 have E1:=hid (WoE.mk0 (w':=w) HP.out (.cells #[.int .i64 (V:Int),.int .i64 (LL:Int),.int .i64 (HH:Int)] 80))
 have HB1:=hid (HB.out.trans (E1.out.below HP.out))
 have HC1:=hid ((E1.out.cel 0 (by omega)).trans HC.out)
 have HX:=hid (heap_alloc_new w (.cells #[.int .i64 (V:Int),.int .i64 (LL:Int),.int .i64 (HH:Int)] 80))
 have HNG:Hid (w.heap.size≠g):=hid (by have:=HGW.out;omega)
 have HNF:Hid (vf.ownBlock≠some w.heap.size):=hid (fun e=>by have:=(HP.out.rf.lt _ e).2;omega)
 clear hc d0 d1 d2
 generalize w.alloc (.cells #[.int .i64 (V:Int),.int .i64 (LL:Int),.int .i64 (HH:Int)] 80)=w1 at *
 have x0:w1.cell? ⟨w.heap.size,0,none⟩=some (.int .i64 (V:Int)):=by rw [cell_of_row _ _ 0 _ _ _ HX.out];rfl
 have x1:w1.cell? ⟨w.heap.size,1,none⟩=some (.int .i64 (LL:Int)):=by rw [cell_of_row _ _ 1 _ _ _ HX.out];rfl
 have x2:w1.cell? ⟨w.heap.size,2,none⟩=some (.int .i64 (HH:Int)):=by rw [cell_of_row _ _ 2 _ _ _ HX.out];rfl
 have HK:=hid (qjoin B g V LL ZL 4 false FL (.slice (some ⟨b,o,none⟩) m c) vf l w0 w1 HB1 (hid E1.out.m) HC1 (by have:=HLN.out;have:=HSS.out;have:=HSL.out;unfold litK;simp;omega) HLL HXL)
 rw [HIX.out] at HK
 go_wp2_with fail
 with_reducible refine HK.out.mono ?_
 rintro e w2 ⟨rfl,hx⟩
 have HR:=hid (wdO_trans (l1:=l) E1.out hx)
 clear hx HK
 go_wp2
 go_ret
 exact ⟨rfl,HR.out⟩
theorem qnum_1x (B g m c:Nat) (A:Option Addr) (M:List Br) (n k:Nat) (w0:World) (hrd:Hid (Rd w0 B A (up M))) (hml:Hid (M.length=m)) (hm:m≤1000000) (hkm:k<m) (q2:bl M k<k+2) (q3:bh M k<k+2) (hh:bh M k=1) (hl0:bl M k≠0) (hl1:bl M k≠1) (hsz:sz M (k+2)≤512) (HXL:Hid (NuC w0 B g (.slice A m c) (wrN M n (bl M k)) (sz M (bl M k)) (bl M k))) (HLL:Hid (∀ l,l.length+sz M (bl M k)≤512→(wrN M n (bl M k) l).length=l.length+sz M (bl M k))) :
  NuC w0 B g (.slice A m c) (wrN M (n+1) (k+2)) (sz M (k+2)) (k+2):=by
 intro w vf l hb hp hc hlen
 have eF:wrN M (n+1) (k+2) l =
   if bh M k=1∧bl M k=0 then litW (bv M k) true l else
   if bh M k=0∧bl M k=1 then litW (bv M k) false l else
   if bl M k=0 then jnW 4 (bv M k) true (wrN M n (bh M k)) l else
   if bh M k=0 then jnW 4 (bv M k) false (wrN M n (bl M k)) l else
   if bh M k=1 then jnW 5 (bv M k) true (wrN M n (bl M k)) l else
   if bl M k=1 then jnW 5 (bv M k) false (wrN M n (bh M k)) l else
   jnW 4 (bv M k) false (wrN M n (bl M k)) (jnW 4 (bv M k) true (wrN M n (bh M k)) l) ++
    [(5,0,(((jnW 4 (bv M k) true (wrN M n (bh M k)) l).length - 1:Nat):Int),(((jnW 4 (bv M k) false (wrN M n (bl M k)) (jnW 4 (bv M k) true (wrN M n (bh M k)) l)).length - 1:Nat):Int))]:=by
  show (if k+2<2 then _ else _)=_
  rw [if_neg (by omega),Nat.add_sub_cancel]
 have eS:=sz_br M k
 unfold szC at eS
 rw [sz_at M (bl M k) k q2,sz_at M (bh M k) k q3] at eS
 rw [eF]
 clear eF
 obtain ⟨b,o,eA,hbB,hcl⟩:=(hrd.out.below hb) (by rw [up_len,hml.out];omega)
 subst eA
 obtain ⟨d0,d1,d2⟩:=hcl k (by rw [up_len,hml.out];exact hkm)
 rw [iv_up] at d0
 rw [il_up] at d1
 rw [ih_up] at d2
 clear hcl
 generalize sz M (k+2)=SZ at *
 generalize sz M (bh M k)=ZH at *
 generalize sz M (bl M k)=ZL at *
 generalize wrN M n (bh M k)=FH at *
 generalize wrN M n (bl M k)=FL at *
 generalize bv M k=V at *
 generalize bl M k=LL at *
 generalize bh M k=HH at *
 have hc1:¬ (HH=1∧LL=0)∨(HH=1∧LL=0):=by omega
 rw [if_neg (by omega),if_neg (by omega),if_neg (by omega),if_neg (by omega),if_pos (by omega)] at eS ⊢
 clear hc1
 have bh0:((HH:Int) == 0)=false:=beq_eq_false_iff_ne.2 (by omega)
 have bl0:((LL:Int) == 0)=false:=beq_eq_false_iff_ne.2 (by omega)
 have bh1:((HH:Int) == 1)=true:=beq_iff_eq.2 (by omega)
 have bl1:((LL:Int) == 1)=false:=beq_eq_false_iff_ne.2 (by omega)
 have ih2:(HH:Int)<2:=by omega
 have il2:¬ (LL:Int)<2:=by omega
 have i0:¬ ((k:Int)+2)<2:=by omega
 have i1:(0:Int)≤(k:Int):=by omega
 have i2:(k:Int)<(m:Int):=by omega
 have HP:=hid hp
 have HC:=hid hc
 have HB:=hid hb
 have HSS:=hid eS
 have HLN:=hid hlen
 have HSL:=hid hsz
 have HGW:Hid (g<w.heap.size):=hid hp.lt
 clear hh hl0 hl1 eS hlen hsz hp hb hkm q2 q3 hml
 obtain ⟨ix,HIX⟩:∃ ix:Int,Hid ((((jnW 5 V true FL l).length - 1:Nat):Int)=ix):=⟨_,hid rfl⟩
 rw [HIX.out]
 go_enter Tryz.func44,Tryz.ntmps44
 go_upto_region 4 with fail
 have E1:=hid (WoE.mk0 (w':=w) HP.out (.cells #[.int .i64 (V:Int),.int .i64 (LL:Int),.int .i64 (HH:Int)] 80))
 have HB1:=hid (HB.out.trans (E1.out.below HP.out))
 have HC1:=hid ((E1.out.cel 0 (by omega)).trans HC.out)
 have HX:=hid (heap_alloc_new w (.cells #[.int .i64 (V:Int),.int .i64 (LL:Int),.int .i64 (HH:Int)] 80))
 have HNG:Hid (w.heap.size≠g):=hid (by have:=HGW.out;omega)
 have HNF:Hid (vf.ownBlock≠some w.heap.size):=hid (fun e=>by have:=(HP.out.rf.lt _ e).2;omega)
 clear hc d0 d1 d2
 generalize w.alloc (.cells #[.int .i64 (V:Int),.int .i64 (LL:Int),.int .i64 (HH:Int)] 80)=w1 at *
 have x0:w1.cell? ⟨w.heap.size,0,none⟩=some (.int .i64 (V:Int)):=by rw [cell_of_row _ _ 0 _ _ _ HX.out];rfl
 have x1:w1.cell? ⟨w.heap.size,1,none⟩=some (.int .i64 (LL:Int)):=by rw [cell_of_row _ _ 1 _ _ _ HX.out];rfl
 have x2:w1.cell? ⟨w.heap.size,2,none⟩=some (.int .i64 (HH:Int)):=by rw [cell_of_row _ _ 2 _ _ _ HX.out];rfl
 have HK:=hid (qjoin B g V LL ZL 5 true FL (.slice (some ⟨b,o,none⟩) m c) vf l w0 w1 HB1 (hid E1.out.m) HC1 (by have:=HLN.out;have:=HSS.out;have:=HSL.out;unfold litK;simp;omega) HLL HXL)
 rw [HIX.out] at HK
 go_wp2_with fail
 with_reducible refine HK.out.mono ?_
 rintro e w2 ⟨rfl,hx⟩
 have HR:=hid (wdO_trans (l1:=l) E1.out hx)
 clear hx HK
 go_wp2
 go_ret
 exact ⟨rfl,HR.out⟩
theorem qnum_x1 (B g m c:Nat) (A:Option Addr) (M:List Br) (n k:Nat) (w0:World) (hrd:Hid (Rd w0 B A (up M))) (hml:Hid (M.length=m)) (hm:m≤1000000) (hkm:k<m) (q2:bl M k<k+2) (q3:bh M k<k+2) (hh0:bh M k≠0) (hh1:bh M k≠1) (hl:bl M k=1) (hsz:sz M (k+2)≤512) (HXH:Hid (NuC w0 B g (.slice A m c) (wrN M n (bh M k)) (sz M (bh M k)) (bh M k))) (HLH:Hid (∀ l,l.length+sz M (bh M k)≤512→(wrN M n (bh M k) l).length=l.length+sz M (bh M k))) :
  NuC w0 B g (.slice A m c) (wrN M (n+1) (k+2)) (sz M (k+2)) (k+2):=by
 intro w vf l hb hp hc hlen
 have eF:wrN M (n+1) (k+2) l =
   if bh M k=1∧bl M k=0 then litW (bv M k) true l else
   if bh M k=0∧bl M k=1 then litW (bv M k) false l else
   if bl M k=0 then jnW 4 (bv M k) true (wrN M n (bh M k)) l else
   if bh M k=0 then jnW 4 (bv M k) false (wrN M n (bl M k)) l else
   if bh M k=1 then jnW 5 (bv M k) true (wrN M n (bl M k)) l else
   if bl M k=1 then jnW 5 (bv M k) false (wrN M n (bh M k)) l else
   jnW 4 (bv M k) false (wrN M n (bl M k)) (jnW 4 (bv M k) true (wrN M n (bh M k)) l) ++
    [(5,0,(((jnW 4 (bv M k) true (wrN M n (bh M k)) l).length - 1:Nat):Int),(((jnW 4 (bv M k) false (wrN M n (bl M k)) (jnW 4 (bv M k) true (wrN M n (bh M k)) l)).length - 1:Nat):Int))]:=by
  show (if k+2<2 then _ else _)=_
  rw [if_neg (by omega),Nat.add_sub_cancel]
 have eS:=sz_br M k
 unfold szC at eS
 rw [sz_at M (bl M k) k q2,sz_at M (bh M k) k q3] at eS
 rw [eF]
 clear eF
 obtain ⟨b,o,eA,hbB,hcl⟩:=(hrd.out.below hb) (by rw [up_len,hml.out];omega)
 subst eA
 obtain ⟨d0,d1,d2⟩:=hcl k (by rw [up_len,hml.out];exact hkm)
 rw [iv_up] at d0
 rw [il_up] at d1
 rw [ih_up] at d2
 clear hcl
 generalize sz M (k+2)=SZ at *
 generalize sz M (bh M k)=ZH at *
 generalize sz M (bl M k)=ZL at *
 generalize wrN M n (bh M k)=FH at *
 generalize wrN M n (bl M k)=FL at *
 generalize bv M k=V at *
 generalize bl M k=LL at *
 generalize bh M k=HH at *
 have hc1:¬ (HH=1∧LL=0)∨(HH=1∧LL=0):=by omega
 rw [if_neg (by omega),if_neg (by omega),if_neg (by omega),if_neg (by omega),if_neg (by omega),if_pos (by omega)] at eS ⊢
 clear hc1
 have bh0:((HH:Int) == 0)=false:=beq_eq_false_iff_ne.2 (by omega)
 have bl0:((LL:Int) == 0)=false:=beq_eq_false_iff_ne.2 (by omega)
 have bh1:((HH:Int) == 1)=false:=beq_eq_false_iff_ne.2 (by omega)
 have bl1:((LL:Int) == 1)=true:=beq_iff_eq.2 (by omega)
 have ih2:¬ (HH:Int)<2:=by omega
 have il2:(LL:Int)<2:=by omega
 have i0:¬ ((k:Int)+2)<2:=by omega
 have i1:(0:Int)≤(k:Int):=by omega
 have i2:(k:Int)<(m:Int):=by omega
 have HP:=hid hp
 have HC:=hid hc
 have HB:=hid hb
 have HSS:=hid eS
 have HLN:=hid hlen
 have HSL:=hid hsz
 have HGW:Hid (g<w.heap.size):=hid hp.lt
 clear hh0 hh1 hl eS hlen hsz hp hb hkm q2 q3 hml
 obtain ⟨ix,HIX⟩:∃ ix:Int,Hid ((((jnW 5 V false FH l).length - 1:Nat):Int)=ix):=⟨_,hid rfl⟩
 rw [HIX.out]
 go_enter Tryz.func44,Tryz.ntmps44
 go_upto_region 4 with fail
 have E1:=hid (WoE.mk0 (w':=w) HP.out (.cells #[.int .i64 (V:Int),.int .i64 (LL:Int),.int .i64 (HH:Int)] 80))
 have HB1:=hid (HB.out.trans (E1.out.below HP.out))
 have HC1:=hid ((E1.out.cel 0 (by omega)).trans HC.out)
 have HX:=hid (heap_alloc_new w (.cells #[.int .i64 (V:Int),.int .i64 (LL:Int),.int .i64 (HH:Int)] 80))
 have HNG:Hid (w.heap.size≠g):=hid (by have:=HGW.out;omega)
 have HNF:Hid (vf.ownBlock≠some w.heap.size):=hid (fun e=>by have:=(HP.out.rf.lt _ e).2;omega)
 clear hc d0 d1 d2
 generalize w.alloc (.cells #[.int .i64 (V:Int),.int .i64 (LL:Int),.int .i64 (HH:Int)] 80)=w1 at *
 have x0:w1.cell? ⟨w.heap.size,0,none⟩=some (.int .i64 (V:Int)):=by rw [cell_of_row _ _ 0 _ _ _ HX.out];rfl
 have x1:w1.cell? ⟨w.heap.size,1,none⟩=some (.int .i64 (LL:Int)):=by rw [cell_of_row _ _ 1 _ _ _ HX.out];rfl
 have x2:w1.cell? ⟨w.heap.size,2,none⟩=some (.int .i64 (HH:Int)):=by rw [cell_of_row _ _ 2 _ _ _ HX.out];rfl
 have HK:=hid (qjoin B g V HH ZH 5 false FH (.slice (some ⟨b,o,none⟩) m c) vf l w0 w1 HB1 (hid E1.out.m) HC1 (by have:=HLN.out;have:=HSS.out;have:=HSL.out;unfold litK;simp;omega) HLH HXH)
 rw [HIX.out] at HK
 go_wp2_with fail
 with_reducible refine HK.out.mono ?_
 rintro e w2 ⟨rfl,hx⟩
 have HR:=hid (wdO_trans (l1:=l) E1.out hx)
 clear hx HK
 go_wp2
 go_ret
 exact ⟨rfl,HR.out⟩
theorem qnum_xx (B g m c:Nat) (A:Option Addr) (M:List Br) (n k:Nat) (w0:World) (hrd:Hid (Rd w0 B A (up M))) (hml:Hid (M.length=m)) (hm:m≤1000000) (hkm:k<m) (q2:bl M k<k+2) (q3:bh M k<k+2) (hh0:bh M k≠0) (hh1:bh M k≠1) (hl0:bl M k≠0) (hl1:bl M k≠1) (hsz:sz M (k+2)≤512) (HXH:Hid (NuC w0 B g (.slice A m c) (wrN M n (bh M k)) (sz M (bh M k)) (bh M k))) (HLH:Hid (∀ l,l.length+sz M (bh M k)≤512→(wrN M n (bh M k) l).length=l.length+sz M (bh M k))) (HXL:Hid (NuC w0 B g (.slice A m c) (wrN M n (bl M k)) (sz M (bl M k)) (bl M k))) (HLL:Hid (∀ l,l.length+sz M (bl M k)≤512→(wrN M n (bl M k) l).length=l.length+sz M (bl M k))) :
  NuC w0 B g (.slice A m c) (wrN M (n+1) (k+2)) (sz M (k+2)) (k+2):=by
 intro w vf l hb hp hc hlen
 have eF:wrN M (n+1) (k+2) l =
   if bh M k=1∧bl M k=0 then litW (bv M k) true l else
   if bh M k=0∧bl M k=1 then litW (bv M k) false l else
   if bl M k=0 then jnW 4 (bv M k) true (wrN M n (bh M k)) l else
   if bh M k=0 then jnW 4 (bv M k) false (wrN M n (bl M k)) l else
   if bh M k=1 then jnW 5 (bv M k) true (wrN M n (bl M k)) l else
   if bl M k=1 then jnW 5 (bv M k) false (wrN M n (bh M k)) l else
   jnW 4 (bv M k) false (wrN M n (bl M k)) (jnW 4 (bv M k) true (wrN M n (bh M k)) l) ++
    [(5,0,(((jnW 4 (bv M k) true (wrN M n (bh M k)) l).length - 1:Nat):Int),(((jnW 4 (bv M k) false (wrN M n (bl M k)) (jnW 4 (bv M k) true (wrN M n (bh M k)) l)).length - 1:Nat):Int))]:=by
  show (if k+2<2 then _ else _)=_
  rw [if_neg (by omega),Nat.add_sub_cancel]
 have eS:=sz_br M k
 unfold szC at eS
 rw [sz_at M (bl M k) k q2,sz_at M (bh M k) k q3] at eS
 rw [eF]
 clear eF
 obtain ⟨b,o,eA,hbB,hcl⟩:=(hrd.out.below hb) (by rw [up_len,hml.out];omega)
 subst eA
 obtain ⟨d0,d1,d2⟩:=hcl k (by rw [up_len,hml.out];exact hkm)
 rw [iv_up] at d0
 rw [il_up] at d1
 rw [ih_up] at d2
 clear hcl
 generalize sz M (k+2)=SZ at *
 generalize sz M (bh M k)=ZH at *
 generalize sz M (bl M k)=ZL at *
 generalize wrN M n (bh M k)=FH at *
 generalize wrN M n (bl M k)=FL at *
 generalize bv M k=V at *
 generalize bl M k=LL at *
 generalize bh M k=HH at *
 have hc1:¬ (HH=1∧LL=0)∨(HH=1∧LL=0):=by omega
 rw [if_neg (by omega),if_neg (by omega),if_neg (by omega),if_neg (by omega),if_neg (by omega),if_neg (by omega)] at eS ⊢
 clear hc1
 have bh0:((HH:Int) == 0)=false:=beq_eq_false_iff_ne.2 (by omega)
 have bl0:((LL:Int) == 0)=false:=beq_eq_false_iff_ne.2 (by omega)
 have bh1:((HH:Int) == 1)=false:=beq_eq_false_iff_ne.2 (by omega)
 have bl1:((LL:Int) == 1)=false:=beq_eq_false_iff_ne.2 (by omega)
 have ih2:¬ (HH:Int)<2:=by omega
 have il2:¬ (LL:Int)<2:=by omega
 have i0:¬ ((k:Int)+2)<2:=by omega
 have i1:(0:Int)≤(k:Int):=by omega
 have i2:(k:Int)<(m:Int):=by omega
 have HP:=hid hp
 have HC:=hid hc
 have HB:=hid hb
 have HSS:=hid eS
 have HLN:=hid hlen
 have HSL:=hid hsz
 have HGW:Hid (g<w.heap.size):=hid hp.lt
 clear hh0 hh1 hl0 hl1 eS hlen hsz hp hb hkm q2 q3 hml
 have HJ1:Hid ((jnW 4 V true FH l).length=l.length+(ZH+2)):=hid (by
  have h1:=litW_len V true l
  have h2:=HLH.out (litW V true l) (by rw [h1];have:=HLN.out;have:=HSS.out;have:=HSL.out;unfold litK;simp;omega)
  unfold jnW
  rw [List.length_append,h2,h1]
  unfold litK
  simp
  omega)
 have HJ2:Hid ((jnW 4 V false FL (jnW 4 V true FH l)).length=l.length+(ZH+ZL+5)):=hid (by
  have h1:=litW_len V false (jnW 4 V true FH l)
  have h2:=HLL.out (litW V false (jnW 4 V true FH l)) (by rw [h1,HJ1.out];have:=HLN.out;have:=HSS.out;have:=HSL.out;unfold litK;simp;omega)
  rw [show jnW 4 V false FL (jnW 4 V true FH l)=FL (litW V false (jnW 4 V true FH l))++_ from rfl,List.length_append,h2,h1,HJ1.out]
  unfold litK
  simp
  omega)
 have HK1:Hid (∀ (W:World) (vf1:Value),Below B w0 W→WoM W B g vf1 l→W.cell? ⟨g,0,none⟩=some (.slice (some ⟨b,o,none⟩) m c)→Calls Tryz.prog 83 #[.pointer (some ⟨g,0,none⟩),.int .i64 4,.int .i64 (V:Int),.bool true,.int .i64 (HH:Int)] W fun e w'=>e=.returned (.int .i64 (((jnW 4 V true FH l).length - 1:Nat):Int))∧WdO W w' B g vf1 (jnW 4 V true FH l)):=hid (fun W vf1 h1 h2 h3 =>
  qjoin B g V HH ZH 4 true FH (.slice (some ⟨b,o,none⟩) m c) vf1 l w0 W (hid h1) (hid h2) (hid h3) (by have:=HLN.out;have:=HSS.out;have:=HSL.out;unfold litK;simp;omega) HLH HXH)
 have HK2:Hid (∀ (W:World) (vf1:Value),Below B w0 W→WoM W B g vf1 (jnW 4 V true FH l)→W.cell? ⟨g,0,none⟩=some (.slice (some ⟨b,o,none⟩) m c)→Calls Tryz.prog 83 #[.pointer (some ⟨g,0,none⟩),.int .i64 4,.int .i64 (V:Int),.bool false,.int .i64 (LL:Int)] W fun e w'=>e=.returned (.int .i64 (((jnW 4 V false FL (jnW 4 V true FH l)).length - 1:Nat):Int))∧WdO W w' B g vf1 (jnW 4 V false FL (jnW 4 V true FH l))):=hid (fun W vf1 h1 h2 h3 =>
  qjoin B g V LL ZL 4 false FL (.slice (some ⟨b,o,none⟩) m c) vf1 _ w0 W (hid h1) (hid h2) (hid h3) (by rw [HJ1.out];have:=HLN.out;have:=HSS.out;have:=HSL.out;unfold litK;simp;omega) HLL HXL)
 have HK3:Hid (∀ (W:World) (vf1:Value),WoM W B g vf1 (jnW 4 V false FL (jnW 4 V true FH l))→Calls Tryz.prog 81 #[.pointer (some ⟨g,0,none⟩),.agg #[.int .i64 5,.int .i64 0,.int .i64 (((jnW 4 V true FH l).length - 1:Nat):Int),.int .i64 (((jnW 4 V false FL (jnW 4 V true FH l)).length - 1:Nat):Int)]] W fun e w'=>e=.returned (.int .i64 ((jnW 4 V false FL (jnW 4 V true FH l)).length:Int))∧WdO W w' B g vf1 (jnW 4 V false FL (jnW 4 V true FH l)++[(5,0,(((jnW 4 V true FH l).length - 1:Nat):Int),(((jnW 4 V false FL (jnW 4 V true FH l)).length - 1:Nat):Int))])):=hid (fun W vf1 h1 =>
  qput B g _ vf1 5 0 _ _ _ W (hid h1) (hid rfl) (by rw [HJ2.out];have:=HLN.out;have:=HSS.out;have:=HSL.out;omega))
 have HRR:Hid ((((jnW 4 V false FL (jnW 4 V true FH l)++[((5:Int),(0:Int),(((jnW 4 V true FH l).length - 1:Nat):Int),(((jnW 4 V false FL (jnW 4 V true FH l)).length - 1:Nat):Int))]).length - 1:Nat):Int)=((jnW 4 V false FL (jnW 4 V true FH l)).length:Int)):=hid (by simp)
 rw [HRR.out]
 clear HRR HJ1 HJ2 HXH HXL HLH HLL
 generalize jnW 4 V false FL (jnW 4 V true FH l)=J2 at *
 generalize jnW 4 V true FH l=J1 at *
 generalize ((J1.length - 1:Nat):Int)=y1 at *
 generalize ((J2.length - 1:Nat):Int)=y2 at *
 generalize ((J2.length:Nat):Int)=y3 at *
 go_enter Tryz.func44,Tryz.ntmps44
 go_upto_region 4 with fail
 have E1:=hid (WoE.mk0 (w':=w) HP.out (.cells #[.int .i64 (V:Int),.int .i64 (LL:Int),.int .i64 (HH:Int)] 80))
 have HB1:=hid (HB.out.trans (E1.out.below HP.out))
 have HC1:=hid ((E1.out.cel 0 (by omega)).trans HC.out)
 have HX:=hid (heap_alloc_new w (.cells #[.int .i64 (V:Int),.int .i64 (LL:Int),.int .i64 (HH:Int)] 80))
 have HNG:Hid (w.heap.size≠g):=hid (by have:=HGW.out;omega)
 have HNF:Hid (vf.ownBlock≠some w.heap.size):=hid (fun e=>by have:=(HP.out.rf.lt _ e).2;omega)
 clear hc d0 d1 d2
 generalize w.alloc (.cells #[.int .i64 (V:Int),.int .i64 (LL:Int),.int .i64 (HH:Int)] 80)=w1 at *
 have x0:w1.cell? ⟨w.heap.size,0,none⟩=some (.int .i64 (V:Int)):=by rw [cell_of_row _ _ 0 _ _ _ HX.out];rfl
 have x1:w1.cell? ⟨w.heap.size,1,none⟩=some (.int .i64 (LL:Int)):=by rw [cell_of_row _ _ 1 _ _ _ HX.out];rfl
 have x2:w1.cell? ⟨w.heap.size,2,none⟩=some (.int .i64 (HH:Int)):=by rw [cell_of_row _ _ 2 _ _ _ HX.out];rfl
 have HK:=hid (HK1.out w1 vf HB1.out E1.out.m HC1.out)
 go_wp2_with fail
 with_reducible refine HK.out.mono ?_
 rintro e w2 ⟨rfl,vf1,hE⟩
 have E2:=hid (E1.out.trans hE)
 have HB2:=hid (HB.out.trans (E2.out.below HP.out))
 have HC2:=hid ((hE.cel 0 (by omega)).trans HC1.out)
 have HX2:Hid (w2.heap[w.heap.size]? = some (.cells #[.int .i64 (V:Int),.int .i64 (LL:Int),.int .i64 (HH:Int)] 80 (0,0))):=hid (by
  rw [hE.chg.block w.heap.size (Array.getElem?_eq_some_iff.1 HX.out).1 (by rintro (q | q);exact HNG.out q;exact HNF.out q)]
  exact HX.out)
 clear x0 x1 x2 hE HK
 have x0:w2.cell? ⟨w.heap.size,0,none⟩=some (.int .i64 (V:Int)):=by rw [cell_of_row _ _ 0 _ _ _ HX2.out];rfl
 have x1:w2.cell? ⟨w.heap.size,1,none⟩=some (.int .i64 (LL:Int)):=by rw [cell_of_row _ _ 1 _ _ _ HX2.out];rfl
 have x2:w2.cell? ⟨w.heap.size,2,none⟩=some (.int .i64 (HH:Int)):=by rw [cell_of_row _ _ 2 _ _ _ HX2.out];rfl
 have HK4:=hid (HK2.out w2 vf1 HB2.out E2.out.m HC2.out)
 clear HK2
 go_wp2_with fail
 with_reducible refine HK4.out.mono ?_
 rintro e w3 ⟨rfl,vf2,hE⟩
 have E3:=hid (E2.out.trans hE)
 have HK5:=hid (HK3.out w3 vf2 hE.m)
 clear x0 x1 x2 hE HK4 HK3
 go_wp2_with fail
 with_reducible refine HK5.out.mono ?_
 rintro e w4 ⟨rfl,hx⟩
 have HR:=hid (wdO_trans E3.out hx)
 clear hx HK5
 go_wp2
 go_ret
 exact ⟨rfl,HR.out⟩
theorem min_two {a b s:Nat} (h:s=min (a+b+6) 10000) (hs:s≤512):b≤512∧a≤512:=by
 by_cases q:a+b+6≤10000
 ·rw [Nat.min_eq_left q] at h;omega
 ·rw [Nat.min_eq_right (by omega)] at h;omega
theorem qnum_any (B g m c:Nat) (A:Option Addr) (M:List Br) (w0:World) (hrd:Hid (Rd w0 B A (up M))) (hml:Hid (M.length=m)) (hm:m≤1000000) (ho:Ord M) (hred:Red M):∀ n r,r<n→r<m+2→sz M r≤512→NuC w0 B g (.slice A m c) (wrN M n r) (sz M r) r
 | 0,r,h,_,_=>by omega
 | n+1,r,h,hr,hs=>by
   by_cases hlow:r<2
   ·exact qnum_low B g n r (.slice A m c) M w0 hlow
   ·obtain ⟨k,rfl⟩:∃ k,r=k+2:=⟨r - 2,by omega⟩
    have hk:k<M.length:=by rw [hml.out];omega
    obtain ⟨q1,q2,q3,_,_⟩:=ho k hk
    have hne:=hred k hk
    have eS:=sz_br M k
    unfold szC at eS
    rw [sz_at M (bl M k) k q2,sz_at M (bh M k) k q3] at eS
    have HLH:=hid (fun l h=>wrN_len M ho n (bh M k) l (by omega) (by omega) h)
    have HLL:=hid (fun l h=>wrN_len M ho n (bl M k) l (by omega) (by omega) h)
    have HXH:=fun hz=>hid (qnum_any B g m c A M w0 hrd hml hm ho hred n (bh M k) (by omega) (by omega) hz)
    have HXL:=fun hz=>hid (qnum_any B g m c A M w0 hrd hml hm ho hred n (bl M k) (by omega) (by omega) hz)
    have hkm:k<m:=by omega
    by_cases h0:bh M k=0
    ·by_cases l1:bl M k=1
     ·exact qnum_01 B g m c A M n k w0 hrd hml hm hkm q2 q3 h0 l1 hs
     ·have l0:bl M k≠0:=by omega
      rw [if_neg (by omega),if_neg (by omega),if_neg (by omega),if_pos h0] at eS
      exact qnum_0x B g m c A M n k w0 hrd hml hm hkm q2 q3 h0 l0 l1 hs (HXL (by omega)) HLL
    ·by_cases h1:bh M k=1
     ·by_cases l0:bl M k=0
      ·exact qnum_10 B g m c A M n k w0 hrd hml hm hkm q2 q3 h1 l0 hs
      ·have l1:bl M k≠1:=by omega
       rw [if_neg (by omega),if_neg (by omega),if_neg (by omega),if_neg (by omega),if_pos h1] at eS
       exact qnum_1x B g m c A M n k w0 hrd hml hm hkm q2 q3 h1 l0 l1 hs (HXL (by omega)) HLL
     ·by_cases l0:bl M k=0
      ·rw [if_neg (by omega),if_neg (by omega),if_pos l0] at eS
       exact qnum_x0 B g m c A M n k w0 hrd hml hm hkm q2 q3 h0 h1 l0 hs (HXH (by omega)) HLH
      ·by_cases l1:bl M k=1
       ·rw [if_neg (by omega),if_neg (by omega),if_neg (by omega),if_neg (by omega),if_neg (by omega),if_pos l1] at eS
        exact qnum_x1 B g m c A M n k w0 hrd hml hm hkm q2 q3 h0 h1 l1 hs (HXH (by omega)) HLH
       ·rw [if_neg (by omega),if_neg (by omega),if_neg (by omega),if_neg (by omega),if_neg (by omega),if_neg (by omega)] at eS
        exact qnum_xx B g m c A M n k w0 hrd hml hm hkm q2 q3 h0 h1 l0 l1 hs (HXH (min_two eS hs).1) HLH (HXL (min_two eS hs).2) HLL
set_option linter.unusedVariables false
set_option linter.unusedSimpArgs false
attribute [local go_sem ↓] Go.wp_at_zero Go.wp_at_succ
theorem szs_le (M:List (Nat × Nat × Nat)) (i:Nat):∀ k,(szs M k).getD i 0≤10000
 | 0=>by
   rcases (show i=0∨i=1∨2≤i by omega) with rfl | rfl | h
   ·show (1:Nat)≤10000
    omega
   ·show (1:Nat)≤10000
    omega
   ·rw [List.getD_eq_getElem?_getD,List.getElem?_eq_none (by exact h)];show (0:Nat)≤10000;omega
 | k+1=>by
   rw [szs,getD_snoc]
   split
   ·exact szs_le M i k
   ·split
    ·exact Nat.min_le_right _ _
    ·omega
structure Sr (w3 wr:World) (q cap:Nat) (M:List Br) (k:Nat):Prop where
 row:wr.ownsRow w3.heap.size 3 1 (.slice (some ⟨q,0,none⟩) (k+2) cap) (k+2) (niC (szs M k))
 bel:Below w3.heap.size w3 wr
theorem Sr.step {w5 wr w6 w7:World} {q cap:Nat} {M:List Br} {k s gn cap2:Nat} (h:Sr w5 wr q cap M k) (hq:Below wr.heap.size wr w6) (x:Value) (hx:x=.int .i64 ((s:Nat):Int)) (hs:s=min (szC (szs M k) (bl M k) (bh M k)) 10000)
  (hown:w7.ownsRow w5.heap.size 3 1 (.slice (some ⟨gn,0,none⟩) (k+2+1) cap2) (k+2+1) (niC (szs M k)++[x])) (hgrow:(w6.alloc (.cells #[x] 3)).grownBy w7 (some q)):Sr w5 w7 gn cap2 M (k+1):=by
 subst hx
 subst hs
 have b0:=h.bel.trans (hq.mono h.bel.size)
 have hba:=b0.alloc b0.size (.cells #[.int .i64 (((min (szC (szs M k) (bl M k) (bh M k)) 10000:Nat)):Int)] 3)
 refine ⟨?_,hba.trans ((Chg.of_grown (S:=fun j=>some q=some j) hgrow (fun j e=>e)).below hba.size (fun j hj e=>?_))⟩
 ·rw [szs,niC_snoc,show k+1+2=k+2+1 by omega]
  exact hown
 ·have:=(World.ownsRow.lt h.row j e).1
  omega
theorem qsizes (A:Option Addr) (m c r:Nat) (M:List Br) (w:World) (hrd:Hid (Rd w w.heap.size A (up M))) (hlen:Hid (M.length=m)) (ho:Hid (Ord M)) (hm:m≤4096) :
  Calls Tryz.prog 43 #[.agg #[.slice A m c,.int .i64 (r:Int)]] w fun e w'=>∃ q cap,e=.returned (.slice (some ⟨q,0,none⟩) (m+2) cap)∧w'.ownsRow w.heap.size 3 1 (.slice (some ⟨q,0,none⟩) (m+2) cap) (m+2) (niC (szs M m))∧Below w.heap.size w w':=by
 obtain ⟨j0,hj,hj0,hj1,hj2⟩:=info_parts Tryz.infoIntF
 have X0:=nb2 w (.slice A m c) (.int .i64 (r:Int)) 31
 have HB0:=hid (ab2 w (.cells #[.slice A m c,.int .i64 (r:Int)] 31))
 go_enter Tryz.func43,Tryz.ntmps43
 obtain ⟨x0,x1,xn⟩:=xb2 X0
 go_upto_region 1 with fail
 generalize w.alloc (.cells #[.slice A m c,.int .i64 (r:Int)] 31)=w3 at *
 have RD3:=hid ((hrd.out.below HB0.out).mono HB0.out.size)
 go_wp2_with fail
 have F0:Hid (Sr w3 (w3.alloc (.cells #[.int .i64 1,.int .i64 1] 3)) w3.heap.size 2 M 0):=hid ⟨⟨rfl,.inr ⟨w3.heap.size,2,#[.int .i64 1,.int .i64 1],rfl,Nat.le_refl _,heap_alloc_new w3 _,Nat.le_refl _,by simp [maxLen],rfl,rfl⟩⟩,ab2 w3 _⟩
 generalize w3.alloc (.cells #[.int .i64 1,.int .i64 1] 3)=w4 at *
 clear x0 x1 hrd
 go_loopw [3,4] (fun u i wq=>∃ (k q cap:Nat),k≤m∧u=.slice (some ⟨q,0,none⟩) (k+2) cap∧i=.int .i64 (k:Int)∧Hid (Sr w3 wq q cap M k)) (fun _ i _=>m - (intOf i).toNat)
 case atStart=>exact ⟨0,_,_,Nat.zero_le _,rfl,rfl,F0⟩
 case round =>
  clear F0
  obtain ⟨k,q,cap,hk,rfl,rfl,hst⟩:=hrel
  have HB:=hid (HB0.out.trans (hst.out.bel.mono HB0.out.size))
  have X4:=hid (X0.out.below (by omega) hst.out.bel)
  obtain ⟨x0,x1,xn'⟩:=xb2 X4
  by_cases hlt':k<m
  ·have hkM:k<M.length:=by rw [hlen.out];exact hlt'
   have RDq:=hid ((RD3.out.below hst.out.bel).mono hst.out.bel.size)
   obtain ⟨o1,o2,o3,o4,o5⟩:=ho.out k hkM
   obtain ⟨b',o',e,hb,hc⟩:=RDq.out (by rw [up_len,hlen.out];omega)
   subst e
   obtain ⟨d0,d1,d2⟩:=hc k (by rw [up_len,hlen.out];exact hlt')
   rw [il_up] at d1
   rw [ih_up] at d2
   clear hc d0
   have i1:(0:Int)≤(k:Int):=by omega
   have i2:(k:Int)<(m:Int):=by omega
   have zl:=szs_le M (bl M k) k
   have zh:=szs_le M (bh M k) k
   have r1:=(hst.out.row.cellAt (bl M k) (by omega)).trans (niC_at (z:=szs M k) (i:=bl M k) (by rw [szs_len];omega))
   have r2:=(hst.out.row.cellAt (bh M k) (by omega)).trans (niC_at (z:=szs M k) (i:=bh M k) (by rw [szs_len];omega))
   obtain ⟨SC,hSC⟩:∃ x,szC (szs M k) (bl M k) (bh M k)=x:=⟨_,rfl⟩
   have HSC:=hid hSC
   unfold szC at hSC
   generalize (szs M k).getD (bl M k) 0=ZL at *
   generalize (szs M k).getD (bh M k) 0=ZH at *
   have HST:Hid (∀ (w6 w7:World) (gn cap2 s:Nat) (x:Value),Below wr.heap.size wr w6→x=.int .i64 ((s:Nat):Int)→s=min SC 10000→w7.ownsRow w3.heap.size 3 1 (.slice (some ⟨gn,0,none⟩) (k+2+1) cap2) (k+2+1) (niC (szs M k)++[x])→(w6.alloc (.cells #[x] 3)).grownBy w7 (some q)→Sr w3 w7 gn cap2 M (k+1)):=hid (fun w6 w7 gn cap2 s x h1 h2 h3 h4 h5=>hst.out.step h1 x h2 (by rw [HSC.out];exact h3) h4 h5)
   have HROW:=hid hst.out.row
   have HQL:Hid (w3.heap.size≤wr.heap.size):=hid hst.out.bel.size
   have HQK:Hid (q<wr.heap.size):=hid (World.ownsRow.lt hst.out.row q rfl).2
   clear hst RDq HSC
   generalize niC (szs M k)=NC at *
   generalize bl M k=LL at *
   generalize bh M k=HH at *
   have l1:(0:Int)≤(LL:Int):=by omega
   have l2:(LL:Int)<(k:Int)+2:=by omega
   have g1:(0:Int)≤(HH:Int):=by omega
   have g2:(HH:Int)<(k:Int)+2:=by omega
   have u1:IntKind.i64.wrap ((ZL:Int)+(ZH:Int))=(ZL:Int)+(ZH:Int):=by rw [IntKind.wrap_i64];omega
   have u2:IntKind.i64.wrap ((ZL:Int)+(ZH:Int)+6)=(ZL:Int)+(ZH:Int)+6:=by rw [IntKind.wrap_i64];omega
   have u3:IntKind.i64.wrap (2+(ZH:Int))=2+(ZH:Int):=by rw [IntKind.wrap_i64];omega
   have u4:IntKind.i64.wrap (3+(ZL:Int))=3+(ZL:Int):=by rw [IntKind.wrap_i64];omega
   have u5:IntKind.i64.wrap (2+(ZL:Int))=2+(ZL:Int):=by rw [IntKind.wrap_i64];omega
   have u6:IntKind.i64.wrap (3+(ZH:Int))=3+(ZH:Int):=by rw [IntKind.wrap_i64];omega
   rcases (show (HH=1∧LL=0)∨(HH=0∧LL=1)∨(HH=0∧LL=0)∨(HH≠0∧HH≠1∧LL=0)∨(LL≠1∧LL≠0∧HH=0)∨(LL≠0∧HH≠0∧HH=1)∨(LL≠0∧HH≠0∧HH≠1∧LL=1)∨(LL≠0∧LL≠1∧HH≠0∧HH≠1) by omega) with g | g | g | g | g | g | g | g
   ·rw [if_pos (by omega)] at hSC
    have HV:Hid ((((min SC 10000:Nat)):Int)=min (1:Int) 10000):=hid (by omega)
    have p1:((HH:Int) == 1)=true:=beq_iff_eq.2 (by omega)
    have p2:((LL:Int) == 0)=true:=beq_iff_eq.2 (by omega)
    have p3:((LL:Int) == 1)=false:=beq_eq_false_iff_ne.2 (by omega)
    have p4:((HH:Int) == 0)=false:=beq_eq_false_iff_ne.2 (by omega)
    clear g hSC zl zh o1 o2 o3 o4 o5
    go_upto_region 7 with fail
    go_quiet (fail)
    have hq:Below wr.heap.size wr (wr.drewN nq):=below_drewN (Below.refl _ _) nq
    have HO:=hid (own_below HROW.out hq)
    have HST2:=hid (HST.out (wr.drewN nq) · · · · · hq)
    have x0':=(hq.cell (p:=⟨w.heap.size,0,none⟩) (by have:=HB0.out;omega)).trans x0
    have r1':=(hq.cell (p:=⟨q,LL,none⟩) HQK.out).trans r1
    have r2':=(hq.cell (p:=⟨q,HH,none⟩) HQK.out).trans r2
    have HQL2:Hid (w3.heap.size≤(wr.drewN nq).heap.size):=hid (Nat.le_trans HQL.out hq.size)
    have HQK2:Hid (q<(wr.drewN nq).heap.size):=hid (Nat.lt_of_lt_of_le HQK.out hq.size)
    clear x0 r1 r2 hq HST
    generalize wr.drewN nq=w5 at *
    have hq9:=HQL2.out
    have hq8:=HQK2.out
    go_wp2_with (refine wpList_append_lies _ rfl _ _ _ rfl w3.heap.size 3 j0 _ 1 8 Tryz.underlying61 hj hj0 hj1 hj2 rfl (by omega) (.slice (some ⟨q,0,none⟩) (k+2) cap) (k+2) NC rfl (HO.out.alloc _) _ _ _ [.int .i64 (min (1:Int) 10000)] rfl rfl (World.news_of_block (heap_alloc_new _ _)) (by simp [Value.oneCell']) (by omega) (by simp only [maxLen];omega) (by omega) (by simp;omega) _ rfl ?_;intro gn2 cap2 w6 hown2 hgrow2 hat2 hlt2)
    go_roundw
    case rel=>exact ⟨k+1,gn2,cap2,by omega,by rw [show k+1+2=k+2+1 by omega],by go_num,hid (HST2.out w6 gn2 cap2 (min SC 10000) (.int .i64 (min (1:Int) 10000)) (by rw [HV.out]) rfl hown2 hgrow2)⟩
    case measure=>simp [intOf];omega
   ·rw [if_neg (by omega),if_pos (by omega)] at hSC
    have HV:Hid ((((min SC 10000:Nat)):Int)=min (2:Int) 10000):=hid (by omega)
    have p1:((HH:Int) == 1)=false:=beq_eq_false_iff_ne.2 (by omega)
    have p2:((LL:Int) == 0)=false:=beq_eq_false_iff_ne.2 (by omega)
    have p3:((LL:Int) == 1)=true:=beq_iff_eq.2 (by omega)
    have p4:((HH:Int) == 0)=true:=beq_iff_eq.2 (by omega)
    clear g hSC zl zh o1 o2 o3 o4 o5
    go_upto_region 7 with fail
    go_quiet (fail)
    have hq:Below wr.heap.size wr (wr.drewN nq):=below_drewN (Below.refl _ _) nq
    have HO:=hid (own_below HROW.out hq)
    have HST2:=hid (HST.out (wr.drewN nq) · · · · · hq)
    have x0':=(hq.cell (p:=⟨w.heap.size,0,none⟩) (by have:=HB0.out;omega)).trans x0
    have r1':=(hq.cell (p:=⟨q,LL,none⟩) HQK.out).trans r1
    have r2':=(hq.cell (p:=⟨q,HH,none⟩) HQK.out).trans r2
    have HQL2:Hid (w3.heap.size≤(wr.drewN nq).heap.size):=hid (Nat.le_trans HQL.out hq.size)
    have HQK2:Hid (q<(wr.drewN nq).heap.size):=hid (Nat.lt_of_lt_of_le HQK.out hq.size)
    clear x0 r1 r2 hq HST
    generalize wr.drewN nq=w5 at *
    have hq9:=HQL2.out
    have hq8:=HQK2.out
    go_wp2_with (refine wpList_append_lies _ rfl _ _ _ rfl w3.heap.size 3 j0 _ 1 8 Tryz.underlying61 hj hj0 hj1 hj2 rfl (by omega) (.slice (some ⟨q,0,none⟩) (k+2) cap) (k+2) NC rfl (HO.out.alloc _) _ _ _ [.int .i64 (min (2:Int) 10000)] rfl rfl (World.news_of_block (heap_alloc_new _ _)) (by simp [Value.oneCell']) (by omega) (by simp only [maxLen];omega) (by omega) (by simp;omega) _ rfl ?_;intro gn2 cap2 w6 hown2 hgrow2 hat2 hlt2)
    go_roundw
    case rel=>exact ⟨k+1,gn2,cap2,by omega,by rw [show k+1+2=k+2+1 by omega],by go_num,hid (HST2.out w6 gn2 cap2 (min SC 10000) (.int .i64 (min (2:Int) 10000)) (by rw [HV.out]) rfl hown2 hgrow2)⟩
    case measure=>simp [intOf];omega
   ·rw [if_neg (by omega),if_neg (by omega),if_pos (by omega)] at hSC
    have HV:Hid ((((min SC 10000:Nat)):Int)=min (2+(ZH:Int):Int) 10000):=hid (by omega)
    have p1:((HH:Int) == 1)=false:=beq_eq_false_iff_ne.2 (by omega)
    have p2:((LL:Int) == 0)=true:=beq_iff_eq.2 (by omega)
    have p3:((LL:Int) == 1)=false:=beq_eq_false_iff_ne.2 (by omega)
    have p4:((HH:Int) == 0)=true:=beq_iff_eq.2 (by omega)
    clear g hSC zl zh o1 o2 o3 o4 o5
    go_upto_region 7 with fail
    go_quiet (fail)
    have hq:Below wr.heap.size wr (wr.drewN nq):=below_drewN (Below.refl _ _) nq
    have HO:=hid (own_below HROW.out hq)
    have HST2:=hid (HST.out (wr.drewN nq) · · · · · hq)
    have x0':=(hq.cell (p:=⟨w.heap.size,0,none⟩) (by have:=HB0.out;omega)).trans x0
    have r1':=(hq.cell (p:=⟨q,LL,none⟩) HQK.out).trans r1
    have r2':=(hq.cell (p:=⟨q,HH,none⟩) HQK.out).trans r2
    have HQL2:Hid (w3.heap.size≤(wr.drewN nq).heap.size):=hid (Nat.le_trans HQL.out hq.size)
    have HQK2:Hid (q<(wr.drewN nq).heap.size):=hid (Nat.lt_of_lt_of_le HQK.out hq.size)
    clear x0 r1 r2 hq HST
    generalize wr.drewN nq=w5 at *
    have hq9:=HQL2.out
    have hq8:=HQK2.out
    go_wp2_with (refine wpList_append_lies _ rfl _ _ _ rfl w3.heap.size 3 j0 _ 1 8 Tryz.underlying61 hj hj0 hj1 hj2 rfl (by omega) (.slice (some ⟨q,0,none⟩) (k+2) cap) (k+2) NC rfl (HO.out.alloc _) _ _ _ [.int .i64 (min (2+(ZH:Int):Int) 10000)] rfl rfl (World.news_of_block (heap_alloc_new _ _)) (by simp [Value.oneCell']) (by omega) (by simp only [maxLen];omega) (by omega) (by simp;omega) _ rfl ?_;intro gn2 cap2 w6 hown2 hgrow2 hat2 hlt2)
    go_roundw
    case rel=>exact ⟨k+1,gn2,cap2,by omega,by rw [show k+1+2=k+2+1 by omega],by go_num,hid (HST2.out w6 gn2 cap2 (min SC 10000) (.int .i64 (min (2+(ZH:Int):Int) 10000)) (by rw [HV.out]) rfl hown2 hgrow2)⟩
    case measure=>simp [intOf];omega
   ·rw [if_neg (by omega),if_neg (by omega),if_pos (by omega)] at hSC
    have HV:Hid ((((min SC 10000:Nat)):Int)=min (2+(ZH:Int):Int) 10000):=hid (by omega)
    have p1:((HH:Int) == 1)=false:=beq_eq_false_iff_ne.2 (by omega)
    have p2:((LL:Int) == 0)=true:=beq_iff_eq.2 (by omega)
    have p3:((LL:Int) == 1)=false:=beq_eq_false_iff_ne.2 (by omega)
    have p4:((HH:Int) == 0)=false:=beq_eq_false_iff_ne.2 (by omega)
    clear g hSC zl zh o1 o2 o3 o4 o5
    go_upto_region 7 with fail
    go_quiet (fail)
    have hq:Below wr.heap.size wr (wr.drewN nq):=below_drewN (Below.refl _ _) nq
    have HO:=hid (own_below HROW.out hq)
    have HST2:=hid (HST.out (wr.drewN nq) · · · · · hq)
    have x0':=(hq.cell (p:=⟨w.heap.size,0,none⟩) (by have:=HB0.out;omega)).trans x0
    have r1':=(hq.cell (p:=⟨q,LL,none⟩) HQK.out).trans r1
    have r2':=(hq.cell (p:=⟨q,HH,none⟩) HQK.out).trans r2
    have HQL2:Hid (w3.heap.size≤(wr.drewN nq).heap.size):=hid (Nat.le_trans HQL.out hq.size)
    have HQK2:Hid (q<(wr.drewN nq).heap.size):=hid (Nat.lt_of_lt_of_le HQK.out hq.size)
    clear x0 r1 r2 hq HST
    generalize wr.drewN nq=w5 at *
    have hq9:=HQL2.out
    have hq8:=HQK2.out
    go_wp2_with (refine wpList_append_lies _ rfl _ _ _ rfl w3.heap.size 3 j0 _ 1 8 Tryz.underlying61 hj hj0 hj1 hj2 rfl (by omega) (.slice (some ⟨q,0,none⟩) (k+2) cap) (k+2) NC rfl (HO.out.alloc _) _ _ _ [.int .i64 (min (2+(ZH:Int):Int) 10000)] rfl rfl (World.news_of_block (heap_alloc_new _ _)) (by simp [Value.oneCell']) (by omega) (by simp only [maxLen];omega) (by omega) (by simp;omega) _ rfl ?_;intro gn2 cap2 w6 hown2 hgrow2 hat2 hlt2)
    go_roundw
    case rel=>exact ⟨k+1,gn2,cap2,by omega,by rw [show k+1+2=k+2+1 by omega],by go_num,hid (HST2.out w6 gn2 cap2 (min SC 10000) (.int .i64 (min (2+(ZH:Int):Int) 10000)) (by rw [HV.out]) rfl hown2 hgrow2)⟩
    case measure=>simp [intOf];omega
   ·rw [if_neg (by omega),if_neg (by omega),if_neg (by omega),if_pos (by omega)] at hSC
    have HV:Hid ((((min SC 10000:Nat)):Int)=min (3+(ZL:Int):Int) 10000):=hid (by omega)
    have p1:((HH:Int) == 1)=false:=beq_eq_false_iff_ne.2 (by omega)
    have p2:((LL:Int) == 0)=false:=beq_eq_false_iff_ne.2 (by omega)
    have p3:((LL:Int) == 1)=false:=beq_eq_false_iff_ne.2 (by omega)
    have p4:((HH:Int) == 0)=true:=beq_iff_eq.2 (by omega)
    clear g hSC zl zh o1 o2 o3 o4 o5
    go_upto_region 7 with fail
    go_quiet (fail)
    have hq:Below wr.heap.size wr (wr.drewN nq):=below_drewN (Below.refl _ _) nq
    have HO:=hid (own_below HROW.out hq)
    have HST2:=hid (HST.out (wr.drewN nq) · · · · · hq)
    have x0':=(hq.cell (p:=⟨w.heap.size,0,none⟩) (by have:=HB0.out;omega)).trans x0
    have r1':=(hq.cell (p:=⟨q,LL,none⟩) HQK.out).trans r1
    have r2':=(hq.cell (p:=⟨q,HH,none⟩) HQK.out).trans r2
    have HQL2:Hid (w3.heap.size≤(wr.drewN nq).heap.size):=hid (Nat.le_trans HQL.out hq.size)
    have HQK2:Hid (q<(wr.drewN nq).heap.size):=hid (Nat.lt_of_lt_of_le HQK.out hq.size)
    clear x0 r1 r2 hq HST
    generalize wr.drewN nq=w5 at *
    have hq9:=HQL2.out
    have hq8:=HQK2.out
    go_wp2_with (refine wpList_append_lies _ rfl _ _ _ rfl w3.heap.size 3 j0 _ 1 8 Tryz.underlying61 hj hj0 hj1 hj2 rfl (by omega) (.slice (some ⟨q,0,none⟩) (k+2) cap) (k+2) NC rfl (HO.out.alloc _) _ _ _ [.int .i64 (min (3+(ZL:Int):Int) 10000)] rfl rfl (World.news_of_block (heap_alloc_new _ _)) (by simp [Value.oneCell']) (by omega) (by simp only [maxLen];omega) (by omega) (by simp;omega) _ rfl ?_;intro gn2 cap2 w6 hown2 hgrow2 hat2 hlt2)
    go_roundw
    case rel=>exact ⟨k+1,gn2,cap2,by omega,by rw [show k+1+2=k+2+1 by omega],by go_num,hid (HST2.out w6 gn2 cap2 (min SC 10000) (.int .i64 (min (3+(ZL:Int):Int) 10000)) (by rw [HV.out]) rfl hown2 hgrow2)⟩
    case measure=>simp [intOf];omega
   ·rw [if_neg (by omega),if_neg (by omega),if_neg (by omega),if_neg (by omega),if_pos (by omega)] at hSC
    have HV:Hid ((((min SC 10000:Nat)):Int)=min (2+(ZL:Int):Int) 10000):=hid (by omega)
    have p1:((HH:Int) == 1)=true:=beq_iff_eq.2 (by omega)
    have p2:((LL:Int) == 0)=false:=beq_eq_false_iff_ne.2 (by omega)
    have p4:((HH:Int) == 0)=false:=beq_eq_false_iff_ne.2 (by omega)
    clear g hSC zl zh o1 o2 o3 o4 o5
    go_upto_region 7 with fail
    go_quiet (fail)
    have hq:Below wr.heap.size wr (wr.drewN nq):=below_drewN (Below.refl _ _) nq
    have HO:=hid (own_below HROW.out hq)
    have HST2:=hid (HST.out (wr.drewN nq) · · · · · hq)
    have x0':=(hq.cell (p:=⟨w.heap.size,0,none⟩) (by have:=HB0.out;omega)).trans x0
    have r1':=(hq.cell (p:=⟨q,LL,none⟩) HQK.out).trans r1
    have r2':=(hq.cell (p:=⟨q,HH,none⟩) HQK.out).trans r2
    have HQL2:Hid (w3.heap.size≤(wr.drewN nq).heap.size):=hid (Nat.le_trans HQL.out hq.size)
    have HQK2:Hid (q<(wr.drewN nq).heap.size):=hid (Nat.lt_of_lt_of_le HQK.out hq.size)
    clear x0 r1 r2 hq HST
    generalize wr.drewN nq=w5 at *
    have hq9:=HQL2.out
    have hq8:=HQK2.out
    go_wp2_with (refine wpList_append_lies _ rfl _ _ _ rfl w3.heap.size 3 j0 _ 1 8 Tryz.underlying61 hj hj0 hj1 hj2 rfl (by omega) (.slice (some ⟨q,0,none⟩) (k+2) cap) (k+2) NC rfl (HO.out.alloc _) _ _ _ [.int .i64 (min (2+(ZL:Int):Int) 10000)] rfl rfl (World.news_of_block (heap_alloc_new _ _)) (by simp [Value.oneCell']) (by omega) (by simp only [maxLen];omega) (by omega) (by simp;omega) _ rfl ?_;intro gn2 cap2 w6 hown2 hgrow2 hat2 hlt2)
    go_roundw
    case rel=>exact ⟨k+1,gn2,cap2,by omega,by rw [show k+1+2=k+2+1 by omega],by go_num,hid (HST2.out w6 gn2 cap2 (min SC 10000) (.int .i64 (min (2+(ZL:Int):Int) 10000)) (by rw [HV.out]) rfl hown2 hgrow2)⟩
    case measure=>simp [intOf];omega
   ·rw [if_neg (by omega),if_neg (by omega),if_neg (by omega),if_neg (by omega),if_neg (by omega),if_pos (by omega)] at hSC
    have HV:Hid ((((min SC 10000:Nat)):Int)=min (3+(ZH:Int):Int) 10000):=hid (by omega)
    have p1:((HH:Int) == 1)=false:=beq_eq_false_iff_ne.2 (by omega)
    have p2:((LL:Int) == 0)=false:=beq_eq_false_iff_ne.2 (by omega)
    have p3:((LL:Int) == 1)=true:=beq_iff_eq.2 (by omega)
    have p4:((HH:Int) == 0)=false:=beq_eq_false_iff_ne.2 (by omega)
    clear g hSC zl zh o1 o2 o3 o4 o5
    go_upto_region 7 with fail
    go_quiet (fail)
    have hq:Below wr.heap.size wr (wr.drewN nq):=below_drewN (Below.refl _ _) nq
    have HO:=hid (own_below HROW.out hq)
    have HST2:=hid (HST.out (wr.drewN nq) · · · · · hq)
    have x0':=(hq.cell (p:=⟨w.heap.size,0,none⟩) (by have:=HB0.out;omega)).trans x0
    have r1':=(hq.cell (p:=⟨q,LL,none⟩) HQK.out).trans r1
    have r2':=(hq.cell (p:=⟨q,HH,none⟩) HQK.out).trans r2
    have HQL2:Hid (w3.heap.size≤(wr.drewN nq).heap.size):=hid (Nat.le_trans HQL.out hq.size)
    have HQK2:Hid (q<(wr.drewN nq).heap.size):=hid (Nat.lt_of_lt_of_le HQK.out hq.size)
    clear x0 r1 r2 hq HST
    generalize wr.drewN nq=w5 at *
    have hq9:=HQL2.out
    have hq8:=HQK2.out
    go_wp2_with (refine wpList_append_lies _ rfl _ _ _ rfl w3.heap.size 3 j0 _ 1 8 Tryz.underlying61 hj hj0 hj1 hj2 rfl (by omega) (.slice (some ⟨q,0,none⟩) (k+2) cap) (k+2) NC rfl (HO.out.alloc _) _ _ _ [.int .i64 (min (3+(ZH:Int):Int) 10000)] rfl rfl (World.news_of_block (heap_alloc_new _ _)) (by simp [Value.oneCell']) (by omega) (by simp only [maxLen];omega) (by omega) (by simp;omega) _ rfl ?_;intro gn2 cap2 w6 hown2 hgrow2 hat2 hlt2)
    go_roundw
    case rel=>exact ⟨k+1,gn2,cap2,by omega,by rw [show k+1+2=k+2+1 by omega],by go_num,hid (HST2.out w6 gn2 cap2 (min SC 10000) (.int .i64 (min (3+(ZH:Int):Int) 10000)) (by rw [HV.out]) rfl hown2 hgrow2)⟩
    case measure=>simp [intOf];omega
   ·rw [if_neg (by omega),if_neg (by omega),if_neg (by omega),if_neg (by omega),if_neg (by omega),if_neg (by omega)] at hSC
    have HV:Hid ((((min SC 10000:Nat)):Int)=min ((ZL:Int)+(ZH:Int)+6:Int) 10000):=hid (by omega)
    have p1:((HH:Int) == 1)=false:=beq_eq_false_iff_ne.2 (by omega)
    have p2:((LL:Int) == 0)=false:=beq_eq_false_iff_ne.2 (by omega)
    have p3:((LL:Int) == 1)=false:=beq_eq_false_iff_ne.2 (by omega)
    have p4:((HH:Int) == 0)=false:=beq_eq_false_iff_ne.2 (by omega)
    clear g hSC zl zh o1 o2 o3 o4 o5
    go_upto_region 7 with fail
    go_quiet (fail)
    have hq:Below wr.heap.size wr (wr.drewN nq):=below_drewN (Below.refl _ _) nq
    have HO:=hid (own_below HROW.out hq)
    have HST2:=hid (HST.out (wr.drewN nq) · · · · · hq)
    have x0':=(hq.cell (p:=⟨w.heap.size,0,none⟩) (by have:=HB0.out;omega)).trans x0
    have r1':=(hq.cell (p:=⟨q,LL,none⟩) HQK.out).trans r1
    have r2':=(hq.cell (p:=⟨q,HH,none⟩) HQK.out).trans r2
    have HQL2:Hid (w3.heap.size≤(wr.drewN nq).heap.size):=hid (Nat.le_trans HQL.out hq.size)
    have HQK2:Hid (q<(wr.drewN nq).heap.size):=hid (Nat.lt_of_lt_of_le HQK.out hq.size)
    clear x0 r1 r2 hq HST
    generalize wr.drewN nq=w5 at *
    have hq9:=HQL2.out
    have hq8:=HQK2.out
    go_wp2_with (refine wpList_append_lies _ rfl _ _ _ rfl w3.heap.size 3 j0 _ 1 8 Tryz.underlying61 hj hj0 hj1 hj2 rfl (by omega) (.slice (some ⟨q,0,none⟩) (k+2) cap) (k+2) NC rfl (HO.out.alloc _) _ _ _ [.int .i64 (min ((ZL:Int)+(ZH:Int)+6:Int) 10000)] rfl rfl (World.news_of_block (heap_alloc_new _ _)) (by simp [Value.oneCell']) (by omega) (by simp only [maxLen];omega) (by omega) (by simp;omega) _ rfl ?_;intro gn2 cap2 w6 hown2 hgrow2 hat2 hlt2)
    go_roundw
    case rel=>exact ⟨k+1,gn2,cap2,by omega,by rw [show k+1+2=k+2+1 by omega],by go_num,hid (HST2.out w6 gn2 cap2 (min SC 10000) (.int .i64 (min ((ZL:Int)+(ZH:Int)+6:Int) 10000)) (by rw [HV.out]) rfl hown2 hgrow2)⟩
    case measure=>simp [intOf];omega
  ·obtain rfl:k=m:=by omega
   have HROW:=hid hst.out.row
   go_wp2
   go_ret
   exact ⟨q,cap,rfl,(by have:=HROW.out;exact ⟨this.1,this.2.imp id (fun ⟨a,b,c,h1,h2,h3⟩=>⟨a,b,c,h1,Nat.le_trans HB0.out.size h2,h3⟩)⟩),HB.out⟩
set_option linter.unusedVariables false
set_option linter.unusedSimpArgs false
attribute [local go_sem ↓] Go.wp_at_zero Go.wp_at_succ
def ofW (M:List Br) (r:Nat):List Fi × Int:=if 512<sz M r then ([],2) else (wrN M (r+1) r [],0)
theorem ofW_ex {M:List Br} (ho:Ord M) {r:Nat} (hr:r<M.length+2):∃ s,exF M (r+1) r ([],[])=.ok s∧ofW M r=if 512<s.1.length then ([],2) else (s.1,0):=by
 obtain ⟨s,e,h⟩:=ex_main M ho (r+1) r ([],[]) (by omega) hr (fun _=>rfl)
 refine ⟨s,e,?_⟩
 unfold ofW
 rcases h with ⟨a,b,c,_⟩ | ⟨a,b⟩
 ·have a':sz M r≤512:=by have:0+sz M r≤512:=a
                         omega
  have c':s.1.length=sz M r:=by have:s.1.length=0+sz M r:=c
                                omega
  rw [if_neg (by omega),if_neg (by omega),b]
 ·have a':512<sz M r:=by have:512<0+sz M r:=a
                         omega
  rw [if_pos a',if_pos b]
theorem qof_ok (m c r:Nat) (A:Option Addr) (M:List Br) (w:World) (hd:Hid (DOk w ⟨A,m,c,up M,(r:Int)⟩)) (hc:Hid (chk (up M) (r:Int)=0)) (hv:Hid (Valid M r)) (hm:m≤4096) (hml:Hid (M.length=m)) :
  Calls Tryz.prog 13 #[.agg #[.slice A m c,.int .i64 (r:Int)]] w fun e w'=>PsR w w' (ofW M r) e:=by
 have hrt:r<m+2:=by have:=hv.out.lt;rw [hml.out] at this;exact this
 have HORD:=hid hv.out.good.ord
 have HRED:=hid hv.out.good.red
 have X0:=nb2 w (.slice A m c) (.int .i64 (r:Int)) 31
 have HB0:=hid (ab2 w (.cells #[.slice A m c,.int .i64 (r:Int)] 31))
 have HCK:Hid (∀ W,Below w.heap.size w W→Calls Tryz.prog 42 #[.agg #[.slice A m c,.int .i64 (r:Int)]] W fun e w'=>e=.returned (.int .i64 0)∧Below W.heap.size W w'):=hid (fun W hW=>by
  have:=rcheck_any (up M) r m c A W (hid (hd.out.below hW)) hm
  rw [hc.out] at this
  exact this)
 have HSZ:Hid (∀ W,Below w.heap.size w W→Calls Tryz.prog 43 #[.agg #[.slice A m c,.int .i64 (r:Int)]] W fun e w'=>∃ q cap,e=.returned (.slice (some ⟨q,0,none⟩) (m+2) cap)∧w'.cell? ⟨q,r,none⟩=some (.int .i64 ((sz M r:Nat):Int))∧Below W.heap.size W w'):=hid (fun W hW=>by
  refine (qsizes A m c r M W (hid (hd.out.below hW).rd) hml HORD hm).mono ?_
  rintro e w' ⟨q,cap,he,ho,hb⟩
  have:=(ho.cellAt r (by omega)).trans (niC_at (z:=szs M m) (i:=r) (by rw [szs_len];omega))
  rw [sz_at M r m hrt] at this
  exact ⟨q,cap,he,this,hb⟩)
 have HRD:=hid hd.out.rd
 obtain ⟨SZ,hSZ⟩:∃ x,sz M r=x:=⟨_,rfl⟩
 have HSE:=hid hSZ
 have hs1:=szs_le M r r
 rw [show (szs M r).getD r 0=SZ from hSZ] at hs1
 rw [hSZ] at HSZ
 clear hd hc hv hSZ
 have i1:(0:Int)≤(r:Int):=by omega
 have i2:(r:Int)<(m:Int)+2:=by omega
 have HLT:=hid hrt
 clear hrt
 by_cases h5:512<SZ
 ·have HV:Hid (ofW M r=([],2)):=hid (if_pos (by rw [HSE.out];exact h5))
  have i3:(512:Int)<(SZ:Int):=by omega
  clear HSE
  go_enter Tryz.func13,Tryz.ntmps13
  obtain ⟨x0,x1,xn⟩:=xb2 X0
  go_wp2_with fail
  generalize w.alloc (.cells #[.slice A m c,.int .i64 (r:Int)] 31)=w1 at *
  with_reducible refine (HCK.out w1 HB0.out).mono ?_
  rintro e w2 ⟨rfl,b2⟩
  have X2:=rb2 X0 b2
  have HB2:=btr HB0 b2 HB0.out.size
  clear b2 x0 x1 xn X0 HB0 HCK
  have hdr:Below w2.heap.size w2 w2.drew:=(Below.refl _ _).drew
  replace X2:=rb2 X2 hdr
  replace HB2:=btr HB2 hdr HB2.out.size
  clear hdr
  go_upto_region 4 with fail
  obtain ⟨x0,x1,xn⟩:=xb2 X2
  go_region_with ((first
   | (go_at_call 43;(with_reducible refine (HSZ.out _ HB2.out).mono ?_);rintro e w3 ⟨q,cap,rfl,hq,b3⟩;have X3:=rb2 X2 b3;have HB3:=btr HB2 b3 HB2.out.size;clear b3 x0 x1 xn;obtain ⟨x0,x1,xn⟩:=xb2 X3)))
  all_goals
   go_wp2
   go_ret2
   exact PsR.nil HV.out HB3.out
 ·have HV:Hid (ofW M r=(wrN M (r+1) r [],0)):=hid (if_neg (by rw [HSE.out];exact h5))
  have i3:¬ (512:Int)<(SZ:Int):=by omega
  have HSL:Hid (sz M r≤512):=hid (by rw [HSE.out];omega)
  clear HSE h5
  go_enter Tryz.func13,Tryz.ntmps13
  obtain ⟨x0,x1,xn⟩:=xb2 X0
  go_wp2_with fail
  generalize w.alloc (.cells #[.slice A m c,.int .i64 (r:Int)] 31)=w1 at *
  with_reducible refine (HCK.out w1 HB0.out).mono ?_
  rintro e w2 ⟨rfl,b2⟩
  have X2:=rb2 X0 b2
  have HB2:=btr HB0 b2 HB0.out.size
  clear b2 x0 x1 xn X0 HB0 HCK
  have hdr:Below w2.heap.size w2 w2.drew:=(Below.refl _ _).drew
  replace X2:=rb2 X2 hdr
  replace HB2:=btr HB2 hdr HB2.out.size
  clear hdr
  go_upto_region 4 with fail
  obtain ⟨x0,x1,xn⟩:=xb2 X2
  go_region_with ((first
   | (go_at_call 43;(with_reducible refine (HSZ.out _ HB2.out).mono ?_);rintro e w3 ⟨q,cap,rfl,hq,b3⟩;have X3:=rb2 X2 b3;have HB3:=btr HB2 b3 HB2.out.size;clear b3 x0 x1 xn;obtain ⟨x0,x1,xn⟩:=xb2 X3)))
  all_goals
   go_upto_region 7 with fail
   have hw:=heap_alloc_new w3 (.cells #[.slice A m c,.int .i64 (r:Int),.slice none 0 0] 76)
   have hcc:=fun i=>cell_of_row _ _ i _ _ _ hw
   have hff:=fun i=>frozen_of_row _ _ i _ _ hw
   have hWO:WoM (w3.alloc (.cells #[.slice A m c,.int .i64 (r:Int),.slice none 0 0] 76)) w3.heap.size w3.heap.size (.slice none 0 0) [] :=
    ⟨by rw [hcc 2];rfl,hff 2,World.ownsRow_nil _ _ _ _,by simp [Value.ownBlock],Nat.le_refl _⟩
   have hc0:(w3.alloc (.cells #[.slice A m c,.int .i64 (r:Int),.slice none 0 0] 76)).cell? ⟨w3.heap.size,0,none⟩=some (.slice A m c):=by rw [hcc 0];rfl
   have hb4:=ab2 w3 (.cells #[.slice A m c,.int .i64 (r:Int),.slice none 0 0] 76)
   have HNU:=hid (qnum_any w3.heap.size w3.heap.size m c A M w3 (hid ((HRD.out.below HB3.out).mono HB3.out.size)) hml (by omega) HORD.out HRED.out (r+1) r (by omega) HLT.out HSL.out _ (.slice none 0 0) [] hb4 hWO hc0 (by have:=HSL.out;show 0+_≤_;omega))
   have X4:=rb2 X3 hb4
   have HB4:=btr HB3 hb4 HB3.out.size
   have HWO:=hid hWO
   clear x0 x1 xn hw hcc hff hWO hc0 hb4 X3
   generalize w3.alloc (.cells #[.slice A m c,.int .i64 (r:Int),.slice none 0 0] 76)=w4 at *
   obtain ⟨x0,x1,xn⟩:=xb2 X4
   generalize hF:wrN M (r+1) r []=F at *
   have HF:=hid hF
   clear hF
   go_wp2_with fail
   with_reducible refine HNU.out.mono ?_
   rintro e w5 ⟨rfl,vf',hE⟩
   have HB5:=hid (HB4.out.trans ((hE.below HWO.out).mono HB3.out.size))
   obtain ⟨A',c',ev,hc',hrf,_⟩:=rf_own hE.m.rf rfl
   subst ev
   have y0:=hE.m.cf
   have HRF2:=hid hrf
   clear hE hrf HNU x0 x1 xn X4
   go_wp2
   go_ret2
   rw [HV.out]
   exact ⟨A',F.length,c',rfl,rfl,hc',HRF2.out,HB5.out⟩
theorem qof_bad (m c:Nat) (A:Option Addr) (l:List Bi) (r:Int) (w:World) (hd:Hid (DOk w ⟨A,m,c,l,r⟩)) (hc:Hid (chk l r=20)) (hm:m≤4096) :
  Calls Tryz.prog 13 #[.agg #[.slice A m c,.int .i64 r]] w fun e w'=>PsR w w' ([],20) e:=by
 have X0:=nb2 w (.slice A m c) (.int .i64 r) 31
 have HB0:=hid (ab2 w (.cells #[.slice A m c,.int .i64 r] 31))
 have HCK:Hid (∀ W,Below w.heap.size w W→Calls Tryz.prog 42 #[.agg #[.slice A m c,.int .i64 r]] W fun e w'=>e=.returned (.int .i64 20)∧Below W.heap.size W w'):=hid (fun W hW=>by
  have:=rcheck_any l r m c A W (hid (hd.out.below hW)) hm
  rw [hc.out] at this
  exact this)
 clear hd hc
 go_enter Tryz.func13,Tryz.ntmps13
 obtain ⟨x0,x1,xn⟩:=xb2 X0
 go_wp2_with fail
 generalize w.alloc (.cells #[.slice A m c,.int .i64 r] 31)=w1 at *
 with_reducible refine (HCK.out w1 HB0.out).mono ?_
 rintro e w2 ⟨rfl,b2⟩
 have HB2:=btr HB0 b2 HB0.out.size
 clear b2 x0 x1 xn X0 HB0 HCK
 go_wp2
 go_ret2
 exact PsR.nil rfl HB2.out
theorem fof_bad (m c:Nat) (A:Option Addr) (l:List Bi) (r:Int) (w:World) (hd:Hid (DOk w ⟨A,m,c,l,r⟩)) (hc:Hid (chk l r=20)) :
  Calls Tryz.prog 12 #[.agg #[.slice A m c,.int .i64 r]] w fun e w'=>PsR w w' ([],20) e:=by
 have X0:=nb2 w (.slice A m c) (.int .i64 r) 31
 have HB0:=hid (ab2 w (.cells #[.slice A m c,.int .i64 r] 31))
 have HCK:Hid (∀ W,Below w.heap.size w W→Calls Tryz.prog 39 #[.agg #[.slice A m c,.int .i64 r]] W fun e w'=>e=.returned (.int .i64 20)∧Below W.heap.size W w'):=hid (fun W hW=>by
  have d2:=hd.out.below hW
  have:=check_any l r m c A W (hid d2.rd) (hid d2.wi) (hid d2.len) d2.lm d2.mc (hid d2.ri)
  rw [hc.out] at this
  exact this)
 clear hd hc
 go_enter Tryz.func12,Tryz.ntmps12
 obtain ⟨x0,x1,xn⟩:=xb2 X0
 go_wp2_with fail
 generalize w.alloc (.cells #[.slice A m c,.int .i64 r] 31)=w1 at *
 with_reducible refine (HCK.out w1 HB0.out).mono ?_
 rintro e w2 ⟨rfl,b2⟩
 have HB2:=btr HB0 b2 HB0.out.size
 clear b2 x0 x1 xn X0 HB0 HCK
 go_wp2
 go_ret2
 exact PsR.nil rfl HB2.out
theorem of_both (m c:Nat) (A:Option Addr) (l:List Bi) (r:Int) (w:World) (hd:Hid (DOk w ⟨A,m,c,l,r⟩)) (hm:m≤4096) :
  ∃ V:List Fi × Int,V.1.length≤512∧((chk l r=0∧(V.2=0∨V.2=2))∨(chk l r=20∧V.2=20))∧∀ W,Below w.heap.size w W →
    Calls Tryz.prog 12 #[.agg #[.slice A m c,.int .i64 r]] W (fun e w'=>PsR W w' V e)∧Calls Tryz.prog 13 #[.agg #[.slice A m c,.int .i64 r]] W (fun e w'=>PsR W w' V e):=by
 have hlen:l.length=m:=(dok_rd hd.out).2
 rcases chk_or (l:=l) (r:=r) (by omega) with h | h
 ·obtain ⟨M,n,hM,hn,hv,h4⟩:=chk_ok.1 h
  subst hM
  subst hn
  have hml:M.length=m:=by rw [up_len] at hlen;exact hlen
  obtain ⟨s,e,hV⟩:=ofW_ex hv.good.ord hv.lt
  refine ⟨ofW M n,?_,.inl ⟨h,?_⟩,fun W hW=>⟨?_,?_⟩⟩
  ·unfold ofW
   by_cases q:512<sz M n
   ·rw [if_pos q];show (0:Nat)≤512;omega
   ·rw [if_neg q]
    have:=wrN_len M hv.good.ord (n+1) n [] (by omega) hv.lt (by show 0+_≤_;omega)
    show (wrN M (n+1) n []).length≤512
    rw [this]
    show 0+_≤_
    omega
  ·unfold ofW
   by_cases q:512<sz M n
   ·rw [if_pos q];exact .inr rfl
   ·rw [if_neg q];exact .inl rfl
  ·exact fof_ok m c n A M s W (hid (hd.out.below hW)) (hid h) (hid e) (ofW M n) (hid hV)
  ·exact qof_ok m c n A M W (hid (hd.out.below hW)) (hid h) (hid hv) hm (hid hml)
 ·exact ⟨([],20),(by show (0:Nat)≤512;omega),.inr ⟨h,rfl⟩,fun W hW=>⟨fof_bad m c A l r W (hid (hd.out.below hW)) (hid h),qof_bad m c A l r W (hid (hd.out.below hW)) (hid h) hm⟩⟩
end Go.Proofs.YtpaednfinlaioaaGreatDoor
