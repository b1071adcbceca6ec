/-
  Plain mathematics and contracts of package diagram, several texts in one: PLoad.
-/
import Derived.Test.YtpaednfinlaioaaGreatDoorMa
namespace Go.Proofs.YtpaednfinlaioaaGreatDoor
namespace Dg
structure Ld (M N N':List Br) (num:Nat→Nat) (k:Nat):Prop where
 pre:∃ X,N'=N++X
 good:Good N'
 len:N'.length≤N.length+k
 lt:∀ n,n<k+2→num n<N'.length+2
 den:∀ n,n<k+2→Den N' (num n)=Den M n
 lev:∀ n,n<k+2→lev N' (num n)=lev M n
def nup (num:Nat→Nat) (i x:Nat):Nat→Nat:=fun j=>if j=i then x else num j
theorem Ld.step {M N N':List Br} {num:Nat→Nat} {k:Nat} (h:Ld M N N' num k) (hM:Good M) (hk:k<M.length) :
  Ld M N (ins N' (bv M k,num (bl M k),num (bh M k))).1 (nup num (k+2) (ins N' (bv M k,num (bl M k),num (bh M k))).2) (k+1):=by
 obtain ⟨hv,hl,hh,hlv,hhv⟩:=hM.ord k hk
 have hne:num (bl M k)≠num (bh M k):=fun e=>hM.red k hk (Den_inj hM (by omega) (by omega) (by rw [← h.den _ hl,← h.den _ hh,e]))
 obtain ⟨X,hX⟩:=h.pre
 have hll:=h.lt _ hl
 have hhl:=h.lt _ hh
 have hvl:bv M k<Dg.lev N' (num (bl M k)):=by rw [h.lev _ hl];exact hlv
 have hvh:bv M k<Dg.lev N' (num (bh M k)):=by rw [h.lev _ hh];exact hhv
 by_cases hin:(bv M k,num (bl M k),num (bh M k))∈N'
 ·rw [ins_in hin]
  have hi:N'.idxOf (bv M k,num (bl M k),num (bh M k))<N'.length:=List.idxOf_lt_length_iff.2 hin
  have hx:=List.getElem_idxOf hi
  generalize hj:N'.idxOf (bv M k,num (bl M k),num (bh M k))=j at *
  rw [br_at hi] at hx
  rw [Prod.mk.injEq,Prod.mk.injEq] at hx
  obtain ⟨e1,e2,e3⟩:=hx
  show Ld M N N' (nup num (k+2) (j+2)) (k+1)
  refine ⟨h.pre,h.good,by have:=h.len;omega,fun n hn=>?_,fun n hn=>?_,fun n hn=>?_⟩
  all_goals
   unfold nup
   split
  ·show j+2<_;omega
  ·exact h.lt n (by omega)
  ·next e =>
   subst e
   show Den N' (j+2)=_
   funext c
   rw [Den_br h.good.ord hi,Den_br hM.ord hk,e1,e2,e3,h.den _ hl,h.den _ hh]
  ·exact h.den n (by omega)
  ·next e =>
   subst e
   show Dg.lev N' (j+2)=_
   rw [lev_br,lev_br,e1]
  ·exact h.lev n (by omega)
 ·rw [ins_not hin]
  have hg:=h.good.snoc hin hv hll hhl hvl hvh hne
  show Ld M N (N'++[(bv M k,num (bl M k),num (bh M k))]) (nup num (k+2) (N'.length+2)) (k+1)
  refine ⟨⟨X++[(bv M k,num (bl M k),num (bh M k))],by rw [hX,List.append_assoc]⟩,hg,by have:=h.len;rw [List.length_append,List.length_singleton];omega,fun n hn=>?_,fun n hn=>?_,fun n hn=>?_⟩
  all_goals
   unfold nup
   split
  ·rw [List.length_append,List.length_singleton];omega
  ·have:=h.lt n (by omega);rw [List.length_append,List.length_singleton];omega
  ·next e =>
   subst e
   show Den (N'++[_]) (N'.length+2)=_
   funext c
   rw [Den_br hg.ord (by simp),Den_br hM.ord hk,bv_new,bl_new,bh_new]
   show (if c (bv M k) then Den (N'++[_]) (num (bh M k)) c else Den (N'++[_]) (num (bl M k)) c)=_
   rw [Den_pre h.good.ord hhl,Den_pre h.good.ord hll,h.den _ hl,h.den _ hh]
  ·have:=h.lt n (by omega)
   rw [Den_pre h.good.ord this];exact h.den n (by omega)
  ·next e =>
   subst e
   show Dg.lev (N'++[_]) (N'.length+2)=_
   rw [lev_br,lev_br,bv_new]
  ·have:=h.lt n (by omega)
   rw [lev_pre this];exact h.lev n (by omega)
theorem Good.small {N:List Br} (h:Good N) (hl:N.length≤900000):∀ b∈N,b.1<1000000∧b.2.1<1000000∧b.2.2<1000000:=by
 intro b hb
 obtain ⟨k,hk,e⟩:=List.getElem_of_mem hb
 rw [br_at hk] at e
 subst e
 obtain ⟨h1,h2,h3,_,_⟩:=h.ord k hk
 exact ⟨by show bv N k<_;omega,by show bl N k<_;omega,by show bh N k<_;omega⟩
end Dg
end Go.Proofs.YtpaednfinlaioaaGreatDoor
