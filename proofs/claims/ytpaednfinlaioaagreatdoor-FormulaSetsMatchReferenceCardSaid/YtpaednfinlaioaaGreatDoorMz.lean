/-
  Plain mathematics and contracts of package diagram, several texts in one: PSize.
-/
import Derived.Test.YtpaednfinlaioaaGreatDoorMa
namespace Go.Proofs.YtpaednfinlaioaaGreatDoor
namespace St
open Dg
structure Clo {ι:Type} (φ:ι→Cfg→Bool) (P:Nat→ι→Prop):Prop where
 dep:∀ d i,P d i→Dep d (φ i)
 low:∀ d i,d<64→P (d+1) i→∀ b,∃ j,P d j∧(fun c=>φ i (set c (63 - d) b))=φ j
theorem put_among {ι:Type} {φ:ι→Cfg→Bool} {P:Nat→ι→Prop} (h:Clo φ P):∀ (d:Nat) (i:ι) (M:List Br),d≤64→P d i→Good M→∀ k,M.length≤k→k<(put d (φ i) M).1.length→∃ d' j,P d' j∧Den (put d (φ i) M).1 (k+2)=φ j
 | 0,i,M,_,hp,hM,k,hk,hk2=>by
   exact absurd hk2 (by show ¬ k<M.length;omega)
 | d+1,i,M,hd,hp,hM,k,hk,hk2=>by
   obtain ⟨a,pa,ea⟩:=h.low d i (by omega) hp false
   obtain ⟨b,pb,eb⟩:=h.low d i (by omega) hp true
   have p:=put_ok d (φ a) M (by omega) (h.dep d a pa) hM
   have q:=put_ok d (φ b) (put d (φ a) M).1 (by omega) (h.dep d b pb) p.good
   have whole:=put_ok (d+1) (φ i) M hd (h.dep _ i hp) hM
   have A:=put_among h d a M (by omega) pa hM
   have B:=put_among h d b (put d (φ a) M).1 (by omega) pb p.good
   have hput:put (d+1) (φ i) M=(if (put d (φ a) M).2=(put d (φ b) (put d (φ a) M).1).2 then ((put d (φ b) (put d (φ a) M).1).1,(put d (φ a) M).2) else ins (put d (φ b) (put d (φ a) M).1).1 (63 - d,(put d (φ a) M).2,(put d (φ b) (put d (φ a) M).1).2)):=by
    rw [← ea,← eb]
    rfl
   obtain ⟨Y,hY⟩:=q.pre
   have both:∀ k,M.length≤k→k<(put d (φ b) (put d (φ a) M).1).1.length→∃ d' j,P d' j∧Den (put d (φ b) (put d (φ a) M).1).1 (k+2)=φ j:=by
    intro k h1 h2
    by_cases h3:k<(put d (φ a) M).1.length
    ·obtain ⟨d',j,hj,e⟩:=A k h1 h3
     exact ⟨d',j,hj,by rw [hY,Den_pre p.good.ord (by omega),e]⟩
    ·exact B k (by omega) h2
   have hden:=whole.den
   have hlt:=whole.lt
   rw [hput] at hk2 hden hlt ⊢
   generalize put d (φ b) (put d (φ a) M).1=Q at *
   obtain ⟨Q1,qb⟩:=Q
   generalize put d (φ a) M=R at *
   obtain ⟨R1,ra⟩:=R
   simp only at *
   by_cases e:ra=qb
   ·rw [if_pos e] at hk2 ⊢
    exact both k hk hk2
   ·rw [if_neg e] at hk2 hden hlt ⊢
    by_cases hin:(63 - d,ra,qb)∈Q1
    ·have e1:(ins Q1 (63 - d,ra,qb)).1=Q1:=by rw [ins_in hin]
     rw [e1] at hk2 ⊢
     exact both k hk hk2
    ·rw [ins_not hin] at hk2 hden hlt ⊢
     simp only at hk2 hden hlt ⊢
     rw [List.length_append,List.length_singleton] at hk2
     by_cases h3:k<Q1.length
     ·obtain ⟨d',j,hj,e2⟩:=both k hk h3
      exact ⟨d',j,hj,by rw [Den_pre q.good.ord (by omega),e2]⟩
     ·obtain rfl:k=Q1.length:=by omega
      exact ⟨_,i,hp,hden⟩
theorem cn_among {ι:Type} {φ:ι→Cfg→Bool} {P:Nat→ι→Prop} (h:Clo φ P) (i:ι) (hi:P 64 i) (enc:ι→Nat) (n:Nat) (hn:∀ d j,P d j→enc j<n) (hinj:∀ d j d' j',P d j→P d' j'→enc j=enc j'→φ j=φ j'):(cn (φ i)).1.length≤n:=by
 have hA:=put_among h 64 i [] (Nat.le_refl _) hi good_nil
 have hG:=(put_ok64 (h.dep 64 i hi) good_nil).good
 have hc:cn (φ i)=put 64 (φ i) []:=rfl
 rw [← hc] at hA hG
 generalize cn (φ i)=R at *
 obtain ⟨M,r⟩:=R
 simp only at *
 let pick:Nat→Nat:=fun k=>if hk:k<M.length then enc ((hA k (by simp) hk).choose_spec.choose) else 0
 have hp:∀ k (hk:k<M.length),∃ d j,P d j∧Den M (k+2)=φ j∧pick k=enc j:=fun k hk=>by
  have hs:=(hA k (by simp) hk).choose_spec.choose_spec
  exact ⟨_,_,hs.1,hs.2,by show (if hk:k<M.length then _ else 0)=_;rw [dif_pos hk]⟩
 have hnd:((List.range M.length).map pick).Nodup:=nodup_map_on List.nodup_range (fun x hx y hy e=>by
  have hx:=List.mem_range.1 hx
  have hy:=List.mem_range.1 hy
  obtain ⟨d1,j1,p1,e1,f1⟩:=hp x hx
  obtain ⟨d2,j2,p2,e2,f2⟩:=hp y hy
  have e3:=hinj _ _ _ _ p1 p2 (by rw [← f1,← f2,e])
  have:=Den_inj hG (m:=x+2) (n:=y+2) (by omega) (by omega) (by rw [e1,e2,e3])
  omega)
 have:=pig n _ hnd (fun z hz=>by
  obtain ⟨k,hk,rfl⟩:=List.mem_map.1 hz
  obtain ⟨d,j,pj,_,f⟩:=hp k (List.mem_range.1 hk)
  rw [f];exact hn _ _ pj)
 simpa using this
structure TriP (A B C:List Br) (d:Nat) (t:Nat × Nat × Nat):Prop where
 l0:t.1<A.length+2
 l1:t.2.1<B.length+2
 l2:t.2.2<C.length+2
 v0:64 - d≤lev A t.1
 v1:64 - d≤lev B t.2.1
 v2:64 - d≤lev C t.2.2
theorem tri_clo {A B C:List Br} (hA:Ord A) (hB:Ord B) (hC:Ord C) (op:Bool→Bool→Bool→Bool):Clo (fun (t:Nat × Nat × Nat) (c:Cfg)=>op (Den A t.1 c) (Den B t.2.1 c) (Den C t.2.2 c)) (TriP A B C):=by
 refine ⟨fun d t h=>?_,fun d t hd h b=>?_⟩
 ·have d0:=Den_dep hA h.l0 h.v0
  have d1:=Den_dep hB h.l1 h.v1
  have d2:=Den_dep hC h.l2 h.v2
  intro c c' hc
  show op (Den A t.1 c) (Den B t.2.1 c) (Den C t.2.2 c)=op (Den A t.1 c') (Den B t.2.1 c') (Den C t.2.2 c')
  rw [d0 c c' hc,d1 c c' hc,d2 c c' hc]
 ·have e:64 - (d+1)=63 - d:=by omega
  have v0:=h.v0
  have v1:=h.v1
  have v2:=h.v2
  rw [e] at v0 v1 v2
  obtain ⟨a1,a2,_,_⟩:=sd_ok hA h.l0 (by omega:63 - d<64) v0 b
  obtain ⟨b1,b2,_,_⟩:=sd_ok hB h.l1 (by omega:63 - d<64) v1 b
  obtain ⟨c1,c2,_,_⟩:=sd_ok hC h.l2 (by omega:63 - d<64) v2 b
  refine ⟨(sd A (63 - d) t.1 b,sd B (63 - d) t.2.1 b,sd C (63 - d) t.2.2 b),⟨a2,b2,c2,by show 64 - d≤lev A (sd A (63 - d) t.1 b);omega,by show 64 - d≤lev B (sd B (63 - d) t.2.1 b);omega,by show 64 - d≤lev C (sd C (63 - d) t.2.2 b);omega⟩,?_⟩
  have ea:=sd_den hA h.l0 (by omega:63 - d<64) v0 b
  have eb:=sd_den hB h.l1 (by omega:63 - d<64) v1 b
  have ec:=sd_den hC h.l2 (by omega:63 - d<64) v2 b
  funext c
  show op (Den A t.1 (set c (63 - d) b)) (Den B t.2.1 (set c (63 - d) b)) (Den C t.2.2 (set c (63 - d) b))=op (Den A (sd A (63 - d) t.1 b) c) (Den B (sd B (63 - d) t.2.1 b) c) (Den C (sd C (63 - d) t.2.2 b) c)
  rw [← ea,← eb,← ec]
theorem enc3 {x y z x' y' z' p q:Nat} (hy:y<p) (hy':y'<p) (hz:z<q) (hz':z'<q) (h:(x*p+y)*q+z=(x'*p+y')*q+z'):x=x'∧y=y'∧z=z':=by
 have inj:∀ a b c d s:Nat,b<s→d<s→a*s+b=c*s+d→a=c∧b=d:=fun a b c d s hb hd e=>by
  have h1:(a*s+b) / s=a:=by rw [Nat.mul_comm,Nat.mul_add_div (by omega),Nat.div_eq_of_lt hb];omega
  have h2:(c*s+d) / s=c:=by rw [Nat.mul_comm,Nat.mul_add_div (by omega),Nat.div_eq_of_lt hd];omega
  have:a=c:=by rw [← h1,e,h2]
  subst this
  exact ⟨rfl,by omega⟩
 obtain ⟨h1,h2⟩:=inj _ _ _ _ q hz hz' h
 obtain ⟨h3,h4⟩:=inj _ _ _ _ p hy hy' h1
 exact ⟨h3,h4,h2⟩
theorem enc_lt {x y s0 s1:Nat} (hx:x<s0) (hy:y<s1):x*s1+y<s0*s1:=by
 have:(x+1)*s1≤s0*s1:=Nat.mul_le_mul_right _ hx
 rw [Nat.add_mul] at this;omega
theorem tri_size {A B C:List Br} (hA:Ord A) (hB:Ord B) (hC:Ord C) (op:Bool→Bool→Bool→Bool) {x y z:Nat} (hx:x<A.length+2) (hy:y<B.length+2) (hz:z<C.length+2) :
  (cn (fun c=>op (Den A x c) (Den B y c) (Den C z c))).1.length≤((A.length+2)*(B.length+2))*(C.length+2) :=
 cn_among (tri_clo hA hB hC op) (x,y,z) ⟨hx,hy,hz,by simp,by simp,by simp⟩ (fun t=>(t.1*(B.length+2)+t.2.1)*(C.length+2)+t.2.2) _
  (fun d t h=>enc_lt (enc_lt h.l0 h.l1) h.l2) (fun d t d' t' h h' e=>by
   obtain ⟨e1,e2,e3⟩:=enc3 h.l1 h'.l1 h.l2 h'.l2 e
   show (fun c=>op (Den A t.1 c) (Den B t.2.1 c) (Den C t.2.2 c))=fun c=>op (Den A t'.1 c) (Den B t'.2.1 c) (Den C t'.2.2 c)
   rw [e1,e2,e3])
theorem ord_nil:Ord []:=fun k hk=>absurd hk (by simp)
theorem bin_size {A B:List Br} (hA:Ord A) (hB:Ord B) (op:Bool→Bool→Bool) {x y:Nat} (hx:x<A.length+2) (hy:y<B.length+2) :
  (cn (fun c=>op (Den A x c) (Den B y c))).1.length≤((A.length+2)*(B.length+2))*2 :=
 tri_size hA hB ord_nil (fun p q _=>op p q) (x:=x) (y:=y) (z:=0) hx hy (by simp)
end St
end Go.Proofs.YtpaednfinlaioaaGreatDoor
