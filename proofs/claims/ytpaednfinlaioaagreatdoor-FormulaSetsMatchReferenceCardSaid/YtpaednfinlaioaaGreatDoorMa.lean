/-
  Plain mathematics and contracts of package diagram, several texts in one: Dg, Put, Canon, Settle, Prod, PMemo, PVis, PCn, PTab, PMiss, PNot, PFix, PLst, PCnt, PSan, PBnd, PLit, PPig, PAt, PVp.
-/
set_option maxRecDepth 100000
namespace Go.Proofs.YtpaednfinlaioaaGreatDoor
namespace Dg
abbrev Cfg:=Nat→Bool
abbrev Br:=Nat × Nat × Nat
def bv (M:List Br) (k:Nat):Nat:=(M.getD k (0,0,0)).1
def bl (M:List Br) (k:Nat):Nat:=(M.getD k (0,0,0)).2.1
def bh (M:List Br) (k:Nat):Nat:=(M.getD k (0,0,0)).2.2
def set (c:Cfg) (v:Nat) (b:Bool):Cfg:=fun i=>if i=v then b else c i
theorem set_self (c:Cfg) (v:Nat):set c v (c v)=c:=by
 funext i;unfold set;split
 ·next h=>rw [h]
 ·rfl
theorem set_same (c:Cfg) (v:Nat) (b:Bool):set c v b v=b:=by unfold set;simp
theorem set_other {c:Cfg} {v i:Nat} {b:Bool} (h:i≠v):set c v b i=c i:=by unfold set;simp [h]
def den (M:List Br):Nat→Nat→Cfg→Bool
 | 0,_,_=>false
 | f+1,n,c=>if n<2 then n == 1 else if c (bv M (n - 2)) then den M f (bh M (n - 2)) c else den M f (bl M (n - 2)) c
def Den (M:List Br) (n:Nat) (c:Cfg):Bool:=den M (n+1) n c
def lev (M:List Br) (n:Nat):Nat:=if n<2 then 64 else bv M (n - 2)
def Ord (M:List Br):Prop:=∀ k,k<M.length→bv M k<64∧bl M k<k+2∧bh M k<k+2∧bv M k<lev M (bl M k)∧bv M k<lev M (bh M k)
def Red (M:List Br):Prop:=∀ k,k<M.length→bl M k≠bh M k
structure Good (M:List Br):Prop where
 ord:Ord M
 red:Red M
 nodup:M.Nodup
theorem lev_le {M:List Br} (h:Ord M) {n:Nat} (hn:n<M.length+2):lev M n≤64:=by
 unfold lev;split
 ·exact Nat.le_refl _
 ·have:=(h (n - 2) (by omega)).1;omega
theorem lev_lt {M:List Br} (h:Ord M) {n:Nat} (hn:n<M.length+2) (h2:2≤n):lev M n<64:=by
 unfold lev;rw [if_neg (by omega)];exact (h (n - 2) (by omega)).1
theorem lev_br (M:List Br) (k:Nat):lev M (k+2)=bv M k:=by unfold lev;rw [if_neg (by omega),Nat.add_sub_cancel]
theorem lev_const {M:List Br} {n:Nat} (h:n<2):lev M n=64:=if_pos h
theorem den_fuel {M:List Br} (h:Ord M) (c:Cfg):∀ (f g n:Nat),n<M.length+2→n<f→n<g→den M f n c=den M g n c:=by
 intro f
 induction f with
 | zero=>intro g n _ h1 _;omega
 | succ f ih =>
   intro g n hn hf hg
   obtain ⟨g,rfl⟩:∃ g',g=g'+1:=⟨g - 1,by omega⟩
   unfold den
   by_cases h2:n<2
   ·rw [if_pos h2,if_pos h2]
   ·rw [if_neg h2,if_neg h2]
    obtain ⟨_,hl,hh,_,_⟩:=h (n - 2) (by omega)
    rw [ih g (bh M (n - 2)) (by omega) (by omega) (by omega),ih g (bl M (n - 2)) (by omega) (by omega) (by omega)]
theorem Den_zero (M:List Br):Den M 0=fun _=>false:=by funext c;simp [Den,den]
theorem Den_one (M:List Br):Den M 1=fun _=>true:=by funext c;simp [Den,den]
theorem Den_br {M:List Br} (h:Ord M) {k:Nat} (hk:k<M.length) (c:Cfg):Den M (k+2) c=if c (bv M k) then Den M (bh M k) c else Den M (bl M k) c:=by
 obtain ⟨_,hl,hh,_,_⟩:=h k hk
 have e:Den M (k+2) c=if k+2<2 then k+2 == 1 else if c (bv M (k+2 - 2)) then den M (k+2) (bh M (k+2 - 2)) c else den M (k+2) (bl M (k+2 - 2)) c:=rfl
 rw [e,if_neg (by omega),Nat.add_sub_cancel,den_fuel h c (k+2) (bh M k+1) (bh M k) (by omega) (by omega) (by omega),den_fuel h c (k+2) (bl M k+1) (bl M k) (by omega) (by omega) (by omega)]
 rfl
theorem getD_pre {M X:List Br} {k:Nat} (h:k<M.length):(M++X).getD k (0,0,0)=M.getD k (0,0,0):=by
 rw [List.getD_eq_getElem?_getD,List.getD_eq_getElem?_getD,List.getElem?_append_left h]
theorem bv_pre {M X:List Br} {k:Nat} (h:k<M.length):bv (M++X) k=bv M k:=by unfold bv;rw [getD_pre h]
theorem bl_pre {M X:List Br} {k:Nat} (h:k<M.length):bl (M++X) k=bl M k:=by unfold bl;rw [getD_pre h]
theorem bh_pre {M X:List Br} {k:Nat} (h:k<M.length):bh (M++X) k=bh M k:=by unfold bh;rw [getD_pre h]
theorem lev_pre {M X:List Br} {n:Nat} (h:n<M.length+2):lev (M++X) n=lev M n:=by
 unfold lev;split
 ·rfl
 ·exact bv_pre (by omega)
theorem den_pre {M X:List Br} (h:Ord M) (c:Cfg):∀ (f n:Nat),n<M.length+2→den (M++X) f n c=den M f n c:=by
 intro f
 induction f with
 | zero=>intro n _;rfl
 | succ f ih =>
   intro n hn
   unfold den
   by_cases h2:n<2
   ·rw [if_pos h2,if_pos h2]
   ·rw [if_neg h2,if_neg h2]
    obtain ⟨_,hl,hh,_,_⟩:=h (n - 2) (by omega)
    rw [bv_pre (by omega),bl_pre (by omega),bh_pre (by omega),ih _ (by omega),ih _ (by omega)]
theorem Den_pre {M X:List Br} (h:Ord M) {n:Nat} (hn:n<M.length+2):Den (M++X) n=Den M n:=by
 funext c;exact den_pre h c _ _ hn
theorem Ord.pre {M X:List Br} (h:Ord (M++X)):Ord M:=by
 intro k hk
 obtain ⟨h1,h2,h3,h4,h5⟩:=h k (by rw [List.length_append];omega)
 rw [bv_pre hk] at h1 h4 h5
 rw [bl_pre hk] at h2 h4
 rw [bh_pre hk] at h3 h5
 rw [lev_pre (by omega)] at h4 h5
 exact ⟨h1,h2,h3,h4,h5⟩
theorem Good.pre {M X:List Br} (h:Good (M++X)):Good M :=
 ⟨h.ord.pre,fun k hk=>by have:=h.red k (by rw [List.length_append];omega);rwa [bl_pre hk,bh_pre hk] at this,(List.nodup_append.1 h.nodup).1⟩
theorem Good.take {M:List Br} (h:Good M) (k:Nat):Good (M.take k):=by
 have e:=List.take_append_drop k M
 rw [← e] at h
 exact h.pre
theorem good_nil:Good []:=⟨fun k hk=>absurd hk (by simp),fun k hk=>absurd hk (by simp),List.nodup_nil⟩
theorem den_indep {M:List Br} (h:Ord M) (c:Cfg) (v:Nat) (b:Bool):∀ (f n:Nat),n<M.length+2→v<lev M n→den M f n (set c v b)=den M f n c:=by
 intro f
 induction f with
 | zero=>intro n _ _;rfl
 | succ f ih =>
   intro n hn hv
   unfold den
   by_cases h2:n<2
   ·rw [if_pos h2,if_pos h2]
   ·rw [if_neg h2,if_neg h2]
    obtain ⟨_,hl,hh,hvl,hvh⟩:=h (n - 2) (by omega)
    have hv2:v<bv M (n - 2):=by unfold lev at hv;rwa [if_neg h2] at hv
    rw [set_other (by omega),ih _ (by omega) (by omega),ih _ (by omega) (by omega)]
theorem Den_indep {M:List Br} (h:Ord M) (c:Cfg) {v n:Nat} (b:Bool) (hn:n<M.length+2) (hv:v<lev M n):Den M n (set c v b)=Den M n c:=den_indep h c v b _ n hn hv
theorem Den_low {M:List Br} (h:Ord M) {k:Nat} (hk:k<M.length):(fun c=>Den M (k+2) (set c (bv M k) false))=Den M (bl M k):=by
 funext c
 obtain ⟨_,hl,_,hv,_⟩:=h k hk
 rw [Den_br h hk,set_same,if_neg (by simp),Den_indep h c false (by omega) hv]
theorem Den_high {M:List Br} (h:Ord M) {k:Nat} (hk:k<M.length):(fun c=>Den M (k+2) (set c (bv M k) true))=Den M (bh M k):=by
 funext c
 obtain ⟨_,_,hl,_,hv⟩:=h k hk
 rw [Den_br h hk,set_same,if_pos rfl,Den_indep h c true (by omega) hv]
theorem Den_skip {M:List Br} (h:Ord M) {n v:Nat} (hn:n<M.length+2) (hv:v<lev M n) (b:Bool):(fun c=>Den M n (set c v b))=Den M n:=by
 funext c;exact Den_indep h c b hn hv
theorem br_ext {M:List Br} {i j:Nat} (hi:i<M.length) (hj:j<M.length) (h1:bv M i=bv M j) (h2:bl M i=bl M j) (h3:bh M i=bh M j):M[i]=M[j]:=by
 unfold bv at h1;unfold bl at h2;unfold bh at h3
 simp only [List.getD_eq_getElem?_getD,List.getElem?_eq_getElem hi,List.getElem?_eq_getElem hj,Option.getD_some] at h1 h2 h3
 exact Prod.ext h1 (Prod.ext h2 h3)
theorem inj_aux {M:List Br} (h:Good M):∀ (B m n:Nat),m<B→n<B→m<M.length+2→n<M.length+2→Den M m=Den M n→m=n:=by
 intro B
 induction B with
 | zero=>intro m n h1;omega
 | succ B ih =>
   have key:∀ m n:Nat,m<B+1→n<B+1→m<M.length+2→n<M.length+2→Den M m=Den M n→lev M m≤lev M n→m=n:=by
    intro m n hm hn hml hnl he hlev
    by_cases hm2:m<2
    ·have h64:lev M n=64:=by
      have:=lev_le h.ord hnl
      rw [lev_const hm2] at hlev;omega
     have hn2:n<2:=by
      rcases Nat.lt_or_ge n 2 with h2 | h2
      ·exact h2
      ·have:=lev_lt h.ord hnl h2;omega
     have hcase:(m=0∨m=1)∧(n=0∨n=1):=⟨by omega,by omega⟩
     obtain ⟨hm' | hm',hn' | hn'⟩:=hcase <;> subst hm' <;> subst hn'
     ·rfl
     ·rw [Den_zero,Den_one] at he;exact absurd (congrFun he (fun _=>false)) (by simp)
     ·rw [Den_zero,Den_one] at he;exact absurd (congrFun he (fun _=>false)) (by simp)
     ·rfl
    ·obtain ⟨k,rfl⟩:∃ k,m=k+2:=⟨m - 2,by omega⟩
     have hk:k<M.length:=by omega
     obtain ⟨_,hl,hh,_,_⟩:=h.ord k hk
     rw [lev_br] at hlev
     have e1:=Den_low h.ord hk
     have e2:=Den_high h.ord hk
     rw [he] at e1 e2
     by_cases hlt:bv M k<lev M n
     ·rw [Den_skip h.ord hnl hlt] at e1 e2
      exact absurd (ih (bl M k) (bh M k) (by omega) (by omega) (by omega) (by omega) (e1.symm.trans e2)) (h.red k hk)
     ·have heq:lev M n=bv M k:=by omega
      have hn2:2≤n:=by
       rcases Nat.lt_or_ge n 2 with h2 | h2
       ·rw [lev_const h2] at heq;have:=(h.ord k hk).1;omega
       ·exact h2
      obtain ⟨j,rfl⟩:∃ j,n=j+2:=⟨n - 2,by omega⟩
      have hj:j<M.length:=by omega
      obtain ⟨_,hl',hh',_,_⟩:=h.ord j hj
      rw [lev_br] at heq
      rw [← heq] at e1 e2
      rw [Den_low h.ord hj] at e1
      rw [Den_high h.ord hj] at e2
      have f1:=ih (bl M j) (bl M k) (by omega) (by omega) (by omega) (by omega) e1
      have f2:=ih (bh M j) (bh M k) (by omega) (by omega) (by omega) (by omega) e2
      have f3:=br_ext hj hk heq f1 f2
      have f4:=(List.getElem_inj h.nodup).1 f3
      omega
   intro m n hm hn hml hnl he
   rcases Nat.le_total (lev M m) (lev M n) with hle | hle
   ·exact key m n hm hn hml hnl he hle
   ·exact (key n m hn hm hnl hml he.symm hle).symm
theorem Den_inj {M:List Br} (h:Good M) {m n:Nat} (hm:m<M.length+2) (hn:n<M.length+2) (he:Den M m=Den M n):m=n :=
 inj_aux h (m+n+1) m n (by omega) (by omega) hm hn he
def ins (M:List Br) (b:Br):List Br × Nat:=if b∈M then (M,M.idxOf b+2) else (M++[b],M.length+2)
def put:Nat→(Cfg→Bool)→List Br→List Br × Nat
 | 0,f,M=>(M,if f (fun _=>false) then 1 else 0)
 | d+1,f,M =>
   let p:=put d (fun c=>f (set c (63 - d) false)) M
   let q:=put d (fun c=>f (set c (63 - d) true)) p.1
   if p.2=q.2 then (q.1,p.2) else ins q.1 (63 - d,p.2,q.2)
def Dep (d:Nat) (f:Cfg→Bool):Prop:=∀ c c':Cfg,(∀ i,64 - d≤i→i<64→c i=c' i)→f c=f c'
theorem Dep.set {d:Nat} {f:Cfg→Bool} (h:Dep (d+1) f) (b:Bool):Dep d (fun c=>f (set c (63 - d) b)):=by
 intro c c' hc
 apply h
 intro i h1 h2
 by_cases e:i=63 - d
 ·subst e;rw [set_same,set_same]
 ·rw [set_other e,set_other e];exact hc i (by omega) h2
theorem Dep.skip {d:Nat} {f:Cfg→Bool} (h:Dep d f) (hd:d<64) (b:Bool):(fun c=>f (Dg.set c (63 - d) b))=f:=by
 funext c
 apply h
 intro i h1 h2
 exact set_other (by omega)
theorem Dep.mono {d e:Nat} {f:Cfg→Bool} (h:Dep d f) (hde:d≤e):Dep e f:=fun c c' hc=>h c c' fun i h1 h2=>hc i (by omega) h2
theorem Den_dep {M:List Br} (h:Ord M) {n d:Nat} (hn:n<M.length+2) (hd:64 - d≤lev M n):Dep d (Den M n):=by
 have aux:∀ (f n:Nat),n<M.length+2→64 - d≤lev M n→∀ c c':Cfg,(∀ i,64 - d≤i→i<64→c i=c' i)→den M f n c=den M f n c':=by
  intro f
  induction f with
  | zero=>intro n _ _ c c' _;rfl
  | succ f ih =>
    intro n hn hd c c' hc
    unfold den
    by_cases h2:n<2
    ·rw [if_pos h2,if_pos h2]
    ·rw [if_neg h2,if_neg h2]
     obtain ⟨h64,hl,hh,hvl,hvh⟩:=h (n - 2) (by omega)
     have hv:64 - d≤bv M (n - 2):=by unfold lev at hd;rwa [if_neg h2] at hd
     rw [hc _ hv h64,ih _ (by omega) (by omega) c c' hc,ih _ (by omega) (by omega) c c' hc]
 intro c c' hc
 exact aux _ n hn hd c c' hc
theorem ins_in {M:List Br} {b:Br} (h:b∈M):ins M b=(M,M.idxOf b+2):=if_pos h
theorem ins_not {M:List Br} {b:Br} (h:b∉M):ins M b=(M++[b],M.length+2):=if_neg h
theorem idx_at {M:List Br} (h:M.Nodup) {k:Nat} (hk:k<M.length):M.idxOf M[k]=k:=by
 have h1:M.idxOf M[k]<M.length:=List.idxOf_lt_length_iff.2 (List.getElem_mem hk)
 have h2:M[M.idxOf M[k]]=M[k]:=List.getElem_idxOf h1
 exact (List.getElem_inj h).1 h2
theorem br_at {M:List Br} {k:Nat} (hk:k<M.length):M[k]=(bv M k,bl M k,bh M k):=by
 unfold bv bl bh
 simp only [List.getD_eq_getElem?_getD,List.getElem?_eq_getElem hk,Option.getD_some]
theorem bv_new (M:List Br) (b:Br):bv (M++[b]) M.length=b.1:=by unfold bv;simp
theorem bl_new (M:List Br) (b:Br):bl (M++[b]) M.length=b.2.1:=by unfold bl;simp
theorem bh_new (M:List Br) (b:Br):bh (M++[b]) M.length=b.2.2:=by unfold bh;simp
theorem Good.snoc {M:List Br} (h:Good M) {v l r:Nat} (hb:(v,l,r)∉M) (hv:v<64) (hl:l<M.length+2) (hr:r<M.length+2) (hlv:v<lev M l) (hrv:v<lev M r) (hne:l≠r):Good (M++[(v,l,r)]):=by
 refine ⟨fun k hk=>?_,fun k hk=>?_,List.nodup_append.2 ⟨h.nodup,by simp,fun a ha b hb2=>by rw [List.mem_singleton] at hb2;subst hb2;intro e;subst e;exact hb ha⟩⟩
 ·rw [List.length_append,List.length_singleton] at hk
  rcases Nat.lt_or_ge k M.length with h1 | h1
  ·obtain ⟨a,b,c,d,e⟩:=h.ord k h1
   rw [bv_pre h1,bl_pre h1,bh_pre h1,lev_pre (by omega),lev_pre (by omega)]
   exact ⟨a,b,c,d,e⟩
  ·obtain rfl:k=M.length:=by omega
   rw [bv_new,bl_new,bh_new,lev_pre hl,lev_pre hr]
   exact ⟨hv,hl,hr,hlv,hrv⟩
 ·rw [List.length_append,List.length_singleton] at hk
  rcases Nat.lt_or_ge k M.length with h1 | h1
  ·rw [bl_pre h1,bh_pre h1];exact h.red k h1
  ·obtain rfl:k=M.length:=by omega
   rw [bl_new,bh_new];exact hne
structure PutOk (d:Nat) (f:Cfg→Bool) (M M':List Br) (r:Nat):Prop where
 pre:∃ X,M'=M++X
 good:Good M'
 lt:r<M'.length+2
 den:Den M' r=f
 lev:64 - d≤lev M' r
 new:∀ k,M.length≤k→k<M'.length→64 - d≤bv M' k
theorem set_cases (f:Cfg→Bool) (c:Cfg) (v:Nat):f c=if c v then f (set c v true) else f (set c v false):=by
 rcases h:c v with _ | _
 ·rw [if_neg (by simp),← h,set_self]
 ·rw [if_pos rfl,← h,set_self]
theorem put_ok:∀ (d:Nat) (f:Cfg→Bool) (M:List Br),d≤64→Dep d f→Good M→PutOk d f M (put d f M).1 (put d f M).2:=by
 intro d
 induction d with
 | zero =>
   intro f M _ hf hM
   have hc:f=fun _=>f (fun _=>false):=by funext c;exact hf _ _ (fun i h1 h2=>by omega)
   show PutOk 0 f M M (if f (fun _=>false) then 1 else 0)
   rcases hv:f (fun _=>false) with _ | _
   ·rw [if_neg (by simp)]
    rw [hv] at hc
    exact ⟨⟨[],by simp⟩,hM,by omega,by rw [Den_zero,hc],by rw [lev_const (by omega)];omega,fun k h1 h2=>by omega⟩
   ·rw [if_pos rfl]
    rw [hv] at hc
    exact ⟨⟨[],by simp⟩,hM,by omega,by rw [Den_one,hc],by rw [lev_const (by omega)];omega,fun k h1 h2=>by omega⟩
 | succ d ih =>
   intro f M hd hf hM
   have p:=ih (fun c=>f (set c (63 - d) false)) M (by omega) (hf.set false) hM
   have q:=ih (fun c=>f (set c (63 - d) true)) _ (by omega) (hf.set true) p.good
   have e:put (d+1) f M=if (put d (fun c=>f (set c (63 - d) false)) M).2=(put d (fun c=>f (set c (63 - d) true)) (put d (fun c=>f (set c (63 - d) false)) M).1).2 then ((put d (fun c=>f (set c (63 - d) true)) (put d (fun c=>f (set c (63 - d) false)) M).1).1,(put d (fun c=>f (set c (63 - d) false)) M).2) else ins (put d (fun c=>f (set c (63 - d) true)) (put d (fun c=>f (set c (63 - d) false)) M).1).1 (63 - d,(put d (fun c=>f (set c (63 - d) false)) M).2,(put d (fun c=>f (set c (63 - d) true)) (put d (fun c=>f (set c (63 - d) false)) M).1).2):=rfl
   rw [e]
   generalize hp:put d (fun c=>f (set c (63 - d) false)) M=P at p q
   generalize hq:put d (fun c=>f (set c (63 - d) true)) P.1=Q at q
   obtain ⟨M1,a⟩:=P
   obtain ⟨M2,b⟩:=Q
   clear e hp hq
   simp only at p q ⊢
   obtain ⟨X,hX⟩:=p.pre
   obtain ⟨Y,hY⟩:=q.pre
   have hal:a<M2.length+2:=by rw [hY,List.length_append];have:=p.lt;omega
   have hda:Den M2 a=fun c=>f (set c (63 - d) false):=by rw [hY,Den_pre p.good.ord p.lt,p.den]
   have hla:lev M2 a=lev M1 a:=by rw [hY,lev_pre p.lt]
   have h1:=p.lev
   have h2:=q.lev
   have hnew:∀ k,M.length≤k→k<M2.length→64 - (d+1)≤bv M2 k:=by
    intro k hk1 hk2
    rcases Nat.lt_or_ge k M1.length with h | h
    ·have:=p.new k hk1 h
     rw [hY,bv_pre h];omega
    ·have:=q.new k h hk2;omega
   by_cases hab:a=b
   ·rw [if_pos hab]
    refine ⟨⟨X++Y,by rw [hY,hX,List.append_assoc]⟩,q.good,hal,?_,by rw [hla];omega,hnew⟩
    show Den M2 a=f
    have hdb:=q.den
    rw [← hab,hda] at hdb
    rw [hda]
    funext c
    rw [set_cases f c (63 - d)]
    have hc:f (set c (63 - d) false)=f (set c (63 - d) true):=congrFun hdb c
    rw [hc]
    split <;> rfl
   ·rw [if_neg hab]
    have hva:63 - d<lev M2 a:=by rw [hla];omega
    by_cases hin:(63 - d,a,b)∈M2
    ·rw [ins_in hin]
     have hk:M2.idxOf (63 - d,a,b)<M2.length:=List.idxOf_lt_length_iff.2 hin
     have hget:M2[M2.idxOf (63 - d,a,b)]=(63 - d,a,b):=List.getElem_idxOf hk
     have hat:=br_at hk
     rw [hget] at hat
     have e1:bv M2 (M2.idxOf (63 - d,a,b))=63 - d:=(congrArg (·.1) hat).symm
     have e2:bl M2 (M2.idxOf (63 - d,a,b))=a:=(congrArg (·.2.1) hat).symm
     have e3:bh M2 (M2.idxOf (63 - d,a,b))=b:=(congrArg (·.2.2) hat).symm
     refine ⟨⟨X++Y,by rw [hY,hX,List.append_assoc]⟩,q.good,Nat.add_lt_add_right hk 2,?_,by rw [lev_br,e1];omega,hnew⟩
     funext c
     rw [Den_br q.good.ord hk,e1,e2,e3,hda,q.den,set_cases f c (63 - d)]
    ·rw [ins_not hin]
     have hg:=q.good.snoc hin (by omega) hal q.lt hva (by omega) hab
     refine ⟨⟨X++(Y++[(63 - d,a,b)]),by rw [hY,hX,List.append_assoc,List.append_assoc]⟩,hg,by simp,?_,?_,?_⟩
     ·funext c
      rw [Den_br hg.ord (k:=M2.length) (by simp),bv_new,bl_new,bh_new,Den_pre q.good.ord hal,Den_pre q.good.ord q.lt,hda,q.den,set_cases f c (63 - d)]
     ·rw [lev_br,bv_new];omega
     ·intro k hk1 hk2
      rcases Nat.lt_or_ge k M2.length with h | h
      ·rw [bv_pre h];exact hnew k hk1 h
      ·have:k=M2.length:=by simp at hk2;omega
       subst this
       rw [bv_new];omega
theorem put_idem:∀ (d:Nat) (M:List Br) (r:Nat),d≤64→Good M→r<M.length+2→64 - d≤lev M r→put d (Den M r) M=(M,r):=by
 intro d
 induction d with
 | zero =>
   intro M r _ hM hr hl
   have h2:r<2:=by
    rcases Nat.lt_or_ge r 2 with h | h
    ·exact h
    ·have:=lev_lt hM.ord hr h;omega
   show (M,if Den M r (fun _=>false) then 1 else 0)=(M,r)
   obtain h | h:r=0∨r=1:=by omega
   ·subst h;rw [Den_zero];simp
   ·subst h;rw [Den_one];simp
 | succ d ih =>
   intro M r hd hM hr hl
   show (if (put d (fun c=>Den M r (set c (63 - d) false)) M).2=_ then _ else _)=_
   by_cases hv:63 - d<lev M r
   ·rw [Den_skip hM.ord hr hv,Den_skip hM.ord hr hv,ih M r (by omega) hM hr (by omega)]
    simp only
    rw [ih M r (by omega) hM hr (by omega)]
    simp
   ·have hr2:2≤r:=by
     rcases Nat.lt_or_ge r 2 with h | h
     ·rw [lev_const h] at hv;omega
     ·exact h
    obtain ⟨k,rfl⟩:∃ k,r=k+2:=⟨r - 2,by omega⟩
    have hk:k<M.length:=by omega
    have hvk:bv M k=63 - d:=by rw [lev_br] at hv hl;omega
    obtain ⟨_,h1,h2,h3,h4⟩:=hM.ord k hk
    rw [← hvk,Den_low hM.ord hk,Den_high hM.ord hk,ih M (bl M k) (by omega) hM (by omega) (by omega)]
    simp only
    rw [ih M (bh M k) (by omega) hM (by omega) (by omega)]
    simp only
    rw [if_neg (hM.red k hk),← br_at hk,ins_in (List.getElem_mem hk),idx_at hM.nodup hk]
theorem put_step {d:Nat} {f:Cfg→Bool} {M:List Br} (hd:d<64) (hf:Dep d f) (hM:Good M):put (d+1) f M=put d f M:=by
 have p:=put_ok d f M (by omega) hf hM
 show (if (put d (fun c=>f (set c (63 - d) false)) M).2=_ then _ else _)=_
 rw [hf.skip hd,hf.skip hd]
 have e:=put_idem d (put d f M).1 (put d f M).2 (by omega) p.good p.lt p.lev
 rw [p.den] at e
 simp only [e,if_true]
theorem put_lift {d e:Nat} {f:Cfg→Bool} {M:List Br} (hde:d≤e) (he:e≤64) (hf:Dep d f) (hM:Good M):put e f M=put d f M:=by
 induction e with
 | zero=>rw [show d=0 by omega]
 | succ e ih =>
   rcases Nat.lt_or_ge d (e+1) with h | h
   ·rw [put_step (by omega) (hf.mono (by omega)) hM,ih (by omega) (by omega)]
   ·rw [show d=e+1 by omega]
theorem put_size:∀ (d n:Nat) (f:Cfg→Bool) (M:List Br),d≤64→n≤64→Dep d f→(∀ c c':Cfg,(∀ i,i<n→c i=c' i)→f c=f c')→Good M→(put d f M).1.length+1≤M.length+2 ^ (n - (64 - d)):=by
 intro d
 induction d with
 | zero=>intro n f M _ _ _ _ _;show M.length+1≤_;have:0<2 ^ (n - (64 - 0)):=Nat.pow_pos (by omega);omega
 | succ d ih =>
   intro n f M hd hn hf hfn hM
   by_cases hlt:n≤63 - d
   ·have h0:∀ c:Cfg,f c=f (fun _=>false):=by
     intro c
     have e1:f c=f (fun i=>if i<n then c i else false):=hfn _ _ (fun i hi=>by simp [hi])
     have e2:f (fun i=>if i<n then c i else false)=f (fun _=>false):=hf _ _ (fun i h1 h2=>by simp;omega)
     rw [e1,e2]
    have hD:Dep d f:=fun c c' _=>by rw [h0 c,h0 c']
    rw [put_step (by omega) hD hM]
    have:=ih n f M (by omega) hn hD hfn hM
    rwa [show n - (64 - d)=n - (64 - (d+1)) by omega] at this
   ·have hset:∀ b,∀ c c':Cfg,(∀ i,i<n→c i=c' i)→f (set c (63 - d) b)=f (set c' (63 - d) b):=fun b c c' hc=>hfn _ _ (fun i hi=>by
     by_cases e:i=63 - d
     ·subst e;rw [set_same,set_same]
     ·rw [set_other e,set_other e];exact hc i hi)
    have p:=put_ok d (fun c=>f (set c (63 - d) false)) M (by omega) (hf.set false) hM
    have s1:=ih n (fun c=>f (set c (63 - d) false)) M (by omega) hn (hf.set false) (hset false) hM
    have s2:=ih n (fun c=>f (set c (63 - d) true)) _ (by omega) hn (hf.set true) (hset true) p.good
    have hpow:2 ^ (n - (64 - (d+1)))=2 ^ (n - (64 - d))+2 ^ (n - (64 - d)):=by
     rw [show n - (64 - (d+1))=(n - (64 - d))+1 by omega,Nat.pow_succ];omega
    rw [hpow]
    show (if (put d (fun c=>f (set c (63 - d) false)) M).2=_ then _ else _:List Br × Nat).1.length+1≤_
    generalize put d (fun c=>f (set c (63 - d) false)) M=P at s1 s2
    generalize put d (fun c=>f (set c (63 - d) true)) P.1=Q at s2
    split
    ·show Q.1.length+1≤_;omega
    ·unfold ins
     split
     ·show Q.1.length+1≤_;omega
     ·show (Q.1++[_]).length+1≤_
      rw [List.length_append,List.length_singleton];omega
def wk (M:List Br):Nat→Nat→Nat→Option Nat
 | 0,_,_=>none
 | f+1,n,s=>if n<s then some s else
   match wk M f (bl M (n - 2)) s with
   | none=>none
   | some t=>match wk M f (bh M (n - 2)) t with
     | none=>none
     | some u=>if n=u then some (u+1) else none
theorem wk_skip (M:List Br) {f n s:Nat} (h:n<s):wk M (f+1) n s=some s:=by unfold wk;rw [if_pos h]
theorem wk_walk {M:List Br} {f n s r:Nat} (h:¬ n<s) (hr:wk M (f+1) n s=some r) :
  ∃ t,wk M f (bl M (n - 2)) s=some t∧wk M f (bh M (n - 2)) t=some n∧r=n+1:=by
 unfold wk at hr
 rw [if_neg h] at hr
 rcases h1:wk M f (bl M (n - 2)) s with _ | t
 ·rw [h1] at hr;cases hr
 ·rw [h1] at hr
  simp only at hr
  rcases h2:wk M f (bh M (n - 2)) t with _ | u
  ·rw [h2] at hr;cases hr
  ·rw [h2] at hr
   simp only at hr
   by_cases e:n=u
   ·rw [if_pos e] at hr
    subst e
    exact ⟨t,rfl,h2,by injection hr with hr;exact hr.symm⟩
   ·rw [if_neg e] at hr;cases hr
theorem wk_br {M:List Br} {f k s t:Nat} (h:s≤k+2) (h1:wk M f (bl M k) s=some t) (h2:wk M f (bh M k) t=some (k+2)):wk M (f+1) (k+2) s=some (k+3):=by
 unfold wk
 rw [if_neg (by omega),Nat.add_sub_cancel,h1]
 simp only
 rw [h2]
 simp
theorem wk_no1 {M:List Br} {f k s:Nat} (h:¬ k+2<s) (h1:wk M f (bl M k) s=none):wk M (f+1) (k+2) s=none:=by
 unfold wk
 rw [if_neg h,Nat.add_sub_cancel,h1]
theorem wk_no2 {M:List Br} {f k s t:Nat} (h:¬ k+2<s) (h1:wk M f (bl M k) s=some t) (h2:wk M f (bh M k) t=none):wk M (f+1) (k+2) s=none:=by
 unfold wk
 rw [if_neg h,Nat.add_sub_cancel,h1]
 simp only
 rw [h2]
theorem wk_no3 {M:List Br} {f k s t u:Nat} (h:¬ k+2<s) (h1:wk M f (bl M k) s=some t) (h2:wk M f (bh M k) t=some u) (hu:¬ k+2=u):wk M (f+1) (k+2) s=none:=by
 unfold wk
 rw [if_neg h,Nat.add_sub_cancel,h1]
 simp only
 rw [h2]
 simp only
 rw [if_neg hu]
theorem wk_le {M:List Br}:∀ (f n s t:Nat),wk M f n s=some t→n<M.length+2→s≤M.length+2→t≤M.length+2:=by
 intro f
 induction f with
 | zero=>intro n s t h;cases h
 | succ f ih =>
   intro n s t h hn hs
   by_cases hns:n<s
   ·rw [wk_skip M hns] at h;injection h with h;omega
   ·obtain ⟨u,h1,h2,rfl⟩:=wk_walk hns h
    omega
theorem wk_ge {M:List Br}:∀ (f n s t:Nat),wk M f n s=some t→s≤t:=by
 intro f
 induction f with
 | zero=>intro n s t h;cases h
 | succ f ih =>
   intro n s t h
   by_cases hn:n<s
   ·rw [wk_skip M hn] at h;injection h with h;omega
   ·obtain ⟨u,h1,h2,rfl⟩:=wk_walk hn h
    have:=ih _ _ _ h1
    have:=ih _ _ _ h2
    omega
theorem wk_pre {M X:List Br} (h:Ord M):∀ (f n s:Nat),n<M.length+2→2≤s→wk (M++X) f n s=wk M f n s:=by
 intro f
 induction f with
 | zero=>intro n s _ _;rfl
 | succ f ih =>
   intro n s hn hs
   unfold wk
   by_cases h2:n<s
   ·rw [if_pos h2,if_pos h2]
   ·rw [if_neg h2,if_neg h2]
    obtain ⟨_,hl,hh,_,_⟩:=h (n - 2) (by omega)
    rw [bl_pre (by omega),bh_pre (by omega),ih _ s (by omega) hs]
    rcases h1:wk M f (bl M (n - 2)) s with _ | t
    ·rfl
    ·simp only
     have:=wk_ge _ _ _ _ h1
     rw [ih _ t (by omega) (by omega)]
theorem wk_fuel {M:List Br} (h:Ord M):∀ (f g n s:Nat),n<M.length+2→n<f→n<g→2≤s→wk M f n s=wk M g n s:=by
 intro f
 induction f with
 | zero=>intro g n s _ h1 _ _;omega
 | succ f ih =>
   intro g n s hn hf hg hs
   obtain ⟨g,rfl⟩:∃ g',g=g'+1:=⟨g - 1,by omega⟩
   unfold wk
   by_cases h2:n<s
   ·rw [if_pos h2,if_pos h2]
   ·rw [if_neg h2,if_neg h2]
    obtain ⟨_,hl,hh,_,_⟩:=h (n - 2) (by omega)
    rw [ih g (bl M (n - 2)) s (by omega) (by omega) (by omega) hs]
    rcases h1:wk M g (bl M (n - 2)) s with _ | t
    ·rfl
    ·simp only
     have:=wk_ge _ _ _ _ h1
     rw [ih g (bh M (n - 2)) t (by omega) (by omega) (by omega) (by omega)]
structure Valid (M:List Br) (r:Nat):Prop where
 good:Good M
 lt:r<M.length+2
 walk:wk M (r+1) r 2=some (M.length+2)
theorem take_succ_br {M:List Br} {k:Nat} (hk:k<M.length):M.take (k+1)=M.take k++[(bv M k,bl M k,bh M k)]:=by
 rw [List.take_succ_eq_append_getElem hk,br_at hk]
theorem canon_aux {M:List Br} (h:Good M):∀ (f n s t d:Nat),wk M f n s=some t→n<M.length+2→2≤s→s≤M.length+2→d≤64→64 - d≤lev M n →
  put d (Den M n) (M.take (s - 2))=(M.take (t - 2),n)∧t≤M.length+2∧n<t:=by
 intro f
 induction f with
 | zero=>intro n s t d hw;cases hw
 | succ f ih =>
   intro n s t d hw hn hs hsl hd hlev
   by_cases hns:n<s
   ·rw [wk_skip M hns] at hw
    injection hw with hw
    subst hw
    have hg:=h.take (s - 2)
    have hlen:(M.take (s - 2)).length=s - 2:=by rw [List.length_take];omega
    have e:=List.take_append_drop (s - 2) M
    have hD:Den M n=Den (M.take (s - 2)) n:=by
     conv=>lhs;rw [← e]
     exact Den_pre hg.ord (by omega)
    have hL:lev M n=lev (M.take (s - 2)) n:=by
     conv=>lhs;rw [← e]
     exact lev_pre (by omega)
    rw [hL] at hlev
    exact ⟨by rw [hD];exact put_idem d _ n hd hg (by omega) hlev,hsl,hns⟩
   ·obtain ⟨u,h1,h2,rfl⟩:=wk_walk hns hw
    obtain ⟨k,rfl⟩:∃ k,n=k+2:=⟨n - 2,by omega⟩
    rw [Nat.add_sub_cancel] at h1 h2
    have hk:k<M.length:=by omega
    obtain ⟨hv,hl,hh,hvl,hvh⟩:=h.ord k hk
    rw [lev_br] at hlev
    have p:=ih (bl M k) s u (63 - bv M k) h1 (by omega) hs hsl (by omega) (by omega)
    have hu:=wk_ge _ _ _ _ h1
    have q:=ih (bh M k) u (k+2) (63 - bv M k) h2 (by omega) (by omega) p.2.1 (by omega) (by omega)
    have hg:=h.take (s - 2)
    have hdep:Dep (64 - bv M k) (Den M (k+2)):=Den_dep h.ord hn (by rw [lev_br];omega)
    refine ⟨?_,by omega,by omega⟩
    rw [put_lift (d:=64 - bv M k) (by omega) hd hdep hg,show 64 - bv M k=(63 - bv M k)+1 by omega]
    show (if (put (63 - bv M k) (fun c=>Den M (k+2) (set c (63 - (63 - bv M k)) false)) (M.take (s - 2))).2=_ then _ else _)=_
    rw [show 63 - (63 - bv M k)=bv M k by omega,Den_low h.ord hk,Den_high h.ord hk,p.1]
    simp only
    rw [q.1]
    simp only
    rw [if_neg (h.red k hk),Nat.add_sub_cancel]
    have hnot:(bv M k,bl M k,bh M k)∉M.take k:=by
     rw [← br_at hk]
     intro hin
     obtain ⟨i,hi,e⟩:=List.getElem_of_mem hin
     rw [List.length_take] at hi
     rw [List.getElem_take] at e
     have:=(List.getElem_inj h.nodup).1 e
     omega
    rw [ins_not hnot,show k+2+1 - 2=k+1 by omega,take_succ_br hk,List.length_take,Nat.min_eq_left (by omega)]
theorem Valid.canon {M:List Br} {r:Nat} (h:Valid M r):put 64 (Den M r) []=(M,r):=by
 have:=(canon_aux h.good (r+1) r 2 (M.length+2) 64 h.walk h.lt (Nat.le_refl _) (by omega) (Nat.le_refl _) (by omega)).1
 simpa using this
theorem Valid.unique {M M':List Br} {r r':Nat} (h:Valid M r) (h':Valid M' r') (he:Den M r=Den M' r'):M=M'∧r=r':=by
 have h1:=h.canon
 rw [he,h'.canon] at h1
 injection h1 with h1 h2
 exact ⟨h1.symm,h2.symm⟩
theorem Valid.root {M:List Br} {r:Nat} (h:Valid M r):(M=[]∧r<2)∨(0<M.length∧r=M.length+1):=by
 have hw:=h.walk
 by_cases h2:r<2
 ·left
  rw [wk_skip M h2] at hw
  injection hw with hw
  exact ⟨List.eq_nil_of_length_eq_zero (by omega),h2⟩
 ·right
  obtain ⟨t,_,_,e⟩:=wk_walk h2 hw
  omega
theorem put_walk:∀ (d:Nat) (f:Cfg→Bool) (M:List Br),d≤64→Dep d f→Good M→∀ g,(put d f M).2<g→wk (put d f M).1 g (put d f M).2 (M.length+2)=some ((put d f M).1.length+2):=by
 intro d
 induction d with
 | zero =>
   intro f M _ _ _ g hg
   obtain ⟨g,rfl⟩:∃ g',g=g'+1:=⟨g - 1,by omega⟩
   show wk M (g+1) (if f (fun _=>false) then 1 else 0) (M.length+2)=some (M.length+2)
   apply wk_skip
   split <;> omega
 | succ d ih =>
   intro f M hd hf hM g hg
   have p:=put_ok d (fun c=>f (set c (63 - d) false)) M (by omega) (hf.set false) hM
   have q:=put_ok d (fun c=>f (set c (63 - d) true)) _ (by omega) (hf.set true) p.good
   have w1:=ih (fun c=>f (set c (63 - d) false)) M (by omega) (hf.set false) hM
   have w2:=ih (fun c=>f (set c (63 - d) true)) _ (by omega) (hf.set true) p.good
   have e:put (d+1) f M=if (put d (fun c=>f (set c (63 - d) false)) M).2=(put d (fun c=>f (set c (63 - d) true)) (put d (fun c=>f (set c (63 - d) false)) M).1).2 then ((put d (fun c=>f (set c (63 - d) true)) (put d (fun c=>f (set c (63 - d) false)) M).1).1,(put d (fun c=>f (set c (63 - d) false)) M).2) else ins (put d (fun c=>f (set c (63 - d) true)) (put d (fun c=>f (set c (63 - d) false)) M).1).1 (63 - d,(put d (fun c=>f (set c (63 - d) false)) M).2,(put d (fun c=>f (set c (63 - d) true)) (put d (fun c=>f (set c (63 - d) false)) M).1).2):=rfl
   rw [e] at hg ⊢
   clear e
   generalize hp:put d (fun c=>f (set c (63 - d) false)) M=P at p q w1 w2 hg
   generalize hq:put d (fun c=>f (set c (63 - d) true)) P.1=Q at q w2 hg
   obtain ⟨M1,a⟩:=P
   obtain ⟨M2,b⟩:=Q
   clear hp hq
   simp only at p q w1 w2 hg ⊢
   obtain ⟨X,hX⟩:=p.pre
   obtain ⟨Y,hY⟩:=q.pre
   have hl1:M.length≤M1.length:=by rw [hX,List.length_append];omega
   have hl2:M1.length≤M2.length:=by rw [hY,List.length_append];omega
   have hal:a<M2.length+2:=by have:=p.lt;omega
   have wa:∀ g,a<g→wk M2 g a (M.length+2)=some (M1.length+2):=by
    intro g hg
    rw [hY,wk_pre p.good.ord _ _ _ p.lt (by omega)]
    exact w1 g hg
   by_cases hab:a=b
   ·rw [if_pos hab] at hg ⊢
    simp only at hg ⊢
    have hb:=w2 (b+1) (by omega)
    rw [← hab,wk_skip M2 p.lt] at hb
    injection hb with hb
    rw [wa g hg,hb]
   ·rw [if_neg hab] at hg ⊢
    by_cases hin:(63 - d,a,b)∈M2
    ·rw [ins_in hin] at hg ⊢
     simp only at hg ⊢
     have hk:M2.idxOf (63 - d,a,b)<M2.length:=List.idxOf_lt_length_iff.2 hin
     have hget:M2[M2.idxOf (63 - d,a,b)]=(63 - d,a,b):=List.getElem_idxOf hk
     have hat:=br_at hk
     rw [hget] at hat
     generalize M2.idxOf (63 - d,a,b)=i at hk hat hg
     have e1:bv M2 i=63 - d:=(congrArg (·.1) hat).symm
     have e2:bl M2 i=a:=(congrArg (·.2.1) hat).symm
     have e3:bh M2 i=b:=(congrArg (·.2.2) hat).symm
     have him:i<M.length:=by
      rcases Nat.lt_or_ge i M.length with h | h
      ·exact h
      ·rcases Nat.lt_or_ge i M1.length with h3 | h3
       ·have:=p.new i h h3
        rw [hY,bv_pre h3] at e1
        omega
       ·have:=q.new i h3 hk
        omega
     obtain ⟨_,o1,o2,_,_⟩:=q.good.ord i hk
     rw [e2] at o1
     rw [e3] at o2
     have ha:=wa (a+1) (by omega)
     rw [wk_skip M2 (by omega)] at ha
     injection ha with ha
     have hb:=w2 (b+1) (by omega)
     rw [wk_skip M2 (by omega)] at hb
     injection hb with hb
     obtain ⟨g,rfl⟩:∃ g',g=g'+1:=⟨g - 1,by omega⟩
     rw [wk_skip M2 (by omega)]
     congr 1
     omega
    ·rw [ins_not hin] at hg ⊢
     simp only at hg ⊢
     obtain ⟨g,rfl⟩:∃ g',g=g'+1:=⟨g - 1,by omega⟩
     have hql:=q.lt
     have h1:wk (M2++[(63 - d,a,b)]) g a (M.length+2)=some (M1.length+2):=by
      rw [wk_pre q.good.ord _ _ _ hal (by omega)]
      exact wa g (by omega)
     have h2:wk (M2++[(63 - d,a,b)]) g b (M1.length+2)=some (M2.length+2):=by
      rw [wk_pre q.good.ord _ _ _ q.lt (by omega)]
      exact w2 g (by omega)
     have:=wk_br (M:=M2++[(63 - d,a,b)]) (f:=g) (k:=M2.length) (s:=M.length+2) (t:=M1.length+2) (by omega) (by rw [bl_new];exact h1) (by rw [bh_new];exact h2)
     rw [this,List.length_append,List.length_singleton]
theorem put_valid {f:Cfg→Bool} (hf:Dep 64 f):Valid (put 64 f []).1 (put 64 f []).2∧Den (put 64 f []).1 (put 64 f []).2=f:=by
 have p:=put_ok 64 f [] (Nat.le_refl _) hf good_nil
 have w:=put_walk 64 f [] (Nat.le_refl _) hf good_nil _ (Nat.lt_succ_self _)
 exact ⟨⟨p.good,p.lt,w⟩,p.den⟩
end Dg
end Go.Proofs.YtpaednfinlaioaaGreatDoor
namespace Go.Proofs.YtpaednfinlaioaaGreatDoor
namespace St
open Dg
def insd (i:Nat):Nat:=if i=0 then 170 else if i=1 then 204 else 240
def andn (a b:Nat):Nat:=a &&& (255 ^^^ b)
def cls (n:Nat):Nat:=if n=0 then 0 else if n=1 then 1 else 2
def nrow (R i k:Nat):Nat:=if k=0 then andn R (insd i) else if k=1 then R &&& insd i else R
def rows3 (a b c:Nat):Nat:=nrow (nrow (nrow 255 0 a) 1 b) 2 c
def rows4 (a b c:Nat) (e:Bool):Nat:=if e then andn (rows3 a b c) 60 else rows3 a b c
def away (T R i k:Nat):Bool:=decide (2≤k)&&decide ((T &&& R &&& insd i) >>> (1 <<< i)=andn (T &&& R) (insd i))
def arow (T R i k:Nat):Nat:=if away T R i k then andn R (insd i) else R
def tt (T:Nat) (p q r:Bool):Bool:=T.testBit (p.toNat+2*q.toNat+4*r.toNat)
def tabs:List Nat:=[136,238,102,34,170,216]
def fits (k:Nat) (p:Bool):Bool:=if k=0 then !p else if k=1 then p else true
def code (T a b c:Nat) (e:Bool):Nat:=if T &&& rows4 a b c e=0 then 0 else if T &&& rows4 a b c e=rows4 a b c e then 1 else 2
def z0 (T a b c:Nat) (e:Bool):Bool:=away T (rows4 a b c e) 0 a
def r0 (T a b c:Nat) (e:Bool):Nat:=arow T (rows4 a b c e) 0 a
def z1 (T a b c:Nat) (e:Bool):Bool:=away T (r0 T a b c e) 1 b
def r1 (T a b c:Nat) (e:Bool):Nat:=arow T (r0 T a b c e) 1 b
def z2 (T a b c:Nat) (e:Bool):Bool:=away T (r1 T a b c e) 2 c
def r2 (T a b c:Nat) (e:Bool):Nat:=arow T (r1 T a b c e) 2 c
def B2:List Bool:=[false,true]
def N3:List Nat:=[0,1,2]
def good (T a b c:Nat) (e:Bool) (p q r:Bool):Bool :=
 if fits a p&&fits b q&&fits c r&&(!e||(q == r)) then
  (if code T a b c e=0 then tt T p q r == false
   else if code T a b c e=1 then tt T p q r == true
   else tt T p q r == tt T (p&&!z0 T a b c e) (q&&!z1 T a b c e) (r&&!z2 T a b c e))
 else true
def kept (T a b c:Nat) (e:Bool):Bool :=
 decide (code T a b c e≠2)||(decide (a=2)&&!z0 T a b c e)||(decide (b=2)&&!z1 T a b c e)||(decide (c=2)&&!z2 T a b c e)
def meant (b c:Nat) (e:Bool):Bool:=!e||decide (b=c)
def allOk:Bool:=tabs.all fun T=>N3.all fun a=>N3.all fun b=>N3.all fun c=>B2.all fun e=>!meant b c e||(kept T a b c e&&B2.all fun p=>B2.all fun q=>B2.all fun r=>good T a b c e p q r)
def small:Bool:=tabs.all fun T=>N3.all fun a=>N3.all fun b=>N3.all fun c=>B2.all fun e =>
 decide (rows3 a b c<256)&&decide (rows4 a b c e<256)&&decide (r0 T a b c e<256)&&decide (r1 T a b c e<256)&&decide (r2 T a b c e<256)
theorem allOk_true:allOk=true:=by decide +kernel
theorem cls_mem (n:Nat):cls n∈N3:=by
 unfold cls N3
 split
 ·simp
 ·split <;> simp
theorem bool_mem (b:Bool):b∈B2:=by cases b <;> simp [B2]
theorem case_ok {T a b c:Nat} {e:Bool} (hT:T∈tabs) (ha:a∈N3) (hb:b∈N3) (hc:c∈N3) (he:e=true→b=c):kept T a b c e=true∧∀ p q r,good T a b c e p q r=true:=by
 have h:=allOk_true
 unfold allOk at h
 simp only [List.all_eq_true] at h
 have h1:=h T hT a ha b hb c hc e (bool_mem e)
 have hm:meant b c e=true:=by unfold meant;cases e <;> simp_all
 rw [hm] at h1
 simp only [Bool.not_true,Bool.false_or,Bool.and_eq_true,List.all_eq_true] at h1
 exact ⟨h1.1,fun p q r=>h1.2 p (bool_mem p) q (bool_mem q) r (bool_mem r)⟩
def fx (T:Nat) (A B C:List Br) (i j k:Nat):Cfg→Bool:=fun c=>tt T (Den A i c) (Den B j c) (Den C k c)
theorem fits_den (A:List Br) (i:Nat) (c:Cfg):fits (cls i) (Den A i c)=true:=by
 unfold cls fits
 by_cases h0:i=0
 ·subst h0;rw [Den_zero];rfl
 ·rw [if_neg h0]
  by_cases h1:i=1
  ·subst h1;rw [Den_one];rfl
  ·rw [if_neg h1];rfl
def zap (z:Bool) (i:Nat):Nat:=if z then 0 else i
theorem zap_den (A:List Br) (z:Bool) (i:Nat) (c:Cfg):Den A (zap z i) c=(Den A i c&&!z):=by
 unfold zap;cases z
 ·simp
 ·simp [Den_zero]
theorem fx_good {T:Nat} {A B C:List Br} {i j k:Nat} (hT:T∈tabs) (he:j=k→Den B j=Den C k) (c:Cfg) :
  (code T (cls i) (cls j) (cls k) (decide (j=k))=0→fx T A B C i j k c=false)∧(code T (cls i) (cls j) (cls k) (decide (j=k))=1→fx T A B C i j k c=true) ∧
  (code T (cls i) (cls j) (cls k) (decide (j=k))=2→fx T A B C i j k c=fx T A B C (zap (z0 T (cls i) (cls j) (cls k) (decide (j=k))) i) (zap (z1 T (cls i) (cls j) (cls k) (decide (j=k))) j) (zap (z2 T (cls i) (cls j) (cls k) (decide (j=k))) k) c):=by
 have h:=(case_ok hT (cls_mem i) (cls_mem j) (cls_mem k) (e:=decide (j=k)) (fun h=>by rw [of_decide_eq_true h])).2 (Den A i c) (Den B j c) (Den C k c)
 have h3:(!decide (j=k)||(Den B j c == Den C k c))=true:=by
  by_cases hjk:j=k
  ·rw [he hjk];simp
  ·simp [hjk]
 unfold good at h
 rw [fits_den,fits_den,fits_den,h3] at h
 simp only [Bool.and_self,if_true] at h
 unfold fx
 rw [zap_den,zap_den,zap_den]
 refine ⟨fun h0=>?_,fun h1=>?_,fun h2=>?_⟩
 ·rw [if_pos h0] at h;simpa using h
 ·rw [if_neg (by omega),if_pos h1] at h;simpa using h
 ·rw [if_neg (by omega),if_neg (by omega)] at h;simpa using h
theorem cls_two {n:Nat} (h:cls n=2):2≤n:=by
 unfold cls at h
 split at h
 ·omega
 ·split at h <;> omega
theorem fx_kept {T i j k:Nat} (hT:T∈tabs) (h2:code T (cls i) (cls j) (cls k) (decide (j=k))=2) :
  2≤zap (z0 T (cls i) (cls j) (cls k) (decide (j=k))) i∨2≤zap (z1 T (cls i) (cls j) (cls k) (decide (j=k))) j∨2≤zap (z2 T (cls i) (cls j) (cls k) (decide (j=k))) k:=by
 have h:=(case_ok hT (cls_mem i) (cls_mem j) (cls_mem k) (e:=decide (j=k)) (fun h=>by rw [of_decide_eq_true h])).1
 unfold kept at h
 simp only [h2,ne_eq,not_true_eq_false,decide_false,Bool.false_or,Bool.or_eq_true,Bool.and_eq_true,decide_eq_true_eq,Bool.not_eq_true'] at h
 unfold zap
 rcases h with (h | h) | h
 ·left;rw [h.2];exact cls_two h.1
 ·right;left;rw [h.2];exact cls_two h.1
 ·right;right;rw [h.2];exact cls_two h.1
def sd (A:List Br) (v i:Nat) (b:Bool):Nat:=if 2≤i∧bv A (i - 2)=v then (if b then bh A (i - 2) else bl A (i - 2)) else i
theorem lev_br {A:List Br} {i:Nat} (h:2≤i):lev A i=bv A (i - 2):=by unfold lev;rw [if_neg (by omega)]
theorem sd_den {A:List Br} (hA:Ord A) {v i:Nat} (hi:i<A.length+2) (hv:v<64) (hl:v≤lev A i) (b:Bool):(fun c=>Den A i (set c v b))=Den A (sd A v i b):=by
 unfold sd
 by_cases h:2≤i∧bv A (i - 2)=v
 ·rw [if_pos h]
  obtain ⟨k,rfl⟩:∃ k,i=k+2:=⟨i - 2,by omega⟩
  have hk:k<A.length:=by omega
  have h2:=h.2
  simp only [Nat.add_sub_cancel] at h2 ⊢
  subst h2
  cases b
  ·rw [Den_low hA hk];rfl
  ·rw [Den_high hA hk];rfl
 ·rw [if_neg h]
  refine Den_skip hA hi ?_ b
  by_cases h2:2≤i
  ·rw [lev_br h2] at hl ⊢
   have:bv A (i - 2)≠v:=fun e=>h ⟨h2,e⟩
   omega
  ·unfold lev;rw [if_pos (by omega)];exact hv
theorem sd_ok {A:List Br} (hA:Ord A) {v i:Nat} (hi:i<A.length+2) (hv:v<64) (hl:v≤lev A i) (b:Bool):v<lev A (sd A v i b)∧sd A v i b<A.length+2∧sd A v i b≤i∧(2≤i→lev A i=v→sd A v i b<i):=by
 unfold sd
 by_cases h:2≤i∧bv A (i - 2)=v
 ·rw [if_pos h]
  obtain ⟨_,h3,h4,h5,h6⟩:=hA (i - 2) (by omega)
  have h2:=h.2
  cases b
  ·rw [if_neg (by simp)];exact ⟨by omega,by omega,by omega,fun _ _=>by omega⟩
  ·rw [if_pos rfl];exact ⟨by omega,by omega,by omega,fun _ _=>by omega⟩
 ·rw [if_neg h]
  refine ⟨?_,hi,Nat.le_refl _,fun h2 e=>absurd ⟨h2,by rw [← lev_br h2];exact e⟩ h⟩
  by_cases h2:2≤i
  ·rw [lev_br h2] at hl ⊢
   have:bv A (i - 2)≠v:=fun e=>h ⟨h2,e⟩
   omega
  ·unfold lev;rw [if_pos (by omega)];exact hv
theorem fx_dep {T:Nat} {A B C:List Br} {i j k d:Nat} (hA:Ord A) (hB:Ord B) (hC:Ord C) (hi:i<A.length+2) (hj:j<B.length+2) (hk:k<C.length+2) (h1:64 - d≤lev A i) (h2:64 - d≤lev B j) (h3:64 - d≤lev C k) :
  Dep d (fx T A B C i j k):=by
 intro c c' hc
 unfold fx
 rw [Den_dep hA hi h1 c c' hc,Den_dep hB hj h2 c c' hc,Den_dep hC hk h3 c c' hc]
theorem put_split {T:Nat} {A B C M:List Br} {i j k v:Nat} (hA:Ord A) (hB:Ord B) (hC:Ord C) (hi:i<A.length+2) (hj:j<B.length+2) (hk:k<C.length+2) (hv:v<64) (h1:v≤lev A i) (h2:v≤lev B j) (h3:v≤lev C k) (hM:Good M) :
  put 64 (fx T A B C i j k) M=if (put 64 (fx T A B C (sd A v i false) (sd B v j false) (sd C v k false)) M).2=(put 64 (fx T A B C (sd A v i true) (sd B v j true) (sd C v k true)) (put 64 (fx T A B C (sd A v i false) (sd B v j false) (sd C v k false)) M).1).2
   then ((put 64 (fx T A B C (sd A v i true) (sd B v j true) (sd C v k true)) (put 64 (fx T A B C (sd A v i false) (sd B v j false) (sd C v k false)) M).1).1,(put 64 (fx T A B C (sd A v i false) (sd B v j false) (sd C v k false)) M).2)
   else ins (put 64 (fx T A B C (sd A v i true) (sd B v j true) (sd C v k true)) (put 64 (fx T A B C (sd A v i false) (sd B v j false) (sd C v k false)) M).1).1 (v,(put 64 (fx T A B C (sd A v i false) (sd B v j false) (sd C v k false)) M).2,(put 64 (fx T A B C (sd A v i true) (sd B v j true) (sd C v k true)) (put 64 (fx T A B C (sd A v i false) (sd B v j false) (sd C v k false)) M).1).2):=by
 have side:∀ b,(fun c=>fx T A B C i j k (set c v b))=fx T A B C (sd A v i b) (sd B v j b) (sd C v k b):=fun b=>by
  funext c
  unfold fx
  rw [← sd_den hA hi hv h1 b,← sd_den hB hj hv h2 b,← sd_den hC hk hv h3 b]
 have dep:∀ b,Dep (63 - v) (fx T A B C (sd A v i b) (sd B v j b) (sd C v k b)):=fun b=>by
  obtain ⟨a1,a2,_,_⟩:=sd_ok hA hi hv h1 b
  obtain ⟨b1,b2,_,_⟩:=sd_ok hB hj hv h2 b
  obtain ⟨c1,c2,_,_⟩:=sd_ok hC hk hv h3 b
  exact fx_dep hA hB hC a2 b2 c2 (by omega) (by omega) (by omega)
 have d0:Dep (63 - v+1) (fx T A B C i j k):=fx_dep hA hB hC hi hj hk (by omega) (by omega) (by omega)
 have p1:=put_ok (63 - v) _ M (by omega) (dep false) hM
 rw [put_lift (show 63 - v+1≤64 by omega) (Nat.le_refl _) d0 hM,put_lift (show 63 - v≤64 by omega) (Nat.le_refl _) (dep false) hM,put_lift (show 63 - v≤64 by omega) (Nat.le_refl _) (dep true) p1.good]
 show (if (put (63 - v) (fun c=>fx T A B C i j k (set c (63 - (63 - v)) false)) M).2=_ then _ else _)=_
 rw [show 63 - (63 - v)=v by omega,side false,side true]
theorem put_const {f:Cfg→Bool} {M:List Br} {b:Bool} (h:∀ c,f c=b) (hM:Good M):put 64 f M=(M,b.toNat):=by
 have d:Dep 0 f:=fun c c' _=>by rw [h,h]
 rw [put_lift (Nat.zero_le _) (Nat.le_refl _) d hM]
 show (M,if f (fun _=>false) then 1 else 0)=_
 rw [h]
 cases b <;> rfl
def ci (s1 s2 i j k:Nat):Nat:=(i*s1+j)*s2+k
theorem ci_lt {s0 s1 s2 i j k:Nat} (hi:i<s0) (hj:j<s1) (hk:k<s2):ci s1 s2 i j k<s0*s1*s2:=by
 unfold ci
 have h1:i*s1+j<s0*s1:=by
  have:(i+1)*s1≤s0*s1:=Nat.mul_le_mul_right _ hi
  rw [Nat.add_mul] at this;omega
 have h2:(i*s1+j+1)*s2≤s0*s1*s2:=Nat.mul_le_mul_right _ h1
 rw [Nat.add_mul] at h2;omega
theorem ci_inj {s1 s2 i j k i' j' k':Nat} (hj:j<s1) (hk:k<s2) (hj':j'<s1) (hk':k'<s2) (h:ci s1 s2 i j k=ci s1 s2 i' j' k'):i=i'∧j=j'∧k=k':=by
 unfold ci at h
 have h0:∀ a b:Nat,b<s2→(a*s2+b) % s2=b∧(a*s2+b) / s2=a:=fun a b hb=>by
  have e:a*s2+b=b+s2*a:=by rw [Nat.mul_comm];omega
  rw [e,Nat.add_mul_mod_self_left,Nat.mod_eq_of_lt hb,Nat.add_mul_div_left _ _ (by omega),Nat.div_eq_of_lt hb]
  exact ⟨rfl,by omega⟩
 have h1:∀ a b:Nat,b<s1→(a*s1+b) % s1=b∧(a*s1+b) / s1=a:=fun a b hb=>by
  have e:a*s1+b=b+s1*a:=by rw [Nat.mul_comm];omega
  rw [e,Nat.add_mul_mod_self_left,Nat.mod_eq_of_lt hb,Nat.add_mul_div_left _ _ (by omega),Nat.div_eq_of_lt hb]
  exact ⟨rfl,by omega⟩
 obtain ⟨a1,a2⟩:=h0 (i*s1+j) k hk
 obtain ⟨b1,b2⟩:=h0 (i'*s1+j') k' hk'
 rw [h] at a1 a2
 have e1:i*s1+j=i'*s1+j':=a2.symm.trans b2
 obtain ⟨c1,c2⟩:=h1 i j hj
 obtain ⟨d1,d2⟩:=h1 i' j' hj'
 rw [e1] at c1 c2
 exact ⟨c2.symm.trans d2,c1.symm.trans d1,a1.symm.trans b1⟩
def Mo (T s0 s1 s2:Nat) (A B C M:List Br) (E:Nat→Nat):Prop:=∀ i j k,i<s0→j<s1→k<s2→E (ci s1 s2 i j k)≠0 →
 E (ci s1 s2 i j k) - 1<M.length+2∧Den M (E (ci s1 s2 i j k) - 1)=fx T A B C i j k
def upd (E:Nat→Nat) (n x:Nat):Nat→Nat:=fun c=>if c=n then x else E c
theorem Mo.grow {T s0 s1 s2:Nat} {A B C M X:List Br} {E:Nat→Nat} (h:Mo T s0 s1 s2 A B C M E) (hM:Ord M):Mo T s0 s1 s2 A B C (M++X) E:=by
 intro i j k hi hj hk hne
 obtain ⟨h1,h2⟩:=h i j k hi hj hk hne
 exact ⟨by rw [List.length_append];omega,by rw [Den_pre hM h1,h2]⟩
theorem Mo.set {T s0 s1 s2 i j k r:Nat} {A B C M:List Br} {E:Nat→Nat} (h:Mo T s0 s1 s2 A B C M E) (hj:j<s1) (hk:k<s2) (hr:r<M.length+2) (hd:Den M r=fx T A B C i j k):Mo T s0 s1 s2 A B C M (upd E (ci s1 s2 i j k) (r+1)):=by
 intro i' j' k' hi' hj' hk' hne
 unfold upd at hne ⊢
 by_cases e:ci s1 s2 i' j' k'=ci s1 s2 i j k
 ·obtain ⟨rfl,rfl,rfl⟩:=ci_inj hj' hk' hj hk e
  rw [if_pos rfl]
  exact ⟨hr,hd⟩
 ·rw [if_neg e] at hne ⊢
  exact h i' j' k' hi' hj' hk' hne
theorem fx_dep64 {T:Nat} {A B C:List Br} {i j k:Nat} (hA:Ord A) (hB:Ord B) (hC:Ord C) (hi:i<A.length+2) (hj:j<B.length+2) (hk:k<C.length+2):Dep 64 (fx T A B C i j k) :=
 fx_dep hA hB hC hi hj hk (by omega) (by omega) (by omega)
theorem Mo.hit {T s0 s1 s2 i j k:Nat} {A B C M:List Br} {E:Nat→Nat} (h:Mo T s0 s1 s2 A B C M E) (hM:Good M) (hi:i<s0) (hj:j<s1) (hk:k<s2) (hne:E (ci s1 s2 i j k)≠0) :
  put 64 (fx T A B C i j k) M=(M,E (ci s1 s2 i j k) - 1):=by
 obtain ⟨h1,h2⟩:=h i j k hi hj hk hne
 rw [← h2]
 exact put_idem 64 M _ (Nat.le_refl _) hM h1 (by omega)
theorem put_node {N O:List Br} {k:Nat} (hN:Ord N) (hk:k<N.length) (hO:Good O) :
  put 64 (Den N (k+2)) O=if (put 64 (Den N (bl N k)) O).2=(put 64 (Den N (bh N k)) (put 64 (Den N (bl N k)) O).1).2
   then ((put 64 (Den N (bh N k)) (put 64 (Den N (bl N k)) O).1).1,(put 64 (Den N (bl N k)) O).2)
   else ins (put 64 (Den N (bh N k)) (put 64 (Den N (bl N k)) O).1).1 (bv N k,(put 64 (Den N (bl N k)) O).2,(put 64 (Den N (bh N k)) (put 64 (Den N (bl N k)) O).1).2):=by
 obtain ⟨hv,hl,hh,hvl,hvh⟩:=hN k hk
 have dl:Dep (63 - bv N k) (Den N (bl N k)):=Den_dep hN (by omega) (by omega)
 have dh:Dep (63 - bv N k) (Den N (bh N k)):=Den_dep hN (by omega) (by omega)
 have d0:Dep (63 - bv N k+1) (Den N (k+2)):=Den_dep hN (by omega) (by rw [lev_br (by omega)];simp only [Nat.add_sub_cancel];omega)
 have p1:=put_ok (63 - bv N k) _ O (by omega) dl hO
 rw [put_lift (show 63 - bv N k+1≤64 by omega) (Nat.le_refl _) d0 hO,put_lift (show 63 - bv N k≤64 by omega) (Nat.le_refl _) dl hO,put_lift (show 63 - bv N k≤64 by omega) (Nat.le_refl _) dh p1.good]
 show (if (put (63 - bv N k) (fun c=>Den N (k+2) (set c (63 - (63 - bv N k)) false)) O).2=_ then _ else _)=_
 rw [show 63 - (63 - bv N k)=bv N k by omega,Den_low hN hk,Den_high hN hk]
theorem den_dep64 {N:List Br} (hN:Ord N) {n:Nat} (hn:n<N.length+2):Dep 64 (Den N n):=Den_dep hN hn (by omega)
theorem put_ok64 {f:Cfg→Bool} {M:List Br} (hf:Dep 64 f) (hM:Good M):PutOk 64 f M (put 64 f M).1 (put 64 f M).2:=put_ok 64 f M (Nat.le_refl _) hf hM
structure VI (N:List Br) (num:Nat→Nat) (O:List Br):Prop where
 good:Good O
 has:∀ k,k<N.length→num k≠0→num k<O.length+2∧Den O (num k)=Den N (k+2)
 all:∀ j,j<O.length→∃ k,k<N.length∧num k=j+2
theorem vi_nil (N:List Br):VI N (fun _=>0) []:=⟨good_nil,fun k _ h=>absurd rfl h,fun j hj=>absurd hj (by simp)⟩
theorem VI.const {N O:List Br} {num:Nat→Nat} (h:VI N num O) {n:Nat} (hn:n<2):put 64 (Den N n) O=(O,n):=by
 obtain rfl | rfl:n=0∨n=1:=by omega
 ·exact put_const (b:=false) (fun c=>by rw [Den_zero]) h.good
 ·exact put_const (b:=true) (fun c=>by rw [Den_one]) h.good
theorem VI.hit {N O:List Br} {num:Nat→Nat} (h:VI N num O) {k:Nat} (hk:k<N.length) (hne:num k≠0):put 64 (Den N (k+2)) O=(O,num k):=by
 obtain ⟨h1,h2⟩:=h.has k hk hne
 rw [← h2]
 exact put_idem 64 O _ (Nat.le_refl _) h.good h1 (by omega)
theorem VI.step {N O:List Br} {num2:Nat→Nat} {k:Nat} (hN:Good N) (hk:k<N.length) (hO:Good O)
  (h2:VI N num2 (put 64 (Den N (bh N k)) (put 64 (Den N (bl N k)) O).1).1) (h0:num2 k=0) :
  put 64 (Den N (k+2)) O=((put 64 (Den N (bh N k)) (put 64 (Den N (bl N k)) O).1).1++[(bv N k,(put 64 (Den N (bl N k)) O).2,(put 64 (Den N (bh N k)) (put 64 (Den N (bl N k)) O).1).2)],(put 64 (Den N (bh N k)) (put 64 (Den N (bl N k)) O).1).1.length+2) ∧
  VI N (upd num2 k ((put 64 (Den N (bh N k)) (put 64 (Den N (bl N k)) O).1).1.length+2)) ((put 64 (Den N (bh N k)) (put 64 (Den N (bl N k)) O).1).1++[(bv N k,(put 64 (Den N (bl N k)) O).2,(put 64 (Den N (bh N k)) (put 64 (Den N (bl N k)) O).1).2)]):=by
 have hnode:=put_node hN.ord hk hO
 obtain ⟨hv,hl,hh,hvl,hvh⟩:=hN.ord k hk
 have p:=put_ok64 (den_dep64 hN.ord (n:=bl N k) (by omega)) hO
 have q:=put_ok64 (den_dep64 hN.ord (n:=bh N k) (by omega)) p.good
 have whole:=put_ok64 (den_dep64 hN.ord (n:=k+2) (by omega)) hO
 have hred:=hN.red k hk
 generalize put 64 (Den N (bl N k)) O=P at *
 generalize put 64 (Den N (bh N k)) P.1=Q at *
 obtain ⟨O1,a⟩:=P
 obtain ⟨O2,b⟩:=Q
 simp only at *
 obtain ⟨Y,hY⟩:=q.pre
 have hal:a<O2.length+2:=by have:=p.lt;rw [hY,List.length_append];omega
 have hda:Den O2 a=Den N (bl N k):=by rw [hY,Den_pre p.good.ord p.lt,p.den]
 have hab:a≠b:=fun e=>hred (Den_inj hN (by omega) (by omega) (by rw [← hda,e,q.den]))
 have hnot:(bv N k,a,b)∉O2:=by
  intro hin
  have hj:O2.idxOf (bv N k,a,b)<O2.length:=List.idxOf_lt_length_iff.2 hin
  have hget:O2[O2.idxOf (bv N k,a,b)]=(bv N k,a,b):=List.getElem_idxOf hj
  have hat:=br_at hj
  rw [hget] at hat
  generalize O2.idxOf (bv N k,a,b)=j at *
  have e1:bv O2 j=bv N k:=(congrArg (·.1) hat).symm
  have e2:bl O2 j=a:=(congrArg (·.2.1) hat).symm
  have e3:bh O2 j=b:=(congrArg (·.2.2) hat).symm
  obtain ⟨m,hm,hnm⟩:=h2.all j hj
  obtain ⟨_,hd⟩:=h2.has m hm (by omega)
  rw [hnm] at hd
  have:Den N (m+2)=Den N (k+2):=by
   rw [← hd]
   funext c
   rw [Den_br q.good.ord hj,Den_br hN.ord hk,e1,e2,e3,hda,q.den]
  have:=Den_inj hN (by omega) (by omega) this
  have hmk:m=k:=by omega
  rw [hmk] at hnm
  omega
 rw [if_neg hab,ins_not hnot] at hnode
 refine ⟨hnode,?_⟩
 rw [hnode] at whole
 simp only at whole
 refine ⟨whole.good,fun m hm hne=>?_,fun j hj=>?_⟩
 ·unfold upd at hne ⊢
  by_cases e:m=k
  ·subst e
   rw [if_pos rfl]
   exact ⟨by simp,whole.den⟩
  ·rw [if_neg e] at hne ⊢
   obtain ⟨h3,h4⟩:=h2.has m hm hne
   exact ⟨by rw [List.length_append];omega,by rw [Den_pre h2.good.ord h3,h4]⟩
 ·rw [List.length_append,List.length_singleton] at hj
  unfold upd
  by_cases e:j=O2.length
  ·exact ⟨k,hk,by rw [if_pos rfl,e]⟩
  ·obtain ⟨m,hm,hnm⟩:=h2.all j (by omega)
   refine ⟨m,hm,?_⟩
   rw [if_neg (fun e2=>by rw [e2] at hnm;omega)]
   exact hnm
def cn (f:Cfg→Bool):List Br × Nat:=put 64 f []
abbrev D64 (f:Cfg→Bool):Prop:=Dep 64 f
theorem cn_valid {f:Cfg→Bool} (hf:D64 f):Valid (cn f).1 (cn f).2:=(put_valid hf).1
theorem cn_den {f:Cfg→Bool} (hf:D64 f):Den (cn f).1 (cn f).2=f:=(put_valid hf).2
theorem cn_of {M:List Br} {r:Nat} (h:Valid M r):cn (Den M r)=(M,r):=h.canon
theorem cn_inj {f g:Cfg→Bool} (hf:D64 f) (hg:D64 g):cn f=cn g↔f=g :=
 ⟨fun h=>by rw [← cn_den hf,← cn_den hg,h],fun h=>by rw [h]⟩
def Low (n:Nat) (f:Cfg→Bool):Prop:=∀ c c':Cfg,(∀ i,i<n→c i=c' i)→f c=f c'
theorem Low.d64 {n:Nat} {f:Cfg→Bool} (h:Low n f) (hn:n≤64):D64 f:=fun c c' hc=>h c c' fun i hi=>hc i (by omega) (by omega)
theorem Low.mono {m n:Nat} {f:Cfg→Bool} (h:Low m f) (hmn:m≤n):Low n f:=fun c c' hc=>h c c' fun i hi=>hc i (by omega)
theorem Low.size {n:Nat} {f:Cfg→Bool} (h:Low n f) (hn:n≤64):(cn f).1.length+1≤2 ^ n:=by
 have:=put_size 64 n f [] (Nat.le_refl _) hn (h.d64 hn) h good_nil
 simpa [cn] using this
theorem Low.size6 {f:Cfg→Bool} (h:Low 6 f):(cn f).1.length≤63:=by have:=h.size (by omega);omega
theorem Low.const (n:Nat) (b:Bool):Low n (fun _=>b):=fun _ _ _=>rfl
theorem Low.not {n:Nat} {f:Cfg→Bool} (h:Low n f):Low n (fun c=>!f c):=fun c c' hc=>by show (!f c)=!f c';rw [h c c' hc]
theorem Low.bin {n:Nat} {f g:Cfg→Bool} (op:Bool→Bool→Bool) (h:Low n f) (k:Low n g):Low n (fun c=>op (f c) (g c)):=fun c c' hc=>by show op (f c) (g c)=op (f c') (g c');rw [h c c' hc,k c c' hc]
theorem Low.var {n v:Nat} (h:v<n):Low n (fun c=>c v):=fun _ _ hc=>hc v h
theorem Low.set {n:Nat} {f:Cfg→Bool} (h:Low n f) (v:Nat) (b:Bool):Low n (fun c=>f (Dg.set c v b)):=fun _ _ hc=>h _ _ fun i hi=>by
 unfold Dg.set
 split
 ·rfl
 ·exact hc i hi
theorem d64_not {f:Cfg→Bool} (h:D64 f):D64 (fun c=>!f c):=fun c c' hc=>by show (!f c)=!f c';rw [h c c' hc]
theorem d64_bin {f g:Cfg→Bool} (op:Bool→Bool→Bool) (h:D64 f) (k:D64 g):D64 (fun c=>op (f c) (g c)):=fun c c' hc=>by show op (f c) (g c)=op (f c') (g c');rw [h c c' hc,k c c' hc]
theorem d64_var {v:Nat} (h:v<64):D64 (fun c=>c v):=fun _ _ hc=>hc v (by omega) h
theorem d64_const (b:Bool):D64 (fun _=>b):=fun _ _ _=>rfl
theorem cn_const (b:Bool):cn (fun _=>b)=([],b.toNat):=put_const (fun _=>rfl) good_nil
theorem cn_var {v:Nat} (h:v<64):cn (fun c=>c v)=([(v,0,1)],2):=by
 have hg:Good [(v,0,1)]:=by
  refine ⟨fun k hk=>?_,fun k hk=>?_,by simp⟩
  ·obtain rfl:k=0:=by simpa using hk
   refine ⟨h,by simp [bl],by simp [bh],?_,?_⟩
   ·show v<lev _ 0
    rw [lev_const (by omega)];exact h
   ·show v<lev _ 1
    rw [lev_const (by omega)];exact h
  ·obtain rfl:k=0:=by simpa using hk
   simp [bl,bh]
 have hv:Valid [(v,0,1)] 2:=⟨hg,by simp,by simp [wk,bl,bh]⟩
 have hd:Den [(v,0,1)] 2=fun c=>c v:=by
  funext c
  rw [Den_br hg.ord (k:=0) (by simp)]
  show (if c v then Den _ 1 c else Den _ 0 c)=_
  rw [Den_one,Den_zero]
  cases c v <;> rfl
 rw [← hd]
 exact cn_of hv
def tbit (l:List Nat) (k:Nat):Bool:=decide (k / 8<l.length)&&(l.getD (k / 8) 0).testBit (k % 8)
def tset (l:List Nat):Nat→Nat→Nat→Cfg→Bool
 | 0,_,k,_=>tbit l k
 | d+1,v,k,c=>if c v then tset l d (v+1) (k+2 ^ v) c else tset l d (v+1) k c
theorem tset_low (l:List Nat):∀ d v k n,v+d≤n→Low n (tset l d v k):=by
 intro d
 induction d with
 | zero=>intro v k n _ c c' _;rfl
 | succ d ih =>
   intro v k n h c c' hc
   unfold tset
   rw [hc v (by omega),ih (v+1) (k+2 ^ v) n (by omega) c c' hc,ih (v+1) k n (by omega) c c' hc]
theorem tset_step (l:List Nat) (d v k:Nat):tset l (d+1) v k=fun c=>(c v&&tset l d (v+1) (k+2 ^ v) c)||(tset l d (v+1) k c&&!c v):=by
 funext c
 show (if c v then _ else _)=_
 cases c v <;> simp
theorem tt_and (p q r:Bool):tt 136 p q r=(p&&q):=by cases p <;> cases q <;> cases r <;> decide
theorem tt_or (p q r:Bool):tt 238 p q r=(p||q):=by cases p <;> cases q <;> cases r <;> decide
theorem tt_xor (p q r:Bool):tt 102 p q r=(p != q):=by cases p <;> cases q <;> cases r <;> decide
def mv (A B C:List Br) (i j k:Nat):Nat:=min (min (min 64 (lev A i)) (lev B j)) (lev C k)
structure Miss (T s0 s1 s2:Nat) (A B C:List Br) (x y z V L0 L1 L2 U0 U1 U2:Nat) (M M1 M2:List Br) (r1 r2:Nat):Prop where
 hV:mv A B C x y z=V
 l0:sd A V x false=L0
 l1:sd B V y false=L1
 l2:sd C V z false=L2
 u0:sd A V x true=U0
 u1:sd B V y true=U1
 u2:sd C V z true=U2
 e0:put 64 (fx T A B C L0 L1 L2) M=(M1,r1)
 e1:put 64 (fx T A B C U0 U1 U2) M1=(M2,r2)
 whole:put 64 (fx T A B C x y z) M=if r1=r2 then (M2,r1) else ins M2 (V,r1,r2)
 bl0:L0<s0
 bl1:L1<s1
 bl2:L2<s2
 bu0:U0<s0
 bu1:U1<s1
 bu2:U2<s2
 ml:L0+L1+L2<x+y+z
 mu:U0+U1+U2<x+y+z
 v64:V<64
 g1:Good M1
 g2:Good M2
 p1:∃ X,M1=M++X
 p2:∃ X,M2=M1++X
 rl1:r1<M1.length+2
 rl2:r2<M2.length+2
 ok:PutOk 64 (fx T A B C x y z) M (put 64 (fx T A B C x y z) M).1 (put 64 (fx T A B C x y z) M).2
theorem miss_of {T s0 s1 s2:Nat} {A B C M:List Br} {x y z:Nat} (hA:Ord A) (hB:Ord B) (hC:Ord C) (h0:s0≤A.length+2) (h1:s1≤B.length+2) (h2:s2≤C.length+2) (hx:x<s0) (hy:y<s1) (hz:z<s2) (hM:Good M) (hop:2≤x∨2≤y∨2≤z) :
  ∃ V L0 L1 L2 U0 U1 U2 M1 M2 r1 r2,Miss T s0 s1 s2 A B C x y z V L0 L1 L2 U0 U1 U2 M M1 M2 r1 r2:=by
 have kA:mv A B C x y z≤lev A x:=by unfold mv;omega
 have kB:mv A B C x y z≤lev B y:=by unfold mv;omega
 have kC:mv A B C x y z≤lev C z:=by unfold mv;omega
 have key:mv A B C x y z<64∧((2≤x∧lev A x=mv A B C x y z)∨(2≤y∧lev B y=mv A B C x y z)∨(2≤z∧lev C z=mv A B C x y z)):=by
  have c:∀ (N:List Br) (n:Nat),¬ 2≤n→lev N n=64:=fun N n h=>lev_const (by omega)
  have d:∀ (N:List Br) (n:Nat),Ord N→n<N.length+2→2≤n→lev N n<64:=fun N n h hn h2=>lev_lt h hn h2
  have ax:=c A x
  have ay:=c B y
  have az:=c C z
  have bx:=d A x hA (by omega)
  have by':=d B y hB (by omega)
  have bz:=d C z hC (by omega)
  unfold mv
  by_cases qx:2≤x <;> by_cases qy:2≤y <;> by_cases qz:2≤z <;> simp only [qx,qy,qz,true_and,false_and,or_false,false_or,not_true_eq_false,not_false_eq_true,forall_const,false_implies] at * <;> omega
 obtain ⟨hv,hor⟩:=key
 generalize hV:mv A B C x y z=V at *
 have okA:=fun b=>sd_ok hA (i:=x) (by omega) hv kA b
 have okB:=fun b=>sd_ok hB (i:=y) (by omega) hv kB b
 have okC:=fun b=>sd_ok hC (i:=z) (by omega) hv kC b
 have hs:=put_split (T:=T) hA hB hC (i:=x) (j:=y) (k:=z) (by omega) (by omega) (by omega) hv kA kB kC hM
 have meas:∀ b,sd A V x b+sd B V y b+sd C V z b<x+y+z:=fun b=>by
  have a3:=(okA b).2.2.1
  have b3:=(okB b).2.2.1
  have c3:=(okC b).2.2.1
  rcases hor with ⟨h,e⟩ | ⟨h,e⟩ | ⟨h,e⟩
  ·have:=(okA b).2.2.2 h e;omega
  ·have:=(okB b).2.2.2 h e;omega
  ·have:=(okC b).2.2.2 h e;omega
 have dep:=fun b=>fx_dep64 (T:=T) hA hB hC (okA b).2.1 (okB b).2.1 (okC b).2.1
 have la:=okA false
 have lb:=okB false
 have lc:=okC false
 have ua:=okA true
 have ub:=okB true
 have uc:=okC true
 generalize hl0:sd A V x false=L0 at *
 generalize hl1:sd B V y false=L1 at *
 generalize hl2:sd C V z false=L2 at *
 generalize hu0:sd A V x true=U0 at *
 generalize hu1:sd B V y true=U1 at *
 generalize hu2:sd C V z true=U2 at *
 have mf:=meas false
 have mt:=meas true
 rw [hl0,hl1,hl2] at mf
 rw [hu0,hu1,hu2] at mt
 have df:=dep false
 have dt:=dep true
 rw [hl0,hl1,hl2] at df
 rw [hu0,hu1,hu2] at dt
 have whole:=put_ok64 (fx_dep64 (T:=T) hA hB hC (i:=x) (j:=y) (k:=z) (by omega) (by omega) (by omega)) hM
 have p0:=put_ok64 df hM
 have p1:=put_ok64 dt p0.good
 clear dep meas okA okB okC df dt
 generalize he0:put 64 (fx T A B C L0 L1 L2) M=Q at *
 obtain ⟨M1,r1⟩:=Q
 simp only at p0 p1 hs
 generalize he1:put 64 (fx T A B C U0 U1 U2) M1=Q at *
 obtain ⟨M2,r2⟩:=Q
 simp only at p1 hs
 refine ⟨V,L0,L1,L2,U0,U1,U2,M1,M2,r1,r2,?_⟩
 exact { hV:=hV,l0:=hl0,l1:=hl1,l2:=hl2,u0:=hu0,u1:=hu1,u2:=hu2,e0:=he0,e1:=he1,whole:=hs,bl0:=by omega,bl1:=by omega,bl2:=by omega,bu0:=by omega,bu1:=by omega,bu2:=by omega,
         ml:=mf,mu:=mt,v64:=hv,g1:=p0.good,g2:=p1.good,p1:=p0.pre,p2:=p1.pre,rl1:=p0.lt,rl2:=p1.lt,ok:=whole }
def cm (n:Nat):Nat:=if n<2 then 1 - n else n
theorem cm_lt {n:Nat} (h:n<2):cm n=1 - n:=if_pos h
theorem cm_ge {n:Nat} (h:¬ n<2):cm n=n:=if_neg h
theorem cm_inj {a b:Nat} (h:cm a=cm b):a=b:=by
 unfold cm at h
 split at h <;> split at h <;> omega
def cb (b:Br):Br:=(b.1,cm b.2.1,cm b.2.2)
theorem cb_inj {a b:Br} (h:cb a=cb b):a=b:=by
 unfold cb at h
 simp only [Prod.mk.injEq] at h
 exact Prod.ext h.1 (Prod.ext (cm_inj h.2.1) (cm_inj h.2.2))
theorem cb_get {M:List Br} {k:Nat} (hk:k<M.length):(M.map cb).getD k (0,0,0)=cb (M.getD k (0,0,0)):=by
 rw [List.getD_eq_getElem?_getD,List.getD_eq_getElem?_getD,List.getElem?_map,List.getElem?_eq_getElem hk]
 rfl
theorem cb_bv {M:List Br} {k:Nat} (hk:k<M.length):bv (M.map cb) k=bv M k:=by unfold bv;rw [cb_get hk];rfl
theorem cb_bl {M:List Br} {k:Nat} (hk:k<M.length):bl (M.map cb) k=cm (bl M k):=by unfold bl;rw [cb_get hk];rfl
theorem cb_bh {M:List Br} {k:Nat} (hk:k<M.length):bh (M.map cb) k=cm (bh M k):=by unfold bh;rw [cb_get hk];rfl
theorem cb_lev {M:List Br} {n:Nat} (hn:n<M.length+2):lev (M.map cb) (cm n)=lev M n:=by
 by_cases h:n<2
 ·rw [cm_lt h,lev_const (by omega),lev_const h]
 ·rw [cm_ge h]
  unfold lev
  rw [if_neg h,if_neg h,cb_bv (by omega)]
theorem cm_bd {n k:Nat} (h:n<k+2):cm n<k+2:=by unfold cm;split <;> omega
theorem cb_ord {M:List Br} (h:Ord M):Ord (M.map cb):=by
 intro k hk
 rw [List.length_map] at hk
 obtain ⟨a,b,c,d,e⟩:=h k hk
 rw [cb_bv hk,cb_bl hk,cb_bh hk,cb_lev (by omega),cb_lev (by omega)]
 exact ⟨a,cm_bd b,cm_bd c,d,e⟩
theorem cb_good {M:List Br} (h:Good M):Good (M.map cb):=by
 refine ⟨cb_ord h.ord,fun k hk=>?_,?_⟩
 ·rw [List.length_map] at hk
  rw [cb_bl hk,cb_bh hk]
  exact fun e=>h.red k hk (cm_inj e)
 ·exact List.pairwise_map.2 (h.nodup.imp (fun hne e=>hne (cb_inj e)))
theorem cb_den {M:List Br} (h:Ord M) (c:Cfg):∀ (f n:Nat),n<f→n<M.length+2→den (M.map cb) f (cm n) c=!den M f n c:=by
 intro f
 induction f with
 | zero=>intro n h1;omega
 | succ f ih =>
   intro n hf hn
   unfold den
   by_cases h2:n<2
   ·rw [if_pos h2,if_pos (by rw [cm_lt h2];omega),cm_lt h2]
    obtain rfl | rfl:n=0∨n=1:=by omega
    ·rfl
    ·rfl
   ·obtain ⟨_,hl,hh,_,_⟩:=h (n - 2) (by omega)
    rw [if_neg h2,if_neg (by rw [cm_ge h2];exact h2),cm_ge h2,cb_bv (by omega),cb_bl (by omega),cb_bh (by omega),ih _ (by omega) (by omega),ih _ (by omega) (by omega)]
    split <;> rfl
theorem cb_Den {M:List Br} (h:Ord M) {n:Nat} (hn:n<M.length+2):Den (M.map cb) (cm n)=fun c=>!Den M n c:=by
 funext c
 have h2:cm n<n+2:=cm_bd (by omega)
 have e1:den (M.map cb) (cm n+1) (cm n) c=den (M.map cb) (n+2) (cm n) c:=den_fuel (cb_ord h) c _ _ _ (by rw [List.length_map];exact cm_bd hn) (by omega) h2
 have e3:den M (n+2) n c=den M (n+1) n c:=den_fuel h c _ _ n hn (by omega) (by omega)
 show den (M.map cb) (cm n+1) (cm n) c=!den M (n+1) n c
 rw [e1,cb_den h c (n+2) n (by omega) hn,e3]
theorem cb_wk {M:List Br} (h:Ord M):∀ (f n s:Nat),n<M.length+2→2≤s→wk (M.map cb) f (cm n) s=wk M f n s:=by
 intro f
 induction f with
 | zero=>intro n s _ _;rfl
 | succ f ih =>
   intro n s hn hs
   by_cases h2:n<s
   ·rw [wk_skip M h2,wk_skip _ (by unfold cm;split <;> omega)]
   ·have h3:¬ n<2:=by omega
    obtain ⟨_,hl,hh,_,_⟩:=h (n - 2) (by omega)
    rw [cm_ge h3]
    unfold wk
    rw [if_neg h2,if_neg h2,cb_bl (by omega),cb_bh (by omega),ih _ s (by omega) hs]
    rcases h1:wk M f (bl M (n - 2)) s with _ | t
    ·rfl
    ·simp only
     have:=wk_ge _ _ _ _ h1
     rw [ih _ t (by omega) (by omega)]
theorem cn_not {f:Cfg→Bool} (hf:D64 f):cn (fun c=>!f c)=((cn f).1.map cb,cm (cn f).2):=by
 have hv:=cn_valid hf
 have hd:=cn_den hf
 generalize cn f=R at *
 obtain ⟨M,r⟩:=R
 simp only at *
 have hlt:cm r<M.length+2:=cm_bd hv.lt
 have hw:=hv.walk
 have hv2:Valid (M.map cb) (cm r):=by
  refine ⟨cb_good hv.good,by rw [List.length_map];exact hlt,?_⟩
  rw [List.length_map,wk_fuel (cb_ord hv.good.ord) (cm r+1) (r+2) (cm r) 2 (by rw [List.length_map];exact hlt) (by omega) (by unfold cm;split <;> omega) (by omega),cb_wk hv.good.ord _ _ _ hv.lt (by omega),
   wk_fuel hv.good.ord (r+2) (r+1) r 2 hv.lt (by omega) (by omega) (by omega)]
  exact hw
 have hd2:=cb_Den hv.good.ord hv.lt
 rw [hd] at hd2
 rw [← hd2]
 exact cn_of hv2
def fxb (v:Nat) (value:Bool) (b:Br):Br:=if b.1=v then (if value then (b.1,b.2.2,b.2.2) else (b.1,b.2.1,b.2.1)) else b
def cf (c:Nat):Cfg:=fun v=>c.testBit v
theorem dm (x v:Nat):x=2 ^ v*(x / 2 ^ v)+x % 2 ^ v:=(Nat.div_add_mod x (2 ^ v)).symm
theorem bit_at (q r v i:Nat) (h:r<2 ^ v):(2 ^ v*q+r).testBit i=if i<v then r.testBit i else q.testBit (i - v):=Nat.testBit_two_pow_mul_add q h i
theorem bit_v (x v:Nat):x.testBit v=decide (x / 2 ^ v % 2=1):=Nat.testBit_eq_decide_div_mod_eq
theorem add_bit {x v:Nat} (h:x.testBit v=false) (i:Nat):(x+2 ^ v).testBit i=if i=v then true else x.testBit i:=by
 have hr:x % 2 ^ v<2 ^ v:=Nat.mod_lt _ (Nat.pow_pos (by omega))
 have hq:x / 2 ^ v % 2=0:=by
  rw [bit_v] at h
  have:=of_decide_eq_false h
  omega
 have e:x+2 ^ v=2 ^ v*(x / 2 ^ v+1)+x % 2 ^ v:=by
  have:=dm x v
  rw [Nat.mul_add,Nat.mul_one]
  omega
 rw [e,bit_at _ _ _ _ hr]
 have e2:x.testBit i=if i<v then (x % 2 ^ v).testBit i else (x / 2 ^ v).testBit (i - v):=by
  conv=>lhs;rw [dm x v]
  exact bit_at _ _ _ _ hr
 rw [e2]
 by_cases h1:i<v
 ·rw [if_pos h1,if_pos h1,if_neg (by omega)]
 ·rw [if_neg h1,if_neg h1]
  generalize x / 2 ^ v=q at *
  by_cases h2:i=v
  ·rw [if_pos h2,h2,Nat.sub_self,bit_v]
   simp only [Nat.pow_zero,Nat.div_one]
   exact decide_eq_true (by omega)
  ·rw [if_neg h2]
   obtain ⟨j,hj⟩:∃ j,i - v=j+1:=⟨i - v - 1,by omega⟩
   rw [hj,Nat.testBit_succ,Nat.testBit_succ]
   congr 1
   omega
theorem or_bit {x v:Nat} (h:x.testBit v=false):x ||| 2 ^ v=x+2 ^ v:=by
 apply Nat.eq_of_testBit_eq
 intro i
 rw [add_bit h,Nat.testBit_or,Nat.testBit_two_pow]
 by_cases e:i=v
 ·rw [if_pos e,e,decide_eq_true rfl,Bool.or_true]
 ·rw [if_neg e,decide_eq_false (fun h=>e h.symm),Bool.or_false]
theorem clear_bit {y v:Nat} (h:y.testBit v=true):∃ z,y=z+2 ^ v∧z.testBit v=false:=by
 have hp:0<2 ^ v:=Nat.pow_pos (by omega)
 have hr:y % 2 ^ v<2 ^ v:=Nat.mod_lt _ hp
 have hq:y / 2 ^ v % 2=1:=by
  rw [bit_v] at h
  exact of_decide_eq_true h
 have e0:=dm y v
 generalize y / 2 ^ v=q at *
 generalize y % 2 ^ v=r at *
 obtain ⟨p,rfl⟩:∃ p,q=p+1:=⟨q - 1,by omega⟩
 rw [Nat.mul_add,Nat.mul_one] at e0
 refine ⟨2 ^ v*p+r,by omega,?_⟩
 rw [bit_at _ _ _ _ hr,if_neg (by omega),Nat.sub_self,bit_v]
 simp only [Nat.pow_zero,Nat.div_one]
 exact decide_eq_false (by omega)
theorem cf_add {z v:Nat} (h:z.testBit v=false) (b:Bool):Dg.set (cf (z+2 ^ v)) v b=Dg.set (cf z) v b:=by
 funext i
 unfold Dg.set cf
 split
 ·rfl
 ·next hne=>rw [add_bit h,if_neg hne]
def IsL (f:Cfg→Bool) (x:Nat):Prop:=f (cf x)=true∧∀ y,f (cf y)=true→x≤y
def lsf (M:List Br):Nat→Nat→Nat
 | 0,_=>0
 | f+1,n=>if n<2 then 0 else
   if bl M (n - 2)=0∨(bh M (n - 2)≠0∧(lsf M f (bh M (n - 2)) ||| 2 ^ bv M (n - 2))<lsf M f (bl M (n - 2))) then lsf M f (bh M (n - 2)) ||| 2 ^ bv M (n - 2) else lsf M f (bl M (n - 2))
theorem lsf_fuel {M:List Br} (h:Ord M):∀ (f g n:Nat),n<M.length+2→n<f→n<g→lsf M f n=lsf M g n:=by
 intro f
 induction f with
 | zero=>intro g n _ h1;omega
 | succ f ih =>
   intro g n hn hf hg
   obtain ⟨g,rfl⟩:∃ g',g=g'+1:=⟨g - 1,by omega⟩
   unfold lsf
   by_cases h2:n<2
   ·rw [if_pos h2,if_pos h2]
   ·rw [if_neg h2,if_neg h2]
    obtain ⟨_,hl,hh,_,_⟩:=h (n - 2) (by omega)
    rw [ih g (bh M (n - 2)) (by omega) (by omega) (by omega),ih g (bl M (n - 2)) (by omega) (by omega) (by omega)]
def Lst (M:List Br) (n:Nat):Nat:=lsf M (n+1) n
theorem Lst_const (M:List Br) {n:Nat} (h:n<2):Lst M n=0:=if_pos h
theorem Lst_br {M:List Br} (h:Ord M) {k:Nat} (hk:k<M.length):Lst M (k+2)=if bl M k=0∨(bh M k≠0∧(Lst M (bh M k) ||| 2 ^ bv M k)<Lst M (bl M k)) then Lst M (bh M k) ||| 2 ^ bv M k else Lst M (bl M k):=by
 obtain ⟨_,hl,hh,_,_⟩:=h k hk
 have e:Lst M (k+2)=if k+2<2 then 0 else
  if bl M (k+2 - 2)=0∨(bh M (k+2 - 2)≠0∧(lsf M (k+2) (bh M (k+2 - 2)) ||| 2 ^ bv M (k+2 - 2))<lsf M (k+2) (bl M (k+2 - 2))) then lsf M (k+2) (bh M (k+2 - 2)) ||| 2 ^ bv M (k+2 - 2) else lsf M (k+2) (bl M (k+2 - 2)):=rfl
 rw [e,if_neg (by omega),Nat.add_sub_cancel,lsf_fuel h (k+2) (bh M k+1) (bh M k) (by omega) (by omega) (by omega),lsf_fuel h (k+2) (bl M k+1) (bl M k) (by omega) (by omega) (by omega)]
 rfl
theorem Lst_is {M:List Br} (h:Good M):∀ (B n:Nat),n<B→n<M.length+2→n≠0→IsL (Den M n) (Lst M n)∧Lst M n<2 ^ 64∧∀ i,i<lev M n→(Lst M n).testBit i=false:=by
 intro B
 induction B with
 | zero=>intro n h1;omega
 | succ B ih =>
   intro n hB hn h0
   by_cases h2:n<2
   ·obtain rfl:n=1:=by omega
    rw [Lst_const M h2]
    exact ⟨⟨by rw [Den_one],fun y _=>Nat.zero_le _⟩,Nat.pow_pos (by omega),fun i _=>Nat.zero_testBit i⟩
   ·obtain ⟨k,rfl⟩:∃ k,n=k+2:=⟨n - 2,by omega⟩
    have hk:k<M.length:=by omega
    obtain ⟨hv,hl,hh,hvl,hvh⟩:=h.ord k hk
    have hred:=h.red k hk
    have hd:=Den_br h.ord hk
    rw [Lst_br h.ord hk]
    have IL:=fun hne=>ih (bl M k) (by omega) (by omega) hne
    have IH:=fun hne=>ih (bh M k) (by omega) (by omega) hne
    have indl:=fun c b=>Den_indep h.ord c (v:=bv M k) (n:=bl M k) b (by omega) hvl
    have indh:=fun c b=>Den_indep h.ord c (v:=bv M k) (n:=bh M k) b (by omega) hvh
    have lz:bl M k=0→∀ c,Den M (bl M k) c=false:=fun e c=>by rw [e,Den_zero]
    have hz:bh M k=0→∀ c,Den M (bh M k) c=false:=fun e c=>by rw [e,Den_zero]
    rw [lev_br (by omega),Nat.add_sub_cancel]
    generalize bl M k=a at *
    generalize bh M k=b at *
    generalize bv M k=v at *
    generalize Den M (k+2)=F at *
    generalize Den M a=fa at *
    generalize Den M b=fb at *
    generalize lev M a=la at *
    generalize lev M b=lb at *
    generalize Lst M a=x at *
    generalize Lst M b=y at *
    have low:∀ z,F (cf z)=true→(a≠0∧x≤z)∨(b≠0∧y+2 ^ v≤z):=by
     intro z hF
     rw [hd] at hF
     by_cases hb:cf z v=true
     ·rw [if_pos hb] at hF
      have hb0:b≠0:=fun e=>by rw [hz e] at hF;cases hF
      obtain ⟨z',rfl,hz'⟩:=clear_bit hb
      have e:fb (cf z')=true:=by
       rw [← indh (cf z') false,← cf_add hz' false,indh,hF]
      exact .inr ⟨hb0,by have:=(IH hb0).1.2 z' e;omega⟩
     ·rw [if_neg hb] at hF
      have ha0:a≠0:=fun e=>by rw [lz e] at hF;cases hF
      exact .inl ⟨ha0,(IL ha0).1.2 z hF⟩
    have hor:b≠0→y ||| 2 ^ v=y+2 ^ v:=fun hb=>or_bit ((IH hb).2.2 v hvh)
    have inx:a≠0→F (cf x)=true:=fun ha=>by
     rw [hd,if_neg (by show ¬ x.testBit v=true;rw [(IL ha).2.2 v hvl];simp)]
     exact (IL ha).1.1
    have iny:b≠0→F (cf (y+2 ^ v))=true:=fun hb=>by
     have hyv:=(IH hb).2.2 v hvh
     rw [hd,if_pos (by show (y+2 ^ v).testBit v=true;rw [add_bit hyv,if_pos rfl]),← indh _ false,cf_add hyv,indh]
     exact (IH hb).1.1
    have hlt:b≠0→y+2 ^ v<2 ^ 64:=fun hb=>by
     rw [← hor hb]
     exact Nat.or_lt_two_pow (IH hb).2.1 (Nat.pow_lt_pow_right (by omega) hv)
    have bitsy:b≠0→∀ i,i<v→(y+2 ^ v).testBit i=false:=fun hb i hi=>by
     rw [add_bit ((IH hb).2.2 v hvh),if_neg (by omega)]
     exact (IH hb).2.2 i (by omega)
    by_cases hc:a=0∨(b≠0∧(y ||| 2 ^ v)<x)
    ·have hb:b≠0:=by
      rcases hc with e | e
      ·exact fun e2=>hred (by rw [e,e2])
      ·exact e.1
     rw [if_pos hc,hor hb]
     refine ⟨⟨iny hb,fun z hF=>?_⟩,hlt hb,bitsy hb⟩
     rcases low z hF with ⟨h1,h3⟩ | ⟨_,h3⟩
     ·rcases hc with e | ⟨_,e⟩
      ·exact absurd e h1
      ·rw [hor hb] at e;omega
     ·exact h3
    ·have ha:a≠0:=fun e=>hc (.inl e)
     rw [if_neg hc]
     refine ⟨⟨inx ha,fun z hF=>?_⟩,(IL ha).2.1,fun i hi=>(IL ha).2.2 i (by omega)⟩
     rcases low z hF with ⟨_,h3⟩ | ⟨h1,h3⟩
     ·exact h3
     ·have:¬ (y ||| 2 ^ v)<x:=fun e=>hc (.inr ⟨h1,e⟩)
      rw [hor h1] at this
      omega
def cnt:Nat→(Cfg→Bool)→Nat
 | 0,f=>(f (fun _=>false)).toNat
 | d+1,f=>cnt d (fun c=>f (Dg.set c d false))+cnt d (fun c=>f (Dg.set c d true))
def Ind (v:Nat) (f:Cfg→Bool):Prop:=∀ c b,f (Dg.set c v b)=f c
theorem set_comm (c:Cfg) {v u:Nat} (h:v≠u) (a b:Bool):Dg.set (Dg.set c v a) u b=Dg.set (Dg.set c u b) v a:=by
 funext i
 unfold Dg.set
 by_cases e:i=u
 ·rw [if_pos e,if_neg (by omega),if_pos e]
 ·rw [if_neg e]
  split <;> rfl
theorem Ind.set {v u:Nat} {f:Cfg→Bool} (h:Ind v f) (hne:v≠u) (b:Bool):Ind v (fun c=>f (Dg.set c u b)):=fun c a=>by
 show f (Dg.set (Dg.set c v a) u b)=f (Dg.set c u b)
 rw [set_comm c hne,h]
def vb (M:List Br) (r:Nat):Bool :=
 ((List.range M.length).all fun k=>decide (bv M k<64)&&decide (bl M k<k+2)&&decide (bh M k<k+2)&&decide (bv M k<lev M (bl M k))&&decide (bv M k<lev M (bh M k))&&decide (bl M k≠bh M k)) &&
 decide M.Nodup&&decide (r<M.length+2)&&decide (wk M (r+1) r 2=some (M.length+2))
theorem vb_valid {M:List Br} {r:Nat} (h:vb M r=true):Valid M r:=by
 unfold vb at h
 simp only [Bool.and_eq_true,decide_eq_true_eq,List.all_eq_true,List.mem_range] at h
 obtain ⟨⟨⟨h1,h2⟩,h3⟩,h4⟩:=h
 refine ⟨⟨fun k hk=>?_,fun k hk=>?_,h2⟩,h3,h4⟩
 ·obtain ⟨⟨⟨⟨⟨a,b⟩,c⟩,d⟩,e⟩,_⟩:=h1 k hk
  exact ⟨a,b,c,d,e⟩
 ·exact (h1 k hk).2
theorem cn_eq {M:List Br} {r:Nat} {f:Cfg→Bool} (h:vb M r=true) (hd:∀ c,Den M r c=f c):cn f=(M,r):=by
 have e:Den M r=f:=funext hd
 rw [← e]
 exact cn_of (vb_valid h)
theorem cn_xor01:cn (fun c=>c 0 != c 1)=([(1,0,1),(1,1,0),(0,2,3)],4):=cn_eq (by decide) (fun c=>by
 cases h0:c 0 <;> cases h1:c 1 <;> simp [Den,den,bv,bl,bh,h0,h1])
theorem ind_of_low {n v:Nat} {f:Cfg→Bool} (h:Low n f) (hv:n≤v) (b:Bool):(fun c=>f (Dg.set c v b))=f:=funext fun c=>h _ _ (fun i hi=>set_other (by omega))
theorem put_low:∀ (d n:Nat) (f:Cfg→Bool) (M:List Br),d≤64→Dep d f→Low n f→Good M→∀ b∈(put d f M).1,b∈M∨b.1<n:=by
 intro d
 induction d with
 | zero=>intro n f M _ _ _ _ b hb;exact .inl hb
 | succ d ih =>
   intro n f M hd hf hl hM b hb
   by_cases hv:n≤63 - d
   ·have e:=ind_of_low hl hv true
    have hdp:=hf.set true
    rw [e] at hdp
    rw [put_step (by omega) hdp hM] at hb
    exact ih n f M (by omega) hdp hl hM b hb
   ·have k0:=ih n _ M (by omega) (hf.set false) (hl.set (63 - d) false) hM
    have g0:=(put_ok d _ M (by omega) (hf.set false) hM).good
    have k1:=ih n _ _ (by omega) (hf.set true) (hl.set (63 - d) true) g0
    have key:∀ x∈(put d (fun c=>f (Dg.set c (63 - d) true)) (put d (fun c=>f (Dg.set c (63 - d) false)) M).1).1,x∈M∨x.1<n:=fun x hx=>by
     rcases k1 x hx with q | q
     ·exact k0 x q
     ·exact .inr q
    have hb':b∈(if (put d (fun c=>f (Dg.set c (63 - d) false)) M).2=(put d (fun c=>f (Dg.set c (63 - d) true)) (put d (fun c=>f (Dg.set c (63 - d) false)) M).1).2
     then ((put d (fun c=>f (Dg.set c (63 - d) true)) (put d (fun c=>f (Dg.set c (63 - d) false)) M).1).1,(put d (fun c=>f (Dg.set c (63 - d) false)) M).2)
     else ins (put d (fun c=>f (Dg.set c (63 - d) true)) (put d (fun c=>f (Dg.set c (63 - d) false)) M).1).1 (63 - d,(put d (fun c=>f (Dg.set c (63 - d) false)) M).2,(put d (fun c=>f (Dg.set c (63 - d) true)) (put d (fun c=>f (Dg.set c (63 - d) false)) M).1).2)).1:=hb
    split at hb'
    ·exact key b hb'
    ·unfold ins at hb'
     split at hb'
     ·exact key b hb'
     ·rcases List.mem_append.1 hb' with q | q
      ·exact key b q
      ·rw [List.mem_singleton] at q
       right;rw [q];show 63 - d<n;omega
theorem Low.vars {n:Nat} {f:Cfg→Bool} (h:Low n f) (hn:n≤64) (k:Nat) (hk:k<(cn f).1.length):bv (cn f).1 k<n:=by
 have this:=put_low 64 n f [] (Nat.le_refl _) (h.d64 hn) h good_nil
 unfold cn at hk ⊢
 generalize put 64 f []=P at *
 rcases this _ (List.getElem_mem hk) with q | q
 ·simp at q
 ·have e:=br_at hk
  rw [e] at q
  exact q
theorem put_cnt:∀ (d n:Nat) (f:Cfg→Bool) (M:List Br),d≤64→((put d f M).1.filter fun b=>decide (b.1<n)).length+1≤(M.filter fun b=>decide (b.1<n)).length+2 ^ (n - (64 - d)):=by
 intro d
 induction d with
 | zero=>intro n f M _;show (M.filter _).length+1≤_;have:=Nat.one_le_two_pow (n:=n - (64 - 0));omega
 | succ d ih =>
   intro n f M hd
   have h0:=ih n (fun c=>f (Dg.set c (63 - d) false)) M (by omega)
   have h1:=ih n (fun c=>f (Dg.set c (63 - d) true)) (put d (fun c=>f (Dg.set c (63 - d) false)) M).1 (by omega)
   have hins:∀ (Q:List Br) (a b:Nat),((ins Q (63 - d,a,b)).1.filter fun b=>decide (b.1<n)).length≤(Q.filter fun b=>decide (b.1<n)).length+if 63 - d<n then 1 else 0:=fun Q a b=>by
    unfold ins
    split
    ·show (Q.filter _).length≤_;omega
    ·show ((Q++[(63 - d,a,b)]).filter _).length≤_
     rw [List.filter_append,List.length_append,List.filter_cons]
     by_cases e:63 - d<n
     ·rw [if_pos (decide_eq_true e),if_pos e];simp
     ·rw [if_neg (by simp;omega),if_neg e,List.filter_nil];exact Nat.le_refl _
   have hpow:2 ^ (n - (64 - (d+1)))=if 63 - d<n then 2*2 ^ (n - (64 - d)) else 1:=by
    by_cases e:63 - d<n
    ·rw [if_pos e,show n - (64 - (d+1))=(n - (64 - d))+1 by omega,Nat.pow_succ];omega
    ·rw [if_neg e,show n - (64 - (d+1))=0 by omega,Nat.pow_zero]
   have hpow2:¬ 63 - d<n→2 ^ (n - (64 - d))=1:=fun e=>by rw [show n - (64 - d)=0 by omega,Nat.pow_zero]
   have key:((if (put d (fun c=>f (Dg.set c (63 - d) false)) M).2=(put d (fun c=>f (Dg.set c (63 - d) true)) (put d (fun c=>f (Dg.set c (63 - d) false)) M).1).2
     then ((put d (fun c=>f (Dg.set c (63 - d) true)) (put d (fun c=>f (Dg.set c (63 - d) false)) M).1).1,(put d (fun c=>f (Dg.set c (63 - d) false)) M).2)
     else ins (put d (fun c=>f (Dg.set c (63 - d) true)) (put d (fun c=>f (Dg.set c (63 - d) false)) M).1).1 (63 - d,(put d (fun c=>f (Dg.set c (63 - d) false)) M).2,(put d (fun c=>f (Dg.set c (63 - d) true)) (put d (fun c=>f (Dg.set c (63 - d) false)) M).1).2)).1.filter fun b=>decide (b.1<n)).length+1≤(M.filter fun b=>decide (b.1<n)).length+2 ^ (n - (64 - (d+1))):=by
    rw [hpow]
    have h2:=hins (put d (fun c=>f (Dg.set c (63 - d) true)) (put d (fun c=>f (Dg.set c (63 - d) false)) M).1).1 (put d (fun c=>f (Dg.set c (63 - d) false)) M).2 (put d (fun c=>f (Dg.set c (63 - d) true)) (put d (fun c=>f (Dg.set c (63 - d) false)) M).1).2
    generalize put d (fun c=>f (Dg.set c (63 - d) false)) M=P at *
    generalize put d (fun c=>f (Dg.set c (63 - d) true)) P.1=Q at *
    by_cases e:63 - d<n
    ·rw [if_pos e] at h2 ⊢
     split
     ·show (Q.1.filter _).length+1≤_;omega
     ·omega
    ·have h3:=hpow2 e
     rw [if_neg e] at h2 ⊢
     split
     ·show (Q.1.filter _).length+1≤_;omega
     ·omega
   exact key
theorem nodup_two {α:Type} {a b:α}:∀ {l:List α},l.Nodup→(∀ x∈l,x=a∨x=b)→l.length≤2
 | [],_,_=>by simp
 | [_],_,_=>by simp
 | [_,_],_,_=>by simp
 | x::y::z::l,hn,h=>by
   exfalso
   have hx:=h x (by simp)
   have hy:=h y (by simp)
   have hz:=h z (by simp)
   simp only [List.nodup_cons,List.mem_cons,not_or] at hn
   obtain ⟨⟨h1,h2,_⟩,⟨h3,_⟩,_⟩:=hn
   rcases hx with rfl | rfl <;> rcases hy with rfl | rfl <;> rcases hz with rfl | rfl <;> first | exact h1 rfl | exact h2 rfl | exact h3 rfl
theorem filter_split {α:Type} (p:α→Bool):∀ l:List α,l.length=(l.filter p).length+(l.filter fun x=>!p x).length
 | []=>rfl
 | x::l=>by
   have:=filter_split p l
   rw [List.filter_cons,List.filter_cons]
   cases h:p x <;> simp [this] <;> omega
theorem Low.size33 {f:Cfg→Bool} (h:Low 6 f):(cn f).1.length≤33:=by
 have hv:=cn_valid (h.d64 (by omega))
 have hvars:=h.vars (by omega)
 have h1:((cn f).1.filter fun b=>decide (b.1<5)).length+1≤0+32:=by
  have h1:=put_cnt 64 5 f [] (Nat.le_refl _)
  unfold cn
  generalize put 64 f []=P at *
  exact h1
 clear h
 generalize cn f=P at *
 have h2:(P.1.filter fun b=>!decide (b.1<5)).length≤2:=by
  refine nodup_two (a:=(5,0,1)) (b:=(5,1,0)) (hv.good.nodup.filter _) (fun x hx=>?_)
  rw [List.mem_filter] at hx
  obtain ⟨hm,h5⟩:=hx
  obtain ⟨k,hk,e⟩:=List.getElem_of_mem hm
  have hlt:=hvars k hk
  have hat:=br_at hk
  rw [e] at hat
  have hx1:x.1=bv P.1 k:=congrArg (·.1) hat
  simp only [Bool.not_eq_true',decide_eq_false_iff_not] at h5
  obtain ⟨o1,o2,o3,o4,o5⟩:=hv.good.ord k hk
  have hred:=hv.good.red k hk
  have small:∀ n,n<k+2→bv P.1 k<lev P.1 n→n<2:=fun n hn hlev=>by
   by_cases hn2:n<2
   ·exact hn2
   ·exfalso
    obtain ⟨j,rfl⟩:∃ j,n=j+2:=⟨n - 2,by omega⟩
    rw [Dg.lev_br] at hlev
    have:=hvars j (by omega)
    omega
  have s1:=small _ o2 o4
  have s2:=small _ o3 o5
  rw [hat]
  generalize bv P.1 k=V at *
  generalize bl P.1 k=X at *
  generalize bh P.1 k=Y at *
  obtain rfl:V=5:=by omega
  obtain ⟨rfl,rfl⟩ | ⟨rfl,rfl⟩:(X=0∧Y=1)∨(X=1∧Y=0):=by omega
  ·exact .inl rfl
  ·exact .inr rfl
 have h3:=filter_split (fun b:Br=>decide (b.1<5)) P.1
 omega
def cube (L:List (Nat × Bool)) (c:Cfg):Bool:=L.all fun p=>c p.1 == p.2
def lm (b:Bool) (L:List (Nat × Bool)):Nat:=L.foldr (fun p a=>if p.2=b then a ||| 2 ^ p.1 else a) 0
theorem pig:∀ (n:Nat) (l:List Nat),l.Nodup→(∀ x∈l,x<n)→l.length≤n
 | 0,l,_,h=>by
   cases l with
   | nil=>simp
   | cons x l=>have:=h x (by simp);omega
 | n+1,l,hn,h=>by
   by_cases hm:n∈l
   ·have h1:=pig n (l.erase n) (hn.erase n) (fun x hx=>by
     have:=(hn.mem_erase_iff).1 hx
     have:=h x this.2
     omega)
    rw [List.length_erase_of_mem hm] at h1
    omega
   ·have:=pig n l hn (fun x hx=>by
     have:=h x hx
     have:x≠n:=fun e=>hm (e ▸ hx)
     omega)
    omega
theorem nodup_map_on {α β:Type} {f:α→β}:∀ {l:List α},l.Nodup→(∀ x∈l,∀ y∈l,f x=f y→x=y)→(l.map f).Nodup
 | [],_,_=>by simp
 | a::l,hn,h=>by
   rw [List.nodup_cons] at hn
   rw [List.map_cons,List.nodup_cons]
   refine ⟨fun hm=>?_,nodup_map_on hn.2 (fun x hx y hy=>h x (List.mem_cons_of_mem _ hx) y (List.mem_cons_of_mem _ hy))⟩
   obtain ⟨b,hb,e⟩:=List.mem_map.1 hm
   exact hn.1 (h b (List.mem_cons_of_mem _ hb) a (by simp) e ▸ hb)
theorem VI.len {N O:List Br} {num:Nat→Nat} (h:VI N num O):O.length≤N.length:=by
 let pick:Nat→Nat:=fun j=>if hj:j<O.length then (h.all j hj).choose else 0
 have hp:∀ j,j<O.length→pick j<N.length∧num (pick j)=j+2:=fun j hj=>by
  show (if hj:j<O.length then (h.all j hj).choose else 0)<_∧num (if hj:j<O.length then (h.all j hj).choose else 0)=_
  rw [dif_pos hj]
  exact (h.all j hj).choose_spec
 have hn:((List.range O.length).map pick).Nodup:=nodup_map_on List.nodup_range (fun x hx y hy e=>by
  have h1:=(hp x (List.mem_range.1 hx)).2
  have h2:=(hp y (List.mem_range.1 hy)).2
  rw [e,h2] at h1;omega)
 have:=pig N.length _ hn (fun x hx=>by
  obtain ⟨j,hj,e⟩:=List.mem_map.1 hx
  rw [← e];exact (hp j (List.mem_range.1 hj)).1)
 simpa using this
abbrev f2 (T:Nat) (A B:List Br) (x y:Nat):Cfg→Bool:=fx T A B [] x y 0
structure Sn (T s0 s1:Nat) (A B M:List Br) (S:List (Nat × Nat × Nat)):Prop where
 key:(S.map fun t=>(t.1,t.2.1)).Nodup
 has:∀ t∈S,t.1<s0∧t.2.1<s1∧t.2.2<M.length+2∧Den M t.2.2=f2 T A B t.1 t.2.1
 all:∀ j,j<M.length→∃ k,k<S.length∧bh S k=j+2
theorem sn_nil (T s0 s1:Nat) (A B:List Br):Sn T s0 s1 A B [] []:=⟨by simp,fun t h=>by simp at h,fun j hj=>by simp at hj⟩
theorem Sn.step {T s0 s1 x y r:Nat} {A B M M':List Br} {S:List (Nat × Nat × Nat)} (h:Sn T s0 s1 A B M S) (hM:Ord M) (hM':M'=M∨∃ b,M'=M++[b]∧r=M.length+2) (hx:x<s0) (hy:y<s1) (hr:r<M'.length+2) (hd:Den M' r=f2 T A B x y) (hn:∀ t∈S,¬ (t.1=x∧t.2.1=y)):Sn T s0 s1 A B M' (S++[(x,y,r)]):=by
 have hpre:∃ X,M'=M++X:=by
  rcases hM' with e | ⟨b,e,_⟩
  ·exact ⟨[],by rw [e];simp⟩
  ·exact ⟨[b],e⟩
 refine ⟨?_,fun t ht=>?_,fun j hj=>?_⟩
 ·rw [List.map_append,List.nodup_append]
  refine ⟨h.key,by simp,fun a ha b hb=>?_⟩
  obtain ⟨t,ht,rfl⟩:=List.mem_map.1 ha
  simp only [List.map_cons,List.map_nil,List.mem_singleton] at hb
  subst hb
  intro e
  rw [Prod.mk.injEq] at e
  exact hn t ht e
 ·rcases List.mem_append.1 ht with q | q
  ·obtain ⟨X,rfl⟩:=hpre
   obtain ⟨h1,h2,h3,h4⟩:=h.has t q
   exact ⟨h1,h2,by rw [List.length_append];omega,by rw [Den_pre hM h3,h4]⟩
  ·rw [List.mem_singleton] at q
   subst q
   exact ⟨hx,hy,hr,hd⟩
 ·by_cases hj2:j<M.length
  ·obtain ⟨k,hk,e⟩:=h.all j hj2
   exact ⟨k,by rw [List.length_append];omega,by rw [bh_pre hk,e]⟩
  ·rcases hM' with e | ⟨b,e,hr2⟩
   ·rw [e] at hj;exact absurd hj hj2
   ·rw [e,List.length_append] at hj
    simp at hj
    exact ⟨S.length,by simp,by rw [bh_new];show r=_;omega⟩
theorem Sn.lenM {T s0 s1:Nat} {A B M:List Br} {S:List (Nat × Nat × Nat)} (h:Sn T s0 s1 A B M S):M.length≤S.length:=by
 let pick:Nat→Nat:=fun j=>if hj:j<M.length then (h.all j hj).choose else 0
 have hp:∀ j,j<M.length→pick j<S.length∧bh S (pick j)=j+2:=fun j hj=>by
  show (if hj:j<M.length then (h.all j hj).choose else 0)<_∧bh S (if hj:j<M.length then (h.all j hj).choose else 0)=_
  rw [dif_pos hj]
  exact (h.all j hj).choose_spec
 have hn:((List.range M.length).map pick).Nodup:=nodup_map_on List.nodup_range (fun x hx y hy e=>by
  have h1:=(hp x (List.mem_range.1 hx)).2
  have h2:=(hp y (List.mem_range.1 hy)).2
  rw [e,h2] at h1;omega)
 have:=pig S.length _ hn (fun x hx=>by
  obtain ⟨j,hj,e⟩:=List.mem_map.1 hx
  rw [← e];exact (hp j (List.mem_range.1 hj)).1)
 simpa using this
theorem Sn.len {T s0 s1:Nat} {A B M:List Br} {S:List (Nat × Nat × Nat)} (h:Sn T s0 s1 A B M S):S.length≤s0*s1:=by
 have hlt:∀ x y:Nat,x<s0→y<s1→x*s1+y<s0*s1:=fun x y hx hy=>by
  have:(x+1)*s1≤s0*s1:=Nat.mul_le_mul_right _ hx
  rw [Nat.add_mul] at this;omega
 have inj:∀ a b c d:Nat,b<s1→d<s1→a*s1+b=c*s1+d→a=c∧b=d:=fun a b c d hb hd e=>by
  have h1:(a*s1+b) / s1=a:=by rw [Nat.mul_comm,Nat.mul_add_div (by omega),Nat.div_eq_of_lt hb];omega
  have h2:(c*s1+d) / s1=c:=by rw [Nat.mul_comm,Nat.mul_add_div (by omega),Nat.div_eq_of_lt hd];omega
  have:a=c:=by rw [← h1,e,h2]
  subst this
  exact ⟨rfl,by omega⟩
 have hn:((S.map fun t=>(t.1,t.2.1)).map fun p=>p.1*s1+p.2).Nodup:=nodup_map_on h.key (fun p hp q hq e=>by
  obtain ⟨t,ht,rfl⟩:=List.mem_map.1 hp
  obtain ⟨u,hu,rfl⟩:=List.mem_map.1 hq
  obtain ⟨e1,e2⟩:=inj _ _ _ _ (h.has t ht).2.1 (h.has u hu).2.1 e
  rw [Prod.mk.injEq];exact ⟨e1,e2⟩)
 have:=pig (s0*s1) _ hn (fun z hz=>by
  obtain ⟨p,hp,rfl⟩:=List.mem_map.1 hz
  obtain ⟨t,ht,rfl⟩:=List.mem_map.1 hp
  exact hlt _ _ (h.has t ht).1 (h.has t ht).2.1)
 simpa using this
theorem Sn.hit {T s0 s1:Nat} {A B M:List Br} {S:List (Nat × Nat × Nat)} (h:Sn T s0 s1 A B M S) (hM:Good M) {t:Nat × Nat × Nat} (ht:t∈S):put 64 (f2 T A B t.1 t.2.1) M=(M,t.2.2):=by
 obtain ⟨_,_,h3,h4⟩:=h.has t ht
 rw [← h4]
 exact put_idem 64 M _ (Nat.le_refl _) hM h3 (by omega)
theorem f2_const {T x y:Nat} {A B M:List Br} (hx:x<2) (hy:y<2) (hM:Good M):put 64 (f2 T A B x y) M=(M,(tt T (decide (x=1)) (decide (y=1)) false).toNat):=by
 refine put_const (fun c=>?_) hM
 show tt T (Den A x c) (Den B y c) (Den [] 0 c)=_
 rw [Den_zero]
 obtain rfl | rfl:x=0∨x=1:=by omega
 all_goals
  obtain rfl | rfl:y=0∨y=1:=by omega
  all_goals
   simp only [Den_zero,Den_one]
   rfl
theorem mv_two {A B:List Br} (hA:Ord A) (hB:Ord B) {x y:Nat} (hx:x<A.length+2) (hy:y<B.length+2):mv A B [] x y 0=min (lev A x) (lev B y):=by
 have h1:=lev_le hA hx
 have h2:=lev_le hB hy
 have h3:lev [] 0=64:=lev_const (by omega)
 unfold mv
 omega
theorem vi_put {N:List Br} (hN:Good N):∀ (g n:Nat) (O:List Br) (num:Nat→Nat),n<g→n<N.length+2→VI N num O→∃ num',VI N num' (put 64 (Den N n) O).1∧∀ k,n<k+2→num' k=num k
 | 0,n,O,num,hg,_,_=>by omega
 | g+1,n,O,num,hg,hn,hv=>by
   by_cases h2:n<2
   ·exact ⟨num,by rw [hv.const h2];exact hv,fun _ _=>rfl⟩
   ·obtain ⟨k,rfl⟩:∃ k,n=k+2:=⟨n - 2,by omega⟩
    have hk:k<N.length:=by omega
    by_cases h0:num k=0
    ·obtain ⟨hb,hl,hh,_,_⟩:=hN.ord k hk
     obtain ⟨n1,v1,e1⟩:=vi_put hN g (bl N k) O num (by omega) (by omega) hv
     obtain ⟨n2,v2,e2⟩:=vi_put hN g (bh N k) _ n1 (by omega) (by omega) v1
     have h20:n2 k=0:=by rw [e2 k (by omega),e1 k (by omega),h0]
     obtain ⟨s1,s2⟩:=VI.step hN hk hv.good v2 h20
     refine ⟨_,by rw [s1];exact s2,fun j hj=>?_⟩
     unfold upd
     rw [if_neg (by omega),e2 j (by omega),e1 j (by omega)]
    ·exact ⟨num,by rw [hv.hit hk h0];exact hv,fun _ _=>rfl⟩
theorem cn_size {N:List Br} (hN:Good N) {n:Nat} (hn:n<N.length+2):(cn (Den N n)).1.length≤N.length:=by
 obtain ⟨num,h,_⟩:=vi_put hN (n+1) n [] (fun _=>0) (by omega) hn (vi_nil N)
 exact h.len
theorem cn_self {N:List Br} (hN:Good N) {n:Nat} (hn:n<N.length+2) (h:cn (Den N n)=(N,n)):Valid N n:=by
 have hv:=cn_valid (f:=Den N n) (den_dep64 hN.ord hn)
 rw [h] at hv
 exact hv
end St
end Go.Proofs.YtpaednfinlaioaaGreatDoor
