/-
  Plain mathematics and contracts of package diagram, several texts in one: PMad.
-/
import Derived.Test.YtpaednfinlaioaaGreatDoorFg
import Derived.Test.YtpaednfinlaioaaGreatDoorFc
namespace Go.Proofs.YtpaednfinlaioaaGreatDoor
set_option linter.unusedVariables false
set_option linter.unusedSimpArgs false
theorem getD_snF (f:List Fi) (x:Fi) (i:Nat) (h:i<f.length):(f++[x]).getD i (0,0,0,0)=f.getD i (0,0,0,0):=by
 rw [List.getD_eq_getElem?_getD,List.getElem?_append_left h,List.getD_eq_getElem?_getD]
theorem getD_snL (f:List Fi) (x:Fi):(f++[x]).getD f.length (0,0,0,0)=x:=by
 rw [List.getD_eq_getElem?_getD,List.getElem?_append_right (Nat.le_refl _)]
 simp
theorem okN_sn {f:List Fi} {x:Fi} {i:Nat} (h:i<f.length):okN (f++[x]) i↔okN f i:=by
 unfold okN fo fv fa fb
 rw [getD_snF f x i h]
theorem us_sn (f:List Fi) (x:Fi) (k:Nat):∀ n,n≤f.length→us (f++[x]) k n=us f k n
 | 0,_=>rfl
 | n+1,h=>by
   show us (f++[x]) k n+_+_=us f k n+_+_
   rw [us_sn f x k n (by omega)]
   unfold fo fa fb
   rw [getD_snF f x n (by omega)]
theorem us_snL (f:List Fi) (x:Fi) (k:Nat):us (f++[x]) k (f.length+1)=us f k f.length+(if 1≤ar x.1∧x.2.2.1=(k:Int) then 1 else 0)+(if ar x.1=2∧x.2.2.2=(k:Int) then 1 else 0):=by
 show us (f++[x]) k f.length+_+_=_
 rw [us_sn f x k _ (Nat.le_refl _)]
 unfold fo fa fb
 rw [getD_snL]
structure Md (f:List Fi) (R:List Nat):Prop where
 lt:∀ r∈R,r<f.length
 nd:R.Nodup
 ok:∀ i,i<f.length→okN f i
 us:∀ k,k<f.length→us f k f.length=if k∈R then 0 else 1
theorem Md.nil:Md [] []:=⟨by simp,by simp,by simp,by simp⟩
theorem md_add {f:List Fi} {R R0 K:List Nat} {x:Fi} (h:Md f R) (hok:plN x.1 x.2.1 x.2.2.1 x.2.2.2=true∧opN x.1 x.2.2.1 x.2.2.2 f.length=true) (hR:R=R0++K)
  (hk:∀ k:Nat,(if 1≤ar x.1∧x.2.2.1=(k:Int) then 1 else 0)+(if ar x.1=2∧x.2.2.2=(k:Int) then 1 else 0)=if k∈K then 1 else 0):Md (f++[x]) (R0++[f.length]):=by
 subst hR
 have hnd:=h.nd
 rw [List.nodup_append] at hnd
 obtain ⟨n1,n2,n3⟩:=hnd
 refine ⟨fun r hr=>?_,?_,fun i hi=>?_,fun k hkl=>?_⟩
 ·rw [List.length_append,List.length_singleton]
  rcases List.mem_append.1 hr with q | q
  ·have:=h.lt r (List.mem_append_left _ q);omega
  ·rw [List.mem_singleton] at q;omega
 ·rw [List.nodup_append]
  refine ⟨n1,by simp,fun a ha b hb=>?_⟩
  rw [List.mem_singleton] at hb
  have:=h.lt a (List.mem_append_left _ ha)
  omega
 ·rw [List.length_append,List.length_singleton] at hi
  by_cases e:i=f.length
  ·subst e
   unfold okN fo fv fa fb
   rw [getD_snL]
   exact hok
  ·exact (okN_sn (by omega)).2 (h.ok i (by omega))
 ·rw [List.length_append,List.length_singleton] at hkl ⊢
  rw [us_snL,Nat.add_assoc,hk k]
  by_cases e:k=f.length
  ·subst e
   have e1:us f f.length f.length=0:=us_early f f.length h.ok f.length f.length (Nat.le_refl _) (by omega)
   have e2:¬ f.length∈K:=fun q=>by have:=h.lt _ (List.mem_append_right _ q);omega
   rw [e1,if_neg e2,if_pos (by simp)]
  ·rw [h.us k (by omega)]
   by_cases q:k∈K
   ·have q2:¬ k∈R0:=fun q2=>n3 k q2 k q rfl
    rw [if_pos (List.mem_append_right _ q),if_pos q,if_neg (by simp [q2,e])]
   ·by_cases q2:k∈R0
    ·rw [if_pos (List.mem_append_left _ q2),if_neg q,if_pos (by simp [q2])]
    ·rw [if_neg (by simp [q,q2]),if_neg q,if_neg (by simp [q2,e])]
theorem md_ok {f:List Fi} (h:Md f [f.length - 1]) (h1:1≤f.length) (h2:f.length≤512):okF f :=
 ⟨h1,h2,h.ok,fun k hk=>by rw [h.us k (by omega),if_neg (by simp;omega)]⟩
def mdS (n x:Nat) (s:List Fi × List Nat):List Fi × List Nat :=
 let k:=s.2.length
 if x % 8<3∧1<k then
  (s.1++[(((4+x % 8 % 2:Nat):Int),0,((if 7<x % 16 then s.2.getD (k - 1) 0 else s.2.getD (k - 2) 0:Nat):Int),((if 7<x % 16 then s.2.getD (k - 2) 0 else s.2.getD (k - 1) 0:Nat):Int))],s.2.take (k - 2)++[s.1.length])
 else if x % 8=3∧0<k then (s.1++[(3,0,((s.2.getD (k - 1) 0:Nat):Int),0)],s.2.take (k - 1)++[s.1.length])
 else if x % 8=4∧200<x then (s.1++[(((x % 2:Nat):Int),0,0,0)],s.2++[s.1.length])
 else (s.1++[(2,((x / 8 % n:Nat):Int),0,0)],s.2++[s.1.length])
def mdJ:Nat→List Fi × List Nat→List Fi × List Nat
 | 0,s=>s
 | j+1,s=>if 1<s.2.length then mdJ j (s.1++[(5,0,((s.2.getD (s.2.length - 2) 0:Nat):Int),((s.2.getD (s.2.length - 1) 0:Nat):Int))],s.2.take (s.2.length - 2)++[s.1.length]) else s
def made (l:List Nat) (n:Nat):List Fi :=
 let s:=(l.take 40).foldl (fun s x=>mdS n x s) ([],[])
 if s.2.length=0 then [(1,0,0,0)] else (mdJ s.2.length s).1
structure Ms (s:List Fi × List Nat) (c:Nat):Prop where
 md:Md s.1 s.2
 len:s.1.length=c
 few:s.2.length≤c
 lst:s.2≠[]→s.2.getD (s.2.length - 1) 0=s.1.length - 1
theorem spl2 {R:List Nat} (h:1<R.length):R=R.take (R.length - 2)++[R.getD (R.length - 2) 0,R.getD (R.length - 1) 0]:=by
 have e1:R.take (R.length - 2+1)=R.take (R.length - 2)++[R.getD (R.length - 2) 0]:=by
  rw [List.getD_eq_getElem?_getD,List.getElem?_eq_getElem (by omega),Option.getD_some]
  exact (List.take_append_getElem (by omega)).symm
 have e2:R.take (R.length - 1+1)=R.take (R.length - 1)++[R.getD (R.length - 1) 0]:=by
  rw [List.getD_eq_getElem?_getD (i:=R.length - 1),List.getElem?_eq_getElem (by omega),Option.getD_some]
  exact (List.take_append_getElem (by omega)).symm
 rw [show R.length - 2+1=R.length - 1 by omega] at e1
 rw [show R.length - 1+1=R.length by omega,List.take_length,e1] at e2
 generalize R.take (R.length - 2)=T at *
 generalize R.getD (R.length - 2) 0=a at *
 generalize R.getD (R.length - 1) 0=b at *
 rw [e2]
 simp
theorem spl1 {R:List Nat} (h:0<R.length):R=R.take (R.length - 1)++[R.getD (R.length - 1) 0]:=by
 have e2:R.take (R.length - 1+1)=R.take (R.length - 1)++[R.getD (R.length - 1) 0]:=by
  rw [List.getD_eq_getElem?_getD,List.getElem?_eq_getElem (by omega),Option.getD_some]
  exact (List.take_append_getElem (by omega)).symm
 rw [show R.length - 1+1=R.length by omega,List.take_length] at e2
 exact e2
theorem ms_new {f:List Fi} {R0:List Nat} {x:Fi} {c:Nat} (hl:f.length=c) (hf:R0.length≤c) (h:Md (f++[x]) (R0++[f.length])):Ms (f++[x],R0++[f.length]) (c+1) :=
 ⟨h,by simp [hl],by simp;omega,fun _=>by
  show (R0++[f.length]).getD ((R0++[f.length]).length - 1) 0=(f++[x]).length - 1
  rw [List.getD_eq_getElem?_getD,List.length_append,List.length_singleton,Nat.add_sub_cancel,List.getElem?_append_right (Nat.le_refl _)]
  simp⟩
theorem two_kids (op:Int) (hop:ar op=2) (a b:Nat) (hab:a≠b) (k:Nat):(if 1≤ar op∧(a:Int)=(k:Int) then 1 else 0)+(if ar op=2∧(b:Int)=(k:Int) then 1 else 0)=if k∈[a,b] then 1 else 0:=by
 rw [hop]
 by_cases e:k=a
 ·subst e
  rw [if_pos ⟨by omega,rfl⟩,if_neg (by rintro ⟨_,q⟩;omega),if_pos (by simp)]
 ·by_cases e2:k=b
  ·subst e2
   rw [if_neg (by rintro ⟨_,q⟩;omega),if_pos ⟨rfl,rfl⟩,if_pos (by simp)]
  ·rw [if_neg (by rintro ⟨_,q⟩;omega),if_neg (by rintro ⟨_,q⟩;omega),if_neg (by simp [e,e2])]
theorem ms_two {s:List Fi × List Nat} {c:Nat} (h:Ms s c) (hk:1<s.2.length) (op:Int) (hop:op=4∨op=5) (sw:Bool) :
  Ms (s.1++[(op,0,((if sw then s.2.getD (s.2.length - 1) 0 else s.2.getD (s.2.length - 2) 0:Nat):Int),((if sw then s.2.getD (s.2.length - 2) 0 else s.2.getD (s.2.length - 1) 0:Nat):Int))],s.2.take (s.2.length - 2)++[s.1.length]) (c+1):=by
 have e:=spl2 hk
 have hnd:=h.md.nd
 have hlt:=h.md.lt
 generalize hT:s.2.take (s.2.length - 2)=T at *
 generalize s.2.getD (s.2.length - 2) 0=a at *
 generalize s.2.getD (s.2.length - 1) 0=b at *
 have ha:a<s.1.length:=hlt a (by rw [e];simp)
 have hb:b<s.1.length:=hlt b (by rw [e];simp)
 have hab:a≠b:=by
  rw [e,List.nodup_append] at hnd
  have:=hnd.2.1
  simp at this
  exact this
 have har:ar op=2:=by rcases hop with q | q <;> subst q <;> rfl
 have hpl:∀ p q:Nat,plN op 0 (p:Int) (q:Int)=true:=fun p q=>by rcases hop with z | z <;> subst z <;> rfl
 have hopN:∀ p q:Nat,p<s.1.length→q<s.1.length→opN op (p:Int) (q:Int) s.1.length=true:=fun p q hp hq=>by
  unfold opN
  rw [har]
  simp
  omega
 have hTl:T.length≤c:=by rw [← hT,List.length_take];have:=h.few;omega
 cases sw
 ·exact ms_new h.len hTl (md_add h.md ⟨hpl _ _,hopN _ _ ha hb⟩ e (two_kids op har a b hab))
 ·refine ms_new h.len hTl (md_add h.md ⟨hpl _ _,hopN _ _ hb ha⟩ e (fun k=>?_))
  have:=two_kids op har b a (Ne.symm hab) k
  have e9:(if k∈[a,b] then 1 else 0:Nat)=if k∈[b,a] then 1 else 0:=by
   by_cases q1:k=a <;> by_cases q2:k=b <;> simp [q1,q2]
  exact this.trans e9.symm
theorem ms_leaf {s:List Fi × List Nat} {c:Nat} (h:Ms s c) (op:Int) (v:Int) (har:ar op=0) (hpl:plN op v 0 0=true):Ms (s.1++[(op,v,0,0)],s.2++[s.1.length]) (c+1) :=
 ms_new h.len h.few (md_add (K:=[]) h.md ⟨hpl,by unfold opN;rw [har];rfl⟩ (by simp) (fun k=>by rw [if_neg (by rw [har];omega),if_neg (by rw [har];omega)];simp))
theorem ms_step (n x:Nat) (hn:1≤n) (hn2:n≤64) {s:List Fi × List Nat} {c:Nat} (h:Ms s c):Ms (mdS n x s) (c+1):=by
 unfold mdS
 simp only
 by_cases c1:x % 8<3∧1<s.2.length
 ·rw [if_pos c1]
  have:=ms_two h c1.2 ((4+x % 8 % 2:Nat):Int) (by omega) (decide (7<x % 16))
  simpa using this
 rw [if_neg c1]
 by_cases c2:x % 8=3∧0<s.2.length
 ·rw [if_pos c2]
  have e:=spl1 c2.2
  have ha:=h.md.lt (s.2.getD (s.2.length - 1) 0) (by rw [e];simp)
  have hTl:(s.2.take (s.2.length - 1)).length≤c:=by rw [List.length_take];have:=h.few;omega
  generalize s.2.getD (s.2.length - 1) 0=a at *
  refine ms_new h.len hTl (md_add (K:=[a]) h.md ⟨rfl,?_⟩ e (fun k=>?_))
  ·unfold opN
   show (_:Bool)=true
   simp [ar]
   omega
  ·show (if 1≤ar 3∧(a:Int)=(k:Int) then 1 else 0)+(if ar 3=2∧(0:Int)=(k:Int) then 1 else 0)=_
   have e3:ar 3=1:=rfl
   rw [e3,if_neg (c:=(1:Nat)=2∧_) (by omega)]
   by_cases q:k=a
   ·rw [if_pos ⟨Nat.le_refl _,by omega⟩,if_pos (by simp [q])]
   ·rw [if_neg (by omega),if_neg (by simpa using q)]
 rw [if_neg c2]
 by_cases c3:x % 8=4∧200<x
 ·rw [if_pos c3]
  rcases (show x % 2=0∨x % 2=1 by omega) with q | q
  ·rw [q];exact ms_leaf h 0 0 rfl rfl
  ·rw [q];exact ms_leaf h 1 0 rfl rfl
 rw [if_neg c3]
 have hv:x / 8 % n<64:=Nat.lt_of_lt_of_le (Nat.mod_lt _ hn) hn2
 generalize x / 8 % n=v at *
 refine ms_leaf h 2 _ rfl ?_
 unfold plN
 simp [ar]
 omega
theorem ms_fold (n:Nat) (hn:1≤n) (hn2:n≤64):∀ (l:List Nat) (s:List Fi × List Nat) (c:Nat),Ms s c→Ms (l.foldl (fun s x=>mdS n x s) s) (c+l.length)
 | [],s,c,h=>h
 | x::l,s,c,h=>by
   have:=ms_fold n hn hn2 l (mdS n x s) (c+1) (ms_step n x hn hn2 h)
   rw [List.foldl_cons,List.length_cons,show c+(l.length+1)=c+1+l.length by omega]
   exact this
theorem ms_join:∀ (j:Nat) (s:List Fi × List Nat) (c:Nat),Ms s c→s.2.length≤j+1→1≤s.2.length→∃ c',c'≤c+j∧Ms (mdJ j s) c'∧(mdJ j s).2.length=1
 | 0,s,c,h,h1,h2=>⟨c,by omega,h,by show s.2.length=1;omega⟩
 | j+1,s,c,h,h1,h2=>by
   unfold mdJ
   by_cases q:1<s.2.length
   ·rw [if_pos q]
    have h3:=ms_two h q 5 (.inr rfl) false
    obtain ⟨c',a,b,d⟩:=ms_join j _ (c+1) h3 (by show (s.2.take (s.2.length - 2)++[s.1.length]).length≤_;rw [List.length_append,List.length_take,List.length_singleton];omega) (by simp)
    exact ⟨c',by omega,b,d⟩
   ·rw [if_neg q]
    exact ⟨c,by omega,h,by omega⟩
theorem made_ok (l:List Nat) (n:Nat) (hn:1≤n) (hn2:n≤64):okF (made l n):=by
 have h0:Ms (([]:List Fi),([]:List Nat)) 0:=⟨Md.nil,rfl,Nat.le_refl _,fun h=>absurd rfl h⟩
 have h:=ms_fold n hn hn2 (l.take 40) _ 0 h0
 have hl:(l.take 40).length≤40:=by rw [List.length_take];omega
 unfold made
 simp only
 generalize (l.take 40).foldl (fun s x=>mdS n x s) ([],[])=s at *
 by_cases q:s.2.length=0
 ·rw [if_pos q]
  decide +kernel
 ·rw [if_neg q]
  obtain ⟨c',a,b,d⟩:=ms_join s.2.length s _ h (by omega) (by omega)
  have hf:=h.few
  have hR:(mdJ s.2.length s).2=[(mdJ s.2.length s).1.length - 1]:=by
   have hl2:=b.lst (by intro e;rw [e] at d;cases d)
   match hm:(mdJ s.2.length s).2,d with
   | [r],_ =>
     rw [hm] at hl2
     have:r=(mdJ s.2.length s).1.length - 1:=hl2
     rw [this]
  have hmd:=b.md
  rw [hR] at hmd
  have hpos:1≤(mdJ s.2.length s).1.length:=by
   have:=hmd.lt _ (List.mem_singleton.2 rfl)
   omega
  exact md_ok hmd hpos (by rw [b.len];omega)
end Go.Proofs.YtpaednfinlaioaaGreatDoor
