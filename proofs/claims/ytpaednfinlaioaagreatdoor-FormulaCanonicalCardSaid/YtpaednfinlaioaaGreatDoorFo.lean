/-
  Plain mathematics and contracts of package diagram, several texts in one: PNb, FLet, FCp.
-/
import Derived.Test.YtpaednfinlaioaaGreatDoorFg
import Derived.Test.YtpaednfinlaioaaGreatDoorFn
import Derived.Test.YtpaednfinlaioaaGreatDoorFk
import Derived.Test.YtpaednfinlaioaaGreatDoorFb
import Derived.Test.YtpaednfinlaioaaGreatDoorFm
set_option maxHeartbeats 8000000
set_option maxRecDepth 100000
namespace Go.Proofs.YtpaednfinlaioaaGreatDoor
open Go.Lib (hid)
set_option linter.unusedVariables false
set_option linter.unusedSimpArgs false
def segW:List Nat→List Nat→Prop
 | [],z=>z=[]
 | k::ks,z=>1≤k∧k≤z.length∧z.getD (z.length - 1) 0=k∧segW ks (z.take (z.length - k))
def StkW (ks:List Nat) (s:PSt):Prop:=512<s.nodes.length∨(s.sizes.length=s.nodes.length∧segW ks s.sizes)
theorem getDW_app (z:List Nat) (a:Nat):(z++[a]).getD ((z++[a]).length - 1) 0=a:=by
 rw [List.length_append]
 simp only [List.length_cons,List.length_nil,Nat.zero_add,Nat.add_sub_cancel]
 rw [List.getD_eq_getElem?_getD,List.getElem?_append_right (Nat.le_refl _)]
 simp
theorem takeW_app (z:List Nat) (a n:Nat) (h:n≤z.length):(z++[a]).take n=z.take n:=by rw [List.take_append_of_le_length h]
theorem segW_len {k:Nat} {ks z:List Nat} (h:segW (k::ks) z):1≤z.length:=by have:=h.1;have:=h.2.1;omega
theorem add0_st {op v:Int} (har:ar op=0) {ks:List Nat} {s:PSt} (h:StkW ks s):∃ s',add op v s=.ok s'∧StkW (1::ks) s'∧s'.wait=s.wait∧s'.rest=s.rest:=by
 unfold add
 by_cases c:512<s.nodes.length
 ·rw [if_pos c]
  exact ⟨s,rfl,.inl c,rfl,rfl⟩
 ·rw [if_neg c]
  simp only [har,if_true]
  rcases h with h | ⟨h1,h2⟩
  ·exact absurd h c
  ·refine ⟨_,rfl,.inr ⟨by simp [h1],by omega,by simp,getDW_app _ _,?_⟩,rfl,rfl⟩
   rw [List.length_append,List.length_singleton,Nat.add_sub_cancel,takeW_app _ _ _ (Nat.le_refl _),List.take_length]
   exact h2
theorem add1_st {op v:Int} (har:ar op=1) {k:Nat} {ks:List Nat} {s:PSt} (h:StkW (k::ks) s):∃ s',add op v s=.ok s'∧StkW ((k+1)::ks) s'∧s'.wait=s.wait∧s'.rest=s.rest:=by
 unfold add
 by_cases c:512<s.nodes.length
 ·rw [if_pos c]
  exact ⟨s,rfl,.inl c,rfl,rfl⟩
 ·rw [if_neg c]
  rcases h with h | ⟨h1,h2⟩
  ·exact absurd h c
  ·have h3:=segW_len h2
   obtain ⟨q1,q2,q3,q4⟩:=h2
   simp only [har]
   rw [if_neg (by omega),if_neg (by omega),if_pos trivial]
   rw [← h1,q3]
   refine ⟨_,rfl,.inr ⟨by simp [h1],by omega,by simp;omega,by rw [getDW_app];omega,?_⟩,rfl,rfl⟩
   show segW ks ((s.sizes++[1+k]).take ((s.sizes++[1+k]).length - (k+1)))
   rw [List.length_append,List.length_singleton,show s.sizes.length+1 - (k+1)=s.sizes.length - k by omega,takeW_app _ _ _ (by omega)]
   exact q4
theorem add2_st {op v:Int} (har:ar op=2) {k1 k2:Nat} {ks:List Nat} {s:PSt} (h:StkW (k2::k1::ks) s):∃ s',add op v s=.ok s'∧StkW ((k1+k2+1)::ks) s'∧s'.wait=s.wait∧s'.rest=s.rest:=by
 unfold add
 by_cases c:512<s.nodes.length
 ·rw [if_pos c]
  exact ⟨s,rfl,.inl c,rfl,rfl⟩
 ·rw [if_neg c]
  rcases h with h | ⟨h1,h2⟩
  ·exact absurd h c
  ·have h3:=segW_len h2
   obtain ⟨q1,q2,q3,p1,p2,p3,p4⟩:=h2
   rw [List.length_take] at p2 p3
   have e1:min (s.sizes.length - k2) s.sizes.length=s.sizes.length - k2:=by omega
   rw [e1] at p2 p3
   have p3':s.sizes.getD (s.sizes.length - 1 - k2) 0=k1:=by
    rw [List.getD_eq_getElem?_getD,List.getElem?_take_of_lt (by omega),← List.getD_eq_getElem?_getD] at p3
    rw [show s.sizes.length - 1 - k2=s.sizes.length - k2 - 1 by omega]
    exact p3
   simp only [har]
   rw [if_neg (by omega),if_neg (by omega),if_neg (by omega)]
   rw [← h1,q3,if_neg (by omega),p3']
   refine ⟨_,rfl,.inr ⟨by simp [h1],by omega,by simp;omega,by rw [getDW_app];omega,?_⟩,rfl,rfl⟩
   show segW ks ((s.sizes++[1+(k1+k2)]).take ((s.sizes++[1+(k1+k2)]).length - (k1+k2+1)))
   rw [List.length_append,List.length_singleton,show s.sizes.length+1 - (k1+k2+1)=s.sizes.length - k2 - k1 by omega,takeW_app _ _ _ (by omega)]
   rw [List.length_take,e1,List.take_take,show min (s.sizes.length - k2 - k1) (s.sizes.length - k2)=s.sizes.length - k2 - k1 by omega] at p4
   exact p4
def WtW (l:List Int):Prop:=∀ x∈l,x = -1∨x=3∨x=4∨x=5
def bcW (l:List Int):Nat:=(l.filter fun x=>x == 4||x == 5).length
theorem bcW_snoc (l:List Int) (x:Int):bcW (l++[x])=bcW l+(if x=4∨x=5 then 1 else 0):=by
 unfold bcW
 rw [List.filter_append,List.length_append]
 by_cases h:x=4∨x=5
 ·rw [if_pos h]
  rcases h with rfl | rfl <;> rfl
 ·rw [if_neg h]
  have e:(x == 4||x == 5)=false:=by simp;omega
  simp [e]
def IvW (d:Nat) (s:PSt):Prop:=WtW s.wait∧∃ ks,StkW ks s∧ks.length=bcW s.wait+d
theorem takeW_snoc {l:List Int} {n:Nat} (h:l.length=n+1):l=l.take n++[l.getD n 0]:=by
 have:=List.take_append_getElem (l:=l) (i:=n) (by omega)
 rw [List.getD_eq_getElem?_getD,List.getElem?_eq_getElem (by omega)]
 rw [Option.getD_some,this,← h,List.take_length]
theorem appW_st (op:Int):∀ n s,s.wait.length=n→IvW 1 s→∃ s',app op n s=.ok s'∧IvW 1 s'∧s'.rest=s.rest
 | 0,s,_,h=>⟨s,rfl,h,rfl⟩
 | n+1,s,hn,⟨hw,ks,hk,hl⟩=>by
   unfold app
   have es:=takeW_snoc hn
   generalize hx:s.wait.getD n 0=x at *
   simp only
   by_cases c:x = -1∨sgv x<sgv op
   ·rw [if_pos c]
    exact ⟨s,rfl,⟨hw,ks,hk,hl⟩,rfl⟩
   ·rw [if_neg c]
    have hwx:x = -1∨x=3∨x=4∨x=5:=hw x (by rw [es];simp)
    have hwt:WtW (s.wait.take n):=fun y hy=>hw y (List.mem_of_mem_take hy)
    have hbc:bcW s.wait=bcW (s.wait.take n)+(if x=4∨x=5 then 1 else 0):=by
     conv=>lhs;rw [es]
     exact bcW_snoc _ _
    have fin:∀ s1:PSt,(∃ k2,StkW k2 s1∧k2.length=bcW (s.wait.take n)+1)→s1.wait=s.wait→s1.rest=s.rest→∃ s',app op n { s1 with wait:=s1.wait.take n }=.ok s'∧IvW 1 s'∧s'.rest=s.rest:=by
     rintro s1 ⟨k2,h1,h2⟩ h3 h4
     obtain ⟨s',e,hi,hr⟩:=appW_st op n { s1 with wait:=s1.wait.take n } (by show (s1.wait.take n).length=n;rw [h3,List.length_take];omega) ⟨by show WtW (s1.wait.take n);rw [h3];exact hwt,k2,h1,by show k2.length=bcW (s1.wait.take n)+1;rw [h3];exact h2⟩
     exact ⟨s',e,hi,hr.trans h4⟩
    rcases hwx with e | e | e | e
    ·exact absurd (.inl e) c
    ·subst e
     rw [if_neg (by omega)] at hbc
     match ks,hk,hl with
     | [],_,hl=>exact absurd hl (by simp)
     | k::ks,hk,hl =>
       obtain ⟨s1,e1,h1,h2,h3⟩:=add1_st (op:=3) (v:=0) rfl hk
       rw [e1]
       exact fin s1 ⟨_,h1,by simp only [List.length_cons] at hl ⊢;omega⟩ h2 h3
    all_goals
     subst e
     rw [if_pos (by omega)] at hbc
     match ks,hk,hl with
     | [],_,hl=>exact absurd hl (by simp)
     | [k],_,hl=>exact absurd hl (by simp;omega)
     | k2::k1::ks,hk,hl =>
       first
        | obtain ⟨s1,e1,h1,h2,h3⟩:=add2_st (op:=4) (v:=0) rfl hk
          rw [e1]
          exact fin s1 ⟨_,h1,by simp only [List.length_cons] at hl ⊢;omega⟩ h2 h3
        | obtain ⟨s1,e1,h1,h2,h3⟩:=add2_st (op:=5) (v:=0) rfl hk
          rw [e1]
          exact fin s1 ⟨_,h1,by simp only [List.length_cons] at hl ⊢;omega⟩ h2 h3
theorem addW_wait {op v:Int} {s s':PSt} (e:add op v s=.ok s'):s'.wait=s.wait:=by
 unfold add at e
 simp only at e
 repeat' (split at e)
 all_goals first | (injection e with e;subst e;rfl) | (cases e)
theorem appW_end:∀ n s s',s.wait.length=n→app 5 n s=.ok s'→s'.wait=[]∨∃ l,s'.wait=l++[-1]
 | 0,s,s',hn,e=>by
   injection e with e
   subst e
   exact .inl (List.eq_nil_of_length_eq_zero hn)
 | n+1,s,s',hn,e=>by
   unfold app at e
   have es:=takeW_snoc hn
   generalize s.wait.getD n 0=x at *
   simp only at e
   by_cases c:x = -1∨sgv x<sgv 5
   ·rw [if_pos c] at e
    injection e with e
    subst e
    rcases c with c | c
    ·subst c;exact .inr ⟨_,es⟩
    ·exfalso
     have:sgv 5=1:=rfl
     unfold sgv at c
     repeat' (split at c)
     all_goals omega
   ·rw [if_neg c] at e
    rcases h:add x 0 s with s1 | _ | _
    ·rw [h] at e
     have hw:=addW_wait h
     exact appW_end n { s1 with wait:=s1.wait.take n } s' (by show (s1.wait.take n).length=n;rw [hw,List.length_take];omega) e
    ·rw [h] at e;cases e
    ·rw [h] at e;cases e
theorem nxt_lt {l t r:List UInt8} (h:nxt l=some (t,r)) (ht:t≠[]):r.length<l.length:=by
 unfold nxt at h
 have hd:(l.dropWhile blk8).length≤l.length:=(List.dropWhile_sublist _).length_le
 simp only [Option.map_eq_some_iff] at h
 obtain ⟨n,_,h2⟩:=h
 injection h2 with h2 h3
 subst h2
 subst h3
 rw [List.length_drop]
 have:(l.dropWhile blk8).take n≠[]:=ht
 have h1:0<n:=by
  rcases Nat.eq_zero_or_pos n with e | e
  ·subst e;exact absurd rfl this
  ·exact e
 have h0:0<(l.dropWhile blk8).length:=by
  rcases Nat.eq_zero_or_pos (l.dropWhile blk8).length with e | e
  ·exact absurd (by rw [List.eq_nil_of_length_eq_zero e];simp) this
  ·exact e
 omega
theorem nxt_le {l t r:List UInt8} (h:nxt l=some (t,r)):r.length≤l.length:=by
 unfold nxt at h
 have hd:(l.dropWhile blk8).length≤l.length:=(List.dropWhile_sublist _).length_le
 simp only [Option.map_eq_some_iff] at h
 obtain ⟨n,_,h2⟩:=h
 injection h2 with h2 h3
 subst h3
 rw [List.length_drop]
 omega
def OkW1 (R:POut PSt) (d m:Nat):Prop:=R=.syn∨∃ s',R=.ok s'∧IvW d s'∧s'.rest.length≤m
theorem wrd_st (L:List (List UInt8)) (t:List UInt8) {s:PSt} (h:IvW 0 s):∃ s',wrd L t s=.ok s'∧IvW 1 s'∧s'.rest=s.rest:=by
 obtain ⟨hw,ks,hk,hl⟩:=h
 have fin:∀ (op v:Int) (u:Bool),ar op=0→∃ s',add op v { s with unk:=u }=.ok s'∧IvW 1 s'∧s'.rest=s.rest:=fun op v u har=>by
  obtain ⟨s',e,h1,h2,h3⟩:=add0_st (op:=op) (v:=v) har (s:={ s with unk:=u }) hk
  exact ⟨s',e,⟨by rw [h2];exact hw,_,h1,by rw [h2];simp only [List.length_cons];show ks.length+1=bcW s.wait+1;omega⟩,h3⟩
 unfold wrd
 by_cases c1:t=[116,114,117,101]
 ·rw [if_pos c1];exact fin 1 0 s.unk rfl
 rw [if_neg c1]
 by_cases c2:t=[102,97,108,115,101]
 ·rw [if_pos c2];exact fin 0 0 s.unk rfl
 rw [if_neg c2]
 exact fin 2 _ _ rfl
theorem ivW_push {d:Nat} {s:PSt} (x:Int) (r:List UInt8) (h:IvW d s) (hx:x = -1∨x=3):IvW d { s with rest:=r,wait:=s.wait++[x] }:=by
 obtain ⟨hw,ks,hk,hl⟩:=h
 refine ⟨fun y hy=>?_,ks,hk,?_⟩
 ·rcases List.mem_append.1 hy with q | q
  ·exact hw y q
  ·rw [List.mem_singleton] at q;omega
 ·show ks.length=bcW (s.wait++[x])+d
  rw [bcW_snoc,if_neg (by omega)]
  exact hl
theorem opnd_st (L:List (List UInt8)):∀ n s,s.rest.length<n→IvW 0 s→OkW1 (opnd L n s) 1 s.rest.length
 | 0,s,h,_=>by omega
 | n+1,s,hn,hi=>by
   unfold opnd
   rcases hx:nxt s.rest with _ | ⟨t,r⟩
   ·exact .inl rfl
   ·simp only
    have hr:=nxt_le hx
    by_cases c1:t=[33]
    ·rw [if_pos c1]
     have hlt:=nxt_lt hx (by rw [c1];simp)
     rcases opnd_st L n { s with rest:=r,wait:=s.wait++[3] } (by show r.length<n;omega) (ivW_push 3 r hi (.inr rfl)) with e | ⟨s',e,h1,h2⟩
     ·exact .inl e
     ·exact .inr ⟨s',e,h1,Nat.le_trans h2 hr⟩
    rw [if_neg c1]
    by_cases c2:t=[40]
    ·rw [if_pos c2]
     have hlt:=nxt_lt hx (by rw [c2];simp)
     rcases opnd_st L n { s with rest:=r,wait:=s.wait++[-1] } (by show r.length<n;omega) (ivW_push (-1) r hi (.inl rfl)) with e | ⟨s',e,h1,h2⟩
     ·exact .inl e
     ·exact .inr ⟨s',e,h1,Nat.le_trans h2 hr⟩
    rw [if_neg c2]
    by_cases c3:t=[38,38]∨t=[124,124]∨t=[41]∨t=[]
    ·rw [if_pos c3];exact .inl rfl
    ·rw [if_neg c3]
     obtain ⟨s',e,h1,h2⟩:=wrd_st L t (s:={ s with rest:=r }) hi
     exact .inr ⟨s',e,h1,by rw [h2];exact hr⟩
def OkW2 (R:POut (PSt × Bool)) (m:Nat):Prop:=R=.syn∨∃ s' b,R=.ok (s',b)∧(b=true→IvW 0 s'∧s'.rest.length<m)
theorem awt_st (op:Int) (hop:op=4∨op=5) {s:PSt} (h:IvW 1 s):∃ s',awt op s=.ok s'∧IvW 0 s'∧s'.rest=s.rest:=by
 obtain ⟨s1,e,⟨hw,ks,hk,hl⟩,hr⟩:=appW_st op _ s rfl h
 refine ⟨{ s1 with wait:=s1.wait++[op] },by unfold awt;rw [e];rfl,⟨fun y hy=>?_,ks,hk,?_⟩,hr⟩
 ·rcases List.mem_append.1 hy with q | q
  ·exact hw y q
  ·rw [List.mem_singleton] at q;omega
 ·show ks.length=bcW (s1.wait++[op])+0
  rw [bcW_snoc,if_pos hop]
  exact hl
theorem optr_st:∀ n s,s.rest.length<n→IvW 1 s→OkW2 (optr n s) s.rest.length
 | 0,s,h,_=>by omega
 | n+1,s,hn,hi=>by
   unfold optr
   rcases hx:nxt s.rest with _ | ⟨t,r⟩
   ·exact .inl rfl
   ·simp only
    have hi':IvW 1 { s with rest:=r }:=hi
    by_cases c1:t=[41]
    ·rw [if_pos c1]
     have hlt:=nxt_lt hx (by rw [c1];simp)
     obtain ⟨s1,e,⟨hw,ks,hk,hl⟩,hr⟩:=appW_st 5 s.wait.length { s with rest:=r } rfl hi'
     rw [e]
     show OkW2 (if s1.wait.length=0 then .syn else optr n { s1 with wait:=s1.wait.take (s1.wait.length - 1) }) _
     by_cases c0:s1.wait.length=0
     ·rw [if_pos c0];exact .inl rfl
     ·rw [if_neg c0]
      rcases appW_end s.wait.length { s with rest:=r } s1 rfl e with q | ⟨l,q⟩
      ·exact absurd (by rw [q];rfl) c0
      ·have et:s1.wait.take (s1.wait.length - 1)=l:=by rw [q];simp
       have hb:bcW s1.wait=bcW l:=by rw [q,bcW_snoc,if_neg (by omega)];rfl
       have hr':s1.rest=r:=hr
       rcases optr_st n { s1 with wait:=s1.wait.take (s1.wait.length - 1) } (by show s1.rest.length<n;rw [hr'];omega) ⟨fun y hy=>hw y (by rw [q];exact List.mem_append_left _ (by rw [← et];exact hy)),ks,hk,by show ks.length=bcW (s1.wait.take (s1.wait.length - 1))+1;rw [et,← hb];exact hl⟩ with e2 | ⟨s2,b,e2,h3⟩
       ·exact .inl e2
       ·refine .inr ⟨s2,b,e2,fun hb2=>⟨(h3 hb2).1,?_⟩⟩
        have h4:s2.rest.length<s1.rest.length:=(h3 hb2).2
        rw [hr'] at h4
        omega
    rw [if_neg c1]
    by_cases c2:t=[38,38]
    ·rw [if_pos c2]
     have hlt:=nxt_lt hx (by rw [c2];simp)
     obtain ⟨s1,e,h1,h2⟩:=awt_st 4 (.inl rfl) hi'
     rw [e]
     exact .inr ⟨s1,true,rfl,fun _=>⟨h1,by rw [h2];exact hlt⟩⟩
    rw [if_neg c2]
    by_cases c3:t=[124,124]
    ·rw [if_pos c3]
     have hlt:=nxt_lt hx (by rw [c3];simp)
     obtain ⟨s1,e,h1,h2⟩:=awt_st 5 (.inr rfl) hi'
     rw [e]
     exact .inr ⟨s1,true,rfl,fun _=>⟨h1,by rw [h2];exact hlt⟩⟩
    rw [if_neg c3]
    by_cases c4:t=[]
    ·rw [if_pos c4]
     obtain ⟨s1,e,h1,h2⟩:=appW_st 5 s.wait.length { s with rest:=r } rfl hi'
     rw [e]
     show OkW2 (if 0<s1.wait.length then .syn else .ok (s1,false)) _
     by_cases c0:0<s1.wait.length
     ·rw [if_pos c0];exact .inl rfl
     ·rw [if_neg c0];exact .inr ⟨s1,false,rfl,fun h=>by cases h⟩
    ·rw [if_neg c4];exact .inl rfl
theorem expr_st (L:List (List UInt8)):∀ n s,s.rest.length<n→IvW 0 s→expr L n s≠.bad
 | 0,s,h,_=>by omega
 | n+1,s,hn,hi=>by
   unfold expr
   rcases opnd_st L (s.rest.length+1) s (by omega) hi with e | ⟨s1,e,h1,h2⟩
   ·rw [e];exact fun q=>by cases q
   ·rw [e]
    show (optr (s1.rest.length+1) s1).bind _≠_
    rcases optr_st (s1.rest.length+1) s1 (by omega) h1 with e2 | ⟨s2,b,e2,h3⟩
    ·rw [e2];exact fun q=>by cases q
    ·rw [e2]
     show (if b then expr L n s2 else .ok s2)≠_
     cases b
     ·exact fun q=>by cases q
     ·obtain ⟨h4,h5⟩:=h3 rfl
      exact expr_st L n s2 (by omega) h4
theorem prs_good (L:List (List UInt8)) (t:List UInt8):prs L t≠.bad :=
 expr_st L _ _ (Nat.lt_succ_self _) ⟨(fun x hx=>by cases hx),[],.inr ⟨rfl,rfl⟩,rfl⟩
end Go.Proofs.YtpaednfinlaioaaGreatDoor
namespace Go.Proofs.YtpaednfinlaioaaGreatDoor
open Go.Lib (hid)
open Go.RowKit Dg St
set_option linter.unusedVariables false
set_option linter.unusedSimpArgs false
attribute [local go_sem ↓] Go.wp_at_zero Go.wp_at_succ
def L12:List ByteArray:=[⟨#[65]⟩,⟨#[66]⟩,⟨#[67]⟩,⟨#[68]⟩,⟨#[108,111,110,103,95,110,97,109,101]⟩,⟨#[95]⟩,⟨#[120,49]⟩,⟨#[84,82,85,69]⟩,⟨#[116]⟩,⟨#[102]⟩,⟨#[116,114,117]⟩,⟨#[102,97,108,115,101,101]⟩]
theorem fparse_any (NA:Option Addr) (n nc:Nat) (L:List ByteArray) (t:ByteArray) (w:World) (hL:Hid (L.length=n)) (hn:n≤1000000) (hnc:n≤nc) (hs:Hid (∀ j,(sg L j).size≤1048576)) (hrs:Hid (Rstr w w.heap.size NA L)) (ht:t.size≤1048576) :
  Calls Tryz.prog 28 #[.slice NA n nc,.string t] w fun e w'=>PsR w w' (prsV L t.data.toList) e :=
 pparse_any NA n nc L t w hL hn hnc (hid (fun j=>by have:=hs.out j;omega)) hrs (by omega) (hid (prs_good _ _))
theorem qletters (n:Nat) (w:World) (hn:n≤12):Calls Tryz.prog 15 #[.int .i64 (n:Int)] w fun e w'=>∃ q,e=.returned (.slice (some ⟨q,0,none⟩) n 12)∧Rstr w' w'.heap.size (some ⟨q,0,none⟩) (L12.take n)∧Below w.heap.size w w':=by
 have RS:=hid (rstr_new w L12)
 have HB:=hid (ab2 w (.cells (L12.map Value.string).toArray 9))
 have i1:(0:Int)≤(n:Int):=by omega
 have i2:(n:Int)≤12:=by omega
 go_enter Tryz.func15,Tryz.ntmps15
 go_wp2
 go_ret
 refine ⟨w.heap.size,rfl,fun h0=>?_,HB.out⟩
 rw [List.length_take] at h0
 have hl:L12.length=12:=rfl
 obtain ⟨b,o,e,hb,hc⟩:=RS.out (by omega)
 injection e with e
 injection e with e1 e2 _
 subst e1
 subst e2
 refine ⟨_,_,rfl,hb,fun j hj=>?_⟩
 rw [List.length_take] at hj
 have e3:sg (L12.take n) j=sg L12 j:=by
  unfold sg
  rw [List.getD_eq_getElem?_getD,List.getElem?_take_of_lt (by omega),← List.getD_eq_getElem?_getD]
 rw [e3]
 exact hc j (by omega)
set_option linter.unusedVariables false
set_option linter.unusedSimpArgs false
attribute [local go_sem ↓] Go.wp_at_zero Go.wp_at_succ
def cp (l:List Fi):Nat→Nat→List Fi→List Fi
 | 0,_,o=>o
 | n+1,i,o =>
   if ar (fo l i)=0 then o++[(fo l i,fv l i,fa l i,fb l i)] else
   if ar (fo l i)=1 then cp l n (fa l i).toNat o++[(fo l i,fv l i,(((cp l n (fa l i).toNat o).length - 1:Nat):Int),fb l i)] else
   cp l n (fb l i).toNat (cp l n (fa l i).toNat o)++[(fo l i,fv l i,(((cp l n (fa l i).toNat o).length - 1:Nat):Int),(((cp l n (fb l i).toNat (cp l n (fa l i).toNat o)).length - 1:Nat):Int))]
theorem cp_len (l:List Fi) (m:Nat) (HN:∀ i,i<m→okN l i):∀ n k o,k<n→k<m→(cp l n k o).length=o.length+ty l k
 | 0,k,o,h,_=>by omega
 | n+1,k,o,h,hm=>by
   have e:=ty_eq l m HN hm
   have h3:=ar_le (fo l k)
   unfold cp
   by_cases c0:ar (fo l k)=0
   ·rw [if_neg (by omega),if_neg (by omega)] at e
    rw [if_pos c0,List.length_append,e];rfl
   rw [if_neg c0]
   obtain ⟨a1,a2⟩:=kid_a (HN k hm) (by omega)
   have ia:=cp_len l m HN n (fa l k).toNat o (by omega) (by omega)
   by_cases c1:ar (fo l k)=1
   ·rw [if_pos (by omega),if_neg (by omega)] at e
    rw [if_pos c1,List.length_append,e,ia,List.length_singleton];omega
   rw [if_neg c1]
   have c2:ar (fo l k)=2:=by omega
   obtain ⟨b1,b2⟩:=kid_b (HN k hm) c2
   have ib:=cp_len l m HN n (fb l k).toNat (cp l n (fa l k).toNat o) (by omega) (by omega)
   rw [if_pos (by omega),if_pos c2] at e
   rw [List.length_append,e,ib,ia,List.length_singleton];omega
structure CoE (w w':World) (B:Nat) (vo vo':Value) (o:List Fi):Prop where
 own:w'.ownsRow B 58 4 vo' o.length (fiC o)
 chg:Chg (fun k=>vo.ownBlock=some k) w w'
 obf:∀ k,vo'.ownBlock=some k→vo.ownBlock=some k∨w.heap.size≤k
structure CpS (w w1:World) (B b0:Nat) (vo v1:Value) (o:List Fi) (p q r s:Int):Prop where
 own:w1.ownsRow B 58 4 v1 o.length (fiC o)
 chg:Chg (fun k=>vo.ownBlock=some k) w w1
 obf:∀ k,v1.ownBlock=some k→vo.ownBlock=some k∨w.heap.size≤k
 nb:v1.ownBlock≠some b0
 box:w1.heap[b0]? = some (.cells #[.int .i64 p,.int .i64 q,.int .i64 r,.int .i64 s] 58 (0,0))
 lb:w.heap.size≤b0
section
variable {w w1 w2 w6 : World} {B b0 : Nat} {vo v1 v2 : Value} {o o2 : List Fi} {p q r s : Int}
theorem CpS.lt (h:CpS w w1 B b0 vo v1 o p q r s):b0<w1.heap.size:=(Array.getElem?_eq_some_iff.1 h.box).1
theorem CpS.start (h:w.ownsRow B 58 4 vo o.length (fiC o)):CpS w (w.alloc (.cells #[.int .i64 p,.int .i64 q,.int .i64 r,.int .i64 s] 58)) B w.heap.size vo vo o p q r s:=by
 have hb:=ab2 w (.cells #[.int .i64 p,.int .i64 q,.int .i64 r,.int .i64 s] 58)
 exact ⟨own_below h hb,Chg.of_below hb,fun k e=>.inl e,fun e=>by have:=(h.lt _ e).2;omega,heap_alloc_new w _,Nat.le_refl _⟩
theorem CpS.call (h:CpS w w1 B b0 vo v1 o p q r s) (k:CoE w1 w2 B v1 v2 o2):CpS w w2 B b0 vo v2 o2 p q r s:=by
 have hl:=h.lt
 refine ⟨k.own,h.chg.trans k.chg (fun j hj e=>?_),fun j e=>?_,fun e=>?_,?_,h.lb⟩
 ·rcases h.obf j e with x | x
  ·exact x
  ·omega
 ·rcases k.obf j e with x | x
  ·exact h.obf j x
  ·have:=h.chg.size;exact .inr (by omega)
 ·rcases k.obf b0 e with x | x
  ·exact h.nb x
  ·omega
 ·rw [k.chg.block b0 hl h.nb];exact h.box
theorem CpS.set2 (h:CpS w w1 B b0 vo v1 o p q r s) (u:Int):CpS w (w1.setCell ⟨b0,2,none⟩ (.int .i64 u)) B b0 vo v1 o p q u s :=
 ⟨h.own.kept (grown_set w1 b0 2 _) (.inr h.nb),h.chg.setNew h.lb 2 _,h.obf,h.nb,by simp [World.setCell,Array.getElem?_modify,h.box],h.lb⟩
theorem CpS.set3 (h:CpS w w1 B b0 vo v1 o p q r s) (u:Int):CpS w (w1.setCell ⟨b0,3,none⟩ (.int .i64 u)) B b0 vo v1 o p q r u :=
 ⟨h.own.kept (grown_set w1 b0 3 _) (.inr h.nb),h.chg.setNew h.lb 3 _,h.obf,h.nb,by simp [World.setCell,Array.getElem?_modify,h.box],h.lb⟩
theorem CpS.done {gn cap:Nat} (h:CpS w w1 B b0 vo v1 o p q r s) (hown:w6.ownsRow B 58 4 (.slice (some ⟨gn,0,none⟩) (o.length+1) cap) (o.length+1) (fiC o++c4 (p,q,r,s)))
  (hgr:(w1.alloc (.cells #[.int .i64 p,.int .i64 q,.int .i64 r,.int .i64 s] 58)).grownBy w6 v1.ownBlock) (hat:v1.ownBlock=some gn∨gn=(w1.alloc (.cells #[.int .i64 p,.int .i64 q,.int .i64 r,.int .i64 s] 58)).heap.size):CoE w w6 B vo (.slice (some ⟨gn,0,none⟩) (o.length+1) cap) (o++[(p,q,r,s)]):=by
 have hs:=h.chg.size
 refine ⟨by rw [fiC_snoc,List.length_append];exact hown,?_,fun k e=>?_⟩
 ·exact (h.chg.trans (T:=fun k=>v1.ownBlock=some k) ((Chg.of_below (ab2 w1 _)).trans (Chg.of_grown hgr (fun k e=>e)) (fun j _ e=>e)) (fun j hj e=>by
   rcases h.obf j e with x | x
   ·exact x
   ·omega))
 ·simp [Value.ownBlock] at e
  subst e
  rcases hat with x | x
  ·exact h.obf _ x
  ·rw [x];simp;omega
end
abbrev CpC (w0:World) (B:Nat) (A:Option Addr) (m c:Nat) (F:List Fi→List Fi) (t k:Nat):Prop:=∀ (W:World) (vo:Value) (o:List Fi),Below B w0 W→W.ownsRow B 58 4 vo o.length (fiC o)→o.length+t≤1000 →
 Calls Tryz.prog 49 #[.slice A m c,.int .i64 (k:Int),vo] W fun e w'=>∃ vo',e=.returned vo'∧CoE W w' B vo vo' (F o)
theorem qcopied (A:Option Addr) (m c:Nat) (l:List Fi) (w0:World) (B:Nat) (hl:Hid (l.length=m)) (hr:Hid (Rf w0 B A l)) (HN:∀ i,i<m→okN l i) (hm:m≤1000000) (hB:Hid (B≤w0.heap.size)):∀ n k,k<n→k<m→CpC w0 B A m c (cp l n k) (ty l k) k
 | 0,k,h,_=>by omega
 | n+1,k,h,hkm=>by
   intro W vo o hb hown hlen
   obtain ⟨i0,hi,hz0,hz1,hz2⟩:=info_parts Tryz.infoFn
   have hty:=ty_eq l m HN hkm
   have h3:=ar_le (fo l k)
   obtain ⟨b,off,eA,hbB,hc⟩:=(hr.out.below hb) (by rw [hl.out];omega)
   subst eA
   obtain ⟨d0,d1,d2,d3⟩:=hc k (by rw [hl.out];exact hkm)
   clear hc
   have HST:=hid (CpS.start (p:=fo l k) (q:=fv l k) (r:=fa l k) (s:=fb l k) hown)
   have HB1:=hid (hb.trans ((ab2 W (.cells #[.int .i64 (fo l k),.int .i64 (fv l k),.int .i64 (fa l k),.int .i64 (fb l k)] 58)).mono (by have:=hb.size;have:=hB.out;omega)))
   have i1:(0:Int)≤(k:Int):=by omega
   have i2:(k:Int)<(m:Int):=by omega
   have hpl:=(HN k hkm).1
   have HOP:Hid (∀ W:World,Calls Tryz.prog 65 #[.int .i64 (fo l k)] W fun e w'=>e=.returned (.int .i64 ((ar (fo l k):Nat):Int))∧W=w'):=hid (fun W=>by
    have q:=operands_any (fo l k) W
    have ho:0≤fo l k∧fo l k≤5:=by
     unfold plN at hpl
     simp only [Bool.and_eq_true,decide_eq_true_eq] at hpl
     omega
    rw [show arI (fo l k)=((ar (fo l k):Nat):Int) from if_pos ho] at q
    exact q)
   clear hpl
   by_cases c0:ar (fo l k)=0
   ·have eF:cp l (n+1) k o=o++[(fo l k,fv l k,fa l k,fb l k)]:=by
     rw [cp,if_pos c0]
    rw [eF]
    rw [c0] at HOP
    rw [if_neg (by omega),if_neg (by omega)] at hty
    have HLO:Hid (o.length≤1000):=hid (by omega)
    clear eF hty hlen h3 c0 hb
    go_enter Tryz.func49,Tryz.ntmps49
    go_upto_region 2 with fail
    generalize W.alloc (.cells #[.int .i64 (fo l k),.int .i64 (fv l k),.int .i64 (fa l k),.int .i64 (fb l k)] 58)=w1 at *
    generalize hg:W.heap.size=g at *
    obtain ⟨x0,x1,x2,x3⟩:=bx4 HST.out.box
    clear d0 d1 d2 d3
    go_wp2_with fail
    with_reducible refine (HOP.out _).mono ?_
    rintro e w2 ⟨rfl,rfl⟩
    obtain ⟨A1,c1,ef,hc1,_⟩:=own_form HST.out.own
    subst ef
    clear HOP
    clear x0 x1 x2 x3
    have hlo:=HLO.out
    have hsz:B≤w1.heap.size:=by have:=HB1.out.size;have:=hB.out;omega
    have hown1:=HST.out.own
    obtain ⟨x0,x1,x2,x3⟩:=bx4 HST.out.box
    go_wp2_with (refine wpList_append_lies _ rfl _ _ _ rfl B 58 i0 _ 4 32 Tryz.underlying27 hi hz0 hz1 hz2 rfl (by omega) (.slice A1 o.length c1) o.length (fiC o) rfl (hown1.alloc _) _ _ _ (c4 (fo l k,fv l k,fa l k,fb l k)) rfl rfl (World.news_of_block (heap_alloc_new _ _)) (by simp [c4,Value.oneCell']) (by omega) (by simp only [maxLen];omega) (by omega) (by simp;omega) _ rfl ?_;intro gn cap w6 hown2 hgrow2 hat2 hlt2)
    go_ret
    have hd:=HST.out.done (gn:=gn) (cap:=cap) (w6:=w6) (hown2) hgrow2 hat2
    exact ⟨_,rfl,hd⟩
   obtain ⟨a1,a2⟩:=kid_a (HN k hkm) (by omega)
   obtain ⟨ka,hka⟩:∃ ka:Nat,fa l k=(ka:Int):=⟨(fa l k).toNat,by omega⟩
   have eka:(fa l k).toNat=ka:=by omega
   have la:=cp_len l m HN n ka o (by omega) (by omega)
   have HC1:=hid (qcopied (some ⟨b,off,none⟩) m c l w0 B hl hr HN hm hB n ka (by omega) (by omega))
   have pa:1≤ty l ka:=by rw [ty_eq l m HN (by omega)];omega
   by_cases c1:ar (fo l k)=1
   ·have eF:cp l (n+1) k o=cp l n ka o++[(fo l k,fv l k,(((cp l n ka o).length - 1:Nat):Int),fb l k)]:=by
     rw [cp,if_neg c0,if_pos c1,eka]
    rw [eF]
    rw [c1] at HOP
    rw [if_pos (by omega),if_neg (by omega),eka] at hty
    have HLA:Hid (o.length+ty l ka≤1000):=hid (by omega)
    have HBG:Hid (B≤W.heap.size):=hid (by have:=hb.size;have:=hB.out;omega)
    obtain ⟨j,hj⟩:∃ j,(cp l n ka o).length=j+1:=⟨(cp l n ka o).length - 1,by omega⟩
    have HN1:=hid hj
    have HJ1:Hid (j≤1000):=hid (by omega)
    rw [show (((cp l n ka o).length - 1:Nat):Int)=(j:Int) by omega]
    rw [hka] at d2 HST HB1
    clear eF hty hlen h3 c0 hb a1 a2 la pa hj
    go_enter Tryz.func49,Tryz.ntmps49
    go_upto_region 2 with fail
    generalize W.alloc (.cells #[.int .i64 (fo l k),.int .i64 (fv l k),.int .i64 (ka:Int),.int .i64 (fb l k)] 58)=w1 at *
    generalize hg:W.heap.size=g at *
    obtain ⟨x0,x1,x2,x3⟩:=bx4 HST.out.box
    clear d0 d1 d2 d3
    go_wp2_with fail
    with_reducible refine (HOP.out _).mono ?_
    rintro e w2 ⟨rfl,rfl⟩
    have HB9:Hid (∀ w2 v2 o2,CoE w1 w2 B vo v2 o2→Below B w0 w2):=hid (fun w2 v2 o2 hE=>HB1.out.trans (hE.chg.below (by have:=HB1.out.size;have:=hB.out;omega) (fun j hj e=>by have:=(HST.out.own.lt j e).1;omega)))
    go_wp2_with fail
    with_reducible refine (HC1.out w1 vo o HB1.out HST.out.own HLA.out).mono ?_
    rintro e w2 ⟨v2,rfl,hE⟩
    have HS2:=hid (HST.out.call hE)
    have HB2:=hid (HB9.out _ _ _ hE)
    clear hE HC1 HB9 HST HB1 x0 x1 x2 x3
    obtain ⟨A2,c2,ef,hc2,_⟩:=own_form HS2.out.own
    rw [HN1.out] at ef
    subst ef
    obtain ⟨x0,x1,x2,x3⟩:=bx4 HS2.out.box
    have y2:=frozen_of_row w2 g 2 _ _ HS2.out.box
    have y3:=frozen_of_row w2 g 3 _ _ HS2.out.box
    have j1:=HJ1.out
    go_upto_region 6 with fail
    have HS3:=hid (HS2.out.set2 (j:Int))
    have HB3:=hid (HB2.out.setCell (p:=⟨g,2,none⟩) (by have:=HS2.out.lb;have:=HBG.out;omega) (.int .i64 (j:Int)))
    clear HS2 HB2 x0 x1 x2 x3 y2 y3
    generalize w2.setCell ⟨g,2,none⟩ (.int .i64 (j:Int))=w3 at *
    have HLO:Hid (j+1≤1001):=hid (by have:=HJ1.out;omega)
    have HNO:=HN1
    have hlo:=HLO.out
    have hsz:B≤w3.heap.size:=by have:=HB3.out.size;have:=hB.out;omega
    have hown1:=HS3.out.own
    rw [HNO.out] at hown1
    obtain ⟨x0,x1,x2,x3⟩:=bx4 HS3.out.box
    go_wp2_with (refine wpList_append_lies _ rfl _ _ _ rfl B 58 i0 _ 4 32 Tryz.underlying27 hi hz0 hz1 hz2 rfl (by omega) (.slice A2 (j+1) c2) ((j+1)) (fiC (cp l n ka o)) rfl (hown1.alloc _) _ _ _ (c4 (fo l k,fv l k,(j:Int),fb l k)) rfl rfl (World.news_of_block (heap_alloc_new _ _)) (by simp [c4,Value.oneCell']) (by omega) (by simp only [maxLen];omega) (by omega) (by simp;omega) _ rfl ?_;intro gn cap w6 hown2 hgrow2 hat2 hlt2)
    go_ret
    have hd:=HS3.out.done (gn:=gn) (cap:=cap) (w6:=w6) (by rw [HNO.out];exact hown2) hgrow2 hat2
    rw [HNO.out] at hd
    exact ⟨_,rfl,hd⟩
   have c2:ar (fo l k)=2:=by omega
   obtain ⟨b1,b2⟩:=kid_b (HN k hkm) c2
   obtain ⟨kb,hkb⟩:∃ kb:Nat,fb l k=(kb:Int):=⟨(fb l k).toNat,by omega⟩
   have ekb:(fb l k).toNat=kb:=by omega
   have lb:=cp_len l m HN n kb (cp l n ka o) (by omega) (by omega)
   have HC2:=hid (qcopied (some ⟨b,off,none⟩) m c l w0 B hl hr HN hm hB n kb (by omega) (by omega))
   have eF:cp l (n+1) k o=cp l n kb (cp l n ka o)++[(fo l k,fv l k,(((cp l n ka o).length - 1:Nat):Int),(((cp l n kb (cp l n ka o)).length - 1:Nat):Int))]:=by
    rw [cp,if_neg c0,if_neg c1,eka,ekb]
   rw [eF]
   rw [c2] at HOP
   rw [if_pos (by omega),if_pos c2,eka,ekb] at hty
   have HLA:Hid (o.length+ty l ka≤1000):=hid (by omega)
   have HLB:Hid ((cp l n ka o).length+ty l kb≤1000):=hid (by omega)
   have HBG:Hid (B≤W.heap.size):=hid (by have:=hb.size;have:=hB.out;omega)
   obtain ⟨j,hj⟩:∃ j,(cp l n ka o).length=j+1:=⟨(cp l n ka o).length - 1,by omega⟩
   obtain ⟨i,hi9⟩:∃ i,(cp l n kb (cp l n ka o)).length=i+1:=⟨(cp l n kb (cp l n ka o)).length - 1,by omega⟩
   have HN1:=hid hj
   have HN2:=hid hi9
   have HJ1:Hid (j≤1000):=hid (by omega)
   have HI1:Hid (i≤1000):=hid (by omega)
   rw [show (((cp l n ka o).length - 1:Nat):Int)=(j:Int) by omega,show (((cp l n kb (cp l n ka o)).length - 1:Nat):Int)=(i:Int) by omega]
   rw [hka] at d2 HST HB1
   rw [hkb] at d3 HST HB1
   clear eF hty hlen h3 c0 c1 c2 hb a1 a2 b1 b2 la lb pa hj hi9
   go_enter Tryz.func49,Tryz.ntmps49
   go_upto_region 2 with fail
   generalize W.alloc (.cells #[.int .i64 (fo l k),.int .i64 (fv l k),.int .i64 (ka:Int),.int .i64 (kb:Int)] 58)=w1 at *
   generalize hg:W.heap.size=g at *
   obtain ⟨x0,x1,x2,x3⟩:=bx4 HST.out.box
   clear d0 d1 d2 d3
   go_wp2_with fail
   with_reducible refine (HOP.out _).mono ?_
   rintro e w2 ⟨rfl,rfl⟩
   have HB9:Hid (∀ w2 v2 o2,CoE w1 w2 B vo v2 o2→Below B w0 w2):=hid (fun w2 v2 o2 hE=>HB1.out.trans (hE.chg.below (by have:=HB1.out.size;have:=hB.out;omega) (fun j hj e=>by have:=(HST.out.own.lt j e).1;omega)))
   go_wp2_with fail
   with_reducible refine (HC1.out w1 vo o HB1.out HST.out.own HLA.out).mono ?_
   rintro e w2 ⟨v2,rfl,hE⟩
   have HS2:=hid (HST.out.call hE)
   have HB2:=hid (HB9.out _ _ _ hE)
   clear hE HC1 HB9 HST HB1 x0 x1 x2 x3
   obtain ⟨A2,c2,ef,hc2,_⟩:=own_form HS2.out.own
   rw [HN1.out] at ef
   subst ef
   obtain ⟨x0,x1,x2,x3⟩:=bx4 HS2.out.box
   have y2:=frozen_of_row w2 g 2 _ _ HS2.out.box
   have y3:=frozen_of_row w2 g 3 _ _ HS2.out.box
   have j1:=HJ1.out
   go_upto_region 6 with fail
   have HS3:=hid (HS2.out.set2 (j:Int))
   have HB3:=hid (HB2.out.setCell (p:=⟨g,2,none⟩) (by have:=HS2.out.lb;have:=HBG.out;omega) (.int .i64 (j:Int)))
   clear HS2 HB2 x0 x1 x2 x3 y2 y3
   generalize w2.setCell ⟨g,2,none⟩ (.int .i64 (j:Int))=w3 at *
   obtain ⟨x0,x1,x2,x3⟩:=bx4 HS3.out.box
   have HB9:Hid (∀ w4 v4 o4,CoE w3 w4 B (.slice A2 (j+1) c2) v4 o4→Below B w0 w4):=hid (fun w4 v4 o4 hE=>HB3.out.trans (hE.chg.below (by have:=HB3.out.size;have:=hB.out;omega) (fun q hq e=>by have:=(HS3.out.own.lt q e).1;omega)))
   have hO3:w3.ownsRow B 58 4 (.slice A2 (j+1) c2) (cp l n ka o).length (fiC (cp l n ka o)):=HS3.out.own
   have HC3:=hid (HC2.out w3 _ _ HB3.out hO3 HLB.out)
   clear hO3 HC2
   go_wp2_with fail
   with_reducible refine HC3.out.mono ?_
   rintro e w4 ⟨v4,rfl,hE⟩
   have HS4:=hid (HS3.out.call hE)
   have HB4:=hid (HB9.out _ _ _ hE)
   clear hE HC3 HB9 HS3 HB3 x0 x1 x2 x3
   obtain ⟨A4,c4',ef,hc4,_⟩:=own_form HS4.out.own
   rw [HN2.out] at ef
   subst ef
   obtain ⟨x0,x1,x2,x3⟩:=bx4 HS4.out.box
   have y2:=frozen_of_row w4 g 2 _ _ HS4.out.box
   have y3:=frozen_of_row w4 g 3 _ _ HS4.out.box
   have j2:=HI1.out
   go_upto_region 9 with fail
   have HS5:=hid (HS4.out.set3 (i:Int))
   have HB5:=hid (HB4.out.setCell (p:=⟨g,3,none⟩) (by have:=HS4.out.lb;have:=HBG.out;omega) (.int .i64 (i:Int)))
   clear HS4 HB4 x0 x1 x2 x3 y2 y3
   generalize w4.setCell ⟨g,3,none⟩ (.int .i64 (i:Int))=w5 at *
   have HLO:Hid (i+1≤1001):=hid (by have:=HI1.out;omega)
   have HNO:=HN2
   have hlo:=HLO.out
   have hsz:B≤w5.heap.size:=by have:=HB5.out.size;have:=hB.out;omega
   have hown1:=HS5.out.own
   rw [HNO.out] at hown1
   obtain ⟨x0,x1,x2,x3⟩:=bx4 HS5.out.box
   go_wp2_with (refine wpList_append_lies _ rfl _ _ _ rfl B 58 i0 _ 4 32 Tryz.underlying27 hi hz0 hz1 hz2 rfl (by omega) (.slice A4 (i+1) c4') (i+1) (fiC (cp l n kb (cp l n ka o))) rfl (hown1.alloc _) _ _ _ (c4 (fo l k,fv l k,(j:Int),(i:Int))) rfl rfl (World.news_of_block (heap_alloc_new _ _)) (by simp [c4,Value.oneCell']) (by omega) (by simp only [maxLen];omega) (by omega) (by simp;omega) _ rfl ?_;intro gn cap w6 hown2 hgrow2 hat2 hlt2)
   go_ret
   have hd:=HS5.out.done (gn:=gn) (cap:=cap) (w6:=w6) (by rw [HNO.out];exact hown2) hgrow2 hat2
   rw [HNO.out] at hd
   exact ⟨_,rfl,hd⟩
def poF (l:List Fi):List Fi:=cp l l.length (l.length - 1) []
theorem poF_len {l:List Fi} (h:okF l):(poF l).length≤512:=by
 have h1:=h.1
 have h2:=h.2.1
 have:=cp_len l l.length h.2.2.1 l.length (l.length - 1) [] (by omega) (by omega)
 have:=ty_le l h
 unfold poF
 simp only [List.length_nil] at *
 omega
theorem qpost (A:Option Addr) (m c:Nat) (l:List Fi) (w:World) (hl:Hid (l.length=m)) (hr:Hid (Rf w w.heap.size A l)) (h:okF l) :
  Calls Tryz.prog 21 #[.slice A m c] w fun e w'=>∃ A' n c',e=.returned (.slice A' n c')∧(poF l).length=n∧n≤c'∧Rf w' w'.heap.size A' (poF l)∧Below w.heap.size w w':=by
 have h1:=h.1
 have h2:=h.2.1
 have hty:=ty_le l h
 rw [hl.out] at h1 h2
 obtain ⟨k,rfl⟩:∃ k,m=k+1:=⟨m - 1,by omega⟩
 have HC:=hid (qcopied A (k+1) c l w w.heap.size hl hr (by have:=h.2.2.1;rw [hl.out] at this;exact this) (by omega) (hid (Nat.le_refl _)) (k+1) k (by omega) (by omega) w (.slice none 0 0) [] (Below.refl _ _) (World.ownsRow_nil _ _ _ _) (by rw [hl.out,Nat.add_sub_cancel] at hty;show 0+_≤_;omega))
 have HP:Hid (cp l (k+1) k []=poF l):=hid (by unfold poF;rw [hl.out,Nat.add_sub_cancel])
 rw [HP.out] at HC
 clear HP h hty hr
 go_enter Tryz.func21,Tryz.ntmps21
 go_wp2_with fail
 with_reducible refine HC.out.mono ?_
 rintro e w2 ⟨v2,rfl,hE⟩
 have HB:=hid (hE.chg.below (B:=w.heap.size) (Nat.le_refl _) (fun q hq e=>by cases e))
 obtain ⟨A',c',ev,hc',hrf,_⟩:=rf_own hE.own rfl
 subst ev
 have HRF:=hid hrf
 clear hE hrf HC
 go_wp2
 go_ret
 exact ⟨A',_,c',rfl,rfl,hc',HRF.out,HB.out⟩
end Go.Proofs.YtpaednfinlaioaaGreatDoor
