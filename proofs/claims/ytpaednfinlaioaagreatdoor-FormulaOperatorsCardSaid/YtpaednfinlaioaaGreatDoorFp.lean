/-
  Plain mathematics and contracts of package diagram, several texts in one: PEO, PRt, PFc, PLf, PRo, PSp.
-/
import Derived.Test.YtpaednfinlaioaaGreatDoorFo
import Derived.Test.YtpaednfinlaioaaGreatDoorFu
import Derived.Test.YtpaednfinlaioaaGreatDoorFh
namespace Go.Proofs.YtpaednfinlaioaaGreatDoor
set_option linter.unusedVariables false
set_option linter.unusedSimpArgs false
theorem app_rest (op:Int):∀ n s s',app op n s=.ok s'→s'.rest=s.rest
 | 0,s,s',e=>by injection e with e;subst e;rfl
 | n+1,s,s',e=>by
   unfold app at e
   simp only at e
   split at e
   ·injection e with e;subst e;rfl
   ·rcases h:add (s.wait.getD n 0) 0 s with s1 | _ | _
    ·rw [h] at e
     have h2:s1.rest=s.rest:=by
      unfold add at h
      simp only at h
      repeat' (split at h)
      all_goals first | (injection h with h;subst h;rfl) | (cases h)
     exact (app_rest op n _ s' e).trans h2
    ·rw [h] at e;cases e
    ·rw [h] at e;cases e
theorem wrd_rest {L:List (List UInt8)} {t:List UInt8} {s s':PSt} (e:wrd L t s=.ok s'):s'.rest=s.rest:=by
 have ha:∀ (op v:Int) (u:PSt),add op v u=.ok s'→s'.rest=u.rest:=fun op v u h=>by
  unfold add at h
  simp only at h
  repeat' (split at h)
  all_goals first | (injection h with h;subst h;rfl) | (cases h)
 unfold wrd at e
 split at e
 ·exact ha _ _ _ e
 ·split at e
  ·exact ha _ _ _ e
  ·exact ha 2 (ixL L t) { s with unk:=s.unk||decide (ixL L t<0) } e
theorem opnd_fuel (L:List (List UInt8)):∀ n m s,s.rest.length<n→s.rest.length<m→opnd L n s=opnd L m s
 | 0,_,s,h,_=>by omega
 | _,0,s,_,h=>by omega
 | n+1,m+1,s,hn,hm=>by
   unfold opnd
   rcases hx:nxt s.rest with _ | ⟨t,r⟩
   ·rfl
   ·simp only
    by_cases c1:t=[33]
    ·have hlt:=nxt_lt hx (by rw [c1];simp)
     rw [if_pos c1,if_pos c1]
     exact opnd_fuel L n m _ (by show r.length<n;omega) (by show r.length<m;omega)
    rw [if_neg c1,if_neg c1]
    by_cases c2:t=[40]
    ·have hlt:=nxt_lt hx (by rw [c2];simp)
     rw [if_pos c2,if_pos c2]
     exact opnd_fuel L n m _ (by show r.length<n;omega) (by show r.length<m;omega)
    rw [if_neg c2,if_neg c2]
theorem opnd_rest (L:List (List UInt8)):∀ n s s',opnd L n s=.ok s'→s'.rest.length≤s.rest.length
 | 0,s,s',e=>by cases e
 | n+1,s,s',e=>by
   unfold opnd at e
   rcases hx:nxt s.rest with _ | ⟨t,r⟩
   ·rw [hx] at e;cases e
   ·rw [hx] at e
    simp only at e
    have hr:=nxt_le hx
    split at e
    ·exact Nat.le_trans (opnd_rest L n _ s' e) hr
    ·split at e
     ·exact Nat.le_trans (opnd_rest L n _ s' e) hr
     ·split at e
      ·cases e
      ·rw [wrd_rest e];exact hr
theorem optr_fuel:∀ n m s,s.rest.length<n→s.rest.length<m→optr n s=optr m s
 | 0,_,s,h,_=>by omega
 | _,0,s,_,h=>by omega
 | n+1,m+1,s,hn,hm=>by
   unfold optr
   rcases hx:nxt s.rest with _ | ⟨t,r⟩
   ·rfl
   ·simp only
    by_cases c1:t=[41]
    ·have hlt:=nxt_lt hx (by rw [c1];simp)
     rw [if_pos c1,if_pos c1]
     rcases h:app 5 s.wait.length { s with rest:=r } with s1 | _ | _
     ·have hr:=app_rest 5 _ _ _ h
      show (if s1.wait.length=0 then .syn else optr n _)=(if s1.wait.length=0 then .syn else optr m _)
      have hr':s1.rest.length=r.length:=by rw [hr]
      rw [optr_fuel n m { s1 with wait:=s1.wait.take (s1.wait.length - 1) } (by show s1.rest.length<n;omega) (by show s1.rest.length<m;omega)]
     ·rfl
     ·rfl
    rw [if_neg c1,if_neg c1]
theorem optr_rest:∀ n s s',optr n s=.ok (s',true)→s'.rest.length<s.rest.length
 | 0,s,s',e=>by cases e
 | n+1,s,s',e=>by
   unfold optr at e
   rcases hx:nxt s.rest with _ | ⟨t,r⟩
   ·rw [hx] at e;cases e
   ·rw [hx] at e
    simp only at e
    have aw:∀ op,(awt op { s with rest:=r }).bind (fun s=>POut.ok (s,true))=.ok (s',true)→s'.rest=r:=fun op h=>by
     unfold awt at h
     rcases h1:app op s.wait.length { s with rest:=r } with s1 | _ | _
     ·rw [h1] at h
      injection h with h
      injection h with h _
      subst h
      exact app_rest op _ _ _ h1
     ·rw [h1] at h;cases h
     ·rw [h1] at h;cases h
    by_cases c1:t=[41]
    ·rw [if_pos c1] at e
     have hlt:=nxt_lt hx (by rw [c1];simp)
     rcases h:app 5 s.wait.length { s with rest:=r } with s1 | _ | _
     ·rw [h] at e
      have e2:(if s1.wait.length=0 then .syn else optr n { s1 with wait:=s1.wait.take (s1.wait.length - 1) })=POut.ok (s',true):=e
      split at e2
      ·cases e2
      ·have h3:s'.rest.length<s1.rest.length:=optr_rest n { s1 with wait:=s1.wait.take (s1.wait.length - 1) } s' e2
       have hr:s1.rest=r:=app_rest 5 _ _ _ h
       rw [hr] at h3
       omega
     ·rw [h] at e;cases e
     ·rw [h] at e;cases e
    rw [if_neg c1] at e
    by_cases c2:t=[38,38]
    ·rw [if_pos c2] at e
     rw [aw 4 e]
     exact nxt_lt hx (by rw [c2];simp)
    rw [if_neg c2] at e
    by_cases c3:t=[124,124]
    ·rw [if_pos c3] at e
     rw [aw 5 e]
     exact nxt_lt hx (by rw [c3];simp)
    rw [if_neg c3] at e
    split at e
    ·rcases h:app 5 s.wait.length { s with rest:=r } with s1 | _ | _
     ·rw [h] at e
      have e2:(if 0<s1.wait.length then .syn else POut.ok (s1,false))=POut.ok (s',true):=e
      split at e2
      ·cases e2
      ·injection e2 with e2
       injection e2 with _ e3
       cases e3
     ·rw [h] at e;cases e
     ·rw [h] at e;cases e
    ·cases e
theorem expr_fuel (L:List (List UInt8)):∀ n m s,s.rest.length<n→s.rest.length<m→expr L n s=expr L m s
 | 0,_,s,h,_=>by omega
 | _,0,s,_,h=>by omega
 | n+1,m+1,s,hn,hm=>by
   unfold expr
   rcases h:opnd L (s.rest.length+1) s with s1 | _ | _
   ·have h1:=opnd_rest L _ _ _ h
    show (optr (s1.rest.length+1) s1).bind _=(optr (s1.rest.length+1) s1).bind _
    rcases h2:optr (s1.rest.length+1) s1 with ⟨s2,b⟩ | _ | _
    ·show (if b then expr L n s2 else _)=(if b then expr L m s2 else _)
     cases b
     ·rfl
     ·have h3:=optr_rest _ _ _ h2
      exact expr_fuel L n m s2 (by omega) (by omega)
    ·rfl
    ·rfl
   ·rfl
   ·rfl
def prE (L:List (List UInt8)) (s:PSt):POut PSt:=expr L (s.rest.length+1) s
def prO (L:List (List UInt8)) (s:PSt):POut PSt:=(optr (s.rest.length+1) s).bind fun p=>if p.2 then prE L p.1 else .ok p.1
theorem prE_eq (L:List (List UInt8)) (s:PSt):prE L s=(opnd L (s.rest.length+1) s).bind (prO L):=by
 unfold prE prO
 rw [expr]
 rcases h:opnd L (s.rest.length+1) s with s1 | _ | _
 ·have h1:=opnd_rest L _ _ _ h
  show (optr (s1.rest.length+1) s1).bind _=(optr (s1.rest.length+1) s1).bind _
  rcases h2:optr (s1.rest.length+1) s1 with ⟨s2,b⟩ | _ | _
  ·show (if b then expr L _ s2 else _)=(if b then prE L s2 else _)
   cases b
   ·rfl
   ·have h3:=optr_rest _ _ _ h2
    exact expr_fuel L _ _ s2 (by omega) (by omega)
  ·rfl
  ·rfl
 ·rfl
 ·rfl
theorem prs_E (L:List (List UInt8)) (t:List UInt8):prs L t=prE L { rest:=t,wait:=[],nodes:=[],sizes:=[],unk:=false }:=rfl
section
variable {L : List (List UInt8)} {s : PSt} {r : List UInt8}
theorem prE_not (h:nxt s.rest=some ([33],r)):prE L s=prE L { s with rest:=r,wait:=s.wait++[3] }:=by
 have hlt:=nxt_lt h (by simp)
 rw [prE_eq,prE_eq,opnd,h]
 simp only [if_true]
 rw [opnd_fuel L _ (r.length+1) { s with rest:=r,wait:=s.wait++[3] } (by show r.length<_;omega) (by show r.length<_;omega)]
theorem prE_par (h:nxt s.rest=some ([40],r)):prE L s=prE L { s with rest:=r,wait:=s.wait++[-1] }:=by
 have hlt:=nxt_lt h (by simp)
 rw [prE_eq,prE_eq,opnd,h]
 simp only
 rw [if_neg (by decide),if_pos trivial]
 rw [opnd_fuel L _ (r.length+1) { s with rest:=r,wait:=s.wait++[-1] } (by show r.length<_;omega) (by show r.length<_;omega)]
theorem prE_wrd {t:List UInt8} (h:nxt s.rest=some (t,r)) (h1:t≠[33]) (h2:t≠[40]) (h3:¬ (t=[38,38]∨t=[124,124]∨t=[41]∨t=[])):prE L s=(wrd L t { s with rest:=r }).bind (prO L):=by
 rw [prE_eq,opnd,h]
 simp only
 rw [if_neg h1,if_neg h2,if_neg h3]
theorem prO_par (h:nxt s.rest=some ([41],r)):prO L s=(app 5 s.wait.length { s with rest:=r }).bind fun s=>if s.wait.length=0 then .syn else prO L { s with wait:=s.wait.take (s.wait.length - 1) }:=by
 have hlt:=nxt_lt h (by simp)
 unfold prO
 rw [optr,h]
 simp only [if_true]
 rcases h1:app 5 s.wait.length { s with rest:=r } with s1 | _ | _
 ·have hr:s1.rest=r:=app_rest 5 _ _ _ h1
  show POut.bind (if s1.wait.length=0 then .syn else optr _ _) _=(if s1.wait.length=0 then .syn else _)
  by_cases c:s1.wait.length=0
  ·rw [if_pos c,if_pos c];rfl
  ·rw [if_neg c,if_neg c]
   rw [optr_fuel _ (s1.rest.length+1) { s1 with wait:=s1.wait.take (s1.wait.length - 1) } (by show s1.rest.length<_;rw [hr];omega) (by show s1.rest.length<_;omega)]
 ·rfl
 ·rfl
theorem prO_bin {op:Int} (hop:op=4∨op=5) (h:nxt s.rest=some (if op=4 then [38,38] else [124,124],r)):prO L s=(awt op { s with rest:=r }).bind (prE L):=by
 unfold prO
 rcases hop with e | e
 ·subst e
  have h':nxt s.rest=some ([38,38],r):=h
  rw [optr,h']
  simp only
  rw [if_neg (by decide),if_pos trivial]
  rcases awt 4 { s with rest:=r } with s1 | _ | _ <;> rfl
 ·subst e
  have h':nxt s.rest=some ([124,124],r):=h
  rw [optr,h']
  simp only
  rw [if_neg (by decide),if_neg (by decide),if_pos trivial]
  rcases awt 5 { s with rest:=r } with s1 | _ | _ <;> rfl
theorem prO_end (h:nxt s.rest=some ([],r)):prO L s=(app 5 s.wait.length { s with rest:=r }).bind fun s=>if 0<s.wait.length then .syn else .ok s:=by
 unfold prO
 rw [optr,h]
 simp only
 rw [if_neg (by decide),if_neg (by decide),if_neg (by decide),if_pos trivial]
 rcases app 5 s.wait.length { s with rest:=r } with s1 | _ | _
 ·show POut.bind (if 0<s1.wait.length then .syn else .ok (s1,false)) _=(if 0<s1.wait.length then .syn else .ok s1)
  by_cases c:0<s1.wait.length
  ·rw [if_pos c,if_pos c];rfl
  ·rw [if_neg c,if_neg c];rfl
 ·rfl
 ·rfl
end
theorem nxt_blank (b:UInt8) (hb:blk8 b=true) (l:List UInt8):nxt (b::l)=nxt l:=by
 unfold nxt
 simp [hb]
theorem nxt_one {b:UInt8} {l:List UInt8} (h:b=33∨b=40∨b=41):nxt (b::l)=some ([b],l):=by
 rcases h with e | e | e <;> subst e <;> rfl
theorem nxt_two {op:Int} (hop:op=4∨op=5) (l:List UInt8):nxt ((if op=4 then [38,38] else [124,124])++l)=some (if op=4 then [38,38] else [124,124],l):=by
 rcases hop with e | e
 ·subst e;rfl
 ·subst e;rfl
theorem nxt_end:nxt []=some ([],[]):=rfl
set_option linter.unusedVariables false
set_option linter.unusedSimpArgs false
def upd (r:List UInt8) (w:List Int) (s:PSt):PSt:={ s with rest:=r,wait:=w }
theorem add_upd (op v:Int) (r:List UInt8) (w:List Int) (s:PSt):add op v (upd r w s)=(add op v s).bind fun t=>.ok (upd r w t):=by
 unfold add upd
 simp only
 repeat' (split)
 all_goals first | rfl | omega | contradiction
theorem add_keep {op v:Int} {s t:PSt} (e:add op v s=.ok t):t=upd s.rest s.wait t:=by
 unfold add at e
 simp only at e
 repeat' (split at e)
 all_goals first | (injection e with e;subst e;rfl) | (cases e)
def fin (l:List Fi):Nat→Nat→PSt→POut PSt
 | 0,_,_=>.bad
 | n+1,k,s =>
   if ar (fo l k)=0 then add (fo l k) (fv l k) s else
   if ar (fo l k)=1 then (fin l n (fa l k).toNat s).bind fun t=>add (fo l k) 0 t else
   (fin l n (fa l k).toNat s).bind fun t=>(fin l n (fb l k).toNat t).bind fun u=>add (fo l k) 0 u
theorem bind_ok' {α β:Type} {x:POut α} {f:α→POut β} {y:β} (h:x.bind f=.ok y):∃ a,x=.ok a∧f a=.ok y:=by
 rcases x with a | _ | _
 ·exact ⟨a,rfl,h⟩
 ·cases h
 ·cases h
theorem fin_keep (l:List Fi):∀ n k s t,fin l n k s=.ok t→t=upd s.rest s.wait t
 | 0,_,_,_,e=>by cases e
 | n+1,k,s,t,e=>by
   unfold fin at e
   split at e
   ·exact add_keep e
   ·split at e
    ·obtain ⟨a,e1,e2⟩:=bind_ok' e
     have h1:=fin_keep l n _ _ _ e1
     have h2:=add_keep e2
     rw [h2,h1];rfl
    ·obtain ⟨a,e1,e2⟩:=bind_ok' e
     obtain ⟨b,e3,e4⟩:=bind_ok' e2
     have h1:=fin_keep l n _ _ _ e1
     have h2:=fin_keep l n _ _ _ e3
     have h3:=add_keep e4
     rw [h3,h2,h1];rfl
theorem fin_upd (l:List Fi) (r:List UInt8) (w:List Int):∀ n k s,fin l n k (upd r w s)=(fin l n k s).bind fun t=>.ok (upd r w t)
 | 0,_,_=>rfl
 | n+1,k,s=>by
   unfold fin
   split
   ·exact add_upd _ _ _ _ _
   ·split
    ·rw [fin_upd l r w n]
     rcases fin l n (fa l k).toNat s with a | _ | _
     ·exact add_upd _ _ _ _ _
     ·rfl
     ·rfl
    ·rw [fin_upd l r w n]
     rcases fin l n (fa l k).toNat s with a | _ | _
     ·show (fin l n (fb l k).toNat (upd r w a)).bind _=((fin l n (fb l k).toNat a).bind _).bind _
      rw [fin_upd l r w n]
      rcases fin l n (fb l k).toNat a with b | _ | _
      ·exact add_upd _ _ _ _ _
      ·rfl
      ·rfl
     ·rfl
     ·rfl
theorem fin_fuel (l:List Fi) (m:Nat) (HN:∀ i,i<m→okN l i):∀ n n' k s,k<n→k<n'→k<m→fin l n k s=fin l n' k s
 | 0,_,_,_,h,_,_=>by omega
 | _,0,_,_,_,h,_=>by omega
 | n+1,n'+1,k,s,h,h',hm=>by
   have h3:=ar_le (fo l k)
   unfold fin
   split
   ·rfl
   ·have ha:=kid_a (HN k hm) (by omega)
    rw [fin_fuel l m HN n n' (fa l k).toNat s (by omega) (by omega) (by omega)]
    split
    ·rfl
    ·have hb:=kid_b (HN k hm) (by omega)
     congr 1
     funext t
     rw [fin_fuel l m HN n n' (fb l k).toNat t (by omega) (by omega) (by omega)]
theorem add_rst (op v:Int) (r:List UInt8) (s:PSt):add op v { s with rest:=r }=(add op v s).bind fun t=>.ok { t with rest:=r }:=by
 unfold add
 simp only
 repeat' (split)
 all_goals first | rfl | omega | contradiction
theorem app_rst (op:Int) (r:List UInt8):∀ n s,app op n { s with rest:=r }=(app op n s).bind fun t=>.ok { t with rest:=r }
 | 0,s=>rfl
 | n+1,s=>by
   unfold app
   simp only
   split
   ·rfl
   ·rw [add_rst]
    rcases add (s.wait.getD n 0) 0 s with a | _ | _
    ·exact app_rst op r n { a with wait:=a.wait.take n }
    ·rfl
    ·rfl
def Top (w:List Int) (g:Nat):Prop:=w=[]∨∃ w' x,w=w'++[x]∧(x = -1∨sgv x<g)
theorem app_top (op:Int) (s:PSt) (h:Top s.wait (sgv op)):app op s.wait.length s=.ok s:=by
 rcases h with h | ⟨w',x,h,hx⟩
 ·rw [h];rfl
 ·rw [h,List.length_append,List.length_singleton]
  unfold app
  have e:s.wait.getD w'.length 0=x:=by
   rw [h,List.getD_eq_getElem?_getD,List.getElem?_append_right (Nat.le_refl _)];simp
  simp only [e]
  rw [if_pos hx]
theorem app_pop (op x:Int) (w:List Int) (s:PSt) (h:s.wait=w++[x]) (hx:¬ (x = -1∨sgv x<sgv op)):app op s.wait.length s=(add x 0 s).bind fun s'=>app op w.length { s' with wait:=s'.wait.take w.length }:=by
 rw [h,List.length_append,List.length_singleton]
 rw [app]
 have e:s.wait.getD w.length 0=x:=by
  rw [h,List.getD_eq_getElem?_getD,List.getElem?_append_right (Nat.le_refl _)];simp
 simp only [e]
 rw [if_neg hx]
def gd (r:List UInt8):Prop:=r=[]∨∃ b t,r=b::t∧(b=32∨b=9∨b=41)
def PP (l:List Fi) (L:List ByteArray) (LL:List (List UInt8)) (k least:Nat):Prop:=∀ (s t:PSt) (r:List UInt8),gd r→(least≤2→Top s.wait least)→fin l (k+1) k s=.ok t →
 ∃ s1,prE LL (upd (shT l L k least++r) s.wait s)=prO LL s1∧s1.rest=r∧∀ op:Int,op=4∨op=5→sgv op≤least→app op s1.wait.length s1=app op s.wait.length (upd r s.wait t)
section
variable {l : List Fi} {L : List ByteArray} {LL : List (List UInt8)} {m k : Nat}
theorem fin_st (HN:∀ i,i<m→okN l i) (hk:k<m) (s:PSt) (h:ar (fo l k)=2):fin l (k+1) k s=(fin l ((fa l k).toNat+1) (fa l k).toNat s).bind fun t=>(fin l ((fb l k).toNat+1) (fb l k).toNat t).bind fun u=>add (fo l k) 0 u:=by
 have ha:=kid_a (HN k hk) (by omega)
 have hb:=kid_b (HN k hk) h
 rw [fin,if_neg (by omega),if_neg (by omega),fin_fuel l m HN k ((fa l k).toNat+1) _ s (by omega) (by omega) (by omega)]
 congr 1
 funext t
 rw [fin_fuel l m HN k ((fb l k).toNat+1) _ t (by omega) (by omega) (by omega)]
theorem fin_sn (HN:∀ i,i<m→okN l i) (hk:k<m) (s:PSt) (h:ar (fo l k)=1):fin l (k+1) k s=(fin l ((fa l k).toNat+1) (fa l k).toNat s).bind fun t=>add (fo l k) 0 t:=by
 have ha:=kid_a (HN k hk) (by omega)
 rw [fin,if_neg (by omega),if_pos h,fin_fuel l m HN k ((fa l k).toNat+1) _ s (by omega) (by omega) (by omega)]
theorem prE_blank (b:UInt8) (hb:blk8 b=true) (x:List UInt8) (w:List Int) (s:PSt):prE LL (upd (b::x) w s)=prE LL (upd x w s):=by
 rw [prE_eq,prE_eq]
 have e:opnd LL ((b::x).length+1) (upd (b::x) w s)=opnd LL ((b::x).length+1) (upd x w s):=by
  rw [opnd,opnd]
  show (match nxt (b::x) with | none=>_ | some (t,r)=>_)=(match nxt x with | none=>_ | some (t,r)=>_)
  rw [nxt_blank b hb]
  rfl
 rw [show (upd (b::x) w s).rest.length=(b::x).length from rfl,e,opnd_fuel LL _ ((upd x w s).rest.length+1) (upd x w s) (by show x.length<(b::x).length+1;simp;omega) (by show x.length<x.length+1;omega)]
theorem pp_par {own least:Nat} (body:List UInt8) (ho:1≤own) (e0:shT l L k own=body) (e1:shT l L k least=[40]++body++[41]) (h:PP l L LL k own):PP l L LL k least:=by
 intro s t r hr htop hf
 have hf':fin l (k+1) k (upd s.rest (s.wait++[-1]) s)=.ok (upd s.rest (s.wait++[-1]) t):=by rw [fin_upd,hf];rfl
 obtain ⟨s1,e,hr1,ha⟩:=h (upd s.rest (s.wait++[-1]) s) _ (41::r) (.inr ⟨41,r,rfl,.inr (.inr rfl)⟩) (fun _=>.inr ⟨s.wait,-1,rfl,.inl rfl⟩) hf'
 have hnx:nxt s1.rest=some ([41],r):=by rw [hr1];exact nxt_one (.inr (.inr rfl))
 have h5:app 5 s1.wait.length s1=.ok (upd (41::r) (s.wait++[-1]) t):=(ha 5 (.inr rfl) ho).trans (app_top 5 (upd (41::r) (s.wait++[-1]) t) (.inr ⟨s.wait,-1,rfl,.inl rfl⟩))
 refine ⟨upd r s.wait t,?_,rfl,fun op _ _=>rfl⟩
 rw [e1,show [40]++body++[41]++r=40::(body++41::r) by simp]
 rw [prE_par (s:=upd (40::(body++41::r)) s.wait s) (r:=body++41::r) (nxt_one (.inr (.inl rfl)))]
 rw [e0] at e
 refine (show _=_ from e).trans ?_
 rw [prO_par hnx]
 rw [app_rst,h5]
 show (if (s.wait++[-1]).length=0 then _ else prO LL _)=_
 rw [if_neg (by simp)]
 have:(s.wait++[-1]).take ((s.wait++[-1]).length - 1)=s.wait:=by simp
 show prO LL (upd r ((s.wait++[-1]).take ((s.wait++[-1]).length - 1)) t)=_
 rw [this]
theorem pp_leaf {least:Nat} (har:ar (fo l k)=0) (HL:∀ s r,gd r→prE LL (upd (shT l L k least++r) s.wait s)=(add (fo l k) (fv l k) (upd r s.wait s)).bind (prO LL)):PP l L LL k least:=by
 intro s t r hr htop hf
 rw [fin,if_pos har] at hf
 refine ⟨upd r s.wait t,?_,rfl,fun op _ _=>rfl⟩
 rw [HL s r hr,add_upd,hf]
 rfl
theorem sgv_le {op:Int} (h:op=4∨op=5):sgv op≤2:=by rcases h with e | e <;> subst e <;> decide
theorem pp_not {least:Nat} (HN:∀ i,i<m→okN l i) (hk:k<m) (h:fo l k=3) (e1:shT l L k least=[33]++shT l L (fa l k).toNat 3) (ha:PP l L LL (fa l k).toNat 3):PP l L LL k least:=by
 intro s t r hr htop hf
 have h3:ar (fo l k)=1:=by rw [h];rfl
 rw [fin_sn HN hk s h3,h] at hf
 obtain ⟨u,f1,f2⟩:=bind_ok' hf
 have f1':fin l ((fa l k).toNat+1) (fa l k).toNat (upd s.rest (s.wait++[3]) s)=.ok (upd s.rest (s.wait++[3]) u):=by rw [fin_upd,f1];rfl
 obtain ⟨s1,e,hr1,hap⟩:=ha (upd s.rest (s.wait++[3]) s) _ r hr (fun q=>by omega) f1'
 refine ⟨s1,?_,hr1,fun op hop hle=>?_⟩
 ·rw [e1,show [33]++shT l L (fa l k).toNat 3++r=33::(shT l L (fa l k).toNat 3++r) by simp]
  rw [prE_not (s:=upd (33::(shT l L (fa l k).toNat 3++r)) s.wait s) (r:=shT l L (fa l k).toNat 3++r) (nxt_one (.inl rfl))]
  exact e
 ·have hs:=sgv_le hop
  rw [hap op hop (by omega)]
  have hx:¬ ((3:Int) = -1∨sgv 3<sgv op):=by
   have:sgv 3=3:=rfl
   omega
  refine (app_pop op 3 s.wait (upd r (s.wait++[3]) u) rfl hx).trans ?_
  rw [add_upd,f2]
  show app op s.wait.length { upd r (s.wait++[3]) t with wait:=(s.wait++[3]).take s.wait.length }=_
  rw [List.take_append_of_le_length (Nat.le_refl _),List.take_length]
  rfl
theorem pp_bin {least:Nat} (HN:∀ i,i<m→okN l i) (hk:k<m) (hop:fo l k=4∨fo l k=5) (hl1:1≤least) (hle:least≤sgv (fo l k))
  (e1:shT l L k least=shT l L (fa l k).toNat (sgv (fo l k))++(32::(if fo l k=4 then [38,38] else [124,124])++[32])++shT l L (fb l k).toNat (sgv (fo l k)+1)) (ha:PP l L LL (fa l k).toNat (sgv (fo l k))) (hb:PP l L LL (fb l k).toNat (sgv (fo l k)+1)):PP l L LL k least:=by
 intro s t r hr htop hf
 have h2:ar (fo l k)=2:=by rcases hop with q | q <;> rw [q] <;> rfl
 have hs2:=sgv_le hop
 have hs1:1≤sgv (fo l k):=Nat.le_trans hl1 hle
 rw [fin_st HN hk s h2] at hf
 obtain ⟨u,f1,f23⟩:=bind_ok' hf
 obtain ⟨v,f2,f3⟩:=bind_ok' f23
 have hT:Top s.wait (sgv (fo l k)):=by
  rcases htop (by omega) with q | ⟨w',x,q1,q2⟩
  ·exact .inl q
  ·exact .inr ⟨w',x,q1,by omega⟩
 have hku:=fin_keep l _ _ _ _ f1
 generalize hrr:(if fo l k=4 then [38,38] else [124,124]:List UInt8)=opt at *
 obtain ⟨s1,e,hr1,hap⟩:=ha s u (32::(opt++32::(shT l L (fb l k).toNat (sgv (fo l k)+1)++r))) (.inr ⟨32,_,rfl,.inl rfl⟩) (fun _=>hT) f1
 generalize shT l L (fa l k).toNat (sgv (fo l k))=ta at *
 have f2':fin l ((fb l k).toNat+1) (fb l k).toNat (upd u.rest (s.wait++[fo l k]) u)=.ok (upd u.rest (s.wait++[fo l k]) v):=by rw [fin_upd,f2];rfl
 obtain ⟨s2,e',hr2,hap'⟩:=hb (upd u.rest (s.wait++[fo l k]) u) _ r hr (fun q=>.inr ⟨s.wait,fo l k,rfl,.inr (by omega)⟩) f2'
 refine ⟨s2,?_,hr2,fun op hop' hle'=>?_⟩
 ·rw [e1,show ta++(32::opt++[32])++shT l L (fb l k).toNat (sgv (fo l k)+1)++r=ta++32::(opt++32::(shT l L (fb l k).toNat (sgv (fo l k)+1)++r)) by simp]
  rw [e]
  generalize shT l L (fb l k).toNat (sgv (fo l k)+1)++r=tb at *
  have hnx:nxt s1.rest=some (if fo l k=4 then [38,38] else [124,124],32::tb):=by
   rw [hr1,nxt_blank 32 rfl,← hrr]
   exact nxt_two hop _
  rw [prO_bin hop hnx]
  have hA:app (fo l k) s1.wait.length s1=.ok (upd (32::(opt++32::tb)) s.wait u):=(hap (fo l k) hop (Nat.le_refl _)).trans (app_top (fo l k) (upd (32::(opt++32::tb)) s.wait u) hT)
  have hW:awt (fo l k) { s1 with rest:=32::tb }=.ok (upd (32::tb) (s.wait++[fo l k]) u):=by
   unfold awt
   show (app (fo l k) s1.wait.length { s1 with rest:=32::tb }).bind _=_
   rw [app_rst,hA]
   rfl
  rw [hW]
  show prE LL (upd (32::tb) (s.wait++[fo l k]) u)=_
  rw [prE_blank 32 rfl]
  exact e'
 ·rw [hap' op hop' (by omega)]
  have hx:¬ (fo l k = -1∨sgv (fo l k)<sgv op):=by
   rcases hop with q | q <;> omega
  refine (app_pop op (fo l k) s.wait (upd r (s.wait++[fo l k]) v) rfl hx).trans ?_
  rw [add_upd,f3]
  show app op s.wait.length { upd r (s.wait++[fo l k]) t with wait:=(s.wait++[fo l k]).take s.wait.length }=_
  rw [List.take_append_of_le_length (Nat.le_refl _),List.take_length]
  rfl
def LfOK (l:List Fi) (L:List ByteArray) (LL:List (List UInt8)) (m:Nat):Prop:=∀ k,k<m→ar (fo l k)=0→∀ least,least≤3→∀ s r,gd r→prE LL (upd (shT l L k least++r) s.wait s)=(add (fo l k) (fv l k) (upd r s.wait s)).bind (prO LL)
theorem pp_all (HN:∀ i,i<m→okN l i) (HL:LfOK l L LL m):∀ k,k<m→∀ least,1≤least→least≤3→PP l L LL k least:=by
 intro k
 induction k using Nat.strongRecOn with
 | _ k ih =>
   intro hk least h1 h3
   obtain ⟨⟨o0,o5⟩,_⟩:=ok_node (HN k hk)
   rcases (show fo l k=0∨fo l k=1∨fo l k=2∨fo l k=3∨fo l k=4∨fo l k=5 by omega) with h | h | h | h | h | h
   ·exact pp_leaf (by rw [h];rfl) (HL k hk (by rw [h];rfl) least h3)
   ·exact pp_leaf (by rw [h];rfl) (HL k hk (by rw [h];rfl) least h3)
   ·exact pp_leaf (by rw [h];rfl) (HL k hk (by rw [h];rfl) least h3)
   ·have ka:=kid_a (HN k hk) (by rw [h];decide)
    exact pp_not HN hk h (by rw [shT_3 least HN hk h,if_neg (by omega)]) (ih _ ka.2 (by omega) 3 (by omega) (by omega))
   ·have ka:=kid_a (HN k hk) (by rw [h];decide)
    have kb:=kid_b (HN k hk) (by rw [h];rfl)
    have hs:sgv (fo l k)=2:=by rw [h];rfl
    have hb:∀ x,1≤x→x≤2→PP l L LL k x:=fun x x1 x2=>pp_bin HN hk (.inl h) x1 (by omega) (by rw [shT_4 x HN hk h,if_neg (by omega),hs,if_pos h];simp) (by rw [hs];exact ih _ ka.2 (by omega) 2 (by omega) (by omega)) (by rw [hs];exact ih _ kb.2 (by omega) 3 (by omega) (by omega))
    by_cases q:least≤2
    ·exact hb least h1 q
    ·exact pp_par (own:=2) _ (by omega) (by rw [shT_4 2 HN hk h,if_neg (by omega)]) (by rw [shT_4 least HN hk h,if_pos (by omega)]) (hb 2 (by omega) (by omega))
   ·have ka:=kid_a (HN k hk) (by rw [h];decide)
    have kb:=kid_b (HN k hk) (by rw [h];rfl)
    have hs:sgv (fo l k)=1:=by rw [h];rfl
    have hb:PP l L LL k 1:=pp_bin HN hk (.inr h) (by omega) (by omega) (by rw [shT_5 1 HN hk h,if_neg (by omega),hs,if_neg (by omega)];simp) (by rw [hs];exact ih _ ka.2 (by omega) 1 (by omega) (by omega)) (by rw [hs];exact ih _ kb.2 (by omega) 2 (by omega) (by omega))
    by_cases q:least≤1
    ·have:least=1:=by omega
     rw [this];exact hb
    ·exact pp_par (own:=1) _ (by omega) (by rw [shT_5 1 HN hk h,if_neg (by omega)]) (by rw [shT_5 least HN hk h,if_pos (by omega)]) hb
theorem prs_text (HN:∀ i,i<m→okN l i) (HL:LfOK l L LL m) (hk:k<m) {t:PSt} (hf:fin l (k+1) k { rest:=shT l L k 1,wait:=[],nodes:=[],sizes:=[],unk:=false }=.ok t):prs LL (shT l L k 1)=.ok (upd [] [] t):=by
 obtain ⟨s1,e,hr,ha⟩:=pp_all HN HL k hk 1 (by omega) (by omega) _ t [] (.inl rfl) (fun _=>.inl rfl) hf
 rw [List.append_nil] at e
 rw [prs_E]
 refine (show _=_ from e).trans ?_
 have h5:app 5 s1.wait.length s1=.ok (upd [] [] t):=ha 5 (.inr rfl) (by decide)
 rw [prO_end (r:=[]) (by rw [hr];rfl),app_rst,h5]
 rfl
end
set_option linter.unusedVariables false
set_option linter.unusedSimpArgs false
theorem cp_fuel (l:List Fi) (m:Nat) (HN:∀ i,i<m→okN l i):∀ n n' k o,k<n→k<n'→k<m→cp l n k o=cp l n' k o
 | 0,_,_,_,h,_,_=>by omega
 | _,0,_,_,_,h,_=>by omega
 | n+1,n'+1,k,o,h,h',hm=>by
   have h3:=ar_le (fo l k)
   unfold cp
   split
   ·rfl
   ·have ha:=kid_a (HN k hm) (by omega)
    have ea:=fun o=>cp_fuel l m HN n n' (fa l k).toNat o (by omega) (by omega) (by omega)
    rw [ea]
    split
    ·rfl
    ·have hb:=kid_b (HN k hm) (by omega)
     have eb:=fun o=>cp_fuel l m HN n n' (fb l k).toNat o (by omega) (by omega) (by omega)
     rw [eb]
theorem fin_cp {l:List Fi} {m:Nat} (HN:∀ i,i<m→okN l i):∀ k,k<m→∀ (s:PSt) (ks:List Nat),s.sizes.length=s.nodes.length→segW ks s.sizes→s.nodes.length+ty l k≤512 →
  ∃ t,fin l (k+1) k s=.ok t∧t.nodes=cp l (k+1) k s.nodes∧t.sizes.length=t.nodes.length∧segW (ty l k::ks) t.sizes∧t.unk=s.unk:=by
 intro k
 induction k using Nat.strongRecOn with
 | _ k ih =>
   intro hk s ks hz hs hl
   have hty:=ty_eq l m HN hk
   have h3:=ar_le (fo l k)
   have hn:=HN k hk
   have hp:=hn.1
   unfold plN at hp
   simp only [Bool.and_eq_true,Bool.or_eq_true,decide_eq_true_eq] at hp
   by_cases c0:ar (fo l k)=0
   ·rw [if_neg (by omega),if_neg (by omega)] at hty
    have ea:fa l k=0:=by omega
    have eb:fb l k=0:=by omega
    obtain ⟨t,e,hst,_,_⟩:=add0_st (op:=fo l k) (v:=fv l k) c0 (ks:=ks) (s:=s) (.inr ⟨hz,hs⟩)
    have e':=e
    unfold add at e'
    rw [if_neg (by omega)] at e'
    simp only [c0,if_true] at e'
    injection e' with e'
    rw [fin,if_pos c0,cp,if_pos c0,ea,eb]
    refine ⟨t,e,by rw [← e'],by rw [← e'];simp [hz],?_,by rw [← e']⟩
    rcases hst with q | ⟨_,q⟩
    ·rw [← e'] at q
     simp only [List.length_append,List.length_singleton] at q
     omega
    ·rw [hty];exact q
   have ka:=kid_a hn (by omega)
   have eca:∀ o,cp l k (fa l k).toNat o=cp l ((fa l k).toNat+1) (fa l k).toNat o:=fun o=>cp_fuel l m HN _ _ _ o (by omega) (by omega) (by omega)
   have hv:fv l k=0:=by
    have:¬ fo l k=2:=fun q=>by rw [q] at c0;exact c0 rfl
    omega
   by_cases c1:ar (fo l k)=1
   ·rw [if_pos (by omega),if_neg (by omega)] at hty
    have eb:fb l k=0:=by omega
    obtain ⟨t1,f1,n1,z1,s1,u1⟩:=ih _ ka.2 (by omega) s ks hz hs (by omega)
    have ln:t1.nodes.length=s.nodes.length+ty l (fa l k).toNat:=by rw [n1];exact cp_len l m HN _ _ _ (by omega) (by omega)
    obtain ⟨t,e,hst,_,_⟩:=add1_st (op:=fo l k) (v:=0) c1 (k:=ty l (fa l k).toNat) (ks:=ks) (s:=t1) (.inr ⟨z1,s1⟩)
    have hq:=s1.1
    have e':=e
    unfold add at e'
    rw [if_neg (by omega)] at e'
    simp only [c1] at e'
    rw [if_neg (by omega),if_neg (by omega),if_pos trivial] at e'
    injection e' with e'
    rw [fin_sn HN hk s c1,f1,cp,if_neg c0,if_pos c1,eb,eca,← n1,hv]
    refine ⟨t,e,by rw [← e'],by rw [← e'];simp [z1],?_,by rw [← e'];exact u1⟩
    rcases hst with q | ⟨_,q⟩
    ·rw [← e'] at q
     simp only [List.length_append,List.length_singleton] at q
     omega
    ·rw [hty,Nat.add_zero,Nat.add_comm];exact q
   have c2:ar (fo l k)=2:=by omega
   have kb:=kid_b hn c2
   have ecb:∀ o,cp l k (fb l k).toNat o=cp l ((fb l k).toNat+1) (fb l k).toNat o:=fun o=>cp_fuel l m HN _ _ _ o (by omega) (by omega) (by omega)
   rw [if_pos (by omega),if_pos c2] at hty
   obtain ⟨t1,f1,n1,z1,s1,u1⟩:=ih _ ka.2 (by omega) s ks hz hs (by omega)
   have ln:t1.nodes.length=s.nodes.length+ty l (fa l k).toNat:=by rw [n1];exact cp_len l m HN _ _ _ (by omega) (by omega)
   obtain ⟨t2,f2,n2,z2,s2,u2⟩:=ih _ kb.2 (by omega) t1 (ty l (fa l k).toNat::ks) z1 s1 (by omega)
   have ln2:t2.nodes.length=t1.nodes.length+ty l (fb l k).toNat:=by rw [n2];exact cp_len l m HN _ _ _ (by omega) (by omega)
   obtain ⟨t,e,hst,_,_⟩:=add2_st (op:=fo l k) (v:=0) c2 (k2:=ty l (fb l k).toNat) (k1:=ty l (fa l k).toNat) (ks:=ks) (s:=t2) (.inr ⟨z2,s2⟩)
   have hq:=s1.1
   have hq2:=s2.2.2.1
   have hq3:=s2.1
   rw [z2] at hq2
   have e':=e
   unfold add at e'
   rw [if_neg (by omega)] at e'
   simp only [c2] at e'
   rw [if_neg (by omega),if_neg (by omega),if_neg (by omega),hq2,if_neg (by omega)] at e'
   injection e' with e'
   rw [fin_st HN hk s c2,f1,cp,if_neg c0,if_neg c1,eca,← n1,ecb,← n2,hv]
   show ∃ t,((fin l ((fb l k).toNat+1) (fb l k).toNat t1).bind fun u=>add (fo l k) 0 u)=.ok t∧_
   rw [f2]
   refine ⟨t,e,?_,by rw [← e'];simp [z2],?_,by rw [← e'];exact u2.trans u1⟩
   ·rw [← e']
    rw [show t2.nodes.length - 1 - ty l (fb l k).toNat=t1.nodes.length - 1 by omega]
   ·rcases hst with q | ⟨_,q⟩
    ·rw [← e'] at q
     simp only [List.length_append,List.length_singleton] at q
     omega
    ·rw [hty,show 1+ty l (fa l k).toNat+ty l (fb l k).toNat=ty l (fa l k).toNat+ty l (fb l k).toNat+1 by omega]
     exact q
set_option linter.unusedVariables false
set_option linter.unusedSimpArgs false
theorem lt_blk {b:UInt8} (h:lt8 b=true):blk8 b=false∧b≠38∧b≠124∧b≠33∧b≠40∧b≠41:=by
 have:∀ b:UInt8,lt8 b=true→blk8 b=false∧b≠38∧b≠124∧b≠33∧b≠40∧b≠41:=by
  intro b
  obtain ⟨⟨n⟩⟩:=b
  revert n
  decide +kernel
 exact this b h
theorem nxt_word {b:UInt8} {x r:List UInt8} (hb:lt8 b=true) (hx:∀ c∈x,(lt8 c||dg8 c)=true) (hr:gd r):nxt ((b::x)++r)=some (b::x,r):=by
 obtain ⟨h1,h2,h3,h4,h5,h6⟩:=lt_blk hb
 have htw:(x++r).takeWhile (fun c=>lt8 c||dg8 c)=x:=by
  rw [List.takeWhile_append_of_pos hx]
  rcases hr with e | ⟨c,t,e,hc⟩
  ·rw [e];simp
  ·rw [e,List.takeWhile_cons_of_neg]
   ·simp
   ·rcases hc with q | q | q <;> rw [q] <;> decide
 have hw:tkN (b::(x++r))=some (1+x.length):=by
  unfold tkN
  show (if b=38∧_ then _ else _)=_
  rw [if_neg (fun q=>h2 q.1),if_neg (fun q=>h3 q.1),if_neg (by rintro (q | q | q);exact h4 q;exact h5 q;exact h6 q),if_pos hb]
  show some (if lt8 b then 1+((x++r).takeWhile (fun c=>lt8 c||dg8 c)).length else 0)=_
  rw [if_pos hb,htw]
 unfold nxt
 have hd:((b::x)++r).dropWhile blk8=b::(x++r):=by
  show (b::(x++r)).dropWhile blk8=_
  rw [List.dropWhile_cons_of_neg (by rw [h1];decide)]
 rw [hd]
 show (tkN (b::(x++r))).map (fun n=>((b::(x++r)).take n,(b::(x++r)).drop n))=_
 rw [hw]
 show some ((b::(x++r)).take (1+x.length),(b::(x++r)).drop (1+x.length))=_
 rw [Nat.add_comm 1 x.length,List.take_succ_cons,List.drop_succ_cons]
 simp
theorem rd_word (LL:List (List UInt8)) {b:UInt8} {x r:List UInt8} (hb:lt8 b=true) (hx:∀ c∈x,(lt8 c||dg8 c)=true) (hr:gd r) (s:PSt):prE LL (upd ((b::x)++r) s.wait s)=(wrd LL (b::x) (upd r s.wait s)).bind (prO LL):=by
 obtain ⟨h1,h2,h3,h4,h5,h6⟩:=lt_blk hb
 have hh:∀ {c:UInt8} {y:List UInt8},b::x=c::y→b=c:=fun e=>by injection e
 exact prE_wrd (s:=upd ((b::x)++r) s.wait s) (nxt_word hb hx hr) (fun e=>h4 (hh e)) (fun e=>h5 (hh e)) (by
  rintro (e | e | e | e)
  ·exact h2 (hh e)
  ·exact h3 (hh e)
  ·exact h6 (hh e)
  ·cases e)
def NmW (L:List ByteArray) (v:Nat):Prop:=(∃ b x,(sg L v).data.toList=b::x∧lt8 b=true∧∀ c∈x,(lt8 c||dg8 c)=true)∧(sg L v).data.toList≠[116,114,117,101]∧(sg L v).data.toList≠[102,97,108,115,101]∧v<L.length∧∀ j,j<v→sg L j≠sg L v
theorem lf_ok {l:List Fi} {L:List ByteArray} {m:Nat} (HN:∀ i,i<m→okN l i) (HV:∀ k,k<m→fo l k=2→NmW L (fv l k).toNat):LfOK l L (L8 L) m:=by
 intro k hk har least hle s r hr
 obtain ⟨⟨o0,o5⟩,⟨v0,v1⟩,_⟩:=ok_node (HN k hk)
 have hp:=(HN k hk).1
 unfold plN at hp
 simp only [Bool.and_eq_true,Bool.or_eq_true,decide_eq_true_eq] at hp
 rcases (show fo l k=0∨fo l k=1∨fo l k=2∨fo l k=3∨fo l k=4∨fo l k=5 by omega) with h | h | h | h | h | h
 ·have hv:fv l k=0:=by omega
  rw [shT_0 least h,if_neg (by omega),h,hv]
  exact rd_word (L8 L) (b:=102) (x:=[97,108,115,101]) (by decide) (by decide) hr s
 ·have hv:fv l k=0:=by omega
  rw [shT_1 least h,if_neg (by omega),h,hv]
  exact rd_word (L8 L) (b:=116) (x:=[114,117,101]) (by decide) (by decide) hr s
 ·obtain ⟨⟨b,x,e,hb,hx⟩,n1,n2,n3,n4⟩:=HV k hk h
  have hix:=ixL_eq (L:=L) (t:=sg L (fv l k).toNat) (r:=(((fv l k).toNat:Nat):Int)) (.inr ⟨_,n3,rfl,rfl,n4⟩)
  have hvv:(((fv l k).toNat:Nat):Int)=fv l k:=by omega
  rw [shT_2 least h,if_neg (by omega),h]
  rw [e] at hix n1 n2 ⊢
  rw [rd_word (L8 L) hb hx hr s]
  unfold wrd
  rw [if_neg n1,if_neg n2,← hix,hvv]
  have hlt:decide (fv l k<0)=false:=decide_eq_false (by omega)
  rw [hlt,Bool.or_false]
 ·rw [h] at har;cases har
 ·rw [h] at har;cases har
 ·rw [h] at har;cases har
theorem shT_01 {l:List Fi} {L:List ByteArray} (k:Nat):shT l L k 0=shT l L k 1:=by
 unfold shT
 rw [shF_eq,shF_eq]
 have h1:=(stg_le (fo l k)).1
 rw [if_neg (c:=stg (fo l k)<0) (by omega),if_neg (c:=stg (fo l k)<1) (by omega)]
theorem prs_print {l:List Fi} {L:List ByteArray} (h:okF l) (HV:∀ k,k<l.length→fo l k=2→NmW L (fv l k).toNat) :
  ∃ st,prs (L8 L) (shT l L (l.length - 1) 0)=.ok st∧st.nodes=poF l∧st.unk=false:=by
 have h1:=h.1
 have h2:=h.2.1
 have HN:=h.2.2.1
 have hty:=ty_le l h
 rw [shT_01]
 obtain ⟨t,f,n,_,_,u⟩:=fin_cp HN (l.length - 1) (by omega) { rest:=shT l L (l.length - 1) 1,wait:=[],nodes:=[],sizes:=[],unk:=false } [] rfl rfl (by show 0+_≤_;omega)
 refine ⟨upd [] [] t,prs_text HN (lf_ok HN HV) (by omega) f,?_,u⟩
 show t.nodes=_
 rw [n]
 unfold poF
 rw [show l.length - 1+1=l.length by omega]
set_option linter.unusedVariables false
set_option linter.unusedSimpArgs false
theorem plN_a {o v a b a':Int} (h:plN o v a b=true) (h1:1≤ar o):plN o v a' b=true:=by
 unfold plN at *
 simp only [Bool.and_eq_true,Bool.or_eq_true,decide_eq_true_eq] at *
 omega
theorem plN_b {o v a b a' b':Int} (h:plN o v a b=true) (h1:ar o=2):plN o v a' b'=true:=by
 unfold plN at *
 simp only [Bool.and_eq_true,Bool.or_eq_true,decide_eq_true_eq] at *
 omega
theorem opN_1 {o a b:Int} {i:Nat} (h:ar o=1) (h0:0≤a) (h1:a<(i:Int)):opN o a b i=true:=by
 unfold opN
 simp only [Bool.and_eq_true,Bool.or_eq_true,decide_eq_true_eq]
 omega
theorem opN_2 {o a b:Int} {i:Nat} (h0:0≤a) (h1:a<(i:Int)) (h2:0≤b) (h3:b<(i:Int)):opN o a b i=true:=by
 unfold opN
 simp only [Bool.and_eq_true,Bool.or_eq_true,decide_eq_true_eq]
 omega
theorem ty_pos (l:List Fi) (m:Nat) (HN:∀ i,i<m→okN l i) {k:Nat} (hk:k<m):1≤ty l k:=by rw [ty_eq l m HN hk];omega
theorem cp_md {l:List Fi} {m:Nat} (HN:∀ i,i<m→okN l i):∀ n k o R,k<n→k<m→Md o R→Md (cp l n k o) (R++[(cp l n k o).length - 1])
 | 0,k,o,R,h,_,_=>by omega
 | n+1,k,o,R,h,hm,hM=>by
   have h3:=ar_le (fo l k)
   have hp:=(HN k hm).1
   unfold cp
   by_cases c0:ar (fo l k)=0
   ·rw [if_pos c0,List.length_append,List.length_singleton,Nat.add_sub_cancel]
    exact md_add (x:=(fo l k,fv l k,fa l k,fb l k)) (K:=[]) hM ⟨hp,by unfold opN;rw [c0];rfl⟩ (by simp) (fun j=>by rw [if_neg (by show ¬ (1≤ar (fo l k)∧_);omega),if_neg (by show ¬ (ar (fo l k)=2∧_);omega)];simp)
   rw [if_neg c0]
   obtain ⟨a1,a2⟩:=kid_a (HN k hm) (by omega)
   have ia:=cp_md HN n (fa l k).toNat o R (by omega) (by omega) hM
   have la:=cp_len l m HN n (fa l k).toNat o (by omega) (by omega)
   have pa:=ty_pos l m HN (k:=(fa l k).toNat) (by omega)
   generalize cp l n (fa l k).toNat o=oa at *
   by_cases c1:ar (fo l k)=1
   ·rw [if_pos c1,List.length_append,List.length_singleton,Nat.add_sub_cancel]
    have p1:plN (fo l k) (fv l k) ((oa.length - 1:Nat):Int) (fb l k)=true:=plN_a hp (by omega)
    have p2:opN (fo l k) ((oa.length - 1:Nat):Int) (fb l k) oa.length=true:=opN_1 c1 (by omega) (by omega)
    refine md_add (x:=(fo l k,fv l k,((oa.length - 1:Nat):Int),fb l k)) (K:=[oa.length - 1]) ia ⟨p1,p2⟩ rfl (fun j=>?_)
    show (if 1≤ar (fo l k)∧((oa.length - 1:Nat):Int)=(j:Int) then 1 else 0)+(if ar (fo l k)=2∧fb l k=(j:Int) then 1 else 0)=_
    rw [if_neg (c:=ar (fo l k)=2∧_) (by omega)]
    by_cases q:j=oa.length - 1
    ·rw [if_pos ⟨by omega,by omega⟩,if_pos (by simp [q])]
    ·rw [if_neg (by omega),if_neg (by simpa using q)]
   have c2:ar (fo l k)=2:=by omega
   rw [if_neg c1]
   obtain ⟨b1,b2⟩:=kid_b (HN k hm) c2
   have ib:=cp_md HN n (fb l k).toNat oa _ (by omega) (by omega) ia
   have lb:=cp_len l m HN n (fb l k).toNat oa (by omega) (by omega)
   have pb:=ty_pos l m HN (k:=(fb l k).toNat) (by omega)
   generalize cp l n (fb l k).toNat oa=ob at *
   rw [List.length_append,List.length_singleton,Nat.add_sub_cancel]
   have p1:plN (fo l k) (fv l k) ((oa.length - 1:Nat):Int) ((ob.length - 1:Nat):Int)=true:=plN_b hp c2
   have p2:opN (fo l k) ((oa.length - 1:Nat):Int) ((ob.length - 1:Nat):Int) ob.length=true:=opN_2 (by omega) (by omega) (by omega) (by omega)
   exact md_add (x:=(fo l k,fv l k,((oa.length - 1:Nat):Int),((ob.length - 1:Nat):Int))) (R0:=R) (K:=[oa.length - 1,ob.length - 1]) ib ⟨p1,p2⟩ (by simp) (two_kids (fo l k) c2 _ _ (by omega))
theorem poF_ok {l:List Fi} (h:okF l):okF (poF l):=by
 have h1:=h.1
 have h2:=poF_len h
 have hl:=cp_len l l.length h.2.2.1 l.length (l.length - 1) [] (by omega) (by omega)
 have hp:=ty_pos l l.length h.2.2.1 (k:=l.length - 1) (by omega)
 have hm:=cp_md h.2.2.1 l.length (l.length - 1) [] [] (by omega) (by omega) Md.nil
 unfold poF at *
 simp only [List.length_nil] at hl
 exact md_ok hm (by omega) h2
theorem cp_pre (l:List Fi):∀ n k o,o <+: cp l n k o
 | 0,_,o=>List.prefix_refl o
 | n+1,k,o=>by
   unfold cp
   split
   ·exact List.prefix_append _ _
   ·split
    ·exact (cp_pre l n _ o).trans (List.prefix_append _ _)
    ·exact ((cp_pre l n _ o).trans (cp_pre l n _ _)).trans (List.prefix_append _ _)
theorem cp_vars {l:List Fi} {m:Nat} (HN:∀ i,i<m→okN l i) {N:Int} (HV:∀ i,i<m→fo l i=2→fv l i<N):∀ n k o,k<n→k<m→(∀ x:Fi,x∈o→x.1=2→x.2.1<N)→∀ x:Fi,x∈cp l n k o→x.1=2→x.2.1<N
 | 0,k,o,h,_,_=>by omega
 | n+1,k,o,h,hm,ho=>by
   have h3:=ar_le (fo l k)
   intro x hx h2
   unfold cp at hx
   by_cases c0:ar (fo l k)=0
   ·rw [if_pos c0,List.mem_append,List.mem_singleton] at hx
    rcases hx with q | q
    ·exact ho x q h2
    ·subst q;exact HV k hm h2
   rw [if_neg c0] at hx
   obtain ⟨a1,a2⟩:=kid_a (HN k hm) (by omega)
   have ia:=cp_vars HN HV n (fa l k).toNat o (by omega) (by omega) ho
   by_cases c1:ar (fo l k)=1
   ·rw [if_pos c1,List.mem_append,List.mem_singleton] at hx
    rcases hx with q | q
    ·exact ia x q h2
    ·subst q;exact HV k hm h2
   rw [if_neg c1] at hx
   obtain ⟨b1,b2⟩:=kid_b (HN k hm) (by omega)
   have ib:=cp_vars HN HV n (fb l k).toNat _ (by omega) (by omega) ia
   rw [List.mem_append,List.mem_singleton] at hx
   rcases hx with q | q
   ·exact ib x q h2
   ·subst q;exact HV k hm h2
set_option linter.unusedVariables false
set_option linter.unusedSimpArgs false
def Tk:List (List UInt8)→List UInt8→Prop
 | [],r=>nxt r=some ([],[])
 | t::ts,r=>t≠[]∧∃ r',nxt r=some (t,r')∧Tk ts r'
theorem Tk.blank {ts:List (List UInt8)} {r:List UInt8} {b:UInt8} (hb:blk8 b=true) (h:Tk ts r):Tk ts (b::r):=by
 cases ts with
 | nil=>show nxt _=_;rw [nxt_blank b hb];exact h
 | cons t ts =>
   obtain ⟨h1,r',h2,h3⟩:=h
   exact ⟨h1,r',by rw [nxt_blank b hb];exact h2,h3⟩
section
variable {L : List (List UInt8)} {s : PSt} {r : List UInt8} {t : List UInt8}
theorem prE_syn (h:nxt s.rest=some (t,r)) (h3:t=[38,38]∨t=[124,124]∨t=[41]∨t=[]):prE L s=.syn:=by
 rw [prE_eq,opnd,h]
 simp only
 rw [if_neg (by rcases h3 with q | q | q | q <;> subst q <;> decide),if_neg (by rcases h3 with q | q | q | q <;> subst q <;> decide),if_pos h3]
 rfl
theorem prO_syn (h:nxt s.rest=some (t,r)) (h1:t≠[41]) (h2:t≠[38,38]) (h3:t≠[124,124]) (h4:t≠[]):prO L s=.syn:=by
 unfold prO
 rw [optr,h]
 simp only
 rw [if_neg h1,if_neg h2,if_neg h3,if_neg h4]
 rfl
theorem wrd_rst (t:List UInt8) (r:List UInt8) (w:List Int) (s:PSt):wrd L t (upd r w s)=(wrd L t s).bind fun u=>.ok (upd r w u):=by
 unfold wrd
 split
 ·exact add_upd _ _ _ _ _
 ·split
  ·exact add_upd _ _ _ _ _
  ·show add 2 (ixL L t) (upd r w { s with unk:=s.unk||decide (ixL L t<0) })=_
   exact add_upd _ _ _ _ _
end
theorem pr_tk (L:List (List UInt8)):∀ ts a b,Tk ts a→Tk ts b→(∀ s w,prE L (upd a w s)=prE L (upd b w s))∧(∀ s w,prO L (upd a w s)=prO L (upd b w s))
 | [],a,b,ha,hb=>by
   refine ⟨fun s w=>?_,fun s w=>?_⟩
   ·rw [prE_syn (s:=upd a w s) (r:=[]) (t:=[]) ha (by simp),prE_syn (s:=upd b w s) (r:=[]) (t:=[]) hb (by simp)]
   ·rw [prO_end (s:=upd a w s) (r:=[]) ha,prO_end (s:=upd b w s) (r:=[]) hb]
    rfl
 | t::ts,a,b,⟨ht,a',ha,ka⟩,⟨_,b',hb,kb⟩=>by
   obtain ⟨ih1,ih2⟩:=pr_tk L ts a' b' ka kb
   refine ⟨fun s w=>?_,fun s w=>?_⟩
   ·by_cases h1:t=[33]
    ·subst h1
     rw [prE_not (s:=upd a w s) (r:=a') ha,prE_not (s:=upd b w s) (r:=b') hb]
     exact ih1 s (w++[3])
    by_cases h2:t=[40]
    ·subst h2
     rw [prE_par (s:=upd a w s) (r:=a') ha,prE_par (s:=upd b w s) (r:=b') hb]
     exact ih1 s (w++[-1])
    by_cases h3:t=[38,38]∨t=[124,124]∨t=[41]∨t=[]
    ·rw [prE_syn (s:=upd a w s) (r:=a') ha h3,prE_syn (s:=upd b w s) (r:=b') hb h3]
    rw [prE_wrd (s:=upd a w s) (r:=a') ha h1 h2 h3,prE_wrd (s:=upd b w s) (r:=b') hb h1 h2 h3]
    show (wrd L t (upd a' w s)).bind _=(wrd L t (upd b' w s)).bind _
    rw [wrd_rst,wrd_rst]
    rcases wrd L t s with u | _ | _
    ·exact ih2 u w
    ·rfl
    ·rfl
   ·by_cases h1:t=[41]
    ·subst h1
     rw [prO_par (s:=upd a w s) (r:=a') ha,prO_par (s:=upd b w s) (r:=b') hb]
     show (app 5 w.length { upd [] w s with rest:=a' }).bind _=(app 5 w.length { upd [] w s with rest:=b' }).bind _
     rw [app_rst 5 a' w.length (upd [] w s),app_rst 5 b' w.length (upd [] w s)]
     rcases app 5 w.length (upd [] w s) with u | _ | _
     ·show (if u.wait.length=0 then _ else prO L (upd a' (u.wait.take (u.wait.length - 1)) u))=(if u.wait.length=0 then _ else prO L (upd b' (u.wait.take (u.wait.length - 1)) u))
      rw [ih2]
     ·rfl
     ·rfl
    have hbin:∀ op:Int,op=4∨op=5→t=(if op=4 then [38,38] else [124,124])→prO L (upd a w s)=prO L (upd b w s):=fun op hop e=>by
     rw [prO_bin (s:=upd a w s) (r:=a') hop (by rw [← e];exact ha),prO_bin (s:=upd b w s) (r:=b') hop (by rw [← e];exact hb)]
     unfold awt
     show ((app op w.length { upd [] w s with rest:=a' }).bind _).bind _=((app op w.length { upd [] w s with rest:=b' }).bind _).bind _
     rw [app_rst op a' w.length (upd [] w s),app_rst op b' w.length (upd [] w s)]
     rcases app op w.length (upd [] w s) with u | _ | _
     ·exact ih1 u (u.wait++[op])
     ·rfl
     ·rfl
    by_cases h2:t=[38,38]
    ·exact hbin 4 (.inl rfl) h2
    by_cases h3:t=[124,124]
    ·exact hbin 5 (.inr rfl) h3
    rw [prO_syn (s:=upd a w s) (r:=a') ha h1 h2 h3 ht,prO_syn (s:=upd b w s) (r:=b') hb h1 h2 h3 ht]
theorem prs_tk (L:List (List UInt8)) {ts:List (List UInt8)} {a b:List UInt8} (ha:Tk ts a) (hb:Tk ts b):prs L a=prs L b:=by
 rw [prs_E,prs_E]
 exact (pr_tk L ts a b ha hb).1 { rest:=a,wait:=[],nodes:=[],sizes:=[],unk:=false } []
def ng (r:List UInt8):Prop:=r=[]∨∃ b t,r=b::t∧(lt8 b||dg8 b)=false
theorem nxt_wordN {b:UInt8} {x r:List UInt8} (hb:lt8 b=true) (hx:∀ c∈x,(lt8 c||dg8 c)=true) (hr:ng r):nxt ((b::x)++r)=some (b::x,r):=by
 obtain ⟨h1,h2,h3,h4,h5,h6⟩:=lt_blk hb
 have htw:(x++r).takeWhile (fun c=>lt8 c||dg8 c)=x:=by
  rw [List.takeWhile_append_of_pos hx]
  rcases hr with e | ⟨c,t,e,hc⟩
  ·rw [e];simp
  ·rw [e,List.takeWhile_cons_of_neg (by rw [hc];decide)]
   simp
 have hw:tkN (b::(x++r))=some (1+x.length):=by
  unfold tkN
  show (if b=38∧_ then _ else _)=_
  rw [if_neg (fun q=>h2 q.1),if_neg (fun q=>h3 q.1),if_neg (by rintro (q | q | q);exact h4 q;exact h5 q;exact h6 q),if_pos hb]
  show some (if lt8 b then 1+((x++r).takeWhile (fun c=>lt8 c||dg8 c)).length else 0)=_
  rw [if_pos hb,htw]
 unfold nxt
 have hd:((b::x)++r).dropWhile blk8=b::(x++r):=by
  show (b::(x++r)).dropWhile blk8=_
  rw [List.dropWhile_cons_of_neg (by rw [h1];decide)]
 rw [hd]
 show (tkN (b::(x++r))).map (fun n=>((b::(x++r)).take n,(b::(x++r)).drop n))=_
 rw [hw]
 show some ((b::(x++r)).take (1+x.length),(b::(x++r)).drop (1+x.length))=_
 rw [Nat.add_comm 1 x.length,List.take_succ_cons,List.drop_succ_cons]
 simp
theorem nxt_oo {o:UInt8} (ho:o=38∨o=124) (s:List UInt8):nxt (o::o::s)=some ([o,o],s):=by
 rcases ho with q | q <;> subst q <;> rfl
end Go.Proofs.YtpaednfinlaioaaGreatDoor
