/-
  Plain mathematics and contracts of package diagram, several texts in one: PRd, PPn, PPb, PMv.
-/
import Derived.Test.YtpaednfinlaioaaGreatDoorFp
import Derived.Test.YtpaednfinlaioaaGreatDoorFo
namespace Go.Proofs.YtpaednfinlaioaaGreatDoor
set_option linter.unusedVariables false
set_option linter.unusedSimpArgs false
abbrev Tks:=List (List UInt8)
theorem Tk.tail {t:List UInt8} {ts:Tks} {r:List UInt8} (h:Tk (t::ts) r):t≠[]∧∃ r',nxt r=some (t,r')∧Tk ts r':=h
theorem StkW.upd {ks:List Nat} {s:PSt} (r:List UInt8) (w:List Int) (h:StkW ks s):StkW ks (upd r w s):=h
theorem Top.up {w:List Int} {g:Nat} (h:Top w g):Top w (g+1):=by
 rcases h with h | ⟨w',x,e,h⟩
 ·exact .inl h
 ·exact .inr ⟨w',x,e,by omega⟩
set_option linter.unusedVariables false
set_option linter.unusedSimpArgs false
def c40 (x:List UInt8):Nat:=x.count 40
theorem c40_app (x y:List UInt8):c40 (x++y)=c40 x+c40 y:=by unfold c40;exact List.count_append
def Mo (G:Tks→PSt→POut (Tks × PSt)):Prop:=∀ ts s ts' s',G ts s=.ok (ts',s')→(s'.unk=false→s.unk=false)∧s.nodes.length≤s'.nodes.length
set_option linter.unusedVariables false
set_option linter.unusedSimpArgs false
def c41 (x:List UInt8):Nat:=x.count 41
theorem c41_app (x y:List UInt8):c41 (x++y)=c41 x+c41 y:=by unfold c41;exact List.count_append
def nt (x:List UInt8):Int:=(c40 x:Int) - (c41 x:Int)
theorem nt_app (x y:List UInt8):nt (x++y)=nt x+nt y:=by unfold nt;rw [c40_app,c41_app];omega
theorem nt_cons (b:UInt8) (x:List UInt8):nt (b::x)=(if b=40 then 1 else if b=41 then -1 else 0)+nt x:=by
 unfold nt c40 c41
 rw [List.count_cons,List.count_cons]
 by_cases h:b=40
 ·subst h
  rw [if_pos (by decide),if_neg (by decide),if_pos rfl]
  omega
 ·rw [if_neg (by simpa using h),if_neg h]
  by_cases h2:b=41
  ·subst h2
   rw [if_pos (by decide),if_pos rfl]
   omega
  ·rw [if_neg (by simpa using h2),if_neg h2]
   omega
theorem pre_app {y:List UInt8}:∀ {x p:List UInt8},p <+: x++y→p <+: x∨∃ z,p=x++z∧z <+: y
 | [],p,h=>.inr ⟨p,rfl,h⟩
 | a::x,[],h=>.inl (List.nil_prefix)
 | a::x,b::p,h=>by
   rw [List.cons_append,List.cons_prefix_cons] at h
   obtain ⟨e,h⟩:=h
   subst e
   rcases pre_app h with q | ⟨z,q1,q2⟩
   ·exact .inl (List.cons_prefix_cons.2 ⟨rfl,q⟩)
   ·exact .inr ⟨z,by rw [q1];rfl,q2⟩
def Bl (x:List UInt8):Prop:=nt x=0∧∀ p,p <+: x→0≤nt p
theorem Bl.app {x y:List UInt8} (hx:Bl x) (hy:Bl y):Bl (x++y):=by
 refine ⟨by rw [nt_app,hx.1,hy.1];rfl,fun p hp=>?_⟩
 rcases pre_app hp with q | ⟨z,q1,q2⟩
 ·exact hx.2 p q
 ·rw [q1,nt_app,hx.1]
  have:=hy.2 z q2
  omega
theorem Bl.none {x:List UInt8} (h:∀ b∈x,b≠40∧b≠41):Bl x:=by
 have h0:∀ p:List UInt8,(∀ b∈p,b≠40∧b≠41)→nt p=0:=by
  intro p
  induction p with
  | nil=>intro _;rfl
  | cons b p ih =>
    intro hp
    obtain ⟨h1,h2⟩:=hp b (by simp)
    rw [nt_cons,if_neg h1,if_neg h2,ih (fun c hc=>hp c (by simp [hc]))]
    rfl
 refine ⟨h0 x h,fun p hp=>?_⟩
 rw [h0 p (fun b hb=>h b (hp.subset hb))]
 exact Int.le_refl 0
theorem Bl.par {x:List UInt8} (h:Bl x):Bl ([40]++x++[41]):=by
 refine ⟨by rw [nt_app,nt_app,h.1];rfl,fun p hp=>?_⟩
 cases p with
 | nil=>exact Int.le_refl 0
 | cons b p =>
   rw [List.append_assoc,List.singleton_append,List.cons_prefix_cons] at hp
   obtain ⟨e,hp⟩:=hp
   subst e
   rw [nt_cons,if_pos rfl]
   rcases pre_app hp with q | ⟨z,q1,q2⟩
   ·have:=h.2 p q
    omega
   ·rw [q1,nt_app,h.1]
    have:z=[]∨z=[41]:=by
     cases z with
     | nil=>exact .inl rfl
     | cons a z =>
       rw [List.cons_prefix_cons] at q2
       obtain ⟨e,q2⟩:=q2
       have:=List.prefix_nil.1 q2
       subst e this
       exact .inr rfl
    rcases this with q | q <;> subst q <;> decide
def cl:Nat→List UInt8→Option Nat
 | _,[]=>none
 | d,b::x=>if b=40 then (cl (d+1) x).map (· + 1) else if b=41 then (if d=1 then some 0 else (cl (d - 1) x).map (· + 1)) else (cl d x).map (· + 1)
set_option linter.unusedVariables false
set_option linter.unusedSimpArgs false
def VrI (n:Nat) (N:List Fi):Prop:=∀ x∈N,x.1=2→x.2.1<(n:Int)
theorem VrI.snoc {n:Nat} {N:List Fi} {y:Fi} (h:VrI n N) (hy:y.1=2→y.2.1<(n:Int)):VrI n (N++[y]):=by
 intro x hx h2
 rcases List.mem_append.1 hx with q | q
 ·exact h x q h2
 ·rw [List.mem_singleton] at q
  subst q
  exact hy h2
theorem mdS_vr {n x:Nat} (hn:1≤n) {s:List Fi × List Nat} (h:VrI n s.1):VrI n (mdS n x s).1:=by
 unfold mdS
 simp only
 split
 ·exact h.snoc (fun e=>by
   have:((4+x % 8 % 2:Nat):Int)=2:=e
   omega)
 ·split
  ·exact h.snoc (fun e=>by cases e)
  ·split
   ·exact h.snoc (fun e=>by
     have:((x % 2:Nat):Int)=2:=e
     omega)
   ·refine h.snoc (fun e=>?_)
    show ((x / 8 % n:Nat):Int)<(n:Int)
    have:=Nat.mod_lt (x / 8) hn
    omega
theorem fold_vr {n:Nat} (hn:1≤n):∀ (l:List Nat) (s:List Fi × List Nat),VrI n s.1→VrI n (l.foldl (fun s x=>mdS n x s) s).1
 | [],s,h=>h
 | x::l,s,h=>fold_vr hn l _ (mdS_vr hn h)
theorem join_vr {n:Nat}:∀ (j:Nat) (s:List Fi × List Nat),VrI n s.1→VrI n (mdJ j s).1
 | 0,s,h=>h
 | j+1,s,h=>by
   unfold mdJ
   split
   ·exact join_vr j _ (h.snoc (fun e=>by cases e))
   ·exact h
theorem made_vars (l:List Nat) {n:Nat} (hn:1≤n):∀ i,i<(made l n).length→fo (made l n) i=2→fv (made l n) i<(n:Int):=by
 have h:VrI n (made l n):=by
  unfold made
  simp only
  have h:=fold_vr hn (l.take 40) ([],[]) (fun x hx=>by cases hx)
  split
  ·intro x hx h2
   rw [List.mem_singleton] at hx
   subst hx
   cases h2
  ·exact join_vr _ _ h
 intro i hi h2
 have e:(made l n).getD i (0,0,0,0)=(made l n)[i]:=by rw [List.getD_eq_getElem?_getD,List.getElem?_eq_getElem hi,Option.getD_some]
 unfold fo fv at *
 rw [e] at h2 ⊢
 exact h _ (List.getElem_mem hi) h2
theorem L12_size:∀ j,(sg L12 j).size≤1048576:=fun j=>by
 by_cases h:j<12
 ·have:∀ v,v<12→(sg L12 v).size≤1048576:=by decide +kernel
  exact this j h
 ·unfold sg
  rw [List.getD_eq_getElem?_getD,List.getElem?_eq_none (by show 12≤j;omega)]
  decide
end Go.Proofs.YtpaednfinlaioaaGreatDoor
