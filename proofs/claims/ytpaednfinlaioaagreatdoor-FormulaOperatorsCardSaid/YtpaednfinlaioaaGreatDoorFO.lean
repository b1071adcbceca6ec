/-
  Plain mathematics and contracts of package diagram, several texts in one: POp.
-/
import Derived.Test.YtpaednfinlaioaaGreatDoorFq
import Derived.Test.YtpaednfinlaioaaGreatDoorFE
import Derived.Test.YtpaednfinlaioaaGreatDoorFp
namespace Go.Proofs.YtpaednfinlaioaaGreatDoor
open Dg St
set_option linter.unusedVariables false
set_option linter.unusedSimpArgs false
structure Fm (n:Nat) (L:List ByteArray) (l:List Fi):Prop where
 ok:okF l
 nm:∀ k,k<l.length→fo l k=2→NmW L (fv l k).toNat
 vr:∀ i,i<l.length→fo l i=2→fv l i<(n:Int)
structure Ev (n:Nat) (g:(Nat→Bool)→Bool) (s:PSt):Prop where
 z:s.sizes.length=s.nodes.length
 seg:segW [s.nodes.length] s.sizes
 md:Md s.nodes [s.nodes.length - 1]
 vr:VrI n s.nodes
 u:s.unk=false
 pos:1≤s.nodes.length
 val:∀ c,val s.nodes c (s.nodes.length - 1)=g c
theorem Ev.upd {n:Nat} {g:(Nat→Bool)→Bool} {s:PSt} (h:Ev n g s) (r:List UInt8) (w:List Int):Ev n g (upd r w s):=⟨h.z,h.seg,h.md,h.vr,h.u,h.pos,h.val⟩
section
variable {n : Nat} {L : List ByteArray} {l : List Fi} {g : (Nat → Bool) → Bool}
theorem cp_vr (h:Fm n L l) {k:Nat} (hk:k<l.length) {o:List Fi} (ho:VrI n o):VrI n (cp l (k+1) k o):=cp_vars h.ok.2.2.1 h.vr (k+1) k o (by omega) hk ho
theorem ev_one (h:Fm n L l) {k:Nat} (hk:k<l.length) (hty:ty l k≤512) {s:PSt} (hs:s.nodes=[]) (hz:s.sizes=[]) (hu:s.unk=false) :
  ∃ t,fin l (k+1) k s=.ok t∧Ev n (fun c=>Go.Proofs.YtpaednfinlaioaaGreatDoor.val l c k) t∧t.nodes.length=ty l k:=by
 have HN:=h.ok.2.2.1
 obtain ⟨t,f,e,z,sg,u⟩:=fin_cp HN k hk s [] (by rw [hs,hz];rfl) (by rw [hz];rfl) (by rw [hs];show 0+_≤_;omega)
 have hl:=cp_len l l.length HN (k+1) k s.nodes (by omega) hk
 rw [← e,hs] at hl
 have hl':t.nodes.length=ty l k:=by rw [hl];show 0+_=_;omega
 have hp:=ty_pos l l.length HN hk
 refine ⟨t,f,⟨z,by rw [hl'];exact sg,?_,?_,u.trans hu,by omega,fun c=>?_⟩,hl'⟩
 ·have:=cp_md HN (k+1) k s.nodes [] (by omega) hk (by rw [hs];exact Md.nil)
  rw [← e] at this
  exact this
 ·rw [e]
  exact cp_vr h hk (by rw [hs];intro x hx;cases hx)
 ·rw [e]
  exact val_cp HN c (k+1) k s.nodes (by omega) hk
theorem ev_two (h:Fm n L l) {k:Nat} (hk:k<l.length) {s:PSt} (hs:Ev n g s) (hl:s.nodes.length+ty l k+1≤512) {op:Int} (hop:op=4∨op=5) :
  ∃ t u,fin l (k+1) k s=.ok t∧add op 0 t=.ok u∧Ev n (fun c=>if op=4 then (g c&&Go.Proofs.YtpaednfinlaioaaGreatDoor.val l c k) else (g c||Go.Proofs.YtpaednfinlaioaaGreatDoor.val l c k)) u∧u.nodes.length=s.nodes.length+ty l k+1:=by
 have HN:=h.ok.2.2.1
 have hsp:=hs.pos
 obtain ⟨t,f,e,z,sg,u⟩:=fin_cp HN k hk s [s.nodes.length] hs.z hs.seg (by omega)
 have hlen:=cp_len l l.length HN (k+1) k s.nodes (by omega) hk
 rw [← e] at hlen
 have hp:=ty_pos l l.length HN hk
 have hmd:=cp_md HN (k+1) k s.nodes [s.nodes.length - 1] (by omega) hk hs.md
 rw [← e] at hmd
 have hpre:=cp_pre l (k+1) k s.nodes
 rw [← e] at hpre
 have hvr:=cp_vr h hk hs.vr
 rw [← e] at hvr
 have hvl:=fun c=>val_cp HN c (k+1) k s.nodes (by omega) hk
 rw [← e] at hvl
 have h2:ar op=2:=by rcases hop with q | q <;> rw [q] <;> rfl
 obtain ⟨v,ea,hst,hw,hr⟩:=add2_st (op:=op) (v:=0) h2 (k2:=ty l k) (k1:=s.nodes.length) (ks:=[]) (s:=t) (.inr ⟨z,sg⟩)
 have hq:=sg.2.2.1
 rw [z] at hq
 have e':=ea
 unfold add at e'
 rw [if_neg (by omega)] at e'
 simp only [h2] at e'
 rw [if_neg (by omega),if_neg (by omega),if_neg (by omega),hq,if_neg (by omega)] at e'
 injection e' with e'
 have e1:t.nodes.length - 1 - ty l k=s.nodes.length - 1:=by omega
 rw [e1] at e'
 have hn:v.nodes=t.nodes++[(op,0,((s.nodes.length - 1:Nat):Int),((t.nodes.length - 1:Nat):Int))]:=by rw [← e']
 have hnl:v.nodes.length=t.nodes.length+1:=by rw [hn,List.length_append,List.length_singleton]
 have hz:v.sizes.length=v.nodes.length:=by rw [hnl,← e'];simp [z]
 refine ⟨t,v,f,ea,⟨hz,?_,?_,?_,?_,by omega,fun c=>?_⟩,by omega⟩
 ·rcases hst with q | ⟨_,q⟩
  ·omega
  ·rw [show v.nodes.length=s.nodes.length+ty l k+1 by omega];exact q
 ·rw [hnl,Nat.add_sub_cancel,hn]
  have hpl:plN op 0 ((s.nodes.length - 1:Nat):Int) ((t.nodes.length - 1:Nat):Int)=true:=by
   rcases hop with q | q <;> rw [q] <;> (unfold plN;simp [ar];try omega)
  have hpo:opN op ((s.nodes.length - 1:Nat):Int) ((t.nodes.length - 1:Nat):Int) t.nodes.length=true:=opN_2 (by omega) (by omega) (by omega) (by omega)
  exact md_add (x:=(op,0,((s.nodes.length - 1:Nat):Int),((t.nodes.length - 1:Nat):Int))) (R0:=[]) (K:=[s.nodes.length - 1,t.nodes.length - 1]) hmd ⟨hpl,hpo⟩ (by simp) (two_kids op h2 _ _ (by omega))
 ·rw [hn]
  exact hvr.snoc (fun q=>by rcases hop with p | p <;> rw [p] at q <;> cases q)
 ·rw [← e']
  exact u.trans hs.u
 ·rw [hnl,Nat.add_sub_cancel,hn]
  have ha:s.nodes.length - 1<t.nodes.length:=by omega
  have hb:t.nodes.length - 1<t.nodes.length:=by omega
  rcases hop with q | q
  ·rw [q,val_an t.nodes 0 c ha hb,val_pre c hpre (by omega),hs.val,hvl,if_pos rfl]
  ·rw [q,val_or' t.nodes 0 c ha hb,val_pre c hpre (by omega),hs.val,hvl,if_neg (by decide)]
theorem ev_not {s:PSt} (hs:Ev n g s) (hl:s.nodes.length+1≤512):∃ u,add 3 0 s=.ok u∧Ev n (fun c=>!g c) u∧u.nodes.length=s.nodes.length+1:=by
 have hsp:=hs.pos
 obtain ⟨v,ea,hst,hw,hr⟩:=add1_st (op:=3) (v:=0) rfl (k:=s.nodes.length) (ks:=[]) (s:=s) (.inr ⟨hs.z,hs.seg⟩)
 have e':=ea
 unfold add at e'
 rw [if_neg (by omega)] at e'
 simp only [show ar 3=1 from rfl] at e'
 rw [if_neg (by omega),if_neg (by omega),if_pos trivial] at e'
 injection e' with e'
 have hn:v.nodes=s.nodes++[(3,0,((s.nodes.length - 1:Nat):Int),0)]:=by rw [← e']
 have hnl:v.nodes.length=s.nodes.length+1:=by rw [hn,List.length_append,List.length_singleton]
 refine ⟨v,ea,⟨by rw [hnl,← e'];simp [hs.z],?_,?_,?_,by rw [← e'];exact hs.u,by omega,fun c=>?_⟩,hnl⟩
 ·rcases hst with q | ⟨_,q⟩
  ·omega
  ·rw [hnl];exact q
 ·rw [hnl,Nat.add_sub_cancel,hn]
  have hpl:plN 3 0 ((s.nodes.length - 1:Nat):Int) 0=true:=by unfold plN;simp [ar]
  have hpo:opN 3 ((s.nodes.length - 1:Nat):Int) 0 s.nodes.length=true:=opN_1 rfl (by omega) (by omega)
  refine md_add (x:=(3,0,((s.nodes.length - 1:Nat):Int),0)) (R0:=[]) (K:=[s.nodes.length - 1]) hs.md ⟨hpl,hpo⟩ (by simp) (fun j=>?_)
  show (if 1≤ar 3∧((s.nodes.length - 1:Nat):Int)=(j:Int) then 1 else 0)+(if ar 3=2∧(0:Int)=(j:Int) then 1 else 0)=_
  rw [if_neg (c:=ar 3=2∧_) (by rintro ⟨q,_⟩;cases q)]
  by_cases q:j=s.nodes.length - 1
  ·rw [if_pos ⟨by decide,by omega⟩,if_pos (by simp [q])]
  ·rw [if_neg (by omega),if_neg (by simpa using q)]
 ·rw [hn]
  exact hs.vr.snoc (fun q=>by cases q)
 ·rw [hnl,Nat.add_sub_cancel,hn,val_nt s.nodes 0 0 c (by omega),hs.val]
theorem rd_par (h:Fm n L l) {k:Nat} (hk:k<l.length) {s t:PSt} (r:List UInt8) (hf:fin l (k+1) k s=.ok t) (w:List Int) :
  prE (L8 L) (upd (40::(shT l L k 1++41::r)) w s)=prO (L8 L) (upd r w t):=by
 have HN:=h.ok.2.2.1
 have hP:=pp_all HN (lf_ok HN h.nm) k hk 1 (by omega) (by omega)
 have hf':fin l (k+1) k (upd s.rest (w++[-1]) s)=.ok (upd s.rest (w++[-1]) t):=by rw [fin_upd,hf];rfl
 obtain ⟨s1,e,hr1,ha⟩:=hP (upd s.rest (w++[-1]) s) _ (41::r) (.inr ⟨41,r,rfl,.inr (.inr rfl)⟩) (fun _=>.inr ⟨w,-1,rfl,.inl rfl⟩) hf'
 have hnx:nxt s1.rest=some ([41],r):=by rw [hr1];exact nxt_one (.inr (.inr rfl))
 have h5:app 5 s1.wait.length s1=.ok (upd (41::r) (w++[-1]) t):=(ha 5 (.inr rfl) (by decide)).trans (app_top 5 (upd (41::r) (w++[-1]) t) (.inr ⟨w,-1,rfl,.inl rfl⟩))
 rw [prE_par (s:=upd (40::(shT l L k 1++41::r)) w s) (r:=shT l L k 1++41::r) (nxt_one (.inr (.inl rfl)))]
 refine (show _=_ from e).trans ?_
 rw [prO_par hnx]
 rw [app_rst,h5]
 show (if (w++[-1]).length=0 then _ else prO (L8 L) _)=_
 rw [if_neg (by simp)]
 have:(w++[-1]).take ((w++[-1]).length - 1)=w:=by simp
 show prO (L8 L) (upd r ((w++[-1]).take ((w++[-1]).length - 1)) t)=_
 rw [this]
theorem ss_one (h:Fm n L l) {k:Nat} (hk:k<l.length) {s:PSt} (r:List UInt8) (hr:gd r) (hs:Ev n g s) (hl:s.nodes.length+ty l k+1≤512) :
  ∃ s1 u,prE (L8 L) (upd (shT l L k 2++r) [5] s)=prO (L8 L) s1∧s1.rest=r∧app 5 s1.wait.length s1=.ok (upd r [] u)∧Ev n (fun c=>g c||Go.Proofs.YtpaednfinlaioaaGreatDoor.val l c k) u∧u.nodes.length=s.nodes.length+ty l k+1:=by
 have HN:=h.ok.2.2.1
 obtain ⟨t,u,f,ea,hu,hul⟩:=ev_two h hk hs hl (.inr rfl)
 have hP:=pp_all HN (lf_ok HN h.nm) k hk 2 (by omega) (by omega)
 have hf':fin l (k+1) k (upd s.rest [5] s)=.ok (upd s.rest [5] t):=by rw [fin_upd,f];rfl
 obtain ⟨s1,e,hr1,ha⟩:=hP (upd s.rest [5] s) _ r hr (fun _=>.inr ⟨[],5,rfl,.inr (by decide)⟩) hf'
 refine ⟨s1,u,e,hr1,?_,hu,hul⟩
 refine (ha 5 (.inr rfl) (by decide)).trans ?_
 refine (app_pop 5 5 [] (upd r [5] t) rfl (by decide)).trans ?_
 rw [add_upd,ea]
 rfl
theorem shT_12 {k:Nat} (h5:fo l k≠5):shT l L k 1=shT l L k 2:=by
 unfold shT
 rw [shF_eq,shF_eq]
 have h1:=(stg_le (fo l k)).1
 have h2:¬ stg (fo l k)<2:=by
  unfold stg
  rw [if_neg h5]
  repeat (split <;> try omega)
 rw [if_neg (c:=stg (fo l k)<1) (by omega),if_neg h2]
theorem ss_all (h:Fm n L l):∀ k,k<l.length→∀ (s:PSt) (r:List UInt8) (g:(Nat→Bool)→Bool),gd r→Ev n g s→s.nodes.length+ty l k+1≤512 →
  ∃ s1 u,prE (L8 L) (upd (shT l L k 1++r) [5] s)=prO (L8 L) s1∧s1.rest=r∧app 5 s1.wait.length s1=.ok (upd r [] u)∧Ev n (fun c=>g c||Go.Proofs.YtpaednfinlaioaaGreatDoor.val l c k) u∧u.nodes.length=s.nodes.length+ty l k+1:=by
 intro k
 induction k using Nat.strongRecOn with
 | _ k ih =>
   intro hk s r g hr hs hl
   have HN:=h.ok.2.2.1
   by_cases h5:fo l k=5
   ·have hty:=ty_eq l l.length HN hk
    have h2:ar (fo l k)=2:=by rw [h5];rfl
    rw [if_pos (by omega),if_pos h2] at hty
    have ka:=kid_a (HN k hk) (by omega)
    have kb:=kid_b (HN k hk) h2
    rw [shT_5 1 HN hk h5,if_neg (by omega)]
    obtain ⟨s1,u,e,hr1,ha,hu,hul⟩:=ih _ ka.2 (by omega) s (32::124::124::32::(shT l L (fb l k).toNat 2++r)) g (.inr ⟨32,_,rfl,.inl rfl⟩) hs (by omega)
    obtain ⟨s2,v,e2,hr2,ha2,hv,hvl⟩:=ss_one h (k:=(fb l k).toNat) (by omega) r hr hu (by omega)
    refine ⟨s2,v,?_,hr2,ha2,⟨hv.z,hv.seg,hv.md,hv.vr,hv.u,hv.pos,fun c=>?_⟩,by omega⟩
    ·have e9:∀ x y:List UInt8,x++[32,124,124,32]++y++r=x++32::124::124::32::(y++r):=by simp
     rw [e9,e]
     have hnx:nxt s1.rest=some (if (5:Int)=4 then [38,38] else [124,124],32::(shT l L (fb l k).toNat 2++r)):=by
      rw [hr1,nxt_blank 32 rfl]
      rfl
     rw [prO_bin (.inr rfl) hnx]
     have hW:awt 5 { s1 with rest:=32::(shT l L (fb l k).toNat 2++r) }=.ok (upd (32::(shT l L (fb l k).toNat 2++r)) [5] u):=by
      unfold awt
      show (app 5 s1.wait.length { s1 with rest:=32::(shT l L (fb l k).toNat 2++r) }).bind _=_
      rw [app_rst,ha]
      rfl
     rw [hW]
     show prE (L8 L) (upd (32::(shT l L (fb l k).toNat 2++r)) [5] u)=_
     rw [prE_blank 32 rfl]
     exact e2
    ·rw [hv.val,val_or l c h5 ka.2 kb.2,Bool.or_assoc]
   ·rw [shT_12 h5]
    exact ss_one h hk r hr hs hl
end
theorem tk_txt {l:List Fi} {L:List ByteArray} {m:Nat} (HN:∀ i,i<m→okN l i) (HV:∀ k,k<m→fo l k=2→NmW L (fv l k).toNat):∀ k,k<m→∀ least,∃ ts',∀ r ts,ng r→Tk ts r→Tk (ts'++ts) (shT l L k least++r):=by
 intro k
 induction k using Nat.strongRecOn with
 | _ k ih =>
   intro hk least
   obtain ⟨⟨o0,o5⟩,_⟩:=ok_node (HN k hk)
   have one:∀ {b:UInt8} {ts:List (List UInt8)} {r:List UInt8},b=33∨b=40∨b=41→Tk ts r→Tk ([b]::ts) (b::r):=fun hb h=>⟨by simp,_,nxt_one hb,h⟩
   have oo:∀ {o:UInt8} {ts:List (List UInt8)} {r:List UInt8},o=38∨o=124→Tk ts r→Tk ([o,o]::ts) (32::o::o::32::r):=fun ho h=>⟨by simp,_,by rw [nxt_blank 32 rfl];exact nxt_oo ho _,Tk.blank rfl h⟩
   have par:∀ (body:List UInt8) (c:Prop) [Decidable c],(∃ ts',∀ r ts,ng r→Tk ts r→Tk (ts'++ts) (body++r))→∃ ts',∀ r ts,ng r→Tk ts r→Tk (ts'++ts) ((if c then [40]++body++[41] else body)++r):=by
    intro body c _ hb
    split
    ·obtain ⟨ts1,h1⟩:=hb
     refine ⟨[40]::(ts1++[[41]]),fun r ts hr hg=>?_⟩
     rw [show [40]++body++[41]++r=40::(body++41::r) by simp,show [40]::(ts1++[[41]])++ts=[40]::(ts1++[41]::ts) by simp]
     exact one (.inr (.inl rfl)) (h1 _ _ (.inr ⟨41,r,rfl,rfl⟩) (one (.inr (.inr rfl)) hg))
    ·exact hb
   have wd:∀ {b:UInt8} {x:List UInt8},lt8 b=true→(∀ c∈x,(lt8 c||dg8 c)=true)→∃ ts',∀ r ts,ng r→Tk ts r→Tk (ts'++ts) ((b::x)++r):=fun {b x} hb hx=>⟨[b::x],fun r ts hr hg=>⟨by simp,r,nxt_wordN hb hx hr,hg⟩⟩
   rcases (show fo l k=0∨fo l k=1∨fo l k=2∨fo l k=3∨fo l k=4∨fo l k=5 by omega) with h | h | h | h | h | h
   ·rw [shT_0 least h]
    exact par _ _ (wd (b:=102) (x:=[97,108,115,101]) (by decide) (by decide))
   ·rw [shT_1 least h]
    exact par _ _ (wd (b:=116) (x:=[114,117,101]) (by decide) (by decide))
   ·obtain ⟨⟨b,x,e,hb,hx⟩,_⟩:=HV k hk h
    rw [shT_2 least h,e]
    exact par _ _ (wd hb hx)
   ·have ka:=kid_a (HN k hk) (by rw [h];decide)
    rw [shT_3 least HN hk h]
    refine par _ _ ?_
    obtain ⟨ts1,h1⟩:=ih _ ka.2 (by omega) 3
    exact ⟨[33]::ts1,fun r ts hr hg=>one (.inl rfl) (h1 r ts hr hg)⟩
   ·have ka:=kid_a (HN k hk) (by rw [h];decide)
    have kb:=kid_b (HN k hk) (by rw [h];rfl)
    rw [shT_4 least HN hk h]
    refine par _ _ ?_
    obtain ⟨ts1,h1⟩:=ih _ kb.2 (by omega) 3
    obtain ⟨ts2,h2⟩:=ih _ ka.2 (by omega) 2
    refine ⟨ts2++[38,38]::ts1,fun r ts hr hg=>?_⟩
    have e9:∀ x y:List UInt8,x++[32,38,38,32]++y++r=x++32::38::38::32::(y++r):=by simp
    rw [e9,show ts2++[38,38]::ts1++ts=ts2++[38,38]::(ts1++ts) by simp]
    exact h2 _ _ (.inr ⟨32,_,rfl,rfl⟩) (oo (.inl rfl) (h1 r ts hr hg))
   ·have ka:=kid_a (HN k hk) (by rw [h];decide)
    have kb:=kid_b (HN k hk) (by rw [h];rfl)
    rw [shT_5 least HN hk h]
    refine par _ _ ?_
    obtain ⟨ts1,h1⟩:=ih _ kb.2 (by omega) 2
    obtain ⟨ts2,h2⟩:=ih _ ka.2 (by omega) 1
    refine ⟨ts2++[124,124]::ts1,fun r ts hr hg=>?_⟩
    have e9:∀ x y:List UInt8,x++[32,124,124,32]++y++r=x++32::124::124::32::(y++r):=by simp
    rw [e9,show ts2++[124,124]::ts1++ts=ts2++[124,124]::(ts1++ts) by simp]
    exact h2 _ _ (.inr ⟨32,_,rfl,rfl⟩) (oo (.inr rfl) (h1 r ts hr hg))
def RdE (n:Nat) (L:List ByteArray) (T:List UInt8) (g:(Nat→Bool)→Bool):Prop:=∃ N,prsV L T=(N,0)∧okF N∧(∀ i,i<N.length→fo N i=2→fv N i<(n:Int))∧∀ c,vlF N c=g c
theorem Ev.rd {n:Nat} {L:List ByteArray} {T:List UInt8} {g:(Nat→Bool)→Bool} {u:PSt} (hL:nmsOK L) (h:Ev n g u) (hl:u.nodes.length≤512) {r:List UInt8} {w:List Int} (e:prs (L8 L) T=.ok (Go.Proofs.YtpaednfinlaioaaGreatDoor.upd r w u)):RdE n L T g:=by
 refine ⟨u.nodes,?_,md_ok h.md h.pos hl,fun i hi h2=>?_,fun c=>h.val c⟩
 ·unfold prsV
  rw [if_neg (fun q=>q hL),e]
  show (if u.unk then _ else if 512<u.nodes.length then _ else (u.nodes,0))=_
  rw [h.u,if_neg (by decide),if_neg (by omega)]
 ·have e9:u.nodes.getD i (0,0,0,0)=u.nodes[i]:=by rw [List.getD_eq_getElem?_getD,List.getElem?_eq_getElem hi,Option.getD_some]
  unfold fo fv at *
  rw [e9] at h2 ⊢
  exact h.vr _ (List.getElem_mem hi) h2
section
variable {n : Nat} {L : List ByteArray} {F G : List Fi}
theorem Fm.last (h:Fm n L F):F.length - 1<F.length:=by have:=h.ok.1;omega
theorem rd_self (hL:nmsOK L) (hF:Fm n L F):RdE n L (shT F L (F.length - 1) 1) (vlF F):=by
 have hk:=hF.last
 have hN:=hF.ok.2.2.1
 obtain ⟨t,f,ht,hl⟩:=ev_one hF hk (by have:=ty_le F hF.ok;have:=hF.ok.2.1;omega) (s:={ rest:=shT F L (F.length - 1) 1,wait:=[],nodes:=[],sizes:=[],unk:=false }) rfl rfl rfl
 have:=ty_le F hF.ok
 have:=hF.ok.2.1
 exact ht.rd hL (by omega) (prs_text hN (lf_ok hN hF.nm) hk f)
theorem rd_not (hL:nmsOK L) (hF:Fm n L F) (hl:F.length+1≤512):RdE n L (33::40::(shT F L (F.length - 1) 1++[41])) (fun c=>!vlF F c):=by
 have hk:=hF.last
 have hty:=ty_le F hF.ok
 obtain ⟨t,f,ht,htl⟩:=ev_one hF hk (by have:=ty_le F hF.ok;have:=hF.ok.2.1;omega) (s:={ rest:=33::40::(shT F L (F.length - 1) 1++[41]),wait:=[],nodes:=[],sizes:=[],unk:=false }) rfl rfl rfl
 obtain ⟨u,ea,hu,hul⟩:=ev_not ht (by omega)
 refine hu.rd hL (by omega) (r:=[]) (w:=[]) ?_
 rw [prs_E,prE_not (s:={ rest:=33::40::(shT F L (F.length - 1) 1++[41]),wait:=[],nodes:=[],sizes:=[],unk:=false }) (r:=40::(shT F L (F.length - 1) 1++[41])) (nxt_one (.inl rfl))]
 refine (rd_par hF hk [] f [3]).trans ?_
 rw [prO_end (r:=[]) (s:=upd [] [3] t) nxt_end]
 rw [show app 5 (upd [] [3] t).wait.length { upd [] [3] t with rest:=[] }=.ok (upd [] [] u) from (app_pop 5 3 [] (upd [] [3] t) rfl (by decide)).trans (by rw [add_upd,ea];rfl)]
 rfl
theorem rd_and (hL:nmsOK L) (hF:Fm n L F) (hG:Fm n L G) (hl:F.length+G.length+1≤512) :
  RdE n L (40::(shT F L (F.length - 1) 1++41::38::38::40::(shT G L (G.length - 1) 1++[41]))) (fun c=>vlF F c&&vlF G c):=by
 have hk:=hF.last
 have hkG:=hG.last
 have hty:=ty_le F hF.ok
 have htyG:=ty_le G hG.ok
 obtain ⟨t,f,ht,htl⟩:=ev_one hF hk (by have:=ty_le F hF.ok;have:=hF.ok.2.1;omega) (s:={ rest:=40::(shT F L (F.length - 1) 1++41::38::38::40::(shT G L (G.length - 1) 1++[41])),wait:=[],nodes:=[],sizes:=[],unk:=false }) rfl rfl rfl
 obtain ⟨v,u,f2,ea,hu,hul⟩:=ev_two hG hkG ht (by omega) (.inl rfl)
 refine Ev.rd hL (⟨hu.z,hu.seg,hu.md,hu.vr,hu.u,hu.pos,fun c=>(hu.val c).trans (if_pos rfl)⟩:Ev n (fun c=>vlF F c&&vlF G c) u) (by omega) (r:=[]) (w:=[]) ?_
 rw [prs_E]
 refine (rd_par hF hk (38::38::40::(shT G L (G.length - 1) 1++[41])) f []).trans ?_
 rw [prO_bin (.inl rfl) (s:=upd (38::38::40::(shT G L (G.length - 1) 1++[41])) [] t) (r:=40::(shT G L (G.length - 1) 1++[41])) (nxt_two (.inl rfl) _)]
 show prE (L8 L) (upd (40::(shT G L (G.length - 1) 1++[41])) [4] t)=_
 refine (rd_par hG hkG [] f2 [4]).trans ?_
 rw [prO_end (r:=[]) (s:=upd [] [4] v) nxt_end]
 rw [show app 5 (upd [] [4] v).wait.length { upd [] [4] v with rest:=[] }=.ok (upd [] [] u) from (app_pop 5 4 [] (upd [] [4] v) rfl (by decide)).trans (by rw [add_upd,ea];rfl)]
 rfl
theorem rd_or (hL:nmsOK L) (hF:Fm n L F) (hG:Fm n L G) (hl:F.length+G.length+1≤512) :
  RdE n L (shT F L (F.length - 1) 1++124::124::shT G L (G.length - 1) 1) (fun c=>vlF F c||vlF G c):=by
 have hk:=hF.last
 have hkG:=hG.last
 have hty:=ty_le F hF.ok
 have htyG:=ty_le G hG.ok
 have hN:=hF.ok.2.2.1
 have hNG:=hG.ok.2.2.1
 obtain ⟨t,f,ht,htl⟩:=ev_one hF hk (by have:=ty_le F hF.ok;have:=hF.ok.2.1;omega) (s:={ rest:=shT F L (F.length - 1) 1++32::124::124::32::shT G L (G.length - 1) 1,wait:=[],nodes:=[],sizes:=[],unk:=false }) rfl rfl rfl
 obtain ⟨s2,u,e2,hr2,ha2,hu,hul⟩:=ss_all hG (G.length - 1) hkG t [] _ (.inl rfl) ht (by omega)
 rw [List.append_nil] at e2
 refine Ev.rd hL hu (by omega) (r:=[]) (w:=[]) ?_
 obtain ⟨tG,hG2⟩:=tk_txt hNG hG.nm (G.length - 1) hkG 1
 obtain ⟨tF,hF2⟩:=tk_txt hN hF.nm (F.length - 1) hk 1
 have q0:=hG2 [] [] (.inl rfl) nxt_end
 rw [List.append_nil,List.append_nil] at q0
 have q1:=hF2 (124::124::shT G L (G.length - 1) 1) ([124,124]::tG) (.inr ⟨124,_,rfl,rfl⟩) ⟨by simp,_,nxt_oo (.inr rfl) _,q0⟩
 have q2:=hF2 (32::124::124::32::shT G L (G.length - 1) 1) ([124,124]::tG) (.inr ⟨32,_,rfl,rfl⟩) ⟨by simp,_,by rw [nxt_blank 32 rfl];exact nxt_oo (.inr rfl) _,Tk.blank rfl q0⟩
 rw [prs_tk (L8 L) q1 q2,prs_E]
 obtain ⟨s1,e,hr1,ha⟩:=pp_all hN (lf_ok hN hF.nm) (F.length - 1) hk 1 (by omega) (by omega) { rest:=shT F L (F.length - 1) 1++32::124::124::32::shT G L (G.length - 1) 1,wait:=[],nodes:=[],sizes:=[],unk:=false } t (32::124::124::32::shT G L (G.length - 1) 1) (.inr ⟨32,_,rfl,.inl rfl⟩) (fun _=>.inl rfl) f
 refine (show _=_ from e).trans ?_
 have h5:=ha 5 (.inr rfl) (by decide)
 have hnx:nxt s1.rest=some (if (5:Int)=4 then [38,38] else [124,124],32::shT G L (G.length - 1) 1):=by
  rw [hr1,nxt_blank 32 rfl]
  rfl
 rw [prO_bin (.inr rfl) hnx]
 have hW:awt 5 { s1 with rest:=32::shT G L (G.length - 1) 1 }=.ok (upd (32::shT G L (G.length - 1) 1) [5] t):=by
  unfold awt
  show (app 5 s1.wait.length { s1 with rest:=32::shT G L (G.length - 1) 1 }).bind _=_
  rw [app_rst,h5]
  rfl
 rw [hW]
 show prE (L8 L) (upd (32::shT G L (G.length - 1) 1) [5] t)=_
 rw [prE_blank 32 rfl,e2,prO_end (r:=[]) (by rw [hr2];rfl),app_rst,ha2]
 rfl
end
theorem made_len (l:List Nat) (n:Nat) (hn:1≤n) (hn2:n≤64):(made l n).length≤81:=by
 have h0:Ms (([]:List Fi),([]:List Nat)) 0:=⟨Md.nil,rfl,Nat.le_refl _,fun h=>absurd rfl h⟩
 have h:=ms_fold n hn hn2 (l.take 40) _ 0 h0
 have hl:(l.take 40).length≤40:=by rw [List.length_take];omega
 unfold made
 simp only
 generalize (l.take 40).foldl (fun s x=>mdS n x s) ([],[])=s at *
 by_cases q:s.2.length=0
 ·rw [if_pos q]
  decide
 ·rw [if_neg q]
  obtain ⟨c',a,b,d⟩:=ms_join s.2.length s _ h (by omega) (by omega)
  have hf:=h.few
  rw [b.len]
  omega
end Go.Proofs.YtpaednfinlaioaaGreatDoor
