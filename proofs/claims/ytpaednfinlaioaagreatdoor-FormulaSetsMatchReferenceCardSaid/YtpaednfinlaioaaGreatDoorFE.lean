/-
  Plain mathematics and contracts of package diagram, several texts in one: PVl.
-/
import Derived.Test.YtpaednfinlaioaaGreatDoorFp
import Derived.Test.YtpaednfinlaioaaGreatDoorFF
import Derived.Test.YtpaednfinlaioaaGreatDoorFu
import Derived.Test.YtpaednfinlaioaaGreatDoorMa
namespace Go.Proofs.YtpaednfinlaioaaGreatDoor
open Dg St
set_option linter.unusedVariables false
set_option linter.unusedSimpArgs false
theorem vls_pre {f F:List Fi} (c:Nat→Bool) (h:f <+: F):∀ n,n≤f.length→vls F c n=vls f c n
 | 0,_=>rfl
 | n+1,hn=>by
   obtain ⟨t,rfl⟩:=h
   show vls (f++t) c n++[_]=vls f c n++[_]
   rw [vls_pre c ⟨t,rfl⟩ n (by omega)]
   rw [List.getD_eq_getElem?_getD,List.getElem?_append_left (by omega),← List.getD_eq_getElem?_getD]
theorem val_pre {f F:List Fi} (c:Nat→Bool) (h:f <+: F) {i:Nat} (hi:i<f.length):val F c i=val f c i:=by
 have e:=vls_pre c h i (by omega)
 obtain ⟨t,rfl⟩:=h
 unfold val
 rw [e,List.getD_eq_getElem?_getD,List.getElem?_append_left hi,← List.getD_eq_getElem?_getD]
theorem val_sn (f:List Fi) (x:Fi) (c:Nat→Bool):val (f++[x]) c f.length=nv (vls f c f.length) c x:=by
 unfold val
 rw [vls_pre c (List.prefix_append f [x]) f.length (Nat.le_refl _),getD_snL]
theorem val_nt (f:List Fi) {a:Nat} (b:Int) (v:Int) (c:Nat→Bool) (ha:a<f.length):val (f++[(3,v,(a:Int),b)]) c f.length=!val f c a:=by
 rw [val_sn]
 show (!(vls f c f.length).getD ((a:Int)).toNat false)=_
 rw [Int.toNat_natCast,vls_at f c ha]
theorem val_an (f:List Fi) {a b:Nat} (v:Int) (c:Nat→Bool) (ha:a<f.length) (hb:b<f.length):val (f++[(4,v,(a:Int),(b:Int))]) c f.length=(val f c a&&val f c b):=by
 rw [val_sn]
 show ((vls f c f.length).getD ((a:Int)).toNat false&&(vls f c f.length).getD ((b:Int)).toNat false)=_
 rw [Int.toNat_natCast,Int.toNat_natCast,vls_at f c ha,vls_at f c hb]
theorem val_or' (f:List Fi) {a b:Nat} (v:Int) (c:Nat→Bool) (ha:a<f.length) (hb:b<f.length):val (f++[(5,v,(a:Int),(b:Int))]) c f.length=(val f c a||val f c b):=by
 rw [val_sn]
 show ((vls f c f.length).getD ((a:Int)).toNat false||(vls f c f.length).getD ((b:Int)).toNat false)=_
 rw [Int.toNat_natCast,Int.toNat_natCast,vls_at f c ha,vls_at f c hb]
def vlF (l:List Fi) (c:Nat→Bool):Bool:=val l c (l.length - 1)
theorem val_low {l:List Fi} {n:Nat} (HN:∀ i,i<l.length→okN l i) (hv:∀ i,i<l.length→fo l i=2→fv l i<(n:Int)):∀ k,k<l.length→Low n (fun c=>val l c k):=by
 intro k
 induction k using Nat.strongRecOn with
 | _ k ih =>
   intro hk c c' hc
   show val l c k=val l c' k
   obtain ⟨⟨o0,o5⟩,_⟩:=ok_node (HN k hk)
   rcases (show fo l k=0∨fo l k=1∨fo l k=2∨fo l k=3∨fo l k=4∨fo l k=5 by omega) with h0 | h0 | h0 | h0 | h0 | h0
   ·rw [val_false l c h0,val_false l c' h0]
   ·rw [val_true l c h0,val_true l c' h0]
   ·have:=hv k hk h0
    have hp:=(HN k hk).1
    unfold plN at hp
    simp only [Bool.and_eq_true,Bool.or_eq_true,decide_eq_true_eq] at hp
    rw [val_var l c h0,val_var l c' h0,hc _ (by omega)]
   ·obtain ⟨a1,a2⟩:=kid_a (HN k hk) (by rw [h0];decide)
    rw [val_not l c h0 a2,val_not l c' h0 a2]
    exact congrArg _ (ih _ a2 (by omega) c c' hc)
   ·obtain ⟨a1,a2⟩:=kid_a (HN k hk) (by rw [h0];decide)
    obtain ⟨b1,b2⟩:=kid_b (HN k hk) (by rw [h0];decide)
    have ia:val l c (fa l k).toNat=val l c' (fa l k).toNat:=ih _ a2 (by omega) c c' hc
    have ib:val l c (fb l k).toNat=val l c' (fb l k).toNat:=ih _ b2 (by omega) c c' hc
    rw [val_and l c h0 a2 b2,val_and l c' h0 a2 b2,ia,ib]
   ·obtain ⟨a1,a2⟩:=kid_a (HN k hk) (by rw [h0];decide)
    obtain ⟨b1,b2⟩:=kid_b (HN k hk) (by rw [h0];decide)
    have ia:val l c (fa l k).toNat=val l c' (fa l k).toNat:=ih _ a2 (by omega) c c' hc
    have ib:val l c (fb l k).toNat=val l c' (fb l k).toNat:=ih _ b2 (by omega) c c' hc
    rw [val_or l c h0 a2 b2,val_or l c' h0 a2 b2,ia,ib]
structure WvO (f F:List Fi) (g:Cfg→Bool) (k:Nat):Prop where
 pre:f <+: F
 len:F.length=f.length+k
 pos:1≤k
 val:∀ c,val F c (F.length - 1)=g c
 md:∀ R,Md f R→Md F (R++[F.length - 1])
theorem wr_leaf (f:List Fi) (op v:Int) (g:Cfg→Bool) (har:ar op=0) (hpl:plN op v 0 0=true) (hg:∀ c,nv (vls f c f.length) c (op,v,0,0)=g c):WvO f (f++[(op,v,0,0)]) g 1:=by
 refine ⟨List.prefix_append _ _,by simp,Nat.le_refl _,fun c=>?_,fun R hR=>?_⟩
 ·rw [List.length_append,List.length_singleton,Nat.add_sub_cancel,val_sn,hg]
 ·rw [List.length_append,List.length_singleton,Nat.add_sub_cancel]
  exact md_add (K:=[]) hR ⟨hpl,by unfold opN;rw [har];rfl⟩ (by simp) (fun k=>by rw [if_neg (by rw [har];omega),if_neg (by rw [har];omega)];simp)
theorem wr_not {f F:List Fi} {g:Cfg→Bool} {k:Nat} (h:WvO f F g k):WvO f (F++[(3,0,((F.length - 1:Nat):Int),0)]) (fun c=>!g c) (k+1):=by
 have hl:=h.len
 have hp:=h.pos
 refine ⟨h.pre.trans (List.prefix_append _ _),by simp;omega,by omega,fun c=>?_,fun R hR=>?_⟩
 ·rw [List.length_append,List.length_singleton,Nat.add_sub_cancel,val_nt F _ _ c (by omega),h.val]
 ·rw [List.length_append,List.length_singleton,Nat.add_sub_cancel]
  have p2:opN 3 ((F.length - 1:Nat):Int) 0 F.length=true:=opN_1 rfl (by omega) (by omega)
  refine md_add (K:=[F.length - 1]) (h.md R hR) ⟨rfl,p2⟩ rfl (fun j=>?_)
  show (if 1≤ar 3∧((F.length - 1:Nat):Int)=(j:Int) then 1 else 0)+(if ar 3=2∧(0:Int)=(j:Int) then 1 else 0)=_
  have e3:ar 3=1:=rfl
  rw [e3,if_neg (c:=(1:Nat)=2∧_) (by omega)]
  by_cases q:j=F.length - 1
  ·rw [if_pos ⟨Nat.le_refl _,by omega⟩,if_pos (by simp [q])]
  ·rw [if_neg (by omega),if_neg (by simpa using q)]
theorem wr_two {f F G:List Fi} {g h:Cfg→Bool} {k j:Nat} (op:Int) (hop:op=4∨op=5) (hF:WvO f F g k) (hG:WvO F G h j) :
  WvO f (G++[(op,0,((F.length - 1:Nat):Int),((G.length - 1:Nat):Int))]) (fun c=>if op=4 then g c&&h c else g c||h c) (k+j+1):=by
 have hl:=hF.len
 have hp:=hF.pos
 have hl2:=hG.len
 have hp2:=hG.pos
 have har:ar op=2:=by rcases hop with q | q <;> subst q <;> rfl
 refine ⟨(hF.pre.trans hG.pre).trans (List.prefix_append _ _),by simp;omega,by omega,fun c=>?_,fun R hR=>?_⟩
 ·rw [List.length_append,List.length_singleton,Nat.add_sub_cancel]
  rcases hop with q | q <;> subst q
  ·rw [val_an G _ c (by omega) (by omega),hG.val,val_pre c hG.pre (by omega),hF.val,if_pos rfl]
  ·rw [val_or' G _ c (by omega) (by omega),hG.val,val_pre c hG.pre (by omega),hF.val,if_neg (by omega)]
 ·rw [List.length_append,List.length_singleton,Nat.add_sub_cancel]
  have hpl:∀ p q:Nat,plN op 0 (p:Int) (q:Int)=true:=fun p q=>by rcases hop with z | z <;> subst z <;> rfl
  have p2:opN op ((F.length - 1:Nat):Int) ((G.length - 1:Nat):Int) G.length=true:=opN_2 (by omega) (by omega) (by omega) (by omega)
  exact md_add (R0:=R) (K:=[F.length - 1,G.length - 1]) (hG.md _ (hF.md R hR)) ⟨hpl _ _,p2⟩ (by simp) (two_kids op har _ _ (by omega))
theorem WvO.of {f F:List Fi} {g g':Cfg→Bool} {k k':Nat} (h:WvO f F g k) (hg:∀ c,g c=g' c) (hk:k=k'):WvO f F g' k':=by
 subst hk
 exact ⟨h.pre,h.len,h.pos,fun c=>(h.val c).trans (hg c),h.md⟩
theorem wr_lit (v:Nat) (hv:v<64) (b:Bool) (f:List Fi):WvO f (litW v b f) (fun c=>c v == b) (litK b):=by
 have hpl:plN 2 (v:Int) 0 0=true:=by unfold plN;simp [ar];omega
 have h:=wr_leaf f 2 (v:Int) (fun c=>c v) rfl hpl (fun c=>by show c ((v:Int)).toNat=_;rw [Int.toNat_natCast])
 cases b
 ·have e:=wr_not h
  rw [List.length_append,List.length_singleton,Nat.add_sub_cancel] at e
  exact e.of (fun c=>by cases c v <;> rfl) rfl
 ·exact h.of (fun c=>by cases c v <;> rfl) rfl
theorem wr_jn (op:Int) (hop:op=4∨op=5) (v:Nat) (hv:v<64) (b:Bool) (G:List Fi→List Fi) (g:Cfg→Bool) (k:Nat) (f:List Fi) (h:∀ f,WvO f (G f) g k) :
  WvO f (jnW op v b G f) (fun c=>if op=4 then (c v == b)&&g c else (c v == b)||g c) (litK b+k+1):=wr_two op hop (wr_lit v hv b f) (h _)
def wl (M:List Br):Nat→Nat→Nat
 | 0,_=>0
 | n+1,r =>
   if r<2 then 1 else
   if bh M (r - 2)=1∧bl M (r - 2)=0 then 1 else
   if bh M (r - 2)=0∧bl M (r - 2)=1 then 2 else
   if bl M (r - 2)=0 then 2+wl M n (bh M (r - 2)) else
   if bh M (r - 2)=0 then 3+wl M n (bl M (r - 2)) else
   if bh M (r - 2)=1 then 2+wl M n (bl M (r - 2)) else
   if bl M (r - 2)=1 then 3+wl M n (bh M (r - 2)) else
   wl M n (bl M (r - 2))+wl M n (bh M (r - 2))+6
theorem litK_f:litK false=2:=rfl
theorem litK_t:litK true=1:=rfl
theorem wr_all {M:List Br} (ho:Ord M):∀ n r f,r<n→r<M.length+2→WvO f (wrN M n r f) (Den M r) (wl M n r)
 | 0,r,f,h,_=>by omega
 | n+1,r,f,hr,hl=>by
   unfold wrN wl
   by_cases c1:r<2
   ·rw [if_pos c1,if_pos c1]
    rcases (show r=0∨r=1 by omega) with rfl | rfl
    ·rw [if_neg (by omega)]
     exact wr_leaf f 0 0 _ rfl rfl (fun c=>by rw [Den_zero];rfl)
    ·rw [if_pos rfl]
     exact wr_leaf f 1 0 _ rfl rfl (fun c=>by rw [Den_one];rfl)
   rw [if_neg c1,if_neg c1]
   obtain ⟨k,rfl⟩:∃ k,r=k+2:=⟨r - 2,by omega⟩
   rw [Nat.add_sub_cancel]
   obtain ⟨q1,q2,q3,_,_⟩:=ho k (by omega)
   have hd:=fun c=>Den_br ho (k:=k) (by omega) c
   have il:=fun f=>wr_all ho n (bl M k) f (by omega) (by omega)
   have ih:=fun f=>wr_all ho n (bh M k) f (by omega) (by omega)
   by_cases c2:bh M k=1∧bl M k=0
   ·rw [if_pos c2,if_pos c2]
    refine (wr_lit (bv M k) q1 true f).of (fun c=>?_) rfl
    rw [hd,c2.1,c2.2,Den_one,Den_zero]
    cases c (bv M k) <;> rfl
   rw [if_neg c2,if_neg c2]
   by_cases c3:bh M k=0∧bl M k=1
   ·rw [if_pos c3,if_pos c3]
    refine (wr_lit (bv M k) q1 false f).of (fun c=>?_) rfl
    rw [hd,c3.1,c3.2,Den_one,Den_zero]
    cases c (bv M k) <;> rfl
   rw [if_neg c3,if_neg c3]
   by_cases c4:bl M k=0
   ·rw [if_pos c4,if_pos c4]
    refine (wr_jn 4 (.inl rfl) (bv M k) q1 true _ _ _ f ih).of (fun c=>?_) (by rw [litK_t];omega)
    rw [hd,c4,Den_zero,if_pos rfl]
    cases c (bv M k) <;> simp
   rw [if_neg c4,if_neg c4]
   by_cases c5:bh M k=0
   ·rw [if_pos c5,if_pos c5]
    refine (wr_jn 4 (.inl rfl) (bv M k) q1 false _ _ _ f il).of (fun c=>?_) (by rw [litK_f];omega)
    rw [hd,c5,Den_zero,if_pos rfl]
    cases c (bv M k) <;> simp
   rw [if_neg c5,if_neg c5]
   by_cases c6:bh M k=1
   ·rw [if_pos c6,if_pos c6]
    refine (wr_jn 5 (.inr rfl) (bv M k) q1 true _ _ _ f il).of (fun c=>?_) (by rw [litK_t];omega)
    rw [hd,c6,Den_one,if_neg (by omega)]
    cases c (bv M k) <;> simp
   rw [if_neg c6,if_neg c6]
   by_cases c7:bl M k=1
   ·rw [if_pos c7,if_pos c7]
    refine (wr_jn 5 (.inr rfl) (bv M k) q1 false _ _ _ f ih).of (fun c=>?_) (by rw [litK_f];omega)
    rw [hd,c7,Den_one,if_neg (by omega)]
    cases c (bv M k) <;> simp
   rw [if_neg c7,if_neg c7]
   refine (wr_two 5 (.inr rfl) (wr_jn 4 (.inl rfl) (bv M k) q1 true _ _ _ f ih) (wr_jn 4 (.inl rfl) (bv M k) q1 false _ _ _ _ il)).of (fun c=>?_) (by rw [litK_f,litK_t];omega)
   rw [hd,if_neg (by omega),if_pos rfl,if_pos rfl]
   cases c (bv M k) <;> simp
theorem wl_le {M:List Br} (ho:Ord M) (hv:∀ k,k<M.length→bv M k<6):∀ n r h,r<n→r<M.length+2→6≤lev M r+h→wl M n r≤7*2 ^ h - 6
 | 0,r,h,hr,_,_=>by omega
 | n+1,r,h,hr,hl,hh=>by
   have hp:1≤2 ^ h:=Nat.one_le_two_pow
   unfold wl
   by_cases c1:r<2
   ·rw [if_pos c1];omega
   rw [if_neg c1]
   obtain ⟨k,rfl⟩:∃ k,r=k+2:=⟨r - 2,by omega⟩
   rw [Nat.add_sub_cancel]
   have hb:=hv k (by omega)
   obtain ⟨q1,q2,q3,q4,q5⟩:=ho k (by omega)
   rw [Dg.lev_br] at hh
   obtain ⟨h,rfl⟩:∃ h',h=h'+1:=⟨h - 1,by omega⟩
   have il:=wl_le ho hv n (bl M k) h (by omega) (by omega) (by omega)
   have ih:=wl_le ho hv n (bh M k) h (by omega) (by omega) (by omega)
   have hp2:1≤2 ^ h:=Nat.one_le_two_pow
   rw [Nat.pow_succ]
   repeat' split
   all_goals omega
theorem wr_six {M:List Br} (ho:Ord M) (hv:∀ k,k<M.length→bv M k<6) {r:Nat} (hr:r<M.length+2):WvO [] (wrN M (r+1) r []) (Den M r) (wl M (r+1) r)∧wl M (r+1) r≤442∧okF (wrN M (r+1) r []):=by
 have h:=wr_all ho (r+1) r [] (by omega) hr
 have h2:=wl_le ho hv (r+1) r 6 (by omega) hr (by omega)
 have hl:=h.len
 have hp:=h.pos
 rw [List.length_nil] at hl
 have hm:=h.md [] Md.nil
 exact ⟨h,by omega,md_ok hm (by omega) (by omega)⟩
theorem sz_wl {M:List Br} (ho:Ord M):∀ n r,r<n→r<M.length+2→sz M r≤wl M n r
 | 0,r,h,_=>by omega
 | n+1,r,h,hl=>by
   unfold wl
   by_cases c1:r<2
   ·rw [if_pos c1,sz_low M r c1]
    exact Nat.le_refl _
   rw [if_neg c1]
   obtain ⟨k,rfl⟩:∃ k,r=k+2:=⟨r - 2,by omega⟩
   rw [Nat.add_sub_cancel,sz_br]
   obtain ⟨q1,q2,q3,q4,q5⟩:=ho k (by omega)
   have il:=sz_wl ho n (bl M k) (by omega) (by omega)
   have ih:=sz_wl ho n (bh M k) (by omega) (by omega)
   refine Nat.le_trans (Nat.min_le_left _ _) ?_
   unfold szC
   rw [sz_at M (bl M k) k q2,sz_at M (bh M k) k q3]
   repeat' split
   all_goals omega
end Go.Proofs.YtpaednfinlaioaaGreatDoor
