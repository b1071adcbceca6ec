/-
  Plain mathematics and contracts of package diagram, several texts in one: FMad.
-/
import Derived.Test.YtpaednfinlaioaaGreatDoorFk
import Derived.Test.YtpaednfinlaioaaGreatDoorFu
set_option maxHeartbeats 8000000
set_option maxRecDepth 100000
namespace Go.Proofs.YtpaednfinlaioaaGreatDoor
open Go.Lib (hid)
open Go.RowKit Dg St
set_option linter.unusedVariables false
set_option linter.unusedSimpArgs false
attribute [local go_sem ↓] Go.wp_at_zero Go.wp_at_succ
structure B8 (w:World) (B:Nat) (A:Option Addr) (n:Nat) (l:List Nat):Prop where
 len:l.length=n
 lt:∀ x∈l,x<256
 rd:0<n→∃ b o,A=some ⟨b,o,none⟩∧b<B∧∀ j,j<n→w.cell? ⟨b,o+j,none⟩=some (.int .u8 ((l.getD j 0:Nat):Int))
theorem B8.below {w w':World} {B:Nat} {A:Option Addr} {n:Nat} {l:List Nat} (h:B8 w B A n l) (hb:Below B w w'):B8 w' B A n l :=
 ⟨h.len,h.lt,fun h0=>by
  obtain ⟨b,o,e,hlt,hc⟩:=h.rd h0
  exact ⟨b,o,e,hlt,fun j hj=>(hb.cell (p:=⟨b,o+j,none⟩) hlt).trans (hc j hj)⟩⟩
theorem B8.mono {w:World} {B B':Nat} {A:Option Addr} {n:Nat} {l:List Nat} (h:B8 w B A n l) (hB:B≤B'):B8 w B' A n l :=
 ⟨h.len,h.lt,fun h0=>by
  obtain ⟨b,o,e,hlt,hc⟩:=h.rd h0
  exact ⟨b,o,e,by omega,hc⟩⟩
theorem B8.byte {w:World} {B:Nat} {A:Option Addr} {n:Nat} {l:List Nat} (h:B8 w B A n l) (j:Nat):l.getD j 0<256:=by
 by_cases hj:j<l.length
 ·rw [List.getD_eq_getElem?_getD,List.getElem?_eq_getElem hj]
  exact h.lt _ (List.getElem_mem _)
 ·rw [List.getD_eq_getElem?_getD,List.getElem?_eq_none (by omega)]
  decide
theorem niC_len (z:List Nat):(niC z).length=z.length:=by unfold niC;simp
theorem own_takeV {w:World} {B e n k:Nat} {A:Option Addr} {c:Nat} {xs:List Value} (h:w.ownsRow B e 1 (.slice A n c) n xs) (hl:xs.length=n) (hk:k≤n) (h0:0<n):w.ownsRow B e 1 (.slice A k c) k (xs.take k):=by
 rcases h.2 with ⟨_,e⟩ | ⟨q,cap,cur,e,hB,hq,hc,hm,hsz,ht⟩
 ·omega
 ·injection e with e1 e2 e3
  subst e1;subst e3
  refine ⟨by rw [List.length_take];omega,.inr ⟨q,c,cur,rfl,hB,hq,by omega,hm,hsz,?_⟩⟩
  rw [← ht,List.take_take]
  congr 1
  omega
structure MdI (w wr:World) (vf vr:Value) (N:List Fi) (R:List Nat):Prop where
 f:wr.ownsRow w.heap.size 58 4 vf N.length (fiC N)
 r:wr.ownsRow w.heap.size 3 1 vr R.length (niC R)
 b:Below w.heap.size w wr
section
variable {w wr w6 : World} {vf vr : Value} {N : List Fi} {R : List Nat}
theorem MdI.start (w:World):MdI w w (.slice none 0 0) (.slice none 0 0) [] []:=⟨World.ownsRow_nil _ _ _ _,World.ownsRow_nil _ _ _ _,Below.refl _ _⟩
theorem MdI.alloc (h:MdI w wr vf vr N R) (o:Obj):MdI w (wr.alloc o) vf vr N R:=⟨h.f.alloc o,h.r.alloc o,h.b.alloc h.b.size o⟩
theorem MdI.drew (h:MdI w wr vf vr N R):MdI w wr.drew vf vr N R:=⟨h.f,h.r,h.b.drew⟩
theorem MdI.push {gn cap:Nat} {x:Fi} (h:MdI w wr vf vr N R) (hown:w6.ownsRow w.heap.size 58 4 (.slice (some ⟨gn,0,none⟩) (N.length+1) cap) (N.length+1) (fiC N++c4 x)) (hgr:wr.grownBy w6 vf.ownBlock) :
  MdI w w6 (.slice (some ⟨gn,0,none⟩) (N.length+1) cap) vr (N++[x]) R:=by
 refine ⟨by rw [fiC_snoc,List.length_append];exact hown,?_,h.b.grown hgr h.b.size (fun k hk=>(h.f.lt k hk).1)⟩
 rcases e:vf.ownBlock with _ | k
 ·exact h.r.kept (row:=none) (by rw [← e];exact hgr) (by rcases h0:vr.ownBlock with _ | _ <;> simp)
 ·exact h.r.kept hgr (.inr (by rw [e];exact own_types h.f h.r (by decide) e))
theorem MdI.root {gn cap k:Nat} (h:MdI w wr vf vr N R) (hown:w6.ownsRow w.heap.size 3 1 (.slice (some ⟨gn,0,none⟩) (R.length+1) cap) (R.length+1) (niC R++[.int .i64 (k:Int)])) (hgr:wr.grownBy w6 vr.ownBlock) :
  MdI w w6 vf (.slice (some ⟨gn,0,none⟩) (R.length+1) cap) N (R++[k]):=by
 refine ⟨?_,by rw [niC_snoc,List.length_append];exact hown,h.b.grown hgr h.b.size (fun k hk=>(h.r.lt k hk).1)⟩
 rcases e:vr.ownBlock with _ | k
 ·exact h.f.kept (row:=none) (by rw [← e];exact hgr) (by rcases h0:vf.ownBlock with _ | _ <;> simp)
 ·exact h.f.kept hgr (.inr (by rw [e];exact own_types h.r h.f (by decide) e))
theorem MdI.cut {A:Option Addr} {n c k:Nat} (h:MdI w wr vf (.slice A n c) N R) (hl:R.length=n) (hk:k≤n) (h0:0<n):MdI w wr vf (.slice A k c) N (R.take k):=by
 have hr:=h.r
 rw [hl] at hr
 refine ⟨h.f,?_,h.b⟩
 have:=own_takeV hr (by rw [niC_len];exact hl) hk h0
 have e:niC (R.take k)=(niC R).take k:=by unfold niC;rw [List.map_take]
 rw [e,List.length_take,hl,Nat.min_eq_left hk]
 exact this
theorem MdI.put {q n c k v:Nat} (h:MdI w wr vf (.slice (some ⟨q,0,none⟩) n c) N R) (hl:R.length=n):MdI w (wr.setCell ⟨q,k,none⟩ (.int .i64 (v:Int))) vf (.slice (some ⟨q,0,none⟩) n c) N (R.set k v):=by
 have hr:=h.r
 rw [hl] at hr
 obtain ⟨h1,h2⟩:=hr.stored k (.int .i64 (v:Int))
 refine ⟨h.f.kept h2 (.inr (own_types h.r h.f (by decide) rfl)),?_,h.b.setCell (p:=⟨q,k,none⟩) (h.r.lt q rfl).1 _⟩
 have e:niC (R.set k v)=(niC R).set k (.int .i64 (v:Int)):=by unfold niC;rw [List.map_set]
 rw [e,List.length_set,hl]
 exact h1
end
def mdF (n:Nat) (l:List Nat) (k:Nat):List Fi × List Nat:=(l.take k).foldl (fun s x=>mdS n x s) ([],[])
theorem mdF_succ {n:Nat} {l:List Nat} {k:Nat} (h:k<l.length):mdF n l (k+1)=mdS n (l.getD k 0) (mdF n l k):=by
 unfold mdF
 rw [List.take_succ_eq_append_getElem h,List.foldl_append,List.getD_eq_getElem?_getD,List.getElem?_eq_getElem h]
 rfl
theorem mdF_ms {n:Nat} (hn:1≤n) (hn2:n≤64) (l:List Nat) (k:Nat):Ms (mdF n l k) (0+(l.take k).length) :=
 ms_fold n hn hn2 (l.take k) _ 0 ⟨Md.nil,rfl,Nat.le_refl _,fun h=>absurd rfl h⟩
theorem take_set {R:List Nat} {j v:Nat} (h:R.length=j+1):R.set j v=R.take j++[v]:=by
 apply List.ext_getElem?
 intro i
 rw [List.getElem?_set,List.getElem?_append,List.length_take]
 by_cases q:j=i
 ·subst q
  rw [if_pos rfl,if_pos (by omega),if_neg (by omega)]
  rw [show j - min j R.length=0 by omega];rfl
 ·rw [if_neg q]
  by_cases q2:i<j
  ·rw [if_pos (by omega),List.getElem?_take_of_lt q2]
  ·rw [if_neg (by omega),List.getElem?_eq_none (by omega),List.getElem?_eq_none (by simp;omega)]
structure MdS (w wr:World) (n:Nat) (l:List Nat) (k:Nat) (vf vr:Value) (N:List Fi) (R:List Nat):Prop where
 i:MdI w wr vf vr N R
 e:mdF n l k=(N,R)
 ln:N.length≤40
 lr:R.length≤40
def sLen:Value→Nat
 | .slice _ n _=>n
 | _=>0
theorem mdJ_step {N:List Fi} {R:List Nat} {j:Nat} (h:R.length=j+2):mdJ R.length (N,R)=mdJ (R.take j++[N.length]).length (N++[(5,0,((R.getD j 0:Nat):Int),((R.getD (j+1) 0:Nat):Int))],R.take j++[N.length]):=by
 have e:(R.take j++[N.length]).length=j+1:=by simp [List.length_take,h]
 rw [e,h,mdJ]
 simp only [h]
 rw [if_pos (by omega),show j+2 - 2=j by omega,show j+2 - 1=j+1 by omega]
theorem mdJ_end {N:List Fi} {R:List Nat} (h:R.length=1):mdJ R.length (N,R)=(N,R):=by
 rw [h,mdJ]
 simp only [h]
 rw [if_neg (by omega)]
theorem made_F {n k:Nat} {l:List Nat} (hk:k≤40) (hl:k≤l.length) (he:¬ (k<l.length∧k<40)):made l n=if (mdF n l k).2.length=0 then [(1,0,0,0)] else (mdJ (mdF n l k).2.length (mdF n l k)).1:=by
 have e:l.take 40=l.take k:=by
  by_cases q:k=40
  ·rw [q]
  ·rw [List.take_of_length_le (by omega),List.take_of_length_le (by omega)]
 unfold made mdF
 rw [e]
structure MdT (w wr:World) (F:List Fi) (vf vr:Value) (N:List Fi) (R:List Nat):Prop where
 i:MdI w wr vf vr N R
 e:(mdJ R.length (N,R)).1=F
 l1:1≤R.length
 ln:N.length+R.length≤90
theorem made_ownF (w:World) (B:Nat) (hB:B≤w.heap.size):(w.alloc (.cells #[.int .i64 1,.int .i64 0,.int .i64 0,.int .i64 0] 58)).ownsRow B 58 4 (.slice (some ⟨w.heap.size,0,none⟩) 1 1) 1 (fiC [(1,0,0,0)]):=by
 have:=World.ownsRow_lit (base:=B) (size:=4) (e:=58) w #[.int .i64 1,.int .i64 0,.int .i64 0,.int .i64 0] 1 hB (by unfold maxLen;omega) (by simp)
 exact this
theorem mdS_join {n x j:Nat} {N:List Fi} {R:List Nat} (hR:R.length=j+2) (h:x % 8<3):mdS n x (N,R)=(N++[(4+((x % 8 % 2:Nat):Int),0,((if 7<x % 16 then R.getD (j+1) 0 else R.getD j 0:Nat):Int),((if 7<x % 16 then R.getD j 0 else R.getD (j+1) 0:Nat):Int))],R.take j++[N.length]):=by
 unfold mdS
 simp only [hR]
 rw [if_pos ⟨h,by omega⟩,show j+2 - 1=j+1 by omega,show j+2 - 2=j by omega]
 rfl
theorem mdS_not {n x j:Nat} {N:List Fi} {R:List Nat} (hR:R.length=j+1) (h:x % 8=3):mdS n x (N,R)=(N++[(3,0,((R.getD j 0:Nat):Int),0)],R.set j N.length):=by
 unfold mdS
 simp only [hR]
 rw [if_neg (by omega),if_pos ⟨h,by omega⟩,Nat.add_sub_cancel,take_set hR]
theorem mdS_const {n x:Nat} {N:List Fi} {R:List Nat} (h:x % 8=4) (h2:200<x):mdS n x (N,R)=(N++[(((x % 2:Nat):Int),0,0,0)],R++[N.length]):=by
 unfold mdS
 simp only
 rw [if_neg (by omega),if_neg (by omega),if_pos ⟨h,h2⟩]
theorem mdS_var {n x:Nat} {N:List Fi} {R:List Nat} (h1:¬ (x % 8<3∧1<R.length)) (h2:¬ (x % 8=3∧0<R.length)) (h3:¬ (x % 8=4∧200<x)):mdS n x (N,R)=(N++[(2,((x / 8 % n:Nat):Int),0,0)],R++[N.length]):=by
 unfold mdS
 simp only
 rw [if_neg h1,if_neg h2,if_neg h3]
theorem MdS.mk' {w wr:World} {n:Nat} {l:List Nat} {k:Nat} {vf vr:Value} {N:List Fi} {R:List Nat} (hn1:1≤n) (hn2:n≤64) (hk:k+1≤40) (i:MdI w wr vf vr N R) (e:mdF n l (k+1)=(N,R)):MdS w wr n l (k+1) vf vr N R:=by
 have h:=mdF_ms hn1 hn2 l (k+1)
 rw [e] at h
 have h1:N.length=_:=h.len
 have h2:R.length≤_:=h.few
 have h3:(l.take (k+1)).length≤40:=by rw [List.length_take];omega
 exact ⟨i,e,by omega,by omega⟩
theorem qmade (A:Option Addr) (c nn n:Nat) (l:List Nat) (w:World) (h8:Hid (B8 w w.heap.size A nn l)) (hnn:nn≤9223372036854775807) (hn1:1≤n) (hn2:n≤64) :
  Calls Tryz.prog 8 #[.slice A nn c,.int .i64 (n:Int)] w fun e w'=>∃ A' m c',e=.returned (.slice A' m c')∧(made l n).length=m∧m≤c'∧Rf w' w'.heap.size A' (made l n)∧Below w.heap.size w w':=by
 obtain ⟨i0,hi,hz0,hz1,hz2⟩:=info_parts Tryz.infoFn
 obtain ⟨j0,hj,hj0,hj1,hj2⟩:=info_parts Tryz.infoIntF
 obtain ⟨F,hF0⟩:∃ F,F=made l n:=⟨_,rfl⟩
 rw [← hF0]
 have HF0:=hid hF0
 clear hF0
 have HS0:Hid (MdS w w n l 0 (.slice none 0 0) (.slice none 0 0) [] []):=hid ⟨MdI.start w,rfl,Nat.zero_le _,Nat.zero_le _⟩
 go_enter Tryz.func8,Tryz.ntmps8
 go_wp2
 go_loopw [5,6,7] (fun vf vr i wr=>∃ k N R,k≤40∧k≤nn∧i=.int .i64 (k:Int)∧Hid (MdS w wr n l k vf vr N R)) (fun _ _ i _=>40 - (intOf i).toNat)
 case atStart=>exact ⟨0,[],[],by omega,by omega,rfl,HS0⟩
 case round =>
  clear HS0
  obtain ⟨k,N,R,hk,hkn,rfl,HS⟩:=hrel
  by_cases hlt:k<nn∧k<40
  ·rename ∀ (a:Act) (w:World),Code.wp _ _ _ a w→_=>hKc
   clear hKc
   obtain ⟨hl1,hl2⟩:=hlt
   have i1:(k:Int)<(nn:Int):=by omega
   have i2:(k:Int)<40:=by omega
   have i3:(0:Int)≤(k:Int):=by omega
   obtain ⟨b,o,eA,hb,hc⟩:=(h8.out.below HS.out.i.b).rd (by omega)
   subst eA
   have d0:=hc k hl1
   have hx:=h8.out.byte k
   have HE:=hid (mdF_succ (n:=n) (l:=l) (k:=k) (by rw [h8.out.len];exact hl1))
   clear hc
   generalize l.getD k 0=x at *
   obtain ⟨a,ha⟩:∃ a,N.length=a:=⟨_,rfl⟩
   obtain ⟨AF,cF,ef,hcF,_⟩:=own_form HS.out.i.f
   obtain ⟨AR,cR,er,hcR,hAR⟩:=own_form HS.out.i.r
   rw [ha] at ef
   have HSZ:Hid (w.heap.size≤wr.heap.size):=hid HS.out.i.b.size
   have ha40:a≤40:=by have:=HS.out.ln;omega
   have HOF:Hid (wr.ownsRow w.heap.size 58 4 (.slice AF a cF) a (fiC N)):=hid (by have:=HS.out.i.f;rw [ef,ha] at this;exact this)
   obtain ⟨r,hr⟩:∃ r,r=x % 8:=⟨_,rfl⟩
   have hr8:r<8:=by omega
   have e8:(x:Int).tmod 8=(r:Int):=by rw [Int.tmod_eq_emod_of_nonneg (by omega)];omega
   by_cases cA:r<3∧1<R.length
   ·obtain ⟨cA1,cA2⟩:=cA
    obtain ⟨j,hj9⟩:∃ j,R.length=j+2:=⟨R.length - 2,by omega⟩
    have hj40:j+2≤40:=by have:=HS.out.lr;omega
    have hq:=HE.out
    rw [HS.out.e,mdS_join hj9 (by omega)] at hq
    have hR:=HS.out.i.r
    rw [er,hj9] at hR
    obtain ⟨q,c9,eq9,hc9,_⟩:=World.ownsRow.form hR (by omega)
    rw [hj9] at er hcR
    injection eq9 with eq1 _ eq3
    subst eq1 eq3
    have d1:wr.cell? ⟨q,j,none⟩=some (.int .i64 ((R.getD j 0:Nat):Int)):=(hR.cellAt j (by omega)).trans (niC_at (by omega))
    have d2:wr.cell? ⟨q,j+1,none⟩=some (.int .i64 ((R.getD (j+1) 0:Nat):Int)):=(hR.cellAt (j+1) (by omega)).trans (niC_at (by omega))
    subst ef er
    obtain ⟨r2,hr2⟩:∃ r2,r2=r % 2:=⟨_,rfl⟩
    have hr29:r2≤1:=by omega
    have e2:(r:Int).tmod 2=(r2:Int):=by rw [Int.tmod_eq_emod_of_nonneg (by omega)];omega
    obtain ⟨t,ht⟩:∃ t,t=x % 16:=⟨_,rfl⟩
    have e16:(x:Int).tmod 16=(t:Int):=by rw [Int.tmod_eq_emod_of_nonneg (by omega)];omega
    rw [← ht,← hr,← hr2,ha] at hq
    have HI:=hid HS.out.i
    have HJ:=hid hj9
    have HA:=hid ha
    have g1:(r:Int)<3:=by omega
    have g2:(1:Int)<(j:Int)+2:=by omega
    have i4:(j:Int)≤(cR:Int):=by omega
    have i5:(0:Int)≤(j:Int):=by omega
    generalize R.getD j 0=ra at *
    generalize R.getD (j+1) 0=rb at *
    clear HS HE hr hr2 ht hR hj9 ha cA1 cA2 hc9 hAR hcR hcF
    by_cases sw:7<t
    ·have g3:(7:Int)<(t:Int):=by omega
     rw [if_pos sw,if_pos sw] at hq
     have HQ:=hid hq
     clear hq sw
     go_upto_region 15 with fail
     go_upto_region 16 with (refine wpList_append_lies _ rfl _ _ _ rfl w.heap.size 58 i0 _ 4 32 Tryz.underlying27 hi hz0 hz1 hz2 rfl (by omega) (.slice AF a cF) a (fiC N) rfl (HOF.out.alloc _) _ _ _ (c4 (4+(r2:Int),0,(rb:Int),(ra:Int))) rfl rfl (World.news_of_block (heap_alloc_new _ _)) (by simp [c4,Value.oneCell']) (by omega) (by simp only [maxLen];omega) (by omega) (by have:=HSZ.out;simp;omega) _ rfl ?_;intro gn cap w6 hown hgrow hat hlt)
     have HM6:=hid ((HI.out.alloc _).push (by rw [HA.out];exact hown) hgrow)
     rw [HA.out] at HM6
     have HC6:=hid (HM6.out.cut (k:=j) HJ.out (by omega) (by omega))
     have HSZ6:Hid (w.heap.size≤w6.heap.size):=hid HM6.out.b.size
     have HT:Hid ((R.take j).length=j):=hid (by rw [List.length_take,HJ.out];omega)
     have HOR:Hid (w6.ownsRow w.heap.size 3 1 (.slice (some ⟨q,0,none⟩) j cR) j (niC (R.take j))):=hid (by have:=HC6.out.r;rw [HT.out] at this;exact this)
     clear hown hgrow hat hlt d0 d1 d2 HOF HM6 HI
     go_wp2_with (refine wpList_append_lies _ rfl _ _ _ rfl w.heap.size 3 j0 _ 1 8 Tryz.underlying61 hj hj0 hj1 hj2 rfl (by omega) (.slice (some ⟨q,0,none⟩) j cR) j (niC (R.take j)) rfl (HOR.out.alloc _) _ _ _ [.int .i64 (a:Int)] rfl rfl (World.news_of_block (heap_alloc_new _ _)) (by simp [Value.oneCell']) (by omega) (by simp only [maxLen];omega) (by omega) (by have:=HSZ6.out;simp;omega) _ rfl ?_;intro gn2 cap2 w7 hown2 hgrow2 hat2 hlt2)
     go_roundw
     case rel =>
      have HM7:=(HC6.out.alloc _).root (k:=a) (by rw [HT.out];exact hown2) hgrow2
      rw [HT.out] at HM7
      exact ⟨k+1,_,_,by omega,by omega,by go_num,hid (MdS.mk' hn1 hn2 (by omega) HM7 HQ.out)⟩
     case measure=>simp [intOf];omega
    ·have g3:¬ (7:Int)<(t:Int):=by omega
     rw [if_neg sw,if_neg sw] at hq
     have HQ:=hid hq
     clear hq sw
     go_upto_region 15 with fail
     go_upto_region 16 with (refine wpList_append_lies _ rfl _ _ _ rfl w.heap.size 58 i0 _ 4 32 Tryz.underlying27 hi hz0 hz1 hz2 rfl (by omega) (.slice AF a cF) a (fiC N) rfl (HOF.out.alloc _) _ _ _ (c4 (4+(r2:Int),0,(ra:Int),(rb:Int))) rfl rfl (World.news_of_block (heap_alloc_new _ _)) (by simp [c4,Value.oneCell']) (by omega) (by simp only [maxLen];omega) (by omega) (by have:=HSZ.out;simp;omega) _ rfl ?_;intro gn cap w6 hown hgrow hat hlt)
     have HM6:=hid ((HI.out.alloc _).push (by rw [HA.out];exact hown) hgrow)
     rw [HA.out] at HM6
     have HC6:=hid (HM6.out.cut (k:=j) HJ.out (by omega) (by omega))
     have HSZ6:Hid (w.heap.size≤w6.heap.size):=hid HM6.out.b.size
     have HT:Hid ((R.take j).length=j):=hid (by rw [List.length_take,HJ.out];omega)
     have HOR:Hid (w6.ownsRow w.heap.size 3 1 (.slice (some ⟨q,0,none⟩) j cR) j (niC (R.take j))):=hid (by have:=HC6.out.r;rw [HT.out] at this;exact this)
     clear hown hgrow hat hlt d0 d1 d2 HOF HM6 HI
     go_wp2_with (refine wpList_append_lies _ rfl _ _ _ rfl w.heap.size 3 j0 _ 1 8 Tryz.underlying61 hj hj0 hj1 hj2 rfl (by omega) (.slice (some ⟨q,0,none⟩) j cR) j (niC (R.take j)) rfl (HOR.out.alloc _) _ _ _ [.int .i64 (a:Int)] rfl rfl (World.news_of_block (heap_alloc_new _ _)) (by simp [Value.oneCell']) (by omega) (by simp only [maxLen];omega) (by omega) (by have:=HSZ6.out;simp;omega) _ rfl ?_;intro gn2 cap2 w7 hown2 hgrow2 hat2 hlt2)
     go_roundw
     case rel =>
      have HM7:=(HC6.out.alloc _).root (k:=a) (by rw [HT.out];exact hown2) hgrow2
      rw [HT.out] at HM7
      exact ⟨k+1,_,_,by omega,by omega,by go_num,hid (MdS.mk' hn1 hn2 (by omega) HM7 HQ.out)⟩
     case measure=>simp [intOf];omega
   obtain ⟨b9,hb9⟩:∃ b9,R.length=b9:=⟨_,rfl⟩
   have hb40:b9≤40:=by have:=HS.out.lr;omega
   have HB9:=hid hb9
   have HA:=hid ha
   by_cases cB:r=3∧0<R.length
   ·obtain ⟨cB1,cB2⟩:=cB
    obtain ⟨j,hj9⟩:∃ j,R.length=j+1:=⟨R.length - 1,by omega⟩
    have hj40:j+1≤40:=by have:=HS.out.lr;omega
    have hq:=HE.out
    rw [HS.out.e,mdS_not hj9 (by omega),ha] at hq
    have hR:=HS.out.i.r
    rw [er,hj9] at hR
    obtain ⟨q,c9,eq9,hc9,_⟩:=World.ownsRow.form hR (by omega)
    rw [hj9] at er hcR
    injection eq9 with eq1 _ eq3
    subst eq1 eq3
    have d1:wr.cell? ⟨q,j,none⟩=some (.int .i64 ((R.getD j 0:Nat):Int)):=(hR.cellAt j (by omega)).trans (niC_at (by omega))
    subst ef er
    have HI:=hid HS.out.i
    have HJ:=hid hj9
    have g1:¬ (r:Int)<3:=by omega
    have g2:((r:Int) == 3)=true:=beq_iff_eq.2 (by omega)
    have g3:(0:Int)<(j:Int)+1:=by omega
    have HQ:=hid hq
    have HN:Hid (niC R=niC R):=hid rfl
    obtain ⟨ra,hra⟩:∃ ra,R.getD j 0=ra:=⟨_,rfl⟩
    rw [hra] at d1 HQ
    have HRA:=hid hra
    clear HS HE hr hR hj9 ha cB1 cB2 hc9 hAR hcR hcF hq hra hb9 HB9 hb40 cA
    go_upto_region 18 with fail
    go_upto_region 19 with (refine wpList_append_lies _ rfl _ _ _ rfl w.heap.size 58 i0 _ 4 32 Tryz.underlying27 hi hz0 hz1 hz2 rfl (by omega) (.slice AF a cF) a (fiC N) rfl (HOF.out.alloc _) _ _ _ (c4 (3,0,(ra:Int),0)) rfl rfl (World.news_of_block (heap_alloc_new _ _)) (by simp [c4,Value.oneCell']) (by omega) (by simp only [maxLen];omega) (by omega) (by have:=HSZ.out;simp;omega) _ rfl ?_;intro gn cap w6 hown hgrow hat hlt)
    have HM6:=hid ((HI.out.alloc _).push (by rw [HA.out];exact hown) hgrow)
    rw [HA.out] at HM6
    have hR6:=HM6.out.r
    rw [HJ.out] at hR6
    have d6:w6.cell? ⟨q,j,none⟩=some (.int .i64 (ra:Int)):=(hR6.cellAt j (by omega)).trans ((niC_at (by rw [HJ.out];omega)).trans (by rw [HRA.out]))
    have f6:=hR6.frozenAt j
    have i4:(j:Int)<(j:Int)+1:=by omega
    have i5:(0:Int)≤(j:Int):=by omega
    clear hown hgrow hat hlt d0 d1 HOF HI hR6
    go_wp2
    go_roundw
    case rel =>
     have HM7:=HM6.out.put (k:=j) (v:=a) HJ.out
     exact ⟨k+1,_,_,by omega,by omega,by go_num,hid (MdS.mk' hn1 hn2 (by omega) HM7 HQ.out)⟩
    case measure=>simp [intOf];omega
   rw [hb9] at er
   by_cases cC:r=4∧200<x
   ·obtain ⟨cC1,cC2⟩:=cC
    have hq:=HE.out
    rw [HS.out.e,mdS_const (by omega) cC2,ha] at hq
    subst ef er
    obtain ⟨x2,hx2⟩:∃ x2,x2=x % 2:=⟨_,rfl⟩
    have e2:(x:Int).tmod 2=(x2:Int):=by rw [Int.tmod_eq_emod_of_nonneg (by omega)];omega
    rw [← hx2] at hq
    have HI:=hid HS.out.i
    have g1:¬ (r:Int)<3:=by omega
    have g2:((r:Int) == 3)=false:=beq_eq_false_iff_ne.2 (by omega)
    have g3:((r:Int) == 4)=true:=beq_iff_eq.2 (by omega)
    have g4:(200:Int)<(x:Int):=by omega
    have HQ:=hid hq
    clear HS HE hr ha cC1 cC2 hAR hcR hcF hq hb9 cA cB hx2
    go_upto_region 21 with fail
    go_upto_region 22 with (refine wpList_append_lies _ rfl _ _ _ rfl w.heap.size 58 i0 _ 4 32 Tryz.underlying27 hi hz0 hz1 hz2 rfl (by omega) (.slice AF a cF) a (fiC N) rfl (HOF.out.alloc _) _ _ _ (c4 ((x2:Int),0,0,0)) rfl rfl (World.news_of_block (heap_alloc_new _ _)) (by simp [c4,Value.oneCell']) (by omega) (by simp only [maxLen];omega) (by omega) (by have:=HSZ.out;simp;omega) _ rfl ?_;intro gn cap w6 hown hgrow hat hlt)
    have HM6:=hid ((HI.out.alloc _).push (by rw [HA.out];exact hown) hgrow)
    rw [HA.out] at HM6
    have HSZ6:Hid (w.heap.size≤w6.heap.size):=hid HM6.out.b.size
    have HOR:Hid (w6.ownsRow w.heap.size 3 1 (.slice AR b9 cR) b9 (niC R)):=hid (by have:=HM6.out.r;rw [HB9.out] at this;exact this)
    clear hown hgrow hat hlt d0 HOF HI
    go_wp2_with (refine wpList_append_lies _ rfl _ _ _ rfl w.heap.size 3 j0 _ 1 8 Tryz.underlying61 hj hj0 hj1 hj2 rfl (by omega) (.slice AR b9 cR) b9 (niC R) rfl (HOR.out.alloc _) _ _ _ [.int .i64 (a:Int)] rfl rfl (World.news_of_block (heap_alloc_new _ _)) (by simp [Value.oneCell']) (by omega) (by simp only [maxLen];omega) (by omega) (by have:=HSZ6.out;simp;omega) _ rfl ?_;intro gn2 cap2 w7 hown2 hgrow2 hat2 hlt2)
    go_roundw
    case rel =>
     have HM7:=(HM6.out.alloc _).root (k:=a) (by rw [HB9.out];exact hown2) hgrow2
     rw [HB9.out] at HM7
     exact ⟨k+1,_,_,by omega,by omega,by go_num,hid (MdS.mk' hn1 hn2 (by omega) HM7 HQ.out)⟩
    case measure=>simp [intOf];omega
   have hq:=HE.out
   rw [HS.out.e,mdS_var (by omega) (by omega) (by omega),ha] at hq
   subst ef er
   obtain ⟨xd,hxd⟩:∃ xd,xd=x / 8:=⟨_,rfl⟩
   have ed:(x:Int).tdiv 8=(xd:Int):=by rw [Int.tdiv_eq_ediv_of_nonneg (by omega)];omega
   obtain ⟨v,hv⟩:∃ v,v=xd % n:=⟨_,rfl⟩
   have ev:(xd:Int).tmod (n:Int)=(v:Int):=by rw [Int.tmod_eq_emod_of_nonneg (by omega),hv];rfl
   have hv64:v<64:=by have:=Nat.mod_lt xd (show 0<n by omega);omega
   have hn0:¬ (n:Int)=0:=by omega
   rw [← hxd,← hv] at hq
   have HI:=hid HS.out.i
   have HQ:=hid hq
   have hxd31:xd≤31:=by omega
   have cs:(((r:Int)<3∧¬ (1:Int)<(b9:Int)∧((r:Int) == 3)=false∧((r:Int) == 4)=false)∨(¬ (r:Int)<3∧((r:Int) == 3)=true∧¬ (0:Int)<(b9:Int)∧((r:Int) == 4)=false))∨((¬ (r:Int)<3∧((r:Int) == 3)=false∧((r:Int) == 4)=true∧¬ (200:Int)<(x:Int))∨(¬ (r:Int)<3∧((r:Int) == 3)=false∧((r:Int) == 4)=false∧True)):=by
    simp only [beq_iff_eq,beq_eq_false_iff_ne,ne_eq,and_true]
    omega
   clear HS HE hr ha hAR hcR hcF hq hb9 cA cB cC hxd hv
   rcases cs with (⟨g1,g2,g3,g4⟩ | ⟨g1,g2,g3,g4⟩) | (⟨g1,g2,g3,g4⟩ | ⟨g1,g2,g3,g4⟩)
   all_goals
    go_upto_region 8 with fail
    go_upto_region 9 with (refine wpList_append_lies _ rfl _ _ _ rfl w.heap.size 58 i0 _ 4 32 Tryz.underlying27 hi hz0 hz1 hz2 rfl (by omega) (.slice AF a cF) a (fiC N) rfl (HOF.out.alloc _) _ _ _ (c4 (2,(v:Int),0,0)) rfl rfl (World.news_of_block (heap_alloc_new _ _)) (by simp [c4,Value.oneCell']) (by omega) (by simp only [maxLen];omega) (by omega) (by have:=HSZ.out;simp;omega) _ rfl ?_;intro gn cap w6 hown hgrow hat hlt)
    have HM6:=hid ((HI.out.alloc _).push (by rw [HA.out];exact hown) hgrow)
    rw [HA.out] at HM6
    have HSZ6:Hid (w.heap.size≤w6.heap.size):=hid HM6.out.b.size
    have HOR:Hid (w6.ownsRow w.heap.size 3 1 (.slice AR b9 cR) b9 (niC R)):=hid (by have:=HM6.out.r;rw [HB9.out] at this;exact this)
    clear hown hgrow hat hlt d0 HOF HI
    go_wp2_with (refine wpList_append_lies _ rfl _ _ _ rfl w.heap.size 3 j0 _ 1 8 Tryz.underlying61 hj hj0 hj1 hj2 rfl (by omega) (.slice AR b9 cR) b9 (niC R) rfl (HOR.out.alloc _) _ _ _ [.int .i64 (a:Int)] rfl rfl (World.news_of_block (heap_alloc_new _ _)) (by simp [Value.oneCell']) (by omega) (by simp only [maxLen];omega) (by omega) (by have:=HSZ6.out;simp;omega) _ rfl ?_;intro gn2 cap2 w7 hown2 hgrow2 hat2 hlt2)
    go_roundw
    case rel =>
     have HM7:=(HM6.out.alloc _).root (k:=a) (by rw [HB9.out];exact hown2) hgrow2
     rw [HB9.out] at HM7
     exact ⟨k+1,_,_,by omega,by omega,by go_num,hid (MdS.mk' hn1 hn2 (by omega) HM7 HQ.out)⟩
    case measure=>simp [intOf];omega
  ·have hF:=made_F (n:=n) hk (by rw [h8.out.len];exact hkn) (by rw [h8.out.len];exact hlt)
   rw [HS.out.e,← HF0.out] at hF
   dsimp only at hF
   obtain ⟨a,ha⟩:∃ a,N.length=a:=⟨_,rfl⟩
   obtain ⟨b9,hb9⟩:∃ b9,R.length=b9:=⟨_,rfl⟩
   obtain ⟨AF,cF,ef,hcF,_⟩:=own_form HS.out.i.f
   obtain ⟨AR,cR,er,hcR,hAR⟩:=own_form HS.out.i.r
   rw [ha] at ef
   rw [hb9] at er
   subst ef er
   have HI:=hid HS.out.i
   have HLN:Hid (N.length+R.length≤80):=hid (by have:=HS.out.ln;have:=HS.out.lr;omega)
   have ha40:a≤40:=by have:=HS.out.ln;omega
   have hb40:b9≤40:=by have:=HS.out.lr;omega
   have i3:(0:Int)≤(k:Int):=by omega
   have HA:=hid ha
   have HB9:=hid hb9
   have hcs:(¬ (k:Int)<(nn:Int)∧True)∨((k:Int)<(nn:Int)∧¬ (k:Int)<40):=by
    simp only [and_true]
    omega
   clear HS hAR hcF hcR ha hb9 hlt
   by_cases hz:b9=0
   ·have e0:F=[(1,0,0,0)]:=by rw [hF,if_pos (HB9.out.trans hz)]
    have HE0:=hid e0
    subst hz
    have HO:=hid (made_ownF wr w.heap.size HI.out.b.size)
    have HB:=hid (HI.out.b.alloc HI.out.b.size (.cells #[.int .i64 1,.int .i64 0,.int .i64 0,.int .i64 0] 58))
    clear e0 hF
    rcases hcs with ⟨g1,g2⟩ | ⟨g1,g2⟩
    all_goals
     go_wp2
     go_ret
     obtain ⟨A',c',ev,hc',hrf,_⟩:=rf_own HO.out rfl
     injection ev with ev1 _ ev3
     subst ev1 ev3
     rw [HE0.out]
     exact ⟨_,1,1,rfl,rfl,Nat.le_refl _,hrf,HB.out⟩
   have HT:Hid (MdT w wr F (.slice AF a cF) (.slice AR b9 cR) N R):=hid ⟨HI.out,by rw [hF,if_neg (by rw [HB9.out];exact hz)],by rw [HB9.out];omega,by have:=HLN.out;omega⟩
   have g3:((b9:Int) == 0)=false:=beq_eq_false_iff_ne.2 (by omega)
   clear hF HI HLN HA HB9 hz
   rcases hcs with ⟨g1,g2⟩ | ⟨g1,g2⟩
   all_goals
    go_wp2
    clear i3 g1 g2 g3 ha40 hb40 hk hkn
    go_loopw [5,6] (fun vf vr wr=>∃ N R,Hid (MdT w wr F vf vr N R)) (fun _ vr _=>sLen vr)
    case atStart=>exact ⟨_,_,HT⟩
    case round =>
     clear HT N R
     obtain ⟨N,R,HT⟩:=hrel
     obtain ⟨a,ha⟩:∃ a,N.length=a:=⟨_,rfl⟩
     obtain ⟨AF,cF,ef,hcF,_⟩:=own_form HT.out.i.f
     obtain ⟨AR,cR,er,hcR,_⟩:=own_form HT.out.i.r
     rw [ha] at ef hcF
     have HLN:=hid HT.out.ln
     have ha90:a≤90:=by have:=HT.out.ln;omega
     have HSZ:Hid (w.heap.size≤wr.heap.size):=hid HT.out.i.b.size
     by_cases hb:1<R.length
     ·obtain ⟨j,hj9⟩:∃ j,R.length=j+2:=⟨R.length - 2,by omega⟩
      have hj90:j+2≤90:=by have:=HT.out.ln;omega
      have HE:=hid ((mdJ_step hj9).symm ▸ HT.out.e)
      have hR:=HT.out.i.r
      rw [er,hj9] at hR
      obtain ⟨q,c9,eq9,hc9,_⟩:=World.ownsRow.form hR (by omega)
      rw [hj9] at er hcR
      injection eq9 with eq1 _ eq3
      subst eq1 eq3
      have d1:wr.cell? ⟨q,j,none⟩=some (.int .i64 ((R.getD j 0:Nat):Int)):=(hR.cellAt j (by omega)).trans (niC_at (by omega))
      have d2:wr.cell? ⟨q,j+1,none⟩=some (.int .i64 ((R.getD (j+1) 0:Nat):Int)):=(hR.cellAt (j+1) (by omega)).trans (niC_at (by omega))
      have hql:q<wr.heap.size:=(hR.lt q rfl).2
      subst ef er
      have HI:=hid HT.out.i
      have HOF:Hid (wr.ownsRow w.heap.size 58 4 (.slice AF a cF) a (fiC N)):=hid (by have:=HT.out.i.f;rw [ha] at this;exact this)
      have HJ:=hid hj9
      have HA:=hid ha
      have g2:(1:Int)<(j:Int)+2:=by omega
      have i4:(j:Int)≤(cR:Int):=by omega
      have i5:(0:Int)≤(j:Int):=by omega
      rw [ha] at HE
      generalize R.getD j 0=ra at *
      generalize R.getD (j+1) 0=rb at *
      clear HT hR hj9 ha hc9 hcR hcF hb
      have hqn:¬ q=wr.heap.size:=by omega
      have i6:(j:Int)<(j:Int)+2:=by omega
      have i7:(j:Int)+1<(j:Int)+2:=by omega
      have i8:(0:Int)≤(j:Int)+1:=by omega
      have i9:((j:Int)+1).toNat=j+1:=by omega
      have w1:IntKind.i64.wrap (j:Int)=(j:Int):=by rw [IntKind.wrap_i64];omega
      have w2:IntKind.i64.wrap ((j:Int)+2 - 1)=(j:Int)+1:=by rw [IntKind.wrap_i64];omega
      go_upto_region 27 with fail
      go_region_law ((refine step_append_lies _ (by rfl) _ _ _ (by rfl) w.heap.size 58 i0 _ 4 32 Tryz.underlying27 hi hz0 hz1 hz2 rfl (by omega) (.slice AF a cF) a (fiC N) (by rfl) (by first | exact HOF.out.alloc_own _ | exact HOF.out.alloc_own2 _) _ _ _ (c4 (5,0,(ra:Int),(rb:Int))) (by rfl) (by rfl) (World.news_of_block (heap_alloc_new _ _)) (by simp [c4,Value.oneCell']) (by omega) (by simp only [maxLen];omega) (by omega) (by have:=HSZ.out;simp;omega) _ rfl ?_;intro gn cap w6 hown hgrow hat hlt))
      all_goals
       have HM6:Hid (MdI w w6 (.slice (some ⟨gn,0,none⟩) (a+1) cap) (.slice (some ⟨q,0,none⟩) (j+2) cR) (N++[(5,0,(ra:Int),(rb:Int))]) R):=hid (by
        rw [← HA.out] at hown ⊢
        first | exact ((HI.out.alloc _).drew).push hown hgrow | exact (HI.out.drew.alloc _).push hown hgrow)
       have HC6:=hid (HM6.out.cut (k:=j) HJ.out (by omega) (by omega))
       have HSZ6:Hid (w.heap.size≤w6.heap.size):=hid HM6.out.b.size
       have HT:Hid ((R.take j).length=j):=hid (by rw [List.length_take,HJ.out];omega)
       have HOR:Hid (w6.ownsRow w.heap.size 3 1 (.slice (some ⟨q,0,none⟩) j cR) j (niC (R.take j))):=hid (by have:=HC6.out.r;rw [HT.out] at this;exact this)
       clear hown hgrow hat hlt d1 d2 HOF HM6 HI
       go_wp2_with (refine wpList_append_lies _ rfl _ _ _ rfl w.heap.size 3 j0 _ 1 8 Tryz.underlying61 hj hj0 hj1 hj2 rfl (by omega) (.slice (some ⟨q,0,none⟩) j cR) j (niC (R.take j)) rfl (HOR.out.alloc _) _ _ _ [.int .i64 (a:Int)] rfl rfl (World.news_of_block (heap_alloc_new _ _)) (by simp [Value.oneCell']) (by omega) (by simp only [maxLen];omega) (by omega) (by have:=HSZ6.out;simp;omega) _ rfl ?_;intro gn2 cap2 w7 hown2 hgrow2 hat2 hlt2)
       go_roundw
       case rel =>
        have HM7:=(HC6.out.alloc _).root (k:=a) (by rw [HT.out];exact hown2) hgrow2
        rw [HT.out] at HM7
        exact ⟨_,_,hid ⟨HM7,HE.out,by simp,by have:=HLN.out;have:=HJ.out;have:=HT.out;have:=HA.out;simp;omega⟩⟩
       case measure=>simp [sLen]
     ·have hb1:R.length=1:=by have:=HT.out.l1;omega
      have hN:N=F:=by have:=HT.out.e;rw [mdJ_end hb1] at this;exact this
      rw [hb1] at er
      subst ef er
      have HO:Hid (wr.ownsRow w.heap.size 58 4 (.slice AF a cF) a (fiC F)):=hid (by have:=HT.out.i.f;rw [hN,← hN,ha] at this;rw [hN] at this;exact this)
      have HB:=hid HT.out.i.b
      have HA:Hid (F.length=a):=hid (by rw [← hN];exact ha)
      have HCF:=hid hcF
      clear HT hb hb1 hN ha hcR hcF HLN
      go_wp2
      go_ret
      obtain ⟨A',c',ev,hc',hrf,_⟩:=rf_own HO.out HA.out
      injection ev with ev1 _ ev3
      subst ev1 ev3
      exact ⟨_,a,_,rfl,HA.out,HCF.out,hrf,HB.out⟩
end Go.Proofs.YtpaednfinlaioaaGreatDoor
