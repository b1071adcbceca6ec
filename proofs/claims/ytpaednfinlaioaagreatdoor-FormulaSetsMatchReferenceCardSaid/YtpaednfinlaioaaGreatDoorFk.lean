/-
  Plain mathematics and contracts of package diagram, several texts in one: FOpd, FExp, FPrs.
-/
import Derived.Test.YtpaednfinlaioaaGreatDoorFj
import Derived.Defers
import Derived.Recover
set_option maxHeartbeats 8000000
set_option maxRecDepth 100000
namespace Go.Proofs.YtpaednfinlaioaaGreatDoor
open Go.Lib (hid)
open Go.RowKit Dg St
set_option linter.unusedVariables false
set_option linter.unusedSimpArgs false
attribute [local go_sem ↓] Go.wp_at_zero Go.wp_at_succ
def PSm (s:PSt):Prop:=s.wait.length+s.rest.length≤4000000000000
theorem nxt_len {l t u:List UInt8} (h:nxt l=some (t,u)):t.length+u.length≤l.length:=by
 rw [nxt_eq] at h
 rcases q:tkN (l.dropWhile blk8) with _ | n
 ·rw [q] at h;cases h
 ·rw [q] at h
  injection h with h
  injection h with h1 h2
  subst h1;subst h2
  have:=(List.dropWhile_suffix blk8 (l:=l)).length_le
  rw [List.length_take,List.length_drop]
  omega
theorem add_sm {op v:Int} {s s':PSt} (e:add op v s=.ok s') (h:PSm s):PSm s':=by
 obtain ⟨a,b,_⟩:=add_wait e
 unfold PSm at *
 rw [a,b];exact h
theorem app_sm {op:Int} {s s':PSt} (e:app op s.wait.length s=.ok s') (h:PSm s):PSm s':=by
 obtain ⟨a,b,_⟩:=app_mono e rfl
 unfold PSm at *
 rw [b];omega
theorem wrd_sm {L:List (List UInt8)} {t:List UInt8} {s s':PSt} (e:wrd L t s=.ok s') (h:PSm s):PSm s':=by
 unfold wrd at e
 split at e
 ·exact add_sm e h
 ·split at e
  ·exact add_sm e h
  ·exact add_sm e h
theorem addN_ne (op v:Int) (l:List Fi) (z:List Nat):addN op v l z≠.syn:=by
 unfold addN
 intro q
 by_cases h0:512<l.length
 ·rw [if_pos h0] at q;cases q
 rw [if_neg h0] at q
 by_cases h1:ar op=0
 ·simp only [if_pos h1] at q;cases q
 simp only [if_neg h1] at q
 by_cases h2:l.length=0
 ·simp only [if_pos h2] at q;cases q
 simp only [if_neg h2] at q
 by_cases h3:ar op=1
 ·simp only [if_pos h3] at q;cases q
 simp only [if_neg h3] at q
 by_cases h4:l.length - 1<z.getD (l.length - 1) 0
 ·simp only [if_pos h4] at q;cases q
 ·simp only [if_neg h4] at q;cases q
theorem add_ne (op v:Int) (s:PSt):add op v s≠.syn:=by
 rw [add_eq]
 intro q
 rcases e:addN op v s.nodes s.sizes with p | _ | _
 ·rw [e] at q;cases q
 ·exact addN_ne _ _ _ _ e
 ·rw [e] at q;cases q
theorem wrd_ne (L:List (List UInt8)) (t:List UInt8) (s:PSt):wrd L t s≠.syn:=by
 unfold wrd
 split
 ·exact add_ne _ _ _
 ·split
  ·exact add_ne _ _ _
  ·exact add_ne _ _ _
def OpR (w w':World) (B g:Nat) (vn:Value) (R:POut PSt) (e:Ending):Prop:=match R with
 | .ok s'=>e=.returned (.tuple #[])∧PaO w w' B g vn s'
 | .syn=>e=pnE 31∧Below B w w'
 | .bad=>False
theorem opnd_succ (L:List (List UInt8)) (n:Nat) (s:PSt):opnd L (n+1) s=match nxt s.rest with
  | none=>.syn
  | some (t,r)=>if t=[33] then opnd L n { s with rest:=r,wait:=s.wait++[3] } else if t=[40] then opnd L n { s with rest:=r,wait:=s.wait++[-1] } else
    if t=[38,38]∨t=[124,124]∨t=[41]∨t=[] then .syn else wrd L t { s with rest:=r }:=rfl
theorem optr_succ (n:Nat) (s:PSt):optr (n+1) s=match nxt s.rest with
  | none=>.syn
  | some (t,r)=>if t=[41] then (app 5 s.wait.length { s with rest:=r }).bind fun s=>if s.wait.length=0 then .syn else optr n { s with wait:=s.wait.take (s.wait.length - 1) } else
    if t=[38,38] then (awt 4 { s with rest:=r }).bind fun s=>.ok (s,true) else
    if t=[124,124] then (awt 5 { s with rest:=r }).bind fun s=>.ok (s,true) else
    if t=[] then (app 5 s.wait.length { s with rest:=r }).bind fun s=>if 0<s.wait.length then .syn else .ok (s,false) else .syn:=rfl
structure OpI (w wr:World) (B g:Nat) (vn:Value) (L:List (List UInt8)) (n:Nat) (R:POut PSt):Prop where
 ex:∃ st,PaS wr B g vn st∧PSm st∧opnd L n st=R
 bel:Below B w wr
 siz:w.heap.size≤wr.heap.size
theorem popnd_any (B g n nc:Nat) (NA:Option Addr) (L:List ByteArray) (s:PSt) (R:POut PSt) (F:Nat) (w:World) (h:Hid (PaS w B g (.slice NA n nc) s)) (hsm:Hid (PSm s)) (hL:Hid (L.length=n)) (hn:n≤1000000) (hr:Hid (Rstr w B NA L)) (e:Hid (opnd (L8 L) F s=R)) (hnb:Hid (R≠.bad)) :
  Calls Tryz.prog 97 #[.pointer (some ⟨g,0,none⟩)] w fun e w'=>OpR w w' B g (.slice NA n nc) R e:=by
 obtain ⟨j0,hj,hj0,hj1,hj2⟩:=info_parts Tryz.infoIntF
 have HI0:Hid (OpI w w B g (.slice NA n nc) (L8 L) F R):=hid ⟨⟨s,h.out,hsm.out,e.out⟩,Below.refl B w,Nat.le_refl _⟩
 clear h hsm e
 go_enter Tryz.func97,Tryz.ntmps97
 go_wp2
 go_loopg [2] F (fun gh tk wr=>Hid (OpI w wr B g (.slice NA n nc) (L8 L) gh R))
 case atStart=>exact HI0
 case round =>
  clear HI0
  rename_i tk0
  obtain ⟨⟨st,hs,hsm,he⟩,hbel,hsiz⟩:=hrel.out
  have HBL:=hid hbel
  have HSZ:=hid hsiz
  have HSM:=hid hsm
  have HRr:=hid (hr.out.below hbel)
  rcases gk with _ | fu
  ·exact absurd he.symm hnb.out
  have HNX:=hid (pnext_any B g (.slice NA n nc) st wr (hid hs))
  have HE:=hid he
  clear hrel hbel hsiz hsm hs he
  rw [opnd_succ] at HE
  go_wp2_with fail
  with_reducible refine HNX.out.mono ?_
  rintro e w2 hnx
  unfold NxR at hnx
  rcases q:nxt st.rest with _ | ⟨t,u⟩
  ·rw [q] at hnx HE
   obtain ⟨he,hb2⟩:=hnx
   replace he:e=.panicked [{ v:=.iface 32 (.int .i64 31),recovered:=false }]:=he
   subst he
   have HN:Hid (OpR w w2 B g (.slice NA n nc) R (.panicked [{ v:=.iface 32 (.int .i64 31),recovered:=false }])):=hid (by
    rw [← HE.out]
    exact ⟨rfl,HBL.out.trans hb2⟩)
   clear q hb2 HE HNX
   go_wp2
   exact ⟨rfl,HN.out⟩
  rw [q] at hnx HE
  obtain ⟨⟨tb,he,htb⟩,hs2,hb2,hz2⟩:=hnx
  subst he
  replace HE:Hid ((if t=[33] then opnd (L8 L) fu { st with rest:=u,wait:=st.wait++[3] } else if t=[40] then opnd (L8 L) fu { st with rest:=u,wait:=st.wait++[-1] } else
   if t=[38,38]∨t=[124,124]∨t=[41]∨t=[] then .syn else wrd (L8 L) t { st with rest:=u })=R):=HE
  have HLN:=hid (nxt_len q)
  have HB2:=hid (HBL.out.trans hb2)
  have HZ2:=hid (Nat.le_trans HSZ.out hz2)
  have HR2:=hid (HRr.out.below hb2)
  obtain ⟨r,vw,vf,vs,m⟩:=hs2
  clear q hb2 hz2 HNX HRr HBL HSZ
  have htl:tb.toList=t:=by rw [ByteArray.toList_eq];exact htb
  by_cases c1:t=[33]
  ·subst c1
   rw [if_pos rfl] at HE
   have b1:(tb.toList == [33])=true:=beq_iff_eq.2 htl
   have HWL:Hid (st.wait.length<4000000000000):=hid (by have a:=HLN.out;have b:=HSM.out;unfold PSm at b;simp at a;omega)
   have HSP:Hid (PSm { st with rest:=u,wait:=st.wait++[3] }):=hid (by have a:=HLN.out;have b:=HSM.out;unfold PSm at *;simp at *;omega)
   clear htl htb
   obtain ⟨A2,c4,ew,hc4,_⟩:=own_form m.rw
   replace ew:vw=.slice A2 st.wait.length c4:=ew
   subst ew
   have c2:=m.cw
   have f2:=m.fw
   have hgl:=m.lt
   have hgb:=m.po.gb
   have HO:Hid (w2.ownsRow B 3 1 (.slice A2 st.wait.length c4) st.wait.length (iiC st.wait)):=hid m.rw
   have HM:=hid m
   have hvw:(Value.slice A2 st.wait.length c4).ownBlock≠some g:=m.gw
   have hwl:st.wait.length<4000000000000:=HWL.out
   have hgn:¬ g=w2.heap.size:=by omega
   clear m hc4
   go_wp2_with (refine wpList_append_lies _ rfl _ _ _ rfl B 3 j0 _ 1 8 Tryz.underlying61 hj hj0 hj1 hj2 rfl (by omega) (.slice A2 st.wait.length c4) st.wait.length (iiC st.wait) rfl (HO.out.alloc _) _ _ _ [.int .i64 3] rfl rfl (World.news_of_block (heap_alloc_new _ _)) (by simp [Value.oneCell']) (by omega) (by simp only [maxLen];omega) (by omega) (by simp;omega) _ rfl ?_;intro gn2 cap2 w6 hown2 hgrow2 hat2 hlt2;have d2:=(hgrow2.cell_far ⟨g,2,none⟩ (by simp;omega) (Ne.symm hvw)).trans (show _=some (Value.slice A2 st.wait.length c4) by go_simp);have e2:=(hgrow2.frozen_far ⟨g,2,none⟩ (by simp;omega) (Ne.symm hvw)).trans (show _=false by go_simp))
   have hP:=HM.out.push ((Below.refl _ _).alloc (Nat.le_refl _) _) hown2 hgrow2 (hat2.imp id (fun e=>by rw [e];simp)) hwl
   have hPB:=HM.out.pushB (g:=g) ((Below.refl _ _).alloc (Nat.le_refl _) _) hgrow2 (.slice (some ⟨gn2,0,none⟩) (st.wait.length+1) cap2)
   have HI3:Hid (OpI w (w6.setCell ⟨g,2,none⟩ (.slice (some ⟨gn2,0,none⟩) (st.wait.length+1) cap2)) B g (.slice NA n nc) (L8 L) fu R):=hid ⟨⟨_,⟨_,_,_,_,hP⟩,HSP.out,HE.out⟩,HB2.out.trans hPB,by have q1:=HZ2.out;have q2:=hgrow2.size;simp at q2;simp;omega⟩
   clear hown2 hgrow2 hat2 hlt2 d2 e2 hP hPB c2 f2
   go_roundg fu
   case measure=>omega
   case rel=>exact HI3
  have b1:(tb.toList == [33])=false:=beq_eq_false_iff_ne.2 (by rw [htl];exact c1)
  rw [if_neg c1] at HE
  by_cases c2:t=[40]
  ·subst c2
   rw [if_pos rfl] at HE
   have b2:(tb.toList == [40])=true:=beq_iff_eq.2 htl
   have HWL:Hid (st.wait.length<4000000000000):=hid (by have a:=HLN.out;have b:=HSM.out;unfold PSm at b;simp at a;omega)
   have HSP:Hid (PSm { st with rest:=u,wait:=st.wait++[-1] }):=hid (by have a:=HLN.out;have b:=HSM.out;unfold PSm at *;simp at *;omega)
   clear htl htb c1
   obtain ⟨A2,c4,ew,hc4,_⟩:=own_form m.rw
   replace ew:vw=.slice A2 st.wait.length c4:=ew
   subst ew
   have c2:=m.cw
   have f2:=m.fw
   have hgl:=m.lt
   have hgb:=m.po.gb
   have HO:Hid (w2.ownsRow B 3 1 (.slice A2 st.wait.length c4) st.wait.length (iiC st.wait)):=hid m.rw
   have HM:=hid m
   have hvw:(Value.slice A2 st.wait.length c4).ownBlock≠some g:=m.gw
   have hwl:st.wait.length<4000000000000:=HWL.out
   have hgn:¬ g=w2.heap.size:=by omega
   clear m hc4
   go_wp2_with (refine wpList_append_lies _ rfl _ _ _ rfl B 3 j0 _ 1 8 Tryz.underlying61 hj hj0 hj1 hj2 rfl (by omega) (.slice A2 st.wait.length c4) st.wait.length (iiC st.wait) rfl (HO.out.alloc _) _ _ _ [.int .i64 (-1)] rfl rfl (World.news_of_block (heap_alloc_new _ _)) (by simp [Value.oneCell']) (by omega) (by simp only [maxLen];omega) (by omega) (by simp;omega) _ rfl ?_;intro gn2 cap2 w6 hown2 hgrow2 hat2 hlt2;have d2:=(hgrow2.cell_far ⟨g,2,none⟩ (by simp;omega) (Ne.symm hvw)).trans (show _=some (Value.slice A2 st.wait.length c4) by go_simp);have e2:=(hgrow2.frozen_far ⟨g,2,none⟩ (by simp;omega) (Ne.symm hvw)).trans (show _=false by go_simp))
   have hP:=HM.out.push ((Below.refl _ _).alloc (Nat.le_refl _) _) hown2 hgrow2 (hat2.imp id (fun e=>by rw [e];simp)) hwl
   have hPB:=HM.out.pushB (g:=g) ((Below.refl _ _).alloc (Nat.le_refl _) _) hgrow2 (.slice (some ⟨gn2,0,none⟩) (st.wait.length+1) cap2)
   have HI3:Hid (OpI w (w6.setCell ⟨g,2,none⟩ (.slice (some ⟨gn2,0,none⟩) (st.wait.length+1) cap2)) B g (.slice NA n nc) (L8 L) fu R):=hid ⟨⟨_,⟨_,_,_,_,hP⟩,HSP.out,HE.out⟩,HB2.out.trans hPB,by have q1:=HZ2.out;have q2:=hgrow2.size;simp at q2;simp;omega⟩
   clear hown2 hgrow2 hat2 hlt2 d2 e2 hP hPB c2 f2
   go_roundg fu
   case measure=>omega
   case rel=>exact HI3
  have b2:(tb.toList == [40])=false:=beq_eq_false_iff_ne.2 (by rw [htl];exact c2)
  rw [if_neg c2] at HE
  have HSU:Hid (PSm { st with rest:=u }):=hid (by have a:=HLN.out;have b:=HSM.out;unfold PSm at *;simp at *;omega)
  by_cases c3:t=[38,38]∨t=[124,124]∨t=[41]∨t=[]
  ·rw [if_pos c3] at HE
   have HN:Hid (OpR w w2 B g (.slice NA n nc) R (.panicked [{ v:=.iface 32 (.int .i64 31),recovered:=false }])):=hid (by
    rw [← HE.out]
    exact ⟨rfl,HB2.out⟩)
   clear HE m HR2 HSM hnb HSU
   rcases c3 with c3 | c3 | c3 | c3
   ·have b3:(tb.toList == [38,38])=true:=beq_iff_eq.2 (htl.trans c3)
    clear htl htb c1 c2 c3
    go_wp2
    exact ⟨rfl,HN.out⟩
   ·have b3:(tb.toList == [38,38])=false:=beq_eq_false_iff_ne.2 (by rw [htl,c3];decide)
    have b4:(tb.toList == [124,124])=true:=beq_iff_eq.2 (htl.trans c3)
    clear htl htb c1 c2 c3
    go_wp2
    exact ⟨rfl,HN.out⟩
   ·have b3:(tb.toList == [38,38])=false:=beq_eq_false_iff_ne.2 (by rw [htl,c3];decide)
    have b4:(tb.toList == [124,124])=false:=beq_eq_false_iff_ne.2 (by rw [htl,c3];decide)
    have b5:(tb.toList == [41])=true:=beq_iff_eq.2 (htl.trans c3)
    clear htl htb c1 c2 c3
    go_wp2
    exact ⟨rfl,HN.out⟩
   ·have b3:(tb.toList == [38,38])=false:=beq_eq_false_iff_ne.2 (by rw [htl,c3];decide)
    have b4:(tb.toList == [124,124])=false:=beq_eq_false_iff_ne.2 (by rw [htl,c3];decide)
    have b5:(tb.toList == [41])=false:=beq_eq_false_iff_ne.2 (by rw [htl,c3];decide)
    have b6:(tb.toList == [])=true:=beq_iff_eq.2 (htl.trans c3)
    have b7:tb.toList.isEmpty=true:=by rw [htl,c3];rfl
    clear htl htb c1 c2 c3
    go_wp2
    exact ⟨rfl,HN.out⟩
  ·rw [if_neg c3] at HE
   have b3:(tb.toList == [38,38])=false:=beq_eq_false_iff_ne.2 (fun q=>c3 (.inl (htl.symm.trans q)))
   have b4:(tb.toList == [124,124])=false:=beq_eq_false_iff_ne.2 (fun q=>c3 (.inr (.inl (htl.symm.trans q))))
   have b5:(tb.toList == [41])=false:=beq_eq_false_iff_ne.2 (fun q=>c3 (.inr (.inr (.inl (htl.symm.trans q)))))
   have b6:(tb.toList == [])=false:=beq_eq_false_iff_ne.2 (fun q=>c3 (.inr (.inr (.inr (htl.symm.trans q)))))
   have b7:tb.toList.isEmpty=false:=by
    rcases q:tb.toList with _ | ⟨x,y⟩
    ·exact absurd (.inr (.inr (.inr (htl.symm.trans q)))) c3
    ·rfl
   rw [← htb] at HE
   rcases R with s3 | _ | _
   ·have HWD:=hid (pwrd_any B g n nc NA L tb _ s3 w2 (hid ⟨_,_,_,_,m⟩) hL hn HR2 HE)
    have HB:=hid m.po.gb
    clear htl htb c1 c2 c3 HE m hnb
    go_wp2_with fail
    with_reducible refine HWD.out.mono ?_
    rintro e w3 ⟨rfl,h1,h2,h3⟩
    have HF:Hid (OpR w w3 B g (.slice NA n nc) (.ok s3) (.returned (.tuple #[]))):=hid ⟨rfl,h1,HB2.out.trans h2,Nat.le_trans HZ2.out h3⟩
    clear h1 h2 h3 HWD
    go_wp2
    refine bodyPost_ret (results_none rfl _ _ _) rfl ?_
    exact HF.out
   ·exact absurd HE.out (wrd_ne _ _ _)
   ·exact absurd rfl hnb.out
theorem app_ne (op:Int):∀ (n:Nat) (s:PSt),app op n s≠.syn
 | 0,s=>fun q=>by cases q
 | n+1,s=>by
   rw [app_succ]
   split
   ·exact fun q=>by cases q
   ·intro q
    rcases e:add (s.wait.getD n 0) 0 s with s2 | _ | _
    ·rw [e] at q;exact app_ne op n _ q
    ·exact add_ne _ _ _ e
    ·rw [e] at q;cases q
theorem awt_ne (op:Int) (s:PSt):awt op s≠.syn:=by
 unfold awt
 intro q
 rcases e:app op s.wait.length s with s2 | _ | _
 ·rw [e] at q;cases q
 ·exact app_ne _ _ _ e
 ·rw [e] at q;cases q
def OtR (w w':World) (B g:Nat) (vn:Value) (R:POut (PSt × Bool)) (e:Ending):Prop:=match R with
 | .ok p=>e=.returned (.bool p.2)∧PaO w w' B g vn p.1
 | .syn=>e=pnE 31∧Below B w w'
 | .bad=>False
structure OtI (w wr:World) (B g:Nat) (vn:Value) (n:Nat) (R:POut (PSt × Bool)):Prop where
 ex:∃ st,PaS wr B g vn st∧PSm st∧optr n st=R
 bel:Below B w wr
 siz:w.heap.size≤wr.heap.size
theorem poptr_any (B g:Nat) (vn:Value) (s:PSt) (R:POut (PSt × Bool)) (F:Nat) (w:World) (h:Hid (PaS w B g vn s)) (hsm:Hid (PSm s)) (e:Hid (optr F s=R)) (hnb:Hid (R≠.bad)) :
  Calls Tryz.prog 96 #[.pointer (some ⟨g,0,none⟩)] w fun e w'=>OtR w w' B g vn R e:=by
 have HI0:Hid (OtI w w B g vn F R):=hid ⟨⟨s,h.out,hsm.out,e.out⟩,Below.refl B w,Nat.le_refl _⟩
 clear h hsm e
 go_enter Tryz.func96,Tryz.ntmps96
 go_wp2
 go_loopg [4] F (fun gh tk wr=>Hid (OtI w wr B g vn gh R))
 case atStart=>exact HI0
 case round =>
  clear HI0
  obtain ⟨⟨st,hs,hsm,he⟩,hbel,hsiz⟩:=hrel.out
  have HBL:=hid hbel
  have HSZ:=hid hsiz
  have HSM:=hid hsm
  rcases gk with _ | fu
  ·exact absurd he.symm hnb.out
  have HNX:=hid (pnext_any B g vn st wr (hid hs))
  have HE:=hid he
  clear hrel hbel hsiz hsm hs he
  rw [optr_succ] at HE
  go_wp2_with fail
  with_reducible refine HNX.out.mono ?_
  rintro e w2 hnx
  unfold NxR at hnx
  rcases q:nxt st.rest with _ | ⟨t,u⟩
  ·rw [q] at hnx HE
   obtain ⟨he,hb2⟩:=hnx
   replace he:e=.panicked [{ v:=.iface 32 (.int .i64 31),recovered:=false }]:=he
   subst he
   have HN:Hid (OtR w w2 B g vn R (.panicked [{ v:=.iface 32 (.int .i64 31),recovered:=false }])):=hid (by
    rw [← HE.out]
    exact ⟨rfl,HBL.out.trans hb2⟩)
   clear q hb2 HE HNX
   go_wp2
   exact ⟨rfl,HN.out⟩
  rw [q] at hnx HE
  obtain ⟨⟨tb,he,htb⟩,hs2,hb2,hz2⟩:=hnx
  subst he
  replace HE:Hid ((if t=[41] then (app 5 st.wait.length { st with rest:=u }).bind fun s=>if s.wait.length=0 then .syn else optr fu { s with wait:=s.wait.take (s.wait.length - 1) } else
   if t=[38,38] then (awt 4 { st with rest:=u }).bind fun s=>.ok (s,true) else
   if t=[124,124] then (awt 5 { st with rest:=u }).bind fun s=>.ok (s,true) else
   if t=[] then (app 5 st.wait.length { st with rest:=u }).bind fun s=>if 0<s.wait.length then .syn else .ok (s,false) else .syn)=R):=HE
  have HLN:=hid (nxt_len q)
  have HB2:=hid (HBL.out.trans hb2)
  have HZ2:=hid (Nat.le_trans HSZ.out hz2)
  have HSU:Hid (PSm { st with rest:=u }):=hid (by have a:=HLN.out;have b:=HSM.out;unfold PSm at *;simp at *;omega)
  have HS2:=hid hs2
  clear q hb2 hz2 HNX HBL HSZ hs2
  have htl:tb.toList=t:=by rw [ByteArray.toList_eq];exact htb
  clear htb
  have HPN:Hid (R=.syn→∀ W,Below B w W→OtR w W B g vn R (.panicked [{ v:=.iface 32 (.int .i64 31),recovered:=false }])):=hid (fun e W hW=>by rw [e];exact ⟨rfl,hW⟩)
  by_cases c1:t=[41]
  ·subst c1
   rw [if_pos rfl] at HE
   have b1:(tb.toList == [41])=true:=beq_iff_eq.2 htl
   clear htl
   rcases qa:app 5 st.wait.length { st with rest:=u } with s3 | _ | _
   rotate_left
   ·exact absurd qa (app_ne _ _ _)
   ·rw [qa] at HE;exact absurd HE.out.symm hnb.out
   rw [qa] at HE
   replace HE:Hid ((if s3.wait.length=0 then .syn else optr fu { s3 with wait:=s3.wait.take (s3.wait.length - 1) })=R):=HE
   have HSM3:=hid (app_sm (s:={ st with rest:=u }) qa HSU.out)
   have HAP:=hid (papp_any B g vn 5 { st with rest:=u } s3 w2 HS2 (hid qa))
   clear qa HS2 HSU
   go_wp2_with fail
   with_reducible refine HAP.out.mono ?_
   rintro e w3 ⟨rfl,hs3,hb3,hz3⟩
   obtain ⟨r,vw,vf,vs,m⟩:=hs3
   obtain ⟨A2,c4,ew,hc4,_⟩:=own_form m.rw
   subst ew
   have c2:=m.cw
   have f2:=m.fw
   have hgl:=m.lt
   have HM:=hid m
   have HB3:=hid (HB2.out.trans hb3)
   have HZ3:=hid (Nat.le_trans HZ2.out hz3)
   have hmx:s3.wait.length≤4000000000000:=m.wz
   clear m hb3 hz3 HAP
   rcases hl:s3.wait.length with _ | j
   ·rw [hl] at c2 HE hc4
    rw [if_pos rfl] at HE
    have HN:=hid (HPN.out HE.out.symm w3 HB3.out)
    clear hl hc4 HE hmx
    go_wp2
    exact ⟨rfl,HN.out⟩
   ·have hcut:=HM.out.cut rfl (k:=j) (by omega) (by omega)
    have HL:=hid hl
    rw [hl,if_neg (by omega),Nat.add_sub_cancel] at HE
    rw [hl] at c2 hc4 hmx
    have HSM4:Hid (PSm { s3 with wait:=s3.wait.take j }):=hid (by have b:=HSM3.out;unfold PSm at *;simp [List.length_take];omega)
    have HI3:Hid (OtI w (w3.setCell ⟨g,2,none⟩ (.slice A2 j c4)).drew B g vn fu R):=hid ⟨⟨_,⟨_,_,_,_,hcut.keep (Below.refl _ _).drew⟩,HSM4.out,HE.out⟩,(HB3.out.setCell (p:=⟨g,2,none⟩) HM.out.po.gb _).drew,by have q1:=HZ3.out;simp;exact q1⟩
    have i1:(0:Int)≤(j:Int):=by omega
    have i4:(j:Int)≤(c4:Int):=by omega
    have i5:(j:Int)+1≤9223372036854775807:=by omega
    have hwj:IntKind.i64.wrap (j:Int)=(j:Int):=IntWalk.i64_in _ (by omega)
    have b2:((j:Int)+1 == 0)=false:=beq_eq_false_iff_ne.2 (by omega)
    clear hcut hl HE hc4 hmx HM
    go_upto_region 7 with fail
    refine still_tail 14 (by kernel_rfl) (by kernel_rfl) ?_
    simp only [List.take_succ_cons,List.take_zero,List.drop_succ_cons,List.drop_zero]
    repeat still_step
    refine wpStill_nil ?_
    clear hwj
    go_wp2_with fail
    go_roundg fu
    case measure=>omega
    case rel=>exact HI3
  have b1:(tb.toList == [41])=false:=beq_eq_false_iff_ne.2 (by rw [htl];exact c1)
  rw [if_neg c1] at HE
  by_cases c2:t=[38,38]
  ·rw [if_pos c2] at HE
   have b2:(tb.toList == [38,38])=true:=beq_iff_eq.2 (htl.trans c2)
   have HWL:Hid (({ st with rest:=u }:PSt).wait.length<4000000000000):=hid (by have a:=HLN.out;have b:=HSM.out;rw [c2] at a;unfold PSm at b;simp at a;show st.wait.length<_;omega)
   clear htl c1 c2
   rcases qa:awt 4 { st with rest:=u } with s3 | _ | _
   rotate_left
   ·exact absurd qa (awt_ne _ _)
   ·rw [qa] at HE;exact absurd HE.out.symm hnb.out
   rw [qa] at HE
   replace HE:Hid (.ok (s3,true)=R):=HE
   have HAP:=hid (pawt_any B g vn 4 { st with rest:=u } s3 w2 HS2 (hid qa) HWL)
   clear qa HS2 HSU
   go_wp2_with fail
   with_reducible refine HAP.out.mono ?_
   rintro e w3 ⟨rfl,hs3,hb3,hz3⟩
   have HN:Hid (OtR w w3 B g vn R (.returned (.bool true))):=hid (by rw [← HE.out];exact ⟨rfl,hs3,HB2.out.trans hb3,Nat.le_trans HZ2.out hz3⟩)
   clear HE hs3 hb3 hz3 HAP
   go_wp2
   go_ret
   exact HN.out
  have b2:(tb.toList == [38,38])=false:=beq_eq_false_iff_ne.2 (by rw [htl];exact c2)
  rw [if_neg c2] at HE
  by_cases c3:t=[124,124]
  ·rw [if_pos c3] at HE
   have b3:(tb.toList == [124,124])=true:=beq_iff_eq.2 (htl.trans c3)
   have HWL:Hid (({ st with rest:=u }:PSt).wait.length<4000000000000):=hid (by have a:=HLN.out;have b:=HSM.out;rw [c3] at a;unfold PSm at b;simp at a;show st.wait.length<_;omega)
   clear htl c1 c2 c3
   rcases qa:awt 5 { st with rest:=u } with s3 | _ | _
   rotate_left
   ·exact absurd qa (awt_ne _ _)
   ·rw [qa] at HE;exact absurd HE.out.symm hnb.out
   rw [qa] at HE
   replace HE:Hid (.ok (s3,true)=R):=HE
   have HAP:=hid (pawt_any B g vn 5 { st with rest:=u } s3 w2 HS2 (hid qa) HWL)
   clear qa HS2 HSU
   go_wp2_with fail
   with_reducible refine HAP.out.mono ?_
   rintro e w3 ⟨rfl,hs3,hb3,hz3⟩
   have HN:Hid (OtR w w3 B g vn R (.returned (.bool true))):=hid (by rw [← HE.out];exact ⟨rfl,hs3,HB2.out.trans hb3,Nat.le_trans HZ2.out hz3⟩)
   clear HE hs3 hb3 hz3 HAP
   go_wp2
   go_ret
   exact HN.out
  have b3:(tb.toList == [124,124])=false:=beq_eq_false_iff_ne.2 (by rw [htl];exact c3)
  rw [if_neg c3] at HE
  by_cases c4:t=[]
  ·rw [if_pos c4] at HE
   have b4:(tb.toList == [])=true:=beq_iff_eq.2 (htl.trans c4)
   have b5:tb.toList.isEmpty=true:=by rw [htl,c4];rfl
   clear htl c1 c2 c3 c4
   rcases qa:app 5 st.wait.length { st with rest:=u } with s3 | _ | _
   rotate_left
   ·exact absurd qa (app_ne _ _ _)
   ·rw [qa] at HE;exact absurd HE.out.symm hnb.out
   rw [qa] at HE
   replace HE:Hid ((if 0<s3.wait.length then .syn else .ok (s3,false))=R):=HE
   have HAP:=hid (papp_any B g vn 5 { st with rest:=u } s3 w2 HS2 (hid qa))
   clear qa HS2 HSU
   go_wp2_with fail
   with_reducible refine HAP.out.mono ?_
   rintro e w3 ⟨rfl,hs3,hb3,hz3⟩
   have HS3:=hid hs3
   obtain ⟨r,vw,vf,vs,m⟩:=hs3
   obtain ⟨A2,c4,ew,hc4,_⟩:=own_form m.rw
   subst ew
   have c2:=m.cw
   have hgl:=m.lt
   have HB3:=hid (HB2.out.trans hb3)
   have HZ3:=hid (Nat.le_trans HZ2.out hz3)
   clear m hb3 hz3 HAP
   rcases hl:s3.wait.length with _ | j
   ·rw [hl] at c2 HE hc4
    rw [if_neg (by omega)] at HE
    have HN:Hid (OtR w w3 B g vn R (.returned (.bool false))):=hid (by rw [← HE.out];exact ⟨rfl,HS3.out,HB3.out,HZ3.out⟩)
    clear hl hc4 HE
    go_wp2
    go_ret
    exact HN.out
   ·rw [hl] at c2 HE hc4
    rw [if_pos (by omega)] at HE
    have HN:=hid (HPN.out HE.out.symm w3 HB3.out)
    have i1:(0:Int)<(j:Int)+1:=by omega
    clear hl hc4 HE
    go_wp2
    exact ⟨rfl,HN.out⟩
  have b4:(tb.toList == [])=false:=beq_eq_false_iff_ne.2 (by rw [htl];exact c4)
  have b5:tb.toList.isEmpty=false:=by
   rw [htl]
   rcases t with _ | ⟨x,y⟩
   ·exact absurd rfl c4
   ·rfl
  rw [if_neg c4] at HE
  have HN:=hid (HPN.out HE.out.symm w2 HB2.out)
  clear htl c1 c2 c3 c4 HE HS2 HSU
  go_wp2
  exact ⟨rfl,HN.out⟩
set_option linter.unusedVariables false
set_option linter.unusedSimpArgs false
attribute [local go_sem ↓] Go.wp_at_zero Go.wp_at_succ
theorem opnd_sm (L:List (List UInt8)):∀ (n:Nat) (s s':PSt),opnd L n s=.ok s'→PSm s→PSm s'
 | 0,s,s',e,h=>by cases e
 | n+1,s,s',e,h=>by
   rw [opnd_succ] at e
   rcases q:nxt s.rest with _ | ⟨t,u⟩
   ·rw [q] at e;cases e
   ·rw [q] at e
    have hl:=nxt_len q
    replace e:(if t=[33] then opnd L n { s with rest:=u,wait:=s.wait++[3] } else if t=[40] then opnd L n { s with rest:=u,wait:=s.wait++[-1] } else if t=[38,38]∨t=[124,124]∨t=[41]∨t=[] then .syn else wrd L t { s with rest:=u })=.ok s':=e
    by_cases c1:t=[33]
    ·rw [if_pos c1] at e
     refine opnd_sm L n _ _ e ?_
     unfold PSm at *;rw [c1] at hl;simp at *;omega
    rw [if_neg c1] at e
    by_cases c2:t=[40]
    ·rw [if_pos c2] at e
     refine opnd_sm L n _ _ e ?_
     unfold PSm at *;rw [c2] at hl;simp at *;omega
    rw [if_neg c2] at e
    by_cases c3:t=[38,38]∨t=[124,124]∨t=[41]∨t=[]
    ·rw [if_pos c3] at e;cases e
    rw [if_neg c3] at e
    refine wrd_sm e ?_
    unfold PSm at *;simp at *;omega
theorem awt_sm {op:Int} {s s':PSt} (e:awt op s=.ok s') (h:PSm s) (hw:s.wait.length+1+s.rest.length≤4000000000000):PSm s':=by
 obtain ⟨s2,ha,he⟩:=bind_ok e
 injection he with he
 subst he
 obtain ⟨a,b,_⟩:=app_mono ha rfl
 unfold PSm
 show (s2.wait++[op]).length+s2.rest.length≤_
 rw [b]
 simp
 omega
theorem optr_sm:∀ (n:Nat) (s:PSt) (p:PSt × Bool),optr n s=.ok p→PSm s→PSm p.1
 | 0,s,p,e,h=>by cases e
 | n+1,s,p,e,h=>by
   rw [optr_succ] at e
   rcases q:nxt s.rest with _ | ⟨t,u⟩
   ·rw [q] at e;cases e
   ·rw [q] at e
    have hl:=nxt_len q
    replace e:(if t=[41] then (app 5 s.wait.length { s with rest:=u }).bind fun s=>if s.wait.length=0 then .syn else optr n { s with wait:=s.wait.take (s.wait.length - 1) } else
     if t=[38,38] then (awt 4 { s with rest:=u }).bind fun s=>.ok (s,true) else
     if t=[124,124] then (awt 5 { s with rest:=u }).bind fun s=>.ok (s,true) else
     if t=[] then (app 5 s.wait.length { s with rest:=u }).bind fun s=>if 0<s.wait.length then .syn else .ok (s,false) else .syn)=.ok p:=e
    have hu:PSm { s with rest:=u }:=by unfold PSm at *;simp at *;omega
    by_cases c1:t=[41]
    ·rw [if_pos c1] at e
     obtain ⟨s2,ha,he⟩:=bind_ok e
     have h2:=app_sm (s:={ s with rest:=u }) ha hu
     split at he
     ·cases he
     ·refine optr_sm n _ p he ?_
      unfold PSm at *;simp [List.length_take] at *;omega
    rw [if_neg c1] at e
    by_cases c2:t=[38,38]
    ·rw [if_pos c2] at e
     obtain ⟨s2,ha,he⟩:=bind_ok e
     injection he with he
     subst he
     exact awt_sm ha hu (by unfold PSm at h;rw [c2] at hl;simp at hl;show s.wait.length+1+u.length≤_;omega)
    rw [if_neg c2] at e
    by_cases c3:t=[124,124]
    ·rw [if_pos c3] at e
     obtain ⟨s2,ha,he⟩:=bind_ok e
     injection he with he
     subst he
     exact awt_sm ha hu (by unfold PSm at h;rw [c3] at hl;simp at hl;show s.wait.length+1+u.length≤_;omega)
    rw [if_neg c3] at e
    by_cases c4:t=[]
    ·rw [if_pos c4] at e
     obtain ⟨s2,ha,he⟩:=bind_ok e
     have h2:=app_sm (s:={ s with rest:=u }) ha hu
     split at he
     ·cases he
     ·injection he with he
      subst he
      exact h2
    ·rw [if_neg c4] at e;cases e
structure ExI (w wr:World) (B g:Nat) (vn:Value) (L:List (List UInt8)) (n:Nat) (m:Bool) (R:POut PSt):Prop where
 ex:∃ st,PaS wr B g vn st∧PSm st∧(if m then expr L n st else .ok st)=R
 bel:Below B w wr
 siz:w.heap.size≤wr.heap.size
theorem pexpr_any (B g n nc:Nat) (NA:Option Addr) (L:List ByteArray) (s:PSt) (R:POut PSt) (F:Nat) (w:World) (h:Hid (PaS w B g (.slice NA n nc) s)) (hsm:Hid (PSm s)) (hL:Hid (L.length=n)) (hn:n≤1000000) (hr:Hid (Rstr w B NA L)) (e:Hid (expr (L8 L) F s=R)) (hnb:Hid (R≠.bad)) :
  Calls Tryz.prog 60 #[.pointer (some ⟨g,0,none⟩)] w fun e w'=>OpR w w' B g (.slice NA n nc) R e:=by
 have HI0:Hid (ExI w w B g (.slice NA n nc) (L8 L) F true R):=hid ⟨⟨s,h.out,hsm.out,e.out⟩,Below.refl B w,Nat.le_refl _⟩
 clear h hsm e
 go_enter Tryz.func60,Tryz.ntmps60
 go_wp2
 go_loopg [2] (F+1) (fun gh mo wr=>∃ m:Bool,mo=.bool m∧∃ f,gh=(if m then f+1 else 0)∧Hid (ExI w wr B g (.slice NA n nc) (L8 L) f m R))
 case atStart=>exact ⟨true,rfl,F,rfl,HI0⟩
 case round =>
  clear HI0
  obtain ⟨m,rfl,f,hf,HI⟩:=hrel
  obtain ⟨⟨st,hs,hsm,he⟩,hbel,hsiz⟩:=HI.out
  have HBL:=hid hbel
  have HSZ:=hid hsiz
  have HRr:=hid (hr.out.below hbel)
  rcases m with _ | _
  ·have HF:Hid (OpR w wr B g (.slice NA n nc) R (.returned (.tuple #[]))):=hid (by rw [← he];exact ⟨rfl,hs,hbel,hsiz⟩)
   clear HI hbel hsiz hs hsm he hf
   go_wp2
   go_end0
   exact HF.out
  ·rcases f with _ | f
   ·exact absurd he.symm hnb.out
   have HE:Hid (((opnd (L8 L) (st.rest.length+1) st).bind fun s=>(optr (s.rest.length+1) s).bind fun p=>if p.2 then expr (L8 L) f p.1 else .ok p.1)=R):=hid he
   have HF:Hid (gk=f+2):=hid hf
   rcases q1:opnd (L8 L) (st.rest.length+1) st with s1 | _ | _
   rotate_left
   ·have HC:=hid (popnd_any B g n nc NA L st .syn _ wr (hid hs) (hid hsm) hL hn HRr (hid q1) (hid (fun q=>by cases q)))
    rw [q1] at HE
    replace HE:Hid (.syn=R):=HE
    have HN:Hid (∀ W,Below B wr W→OpR w W B g (.slice NA n nc) R (.panicked [{ v:=.iface 32 (.int .i64 31),recovered:=false }])):=hid (fun W hW=>by rw [← HE.out];exact ⟨rfl,HBL.out.trans hW⟩)
    clear HI hbel hsiz hs hsm he hf q1 HE
    go_wp2_with fail
    with_reducible refine HC.out.mono ?_
    rintro e w2 ⟨h1,h2⟩
    replace h1:e=.panicked [{ v:=.iface 32 (.int .i64 31),recovered:=false }]:=h1
    subst h1
    have HN2:=hid (HN.out w2 h2)
    clear HC h2
    go_wp2
    exact ⟨rfl,HN2.out⟩
   ·rw [q1] at HE;exact absurd HE.out.symm hnb.out
   have HSM1:=hid (opnd_sm _ _ _ _ q1 hsm)
   have HC:=hid (popnd_any B g n nc NA L st (.ok s1) _ wr (hid hs) (hid hsm) hL hn HRr (hid q1) (hid (fun q=>by cases q)))
   rw [q1] at HE
   replace HE:Hid (((optr (s1.rest.length+1) s1).bind fun p=>if p.2 then expr (L8 L) f p.1 else .ok p.1)=R):=HE
   clear HI hbel hsiz hs hsm he hf q1
   go_wp2_with fail
   with_reducible refine HC.out.mono ?_
   rintro e w2 ⟨rfl,hs2,hb2,hz2⟩
   have HB2:=hid (HBL.out.trans hb2)
   have HZ2:=hid (Nat.le_trans HSZ.out hz2)
   clear HC hb2 hz2
   rcases q2:optr (s1.rest.length+1) s1 with ⟨s3,b⟩ | _ | _
   rotate_left
   ·have HD:=hid (poptr_any B g (.slice NA n nc) s1 .syn _ w2 (hid hs2) HSM1 (hid q2) (hid (fun q=>by cases q)))
    rw [q2] at HE
    replace HE:Hid (.syn=R):=HE
    have HN:Hid (∀ W,Below B w2 W→OpR w W B g (.slice NA n nc) R (.panicked [{ v:=.iface 32 (.int .i64 31),recovered:=false }])):=hid (fun W hW=>by rw [← HE.out];exact ⟨rfl,HB2.out.trans hW⟩)
    clear hs2 q2 HE
    go_wp2_with fail
    with_reducible refine HD.out.mono ?_
    rintro e w3 ⟨h1,h2⟩
    replace h1:e=.panicked [{ v:=.iface 32 (.int .i64 31),recovered:=false }]:=h1
    subst h1
    have HN2:=hid (HN.out w3 h2)
    clear HD h2
    go_wp2
    exact ⟨rfl,HN2.out⟩
   ·rw [q2] at HE;exact absurd HE.out.symm hnb.out
   have HSM3:=hid (optr_sm _ _ _ q2 HSM1.out)
   have HD:=hid (poptr_any B g (.slice NA n nc) s1 (.ok (s3,b)) _ w2 (hid hs2) HSM1 (hid q2) (hid (fun q=>by cases q)))
   rw [q2] at HE
   replace HE:Hid ((if b then expr (L8 L) f s3 else .ok s3)=R):=HE
   clear hs2 q2
   go_wp2_with fail
   with_reducible refine HD.out.mono ?_
   rintro e w3 ⟨rfl,h1,h2,h3⟩
   have HI3:Hid (ExI w w3 B g (.slice NA n nc) (L8 L) f b R):=hid ⟨⟨s3,h1,HSM3.out,HE.out⟩,HB2.out.trans h2,Nat.le_trans HZ2.out h3⟩
   clear HD h1 h2 h3
   go_wp2
   go_roundg (if b then f+1 else 0)
   case measure=>have:=HF.out;split <;> omega
   case rel=>exact ⟨b,rfl,f,rfl,HI3⟩
set_option linter.unusedVariables false
set_option linter.unusedSimpArgs false
theorem ta_some (w:World):(Instr.typeAssert (.iface 32 (.int .i64 31)) 20 32 true).run Tryz.prog w=.ok (.tuple #[.int .i64 31,.bool true]) w:=by kernel_rfl
theorem ta_none (w:World):(Instr.typeAssert .nilIface 20 32 true).run Tryz.prog w=.ok (.tuple #[.int .i64 0,.bool false]) w:=by kernel_rfl
theorem pcatch_panic (p q:Addr) (vp vq:Value) (older:List PanicEntry) (w:World) (hp:w.cell? p=some vp) (hq:w.cell? q=some vq) (fp:w.frozen? p=false) (fq:w.frozen? q=false) (hpq:p≠q) :
  CallsD Tryz.prog 59 #[.pointer (some p),.pointer (some q)] (.panicking ({ v:=.iface 32 (.int .i64 31),recovered:=false }::older)) w fun e u' w' =>
   e=.returned (.tuple #[])∧u'=.panicking ({ v:=.iface 32 (.int .i64 31),recovered:=true }::older)∧w'=(w.setCell p (.slice none 0 0)).setCell q (.int .i64 31):=by
 refine callsD_of_wpS Tryz.func59 rfl fun c₀ cs hu=>?_
 apply wpS_seq
 apply wpS_region
 simp [wpOpsS,go_sem,recoverD,hu,Tryz.ntmps59,Exit.thenS,ta_some]
 apply wpS_seq
 apply wpS_region
 simp [wpOpsS,go_sem,Exit.thenS]
 refine wpS_cond (t:=true) (by simp [Act.eval,Array.replicate]) ?_
 simp only [if_true]
 apply wpS_region
 have hq':(w.setCell p (.slice none 0 0)).cell? q=some vq:=by rw [World.cell?_setCell_other _ _ _ _ hpq];exact hq
 have fq':(w.setCell p (.slice none 0 0)).frozen? q=false:=by rw [World.frozen?_setCell];exact fq
 simp [wpOpsS,go_sem,hp,hq',fp,fq',bodyPostS,results,Tryz.results59]
theorem pcatch_idle (p q:Addr) (w:World) :
  CallsD Tryz.prog 59 #[.pointer (some p),.pointer (some q)] .returning w fun e u' w'=>e=.returned (.tuple #[])∧u'=.returning∧w'=w:=by
 refine callsD_of_wpS Tryz.func59 rfl fun c₀ cs hu=>?_
 apply wpS_seq
 apply wpS_region
 simp [wpOpsS,go_sem,recoverD,hu,Tryz.ntmps59,Exit.thenS,ta_none]
 apply wpS_seq
 apply wpS_region
 simp [wpOpsS,go_sem,Exit.thenS]
 refine wpS_cond (t:=false) (by simp [Act.eval,Array.replicate]) ?_
 simp only [Bool.false_eq_true,if_false]
 refine wpS_of_wp (wp_skip ?_)
 cases c₀
 simp_all [bodyPostS,results,Tryz.results59]
def prsV (L:List ByteArray) (t:List UInt8):List Fi × Int:=if ¬ nmsOK L then ([],1) else match prs (L8 L) t with
 | .ok st=>if st.unk then ([],3) else if 512<st.nodes.length then ([],2) else (st.nodes,0)
 | _=>([],31)
def PsR (w w':World) (V:List Fi × Int) (e:Ending):Prop:=∃ A m c,e=.returned (.tuple #[.slice A m c,.int .i64 V.2])∧V.1.length=m∧m≤c∧Rf w' w'.heap.size A V.1∧Below w.heap.size w w'
theorem PsR.nil {w w':World} {V:List Fi × Int} {k:Int} (h:V=([],k)) (hb:Below w.heap.size w w'):PsR w w' V (.returned (.tuple #[.slice none 0 0,.int .i64 k])):=by
 subst h
 exact ⟨none,0,0,rfl,rfl,Nat.le_refl _,Rf.nil,hb⟩
theorem fiC_at:∀ (l:List Fi) (j i:Nat),j<l.length→i<4→(fiC l)[j*4+i]? = (c4 (l.getD j (0,0,0,0)))[i]?
 | [],j,i,h,_=>absurd h (by simp)
 | x::l,0,i,h,hi=>by
   show (c4 x++fiC l)[0*4+i]? = _
   rw [List.getElem?_append_left (by simp [c4];omega)]
   simp
 | x::l,j+1,i,h,hi=>by
   show (c4 x++fiC l)[(j+1)*4+i]? = _
   rw [List.getElem?_append_right (by simp [c4];omega),show (j+1)*4+i - (c4 x).length=j*4+i by simp [c4];omega,fiC_at l j i (by simp at h;omega) hi]
   simp
theorem rf_own {w:World} {B n:Nat} {v:Value} {l:List Fi} (h:w.ownsRow B 58 4 v n (fiC l)) (hl:l.length=n):∃ A c,v=.slice A n c∧n≤c∧Rf w w.heap.size A l∧(∀ q o,A=some ⟨q,o,none⟩→B≤q):=by
 rcases h.2 with ⟨rfl,h0⟩ | ⟨q,cap,cur,rfl,hB,hq,hc,_⟩
 ·subst h0
  exact ⟨none,0,rfl,Nat.le_refl _,(fun h=>by omega),(fun q o h=>by cases h)⟩
 ·refine ⟨some ⟨q,0,none⟩,cap,rfl,hc,fun h0=>⟨q,0,rfl,(h.lt q rfl).2,fun j hj=>?_⟩,fun q' o' e=>by injection e with e;injection e with e1 _;omega⟩
  have at_:=fun (i:Nat) (hi:i<4) (u:Value) (hu:(c4 (l.getD j (0,0,0,0)))[i]? = some u)=>h.cells (g:=q) rfl (j*4+i) u ((fiC_at l j i hj hi).trans hu)
  have ad:∀ i,(⟨q,0,none⟩:Addr).add i=⟨q,i,none⟩:=fun i=>by
   unfold Addr.add
   split
   ·rename_i h;rw [h]
   ·simp
  refine ⟨?_,?_,?_,?_⟩
  ·have:=at_ 0 (by omega) _ rfl
   rw [ad,Nat.add_zero] at this
   rw [Nat.zero_add];exact this
  ·have:=at_ 1 (by omega) _ rfl
   rw [ad] at this
   rw [Nat.zero_add];exact this
  ·have:=at_ 2 (by omega) _ rfl
   rw [ad] at this
   rw [Nat.zero_add];exact this
  ·have:=at_ 3 (by omega) _ rfl
   rw [ad] at this
   rw [Nat.zero_add];exact this
theorem Rf.set {w:World} {B C:Nat} {A:Option Addr} {l:List Fi} (h:Rf w B A l) (hq:∀ q o,A=some ⟨q,o,none⟩→C≤q) {p:Addr} (hp:p.block<C) (v:Value):Rf (w.setCell p v) B A l:=fun h0=>by
 obtain ⟨b,o,e,hb,hc⟩:=h h0
 have hbq:=hq b o e
 refine ⟨b,o,e,hb,fun j hj=>?_⟩
 obtain ⟨h1,h2,h3,h4⟩:=hc j hj
 have k:∀ x,(w.setCell p v).cell? ⟨b,x,none⟩=w.cell? ⟨b,x,none⟩:=fun x=>World.cell?_setCell_other w p ⟨b,x,none⟩ v (fun e=>by rw [e] at hp;exact absurd hp (by show ¬ b<C;omega))
 exact ⟨(k _).trans h1,(k _).trans h2,(k _).trans h3,(k _).trans h4⟩
theorem res_cc {fn:Func} {p q:Tmp} {ty tz:TypeId} (h:fn.results=#[.cell p ty,.cell q tz]) (tmps:Array Value) (P:Program) (w:World) :
  (results fn tmps).run P w =
   ((asAddr (tmps.getD p undef)).run P w).andThen fun a w₁=>((loadVar ty a).run P w₁).andThen fun v w₂=>((asAddr (tmps.getD q undef)).run P w₂).andThen fun b w₃=>((loadVar tz b).run P w₃).andThen fun u w₄=>.ok (.tuple #[v,u]) w₄:=by
 simp only [results,h]
 simp [Sem.run_bind,Result.andThen]
theorem pres2 {tmps:Array Value} {w:World} {p q:Addr} {a b:Value} (hp:tmps.getD 4 undef=.pointer (some p)) (hq:tmps.getD 5 undef=.pointer (some q)) (ha:w.cell? p=some a) (hb:w.cell? q=some b) :
  (results Tryz.f28 tmps).run Tryz.prog w=.ok (.tuple #[a,b]) w:=by
 rw [res_cc (p:=4) (q:=5) (ty:=27) (tz:=32) rfl,hp,hq]
 simp [go_sem,ha,hb]
def st0 (t:List UInt8):PSt:={ rest:=t,wait:=[],nodes:=[],sizes:=[],unk:=false }
theorem pas_new (w:World) (vn:Value) (s:ByteArray) (hs:s.size≤4000000000000):PaS (w.alloc (.cells #[vn,.string s,.slice none 0 0,.slice none 0 0,.slice none 0 0,.bool false] 98)) w.heap.size w.heap.size vn (st0 s.data.toList):=by
 have hb:=heap_alloc_new w (.cells #[vn,.string s,.slice none 0 0,.slice none 0 0,.slice none 0 0,.bool false] 98)
 have hc:=fun i=>cell_of_row _ _ i _ _ _ hb
 have hf:=fun i=>frozen_of_row _ _ i _ _ hb
 refine ⟨s,.slice none 0 0,.slice none 0 0,.slice none 0 0,⟨⟨?_,?_,hf 3,hf 4,World.ownsRow_nil _ _ _ _,World.ownsRow_nil _ _ _ _,by simp [Value.ownBlock],by simp [Value.ownBlock],Nat.le_refl _⟩,?_,?_,?_,?_,hf 1,hf 2,hf 5,rfl,World.ownsRow_nil _ _ _ _,by simp [Value.ownBlock],(fun k hk=>by cases hk),⟨rfl,Nat.zero_le _,(fun i hi=>absurd hi (by simp [st0]))⟩,hs,Nat.zero_le _⟩⟩
 ·rw [hc 3];rfl
 ·rw [hc 4];rfl
 ·rw [hc 0];rfl
 ·rw [hc 1];rfl
 ·rw [hc 2];rfl
 ·rw [hc 5];rfl
theorem pparse_any (NA:Option Addr) (n nc:Nat) (L:List ByteArray) (s:ByteArray) (w:World) (hL:Hid (L.length=n)) (hn:n≤1000000) (hnc:n≤nc) (hs:Hid (∀ j,(sg L j).size≤9223372036854775807)) (hrs:Hid (Rstr w w.heap.size NA L)) (hsz:s.size≤4000000000000) (hnb:Hid (prs (L8 L) s.data.toList≠.bad)) :
  Calls Tryz.prog 28 #[.slice NA n nc,.string s] w fun e w'=>PsR w w' (prsV L s.data.toList) e:=by
 have hmf:∀ (fn:Fn) (first cap:Array Value) (w:World),(Instr.makeFunc fn first cap).run Tryz.prog w=.ok (.func fn first cap) w:=fun _ _ _ _=>rfl
 have HB1:Hid (Below w.heap.size w ((w.alloc (.cells #[.slice none 0 0] 27)).alloc (.cells #[.int .i64 0] 32))):=hid (((Below.refl _ _).alloc (Nat.le_refl _) _).alloc (by simp) _)
 have HV:=hid (vnames_any NA n nc L ((w.alloc (.cells #[.slice none 0 0] 27)).alloc (.cells #[.int .i64 0] 32)) hL hn hnc hs (hid ((hrs.out.below HB1.out).mono HB1.out.size)))
 by_cases h1:nmsOK L
 rotate_left
 ·have HVV:Hid (prsV L s.data.toList=([],1)):=hid (if_pos h1)
  rw [decide_eq_false h1] at HV
  clear h1 hrs hs hnb
  go_enter_defers Tryz.func28,Tryz.ntmps28
  go_wp2_with fail
  with_reducible refine HV.out.mono ?_
  rintro e w0 ⟨rfl,rfl⟩
  go_wp2
  exact ⟨_,pres2 (p:=⟨w.heap.size,0,none⟩) (q:=⟨w.heap.size+1,0,none⟩) rfl rfl (a:=.slice none 0 0) (b:=.int .i64 1) (by go_simp) (by go_simp),PsR.nil HVV.out (((Below.refl _ _).alloc (Nat.le_refl _) _).alloc (by simp) _)⟩
 rw [decide_eq_true h1] at HV
 have HPV:Hid (∀ R,prs (L8 L) s.data.toList=R→prsV L s.data.toList=match R with
  | .ok st=>if st.unk then ([],3) else if 512<st.nodes.length then ([],2) else (st.nodes,0)
  | _=>([],31)):=hid (fun R hR=>by unfold prsV;rw [if_neg (fun q=>q h1),hR])
 have HPR:Hid (expr (L8 L) (s.data.toList.length+1) (st0 s.data.toList)=prs (L8 L) s.data.toList):=hid rfl
 have HSM:Hid (PSm (st0 s.data.toList)):=hid (by unfold PSm st0;show 0+s.data.toList.length≤_;rw [sz_tl];omega)
 have HR2:=hid (hrs.out.below HB1.out)
 have cf:((w.alloc (.cells #[.slice none 0 0] 27)).alloc (.cells #[.int .i64 0] 32)).cell? ⟨w.heap.size,0,none⟩=some (.slice none 0 0):=by go_simp
 have ce:((w.alloc (.cells #[.slice none 0 0] 27)).alloc (.cells #[.int .i64 0] 32)).cell? ⟨w.heap.size+1,0,none⟩=some (.int .i64 0):=by go_simp
 have ff:((w.alloc (.cells #[.slice none 0 0] 27)).alloc (.cells #[.int .i64 0] 32)).frozen? ⟨w.heap.size,0,none⟩=false:=by go_simp
 have fe:((w.alloc (.cells #[.slice none 0 0] 27)).alloc (.cells #[.int .i64 0] 32)).frozen? ⟨w.heap.size+1,0,none⟩=false:=by go_simp
 have hz:((w.alloc (.cells #[.slice none 0 0] 27)).alloc (.cells #[.int .i64 0] 32)).heap.size=w.heap.size+2:=by simp
 have CF:=hid cf
 have CE:=hid ce
 have FF:=hid ff
 have FE:=hid fe
 have HZ:=hid hz
 clear cf ce ff fe hz h1 hrs hs
 go_enter_defers Tryz.func28,Tryz.ntmps28
 go_wp2_with fail
 with_reducible refine HV.out.mono ?_
 rintro e w0 ⟨rfl,rfl⟩
 generalize (w.alloc (.cells #[.slice none 0 0] 27)).alloc (.cells #[.int .i64 0] 32)=w2 at *
 have HPA:=hid (pas_new w2 (.slice NA n nc) s hsz)
 have HB3:Hid (Below w2.heap.size w2 (w2.alloc (.cells #[.slice NA n nc,.string s,.slice none 0 0,.slice none 0 0,.slice none 0 0,.bool false] 98))):=hid ((Below.refl _ _).alloc (Nat.le_refl _) _)
 rcases hR:prs (L8 L) s.data.toList with st | _ | _
 rotate_right
 ·exact absurd hR hnb.out
 rotate_left
 ·have HVV:Hid (prsV L s.data.toList=([],31)):=hid (HPV.out _ hR)
  have HX:=hid (pexpr_any w2.heap.size w2.heap.size n nc NA L (st0 s.data.toList) .syn _ _ HPA HSM hL hn (hid ((HR2.out.mono (by have:=HZ.out;omega)).below HB3.out)) (hid (HPR.out.trans hR)) (hid (fun q=>by cases q)))
  clear HV HPV HPR HSM HPA hR hnb HR2
  go_wp2_with fail
  with_reducible refine HX.out.mono ?_
  rintro e w3 ⟨h1,h2⟩
  replace h1:e=.panicked [{ v:=.iface 32 (.int .i64 31),recovered:=false }]:=h1
  subst h1
  have hz2:=HZ.out
  have HB4:=hid (HB3.out.trans h2)
  have cf:=(HB4.out.cell (p:=⟨w.heap.size,0,none⟩) (by show w.heap.size<_;omega)).trans CF.out
  have ce:=(HB4.out.cell (p:=⟨w.heap.size+1,0,none⟩) (by show w.heap.size+1<_;omega)).trans CE.out
  have ff:=(HB4.out.frozen (p:=⟨w.heap.size,0,none⟩) (by show w.heap.size<_;omega)).trans FF.out
  have fe:=(HB4.out.frozen (p:=⟨w.heap.size+1,0,none⟩) (by show w.heap.size+1<_;omega)).trans FE.out
  have HB5:=hid (HB1.out.trans (HB4.out.mono (by omega)))
  clear h2 hz2 HX
  go_wp2
  refine leaves_cons (f:=59) (args:=#[.pointer (some ⟨w.heap.size,0,none⟩),.pointer (some ⟨w.heap.size+1,0,none⟩)]) (by simp) (by simp [go_sem]) ?_
  refine (pcatch_panic ⟨w.heap.size,0,none⟩ ⟨w.heap.size+1,0,none⟩ _ _ [] w3 cf ce ff fe (by simp)).mono ?_
  rintro e u' w4 ⟨rfl,rfl,rfl⟩
  exact ⟨_,pres2 (p:=⟨w.heap.size,0,none⟩) (q:=⟨w.heap.size+1,0,none⟩) rfl rfl (a:=.slice none 0 0) (b:=.int .i64 31) (by go_simp) (by go_simp),PsR.nil HVV.out ((HB5.out.setCell (p:=⟨w.heap.size,0,none⟩) (Nat.le_refl _) _).setCell (p:=⟨w.heap.size+1,0,none⟩) (by show w.heap.size≤w.heap.size+1;omega) _)⟩
 ·have HVV:Hid (prsV L s.data.toList=if st.unk then ([],3) else if 512<st.nodes.length then ([],2) else (st.nodes,0)):=hid (HPV.out _ hR)
  have HX:=hid (pexpr_any w2.heap.size w2.heap.size n nc NA L (st0 s.data.toList) (.ok st) _ _ HPA HSM hL hn (hid ((HR2.out.mono (by have:=HZ.out;omega)).below HB3.out)) (hid (HPR.out.trans hR)) (hid (fun q=>by cases q)))
  clear HV HPV HPR HSM HPA hR hnb HR2
  go_wp2_with fail
  with_reducible refine HX.out.mono ?_
  rintro e w3 ⟨rfl,hs3,h2,h3⟩
  obtain ⟨r,vw,vf,vs,m⟩:=hs3
  have hz2:=HZ.out
  have HB4:=hid (HB3.out.trans h2)
  have cf:=(HB4.out.cell (p:=⟨w.heap.size,0,none⟩) (by show w.heap.size<_;omega)).trans CF.out
  have ce:=(HB4.out.cell (p:=⟨w.heap.size+1,0,none⟩) (by show w.heap.size+1<_;omega)).trans CE.out
  have ff:=(HB4.out.frozen (p:=⟨w.heap.size,0,none⟩) (by show w.heap.size<_;omega)).trans FF.out
  have fe:=(HB4.out.frozen (p:=⟨w.heap.size+1,0,none⟩) (by show w.heap.size+1<_;omega)).trans FE.out
  have HB5:=hid (HB1.out.trans (HB4.out.mono (by omega)))
  have cu:=m.cu
  have HF:=hid (pform_any w2.heap.size w2.heap.size 3 vf vs st.nodes st.sizes w3 m.po)
  have HRF:=hid (rf_own m.po.rf rfl)
  have HZ3:Hid (w.heap.size+2≤w3.heap.size):=hid (by have:=HB4.out.size;omega)
  clear h2 h3 hz2 HX m
  rcases hu:st.unk with _ | _
  rotate_left
  ·rw [hu] at cu HVV
   replace HVV:Hid (prsV L s.data.toList=([],3)):=HVV
   clear hu HF HRF
   go_wp2
   refine leaves_cons (f:=59) (args:=#[.pointer (some ⟨w.heap.size,0,none⟩),.pointer (some ⟨w.heap.size+1,0,none⟩)]) (by simp) (by simp [go_sem]) ?_
   refine (pcatch_idle ⟨w.heap.size,0,none⟩ ⟨w.heap.size+1,0,none⟩ _).mono ?_
   rintro e u' w4 ⟨rfl,rfl,rfl⟩
   exact ⟨_,pres2 (p:=⟨w.heap.size,0,none⟩) (q:=⟨w.heap.size+1,0,none⟩) rfl rfl (a:=.slice none 0 0) (b:=.int .i64 3) (by go_simp) (by go_simp),PsR.nil HVV.out ((HB5.out.setCell (p:=⟨w.heap.size,0,none⟩) (Nat.le_refl _) _).setCell (p:=⟨w.heap.size+1,0,none⟩) (by show w.heap.size≤w.heap.size+1;omega) _)⟩
  ·rw [hu] at cu HVV
   replace HVV:Hid (prsV L s.data.toList=if 512<st.nodes.length then ([],2) else (st.nodes,0)):=HVV
   clear hu
   by_cases h5:512<st.nodes.length
   ·rw [if_pos h5] at HF HVV
    clear h5 HRF
    go_wp2_with fail
    with_reducible refine HF.out.mono ?_
    rintro e w5 ⟨rfl,rfl⟩
    go_wp2
    refine leaves_cons (f:=59) (args:=#[.pointer (some ⟨w.heap.size,0,none⟩),.pointer (some ⟨w.heap.size+1,0,none⟩)]) (by simp) (by simp [go_sem]) ?_
    refine (pcatch_idle ⟨w.heap.size,0,none⟩ ⟨w.heap.size+1,0,none⟩ _).mono ?_
    rintro e u' w4 ⟨rfl,rfl,rfl⟩
    exact ⟨_,pres2 (p:=⟨w.heap.size,0,none⟩) (q:=⟨w.heap.size+1,0,none⟩) rfl rfl (a:=.slice none 0 0) (b:=.int .i64 2) (by go_simp) (by go_simp),PsR.nil HVV.out ((HB5.out.setCell (p:=⟨w.heap.size,0,none⟩) (Nat.le_refl _) _).setCell (p:=⟨w.heap.size+1,0,none⟩) (by show w.heap.size≤w.heap.size+1;omega) _)⟩
   ·rw [if_neg h5] at HF HVV
    obtain ⟨A,c,ev,hc,hrf,hrq⟩:=HRF.out
    subst ev
    have HRF2:=hid hrf
    have HRQ:=hid hrq
    clear h5 hrf HRF hrq
    go_wp2_with fail
    with_reducible refine HF.out.mono ?_
    rintro e w5 ⟨rfl,rfl⟩
    go_wp2
    refine leaves_cons (f:=59) (args:=#[.pointer (some ⟨w.heap.size,0,none⟩),.pointer (some ⟨w.heap.size+1,0,none⟩)]) (by simp) (by simp [go_sem]) ?_
    refine (pcatch_idle ⟨w.heap.size,0,none⟩ ⟨w.heap.size+1,0,none⟩ _).mono ?_
    rintro e u' w4 ⟨rfl,rfl,rfl⟩
    refine ⟨_,pres2 (p:=⟨w.heap.size,0,none⟩) (q:=⟨w.heap.size+1,0,none⟩) rfl rfl (a:=.slice A st.nodes.length c) (b:=.int .i64 0) (by go_simp) (by go_simp),?_⟩
    rw [HVV.out]
    refine ⟨A,st.nodes.length,c,rfl,rfl,hc,?_,(HB5.out.setCell (p:=⟨w.heap.size,0,none⟩) (Nat.le_refl _) _).setCell (p:=⟨w.heap.size+1,0,none⟩) (by show w.heap.size≤w.heap.size+1;omega) _⟩
    have hz:=HZ.out
    refine Rf.mono ((HRF2.out.set HRQ.out (p:=⟨w.heap.size,0,none⟩) (by show w.heap.size<_;omega) _).set HRQ.out (p:=⟨w.heap.size+1,0,none⟩) (by show w.heap.size+1<_;omega) _) (by simp)
end Go.Proofs.YtpaednfinlaioaaGreatDoor
