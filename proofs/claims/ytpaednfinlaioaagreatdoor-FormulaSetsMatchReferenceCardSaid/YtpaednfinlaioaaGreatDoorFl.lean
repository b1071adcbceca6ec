/-
  Plain mathematics and contracts of package diagram, several texts in one: PEx, FEx.
-/
import Derived.Test.YtpaednfinlaioaaGreatDoorFg
import Derived.Test.YtpaednfinlaioaaGreatDoorMa
import Derived.Test.YtpaednfinlaioaaGreatDoorFk
set_option maxHeartbeats 4000000
set_option maxRecDepth 100000
namespace Go.Proofs.YtpaednfinlaioaaGreatDoor
open Go.Lib (hid)
abbrev PLs:=List Fi × List Nat
def adN (op v:Int) (s:PLs):POut PLs :=
 if 512<s.1.length then .ok s else
 let last:=s.1.length - 1
 if ar op=0 then .ok (s.1++[(op,v,0,0)],s.2++[1]) else
 if s.1.length=0 then .bad else
 if ar op=1 then .ok (s.1++[(op,v,(last:Int),0)],s.2++[1+s.2.getD last 0]) else
 if last<s.2.getD last 0 then .bad else
 .ok (s.1++[(op,v,((last - s.2.getD last 0:Nat):Int),(last:Int))],s.2++[1+(s.2.getD (last - s.2.getD last 0) 0+s.2.getD last 0)])
def litF (v:Nat) (b:Bool) (s:PLs):POut PLs:=(adN 2 v s).bind fun s=>if b then .ok s else adN 3 0 s
def jnF (op:Int) (v:Nat) (b:Bool) (f:PLs→POut PLs) (s:PLs):POut PLs:=(litF v b s).bind fun s=>(f s).bind fun s=>adN op 0 s
def exF (M:List (Nat × Nat × Nat)):Nat→Nat→PLs→POut PLs
 | 0,_,_=>.bad
 | n+1,r,s =>
   if 512<s.1.length then .ok s else
   if r<2 then (if r=1 then adN 1 0 s else adN 0 0 s) else
   let b:=M.getD (r - 2) (0,0,0)
   if b.2.2=1∧b.2.1=0 then litF b.1 true s else
   if b.2.2=0∧b.2.1=1 then litF b.1 false s else
   if b.2.1=0 then jnF 4 b.1 true (exF M n b.2.2) s else
   if b.2.2=0 then jnF 4 b.1 false (exF M n b.2.1) s else
   if b.2.2=1 then jnF 5 b.1 true (exF M n b.2.1) s else
   if b.2.1=1 then jnF 5 b.1 false (exF M n b.2.2) s else
   (jnF 4 b.1 true (exF M n b.2.2) s).bind fun s=>(jnF 4 b.1 false (exF M n b.2.1) s).bind fun s=>adN 5 0 s
end Go.Proofs.YtpaednfinlaioaaGreatDoor
namespace Go.Proofs.YtpaednfinlaioaaGreatDoor
open Go.Lib (hid)
open Go.RowKit Dg St
set_option linter.unusedVariables false
set_option linter.unusedSimpArgs false
attribute [local go_sem ↓] Go.wp_at_zero Go.wp_at_succ
theorem adN_eq (op v:Int) (s:PLs):adN op v s=addN op v s.1 s.2:=rfl
def LzP (s:PLs):Prop:=Lz s.1 s.2
theorem adN_lz {op v:Int} {s s':PLs} (e:adN op v s=.ok s') (h:LzP s):LzP s':=addN_lz h (by rw [adN_eq] at e;exact e)
theorem litF_lz {v:Nat} {b:Bool} {s s':PLs} (e:litF v b s=.ok s') (h:LzP s):LzP s':=by
 obtain ⟨s1,e1,e2⟩:=bind_ok e
 cases b
 ·exact adN_lz e2 (adN_lz e1 h)
 ·injection e2 with e2
  subst e2
  exact adN_lz e1 h
def XO (w w':World) (B g:Nat) (vf vs:Value) (s:PLs) (e:Ending):Prop:=e=.returned (.tuple #[])∧AdO w w' B g 1 vf vs s.1 s.2
theorem xadd (B g:Nat) (vf vs:Value) (op v:Int) (s s':PLs) (w:World) (h:PoM w B g 1 vf vs s.1 s.2) (hz:LzP s) (e:adN op v s=.ok s') :
  Calls Tryz.prog 79 #[.pointer (some ⟨g,1,none⟩),.int .i64 op,.int .i64 v] w fun e w'=>XO w w' B g vf vs s' e :=
 padd_any B g 1 vf vs op v s.1 s'.1 s.2 s'.2 w (hid h) (hid hz) (by rw [adN_eq] at e;exact e)
theorem xconst (B g r:Nat) (vf vs:Value) (s s':PLs) (w:World) (h:Hid (PoM w B g 1 vf vs s.1 s.2)) (hz:Hid (LzP s)) (e:Hid ((if r=1 then adN 1 0 s else adN 0 0 s)=.ok s')) :
  Calls Tryz.prog 76 #[.pointer (some ⟨g,0,none⟩),.int .i64 (r:Int)] w fun e w'=>XO w w' B g vf vs s' e:=by
 by_cases c:r=1
 ·rw [if_pos c] at e
  have HA:=hid (xadd B g vf vs 1 0 s s' w h.out hz.out e.out)
  have b1:((r:Int) == 1)=true:=beq_iff_eq.2 (by omega)
  clear h hz e c
  go_enter Tryz.func76,Tryz.ntmps76
  go_wp2_with fail
  with_reducible refine HA.out.mono ?_
  rintro e w2 ⟨rfl,hx⟩
  have HX:=hid hx
  clear hx HA
  go_wp2
  go_end0
  exact ⟨rfl,HX.out⟩
 ·rw [if_neg c] at e
  have HA:=hid (xadd B g vf vs 0 0 s s' w h.out hz.out e.out)
  have b1:((r:Int) == 1)=false:=beq_eq_false_iff_ne.2 (by omega)
  clear h hz e c
  go_enter Tryz.func76,Tryz.ntmps76
  go_wp2_with fail
  with_reducible refine HA.out.mono ?_
  rintro e w2 ⟨rfl,hx⟩
  have HX:=hid hx
  clear hx HA
  go_wp2
  go_end0
  exact ⟨rfl,HX.out⟩
theorem adO_trans {w w1 w2:World} {B g:Nat} {vf vs vf1 vs1:Value} {s1 s2:PLs} (h:PoE w w1 B g 1 vf vs vf1 vs1 s1.1 s1.2) (k:AdO w1 w2 B g 1 vf1 vs1 s2.1 s2.2):AdO w w2 B g 1 vf vs s2.1 s2.2:=by
 obtain ⟨vf2,vs2,hk⟩:=k
 exact ⟨vf2,vs2,h.trans hk⟩
theorem xlit (B g v:Nat) (b:Bool) (vf vs:Value) (s s':PLs) (w:World) (h:Hid (PoM w B g 1 vf vs s.1 s.2)) (hz:Hid (LzP s)) (e:Hid (litF v b s=.ok s')) :
  Calls Tryz.prog 77 #[.pointer (some ⟨g,0,none⟩),.int .i64 (v:Int),.bool b] w fun e w'=>XO w w' B g vf vs s' e:=by
 obtain ⟨s1,e1,e2⟩:=bind_ok e.out
 have HA:=hid (xadd B g vf vs 2 v s s1 w h.out hz.out e1)
 have HZ1:=hid (adN_lz e1 hz.out)
 have HE2:=hid e2
 clear h hz e e1 e2
 cases b
 ·replace HE2:Hid (adN 3 0 s1=.ok s'):=HE2
  go_enter Tryz.func77,Tryz.ntmps77
  go_wp2_with fail
  with_reducible refine HA.out.mono ?_
  rintro e w2 ⟨rfl,hx⟩
  obtain ⟨vf1,vs1,hE⟩:=hx
  have HB:=hid (xadd B g vf1 vs1 3 0 s1 s' w2 hE.m HZ1.out HE2.out)
  have HE:=hid hE
  clear hE HA
  go_wp2_with fail
  with_reducible refine HB.out.mono ?_
  rintro e w3 ⟨rfl,hx⟩
  have HX:=hid (adO_trans HE.out hx)
  clear hx HB
  go_wp2
  go_end0
  exact ⟨rfl,HX.out⟩
 ·have e3:s1=s':=by injection HE2.out
  subst e3
  go_enter Tryz.func77,Tryz.ntmps77
  go_wp2_with fail
  with_reducible refine HA.out.mono ?_
  rintro e w2 ⟨rfl,hx⟩
  have HX:=hid hx
  clear hx HA
  go_wp2
  go_end0
  exact ⟨rfl,HX.out⟩
abbrev ExC (w0:World) (B g:Nat) (vb:Value) (f:PLs→POut PLs) (r:Nat):Prop:=∀ (W:World) (vf vs:Value) (s s':PLs),Below B w0 W→PoM W B g 1 vf vs s.1 s.2→W.cell? ⟨g,0,none⟩=some vb→LzP s→f s=.ok s' →
 Calls Tryz.prog 40 #[.pointer (some ⟨g,0,none⟩),.int .i64 (r:Int)] W fun e w'=>XO W w' B g vf vs s' e
theorem PoE.below {w w':World} {B g o:Nat} {vf vs vf' vs':Value} {l l':List Fi} {z z':List Nat} (h:PoM w B g o vf vs l z) (e:PoE w w' B g o vf vs vf' vs' l' z'):Below B w w':=by
 refine e.chg.below (by have:=h.lt;have:=h.gb;omega) (fun k hk=>?_)
 rintro (e1 | e1 | e1)
 ·have:=h.gb;omega
 ·have:=(h.rf.lt k e1).1;omega
 ·have:=(h.rs.lt k e1).1;omega
theorem xjoin (B g v r:Nat) (op:Int) (b:Bool) (f:PLs→POut PLs) (vb vf vs:Value) (s s':PLs) (w0 w:World) (hb:Hid (Below B w0 w)) (h:Hid (PoM w B g 1 vf vs s.1 s.2)) (hc:Hid (w.cell? ⟨g,0,none⟩=some vb)) (hz:Hid (LzP s)) (HX:Hid (ExC w0 B g vb f r)) (hfz:Hid (∀ s s',LzP s→f s=.ok s'→LzP s')) (e:Hid (jnF op v b f s=.ok s')) :
  Calls Tryz.prog 78 #[.pointer (some ⟨g,0,none⟩),.int .i64 op,.int .i64 (v:Int),.bool b,.int .i64 (r:Int)] w fun e w'=>XO w w' B g vf vs s' e:=by
 obtain ⟨s1,e1,e23⟩:=bind_ok e.out
 obtain ⟨s2,e2,e3⟩:=bind_ok e23
 have HA:=hid (xlit B g v b vf vs s s1 w h hz (hid e1))
 have HZ1:=hid (litF_lz e1 hz.out)
 have HZ2:=hid (hfz.out _ _ HZ1.out e2)
 have HE2:=hid e2
 have HE3:=hid e3
 clear hz e e1 e2 e3 e23 hfz
 go_enter Tryz.func78,Tryz.ntmps78
 go_wp2_with fail
 with_reducible refine HA.out.mono ?_
 rintro e w2 ⟨rfl,hx⟩
 obtain ⟨vf1,vs1,hE⟩:=hx
 have HC:=hid (HX.out w2 vf1 vs1 s1 s2 (hb.out.trans (hE.below h.out)) hE.m ((hE.cel 0 (by omega) (by omega)).trans hc.out) HZ1.out HE2.out)
 have HE:=hid hE
 clear hE HA HX
 go_wp2_with fail
 with_reducible refine HC.out.mono ?_
 rintro e w3 ⟨rfl,hx⟩
 obtain ⟨vf2,vs2,hE2⟩:=hx
 have HD:=hid (xadd B g vf2 vs2 op 0 s2 s' w3 hE2.m HZ2.out HE3.out)
 have HEE:=hid (HE.out.trans hE2)
 clear hE2 HC
 go_wp2_with fail
 with_reducible refine HD.out.mono ?_
 rintro e w4 ⟨rfl,hx⟩
 have HXX:=hid (adO_trans HEE.out hx)
 clear hx HD
 go_wp2
 go_end0
 exact ⟨rfl,HXX.out⟩
theorem jnF_lz {op:Int} {v:Nat} {b:Bool} {f:PLs→POut PLs} {s s':PLs} (hf:∀ s s',LzP s→f s=.ok s'→LzP s') (e:jnF op v b f s=.ok s') (h:LzP s):LzP s':=by
 obtain ⟨s1,e1,e23⟩:=bind_ok e
 obtain ⟨s2,e2,e3⟩:=bind_ok e23
 exact adN_lz e3 (hf _ _ (litF_lz e1 h) e2)
theorem exF_succ (M:List (Nat × Nat × Nat)) (n r:Nat) (s:PLs):exF M (n+1) r s =
  if 512<s.1.length then .ok s else
  if r<2 then (if r=1 then adN 1 0 s else adN 0 0 s) else
  if bh M (r - 2)=1∧bl M (r - 2)=0 then litF (bv M (r - 2)) true s else
  if bh M (r - 2)=0∧bl M (r - 2)=1 then litF (bv M (r - 2)) false s else
  if bl M (r - 2)=0 then jnF 4 (bv M (r - 2)) true (exF M n (bh M (r - 2))) s else
  if bh M (r - 2)=0 then jnF 4 (bv M (r - 2)) false (exF M n (bl M (r - 2))) s else
  if bh M (r - 2)=1 then jnF 5 (bv M (r - 2)) true (exF M n (bl M (r - 2))) s else
  if bl M (r - 2)=1 then jnF 5 (bv M (r - 2)) false (exF M n (bh M (r - 2))) s else
  (jnF 4 (bv M (r - 2)) true (exF M n (bh M (r - 2))) s).bind fun s=>(jnF 4 (bv M (r - 2)) false (exF M n (bl M (r - 2))) s).bind fun s=>adN 5 0 s:=rfl
theorem exF_lz (M:List (Nat × Nat × Nat)):∀ (n r:Nat) (s s':PLs),LzP s→exF M n r s=.ok s'→LzP s'
 | 0,r,s,s',h,e=>by cases e
 | n+1,r,s,s',h,e=>by
   have ih:=fun r=>exF_lz M n r
   rw [exF_succ] at e
   repeat' (split at e)
   ·injection e with e;subst e;exact h
   ·exact adN_lz e h
   ·exact adN_lz e h
   ·exact litF_lz e h
   ·exact litF_lz e h
   ·exact jnF_lz (ih _) e h
   ·exact jnF_lz (ih _) e h
   ·exact jnF_lz (ih _) e h
   ·exact jnF_lz (ih _) e h
   ·obtain ⟨s1,e1,e23⟩:=bind_ok e
    obtain ⟨s2,e2,e3⟩:=bind_ok e23
    exact adN_lz e3 (jnF_lz (ih _) e2 (jnF_lz (ih _) e1 h))
theorem PoE.box {w w':World} {B g o h:Nat} {vf vs vf' vs':Value} {l:List Fi} {z:List Nat} {ob:Obj} (e:PoE w w' B g o vf vs vf' vs' l z) (hb:w.heap[h]? = some ob) (hg:h≠g) (h1:vf.ownBlock≠some h) (h2:vs.ownBlock≠some h):w'.heap[h]? = some ob:=by
 rw [e.chg.block h (Array.getElem?_eq_some_iff.1 hb).1 ?_]
 ·exact hb
 ·rintro (q | q | q)
  ·exact hg q
  ·exact h1 q
  ·exact h2 q
theorem xexp_low (B g m c:Nat) (A:Option Addr) (M:List Br) (n r:Nat) (w0:World) (hrd:Hid (Rd w0 B A (up M))) (hml:Hid (M.length=m)) (hm:m≤1000000) (hr:Hid (2≤r→r - 2<m))(hlow:r<2):ExC w0 B g (.slice A m c) (exF M (n+1) r) r:=by
 intro w vf vs s s' hb hp hc hz e
 rw [exF_succ] at e
 have HL:=hid (large_any B g 1 vf vs s.1 s.2 w hp)
 by_cases c0:512<s.1.length
 ·rw [if_pos c0] at e
  injection e with e
  subst e
  rw [decide_eq_true c0] at HL
  have HE:=hid (AdO.mk (PoE.same hp (Below.refl _ _)))
  clear hb hp hc hz c0
  go_enter Tryz.func40,Tryz.ntmps40
  go_wp2_with fail
  with_reducible refine HL.out.mono ?_
  rintro e w1 ⟨rfl,rfl⟩
  go_wp2
  refine bodyPost_ret (results_none rfl _ _ _) rfl ?_
  exact ⟨rfl,HE.out⟩
 rw [if_neg c0,if_pos hlow] at e
 rw [decide_eq_false c0] at HL
 have HC:=hid (xconst B g r vf vs s s' w (hid hp) (hid hz) (hid e))
 have i1:(r:Int)<2:=by omega
 clear hb hp hc hz c0 e
 go_enter Tryz.func40,Tryz.ntmps40
 go_wp2_with fail
 with_reducible refine HL.out.mono ?_
 rintro e w1 ⟨rfl,rfl⟩
 go_wp2_with fail
 with_reducible refine HC.out.mono ?_
 rintro e w1 ⟨rfl,hx⟩
 have HX:=hid hx
 clear hx
 go_wp2
 refine bodyPost_ret (results_none rfl _ _ _) rfl ?_
 exact ⟨rfl,HX.out⟩
theorem xexp_10 (B g m c:Nat) (A:Option Addr) (M:List Br) (n r:Nat) (w0:World) (hrd:Hid (Rd w0 B A (up M))) (hml:Hid (M.length=m)) (hm:m≤1000000) (hr:Hid (2≤r→r - 2<m))(hlow:2≤r) (hh:bh M (r - 2)=1) (hl:bl M (r - 2)=0) (HXH:Hid (ExC w0 B g (.slice A m c) (exF M n (bh M (r - 2))) (bh M (r - 2)))) (HXL:Hid (ExC w0 B g (.slice A m c) (exF M n (bl M (r - 2))) (bl M (r - 2)))):ExC w0 B g (.slice A m c) (exF M (n+1) r) r:=by
 intro w vf vs s s' hb hp hc hz e
 rw [exF_succ] at e
 have HL:=hid (large_any B g 1 vf vs s.1 s.2 w hp)
 have c00:¬ 512<s.1.length∨512<s.1.length:=by omega
 rcases c00 with c0 | c0
 rotate_left
 ·rw [if_pos c0] at e
  injection e with e
  subst e
  rw [decide_eq_true c0] at HL
  have HE:=hid (AdO.mk (PoE.same hp (Below.refl _ _)))
  clear hb hp hc hz c0 HXH HXL
  go_enter Tryz.func40,Tryz.ntmps40
  go_wp2_with fail
  with_reducible refine HL.out.mono ?_
  rintro e w1 ⟨rfl,rfl⟩
  go_wp2
  refine bodyPost_ret (results_none rfl _ _ _) rfl ?_
  exact ⟨rfl,HE.out⟩
 rw [decide_eq_false c0] at HL
 rw [if_neg c0,if_neg (show ¬ r<2 by omega)] at e
 obtain ⟨k,rfl⟩:∃ k,r=k+2:=⟨r - 2,by omega⟩
 have hkm:=hr.out (by omega)
 rw [Nat.add_sub_cancel] at *
 obtain ⟨b,o,eA,hbB,hcl⟩:=(hrd.out.below hb) (by rw [up_len,hml.out];omega)
 subst eA
 obtain ⟨d0,d1,d2⟩:=hcl k (by rw [up_len,hml.out];exact hkm)
 rw [iv_up] at d0
 rw [il_up] at d1
 rw [ih_up] at d2
 have hfz:=fun r=>exF_lz M n r
 have HFH:=hid (hfz (bh M k))
 have HFL:=hid (hfz (bl M k))
 clear hcl hfz
 generalize exF M n (bh M k)=FH at *
 generalize exF M n (bl M k)=FL at *
 generalize bv M k=V at *
 generalize bl M k=LL at *
 generalize bh M k=HH at *
 have HE:Hid (litF V true s=.ok s'):=hid (by
  rw [if_pos ⟨hh,hl⟩] at e
  exact e)
 have bh0:((HH:Int) == 0)=false:=beq_eq_false_iff_ne.2 (by omega)
 have bl0:((LL:Int) == 0)=true:=beq_iff_eq.2 (by omega)
 have bh1:((HH:Int) == 1)=true:=beq_iff_eq.2 (by omega)
 have bl1:((LL:Int) == 1)=false:=beq_eq_false_iff_ne.2 (by omega)
 have i0:¬ ((k:Int)+2)<2:=by omega
 have i1:(0:Int)≤(k:Int):=by omega
 have i2:(k:Int)<(m:Int):=by omega
 have hgl:=hp.lt
 have HP:=hid hp
 have HC:=hid hc
 have HZ:=hid hz
 have HB:=hid hb
 clear c0 e hh hl hp hz hb hr hkm
 go_enter Tryz.func40,Tryz.ntmps40
 go_wp2_with fail
 with_reducible refine HL.out.mono ?_
 rintro e w1 ⟨rfl,rfl⟩
 go_upto_region 7 with fail
 have E1:=hid (PoE.same HP.out ((Below.refl _ _).alloc (Nat.le_refl _) (.cells #[.int .i64 (V:Int),.int .i64 (LL:Int),.int .i64 (HH:Int)] 80)))
 have HB1:=hid (HB.out.trans (E1.out.below HP.out))
 have HC1:=hid ((E1.out.cel 0 (by omega) (by omega)).trans HC.out)
 have HX:=hid (heap_alloc_new w (.cells #[.int .i64 (V:Int),.int .i64 (LL:Int),.int .i64 (HH:Int)] 80))
 have HNG:Hid (w.heap.size≠g):=hid (by omega)
 have HNF:Hid (vf.ownBlock≠some w.heap.size):=hid (fun e=>by have:=(HP.out.rf.lt _ e).2;omega)
 have HNS:Hid (vs.ownBlock≠some w.heap.size):=hid (fun e=>by have:=(HP.out.rs.lt _ e).2;omega)
 clear hc d0 d1 d2
 generalize w.alloc (.cells #[.int .i64 (V:Int),.int .i64 (LL:Int),.int .i64 (HH:Int)] 80)=w1 at *
 have HX0:=hid ((cell_of_row _ _ 0 _ _ _ HX.out).trans rfl)
 have x0:w1.cell? ⟨w.heap.size,0,none⟩=some (.int .i64 (V:Int)):=by rw [cell_of_row _ _ 0 _ _ _ HX.out];rfl
 have x1:w1.cell? ⟨w.heap.size,1,none⟩=some (.int .i64 (LL:Int)):=by rw [cell_of_row _ _ 1 _ _ _ HX.out];rfl
 have x2:w1.cell? ⟨w.heap.size,2,none⟩=some (.int .i64 (HH:Int)):=by rw [cell_of_row _ _ 2 _ _ _ HX.out];rfl
 clear HX0
 have HK:=hid (xlit B g V true vf vs s s' w1 (hid E1.out.m) HZ HE)
 go_wp2_with fail
 with_reducible refine HK.out.mono ?_
 rintro e w2 ⟨rfl,hx⟩
 have HR:=hid (adO_trans (s1:=s) E1.out hx)
 clear hx HK
 go_wp2
 go_end0
 exact ⟨rfl,HR.out⟩
theorem xexp_01 (B g m c:Nat) (A:Option Addr) (M:List Br) (n r:Nat) (w0:World) (hrd:Hid (Rd w0 B A (up M))) (hml:Hid (M.length=m)) (hm:m≤1000000) (hr:Hid (2≤r→r - 2<m))(hlow:2≤r) (hh:bh M (r - 2)=0) (hl:bl M (r - 2)=1) (HXH:Hid (ExC w0 B g (.slice A m c) (exF M n (bh M (r - 2))) (bh M (r - 2)))) (HXL:Hid (ExC w0 B g (.slice A m c) (exF M n (bl M (r - 2))) (bl M (r - 2)))):ExC w0 B g (.slice A m c) (exF M (n+1) r) r:=by
 intro w vf vs s s' hb hp hc hz e
 rw [exF_succ] at e
 have HL:=hid (large_any B g 1 vf vs s.1 s.2 w hp)
 have c00:¬ 512<s.1.length∨512<s.1.length:=by omega
 rcases c00 with c0 | c0
 rotate_left
 ·rw [if_pos c0] at e
  injection e with e
  subst e
  rw [decide_eq_true c0] at HL
  have HE:=hid (AdO.mk (PoE.same hp (Below.refl _ _)))
  clear hb hp hc hz c0 HXH HXL
  go_enter Tryz.func40,Tryz.ntmps40
  go_wp2_with fail
  with_reducible refine HL.out.mono ?_
  rintro e w1 ⟨rfl,rfl⟩
  go_wp2
  refine bodyPost_ret (results_none rfl _ _ _) rfl ?_
  exact ⟨rfl,HE.out⟩
 rw [decide_eq_false c0] at HL
 rw [if_neg c0,if_neg (show ¬ r<2 by omega)] at e
 obtain ⟨k,rfl⟩:∃ k,r=k+2:=⟨r - 2,by omega⟩
 have hkm:=hr.out (by omega)
 rw [Nat.add_sub_cancel] at *
 obtain ⟨b,o,eA,hbB,hcl⟩:=(hrd.out.below hb) (by rw [up_len,hml.out];omega)
 subst eA
 obtain ⟨d0,d1,d2⟩:=hcl k (by rw [up_len,hml.out];exact hkm)
 rw [iv_up] at d0
 rw [il_up] at d1
 rw [ih_up] at d2
 have hfz:=fun r=>exF_lz M n r
 have HFH:=hid (hfz (bh M k))
 have HFL:=hid (hfz (bl M k))
 clear hcl hfz
 generalize exF M n (bh M k)=FH at *
 generalize exF M n (bl M k)=FL at *
 generalize bv M k=V at *
 generalize bl M k=LL at *
 generalize bh M k=HH at *
 have HE:Hid (litF V false s=.ok s'):=hid (by
  rw [if_neg (by omega),if_pos ⟨hh,hl⟩] at e
  exact e)
 have bh0:((HH:Int) == 0)=true:=beq_iff_eq.2 (by omega)
 have bl0:((LL:Int) == 0)=false:=beq_eq_false_iff_ne.2 (by omega)
 have bh1:((HH:Int) == 1)=false:=beq_eq_false_iff_ne.2 (by omega)
 have bl1:((LL:Int) == 1)=true:=beq_iff_eq.2 (by omega)
 have i0:¬ ((k:Int)+2)<2:=by omega
 have i1:(0:Int)≤(k:Int):=by omega
 have i2:(k:Int)<(m:Int):=by omega
 have hgl:=hp.lt
 have HP:=hid hp
 have HC:=hid hc
 have HZ:=hid hz
 have HB:=hid hb
 clear c0 e hh hl hp hz hb hr hkm
 go_enter Tryz.func40,Tryz.ntmps40
 go_wp2_with fail
 with_reducible refine HL.out.mono ?_
 rintro e w1 ⟨rfl,rfl⟩
 go_upto_region 7 with fail
 have E1:=hid (PoE.same HP.out ((Below.refl _ _).alloc (Nat.le_refl _) (.cells #[.int .i64 (V:Int),.int .i64 (LL:Int),.int .i64 (HH:Int)] 80)))
 have HB1:=hid (HB.out.trans (E1.out.below HP.out))
 have HC1:=hid ((E1.out.cel 0 (by omega) (by omega)).trans HC.out)
 have HX:=hid (heap_alloc_new w (.cells #[.int .i64 (V:Int),.int .i64 (LL:Int),.int .i64 (HH:Int)] 80))
 have HNG:Hid (w.heap.size≠g):=hid (by omega)
 have HNF:Hid (vf.ownBlock≠some w.heap.size):=hid (fun e=>by have:=(HP.out.rf.lt _ e).2;omega)
 have HNS:Hid (vs.ownBlock≠some w.heap.size):=hid (fun e=>by have:=(HP.out.rs.lt _ e).2;omega)
 clear hc d0 d1 d2
 generalize w.alloc (.cells #[.int .i64 (V:Int),.int .i64 (LL:Int),.int .i64 (HH:Int)] 80)=w1 at *
 have HX0:=hid ((cell_of_row _ _ 0 _ _ _ HX.out).trans rfl)
 have x0:w1.cell? ⟨w.heap.size,0,none⟩=some (.int .i64 (V:Int)):=by rw [cell_of_row _ _ 0 _ _ _ HX.out];rfl
 have x1:w1.cell? ⟨w.heap.size,1,none⟩=some (.int .i64 (LL:Int)):=by rw [cell_of_row _ _ 1 _ _ _ HX.out];rfl
 have x2:w1.cell? ⟨w.heap.size,2,none⟩=some (.int .i64 (HH:Int)):=by rw [cell_of_row _ _ 2 _ _ _ HX.out];rfl
 clear HX0
 have HK:=hid (xlit B g V false vf vs s s' w1 (hid E1.out.m) HZ HE)
 go_wp2_with fail
 with_reducible refine HK.out.mono ?_
 rintro e w2 ⟨rfl,hx⟩
 have HR:=hid (adO_trans (s1:=s) E1.out hx)
 clear hx HK
 go_wp2
 go_end0
 exact ⟨rfl,HR.out⟩
theorem xexp_00 (B g m c:Nat) (A:Option Addr) (M:List Br) (n r:Nat) (w0:World) (hrd:Hid (Rd w0 B A (up M))) (hml:Hid (M.length=m)) (hm:m≤1000000) (hr:Hid (2≤r→r - 2<m))(hlow:2≤r) (hh:bh M (r - 2)=0) (hl:bl M (r - 2)=0) (HXH:Hid (ExC w0 B g (.slice A m c) (exF M n (bh M (r - 2))) (bh M (r - 2)))) (HXL:Hid (ExC w0 B g (.slice A m c) (exF M n (bl M (r - 2))) (bl M (r - 2)))):ExC w0 B g (.slice A m c) (exF M (n+1) r) r:=by
 intro w vf vs s s' hb hp hc hz e
 rw [exF_succ] at e
 have HL:=hid (large_any B g 1 vf vs s.1 s.2 w hp)
 have c00:¬ 512<s.1.length∨512<s.1.length:=by omega
 rcases c00 with c0 | c0
 rotate_left
 ·rw [if_pos c0] at e
  injection e with e
  subst e
  rw [decide_eq_true c0] at HL
  have HE:=hid (AdO.mk (PoE.same hp (Below.refl _ _)))
  clear hb hp hc hz c0 HXH HXL
  go_enter Tryz.func40,Tryz.ntmps40
  go_wp2_with fail
  with_reducible refine HL.out.mono ?_
  rintro e w1 ⟨rfl,rfl⟩
  go_wp2
  refine bodyPost_ret (results_none rfl _ _ _) rfl ?_
  exact ⟨rfl,HE.out⟩
 rw [decide_eq_false c0] at HL
 rw [if_neg c0,if_neg (show ¬ r<2 by omega)] at e
 obtain ⟨k,rfl⟩:∃ k,r=k+2:=⟨r - 2,by omega⟩
 have hkm:=hr.out (by omega)
 rw [Nat.add_sub_cancel] at *
 obtain ⟨b,o,eA,hbB,hcl⟩:=(hrd.out.below hb) (by rw [up_len,hml.out];omega)
 subst eA
 obtain ⟨d0,d1,d2⟩:=hcl k (by rw [up_len,hml.out];exact hkm)
 rw [iv_up] at d0
 rw [il_up] at d1
 rw [ih_up] at d2
 have hfz:=fun r=>exF_lz M n r
 have HFH:=hid (hfz (bh M k))
 have HFL:=hid (hfz (bl M k))
 clear hcl hfz
 generalize exF M n (bh M k)=FH at *
 generalize exF M n (bl M k)=FL at *
 generalize bv M k=V at *
 generalize bl M k=LL at *
 generalize bh M k=HH at *
 have HE:Hid (jnF 4 V true FH s=.ok s'):=hid (by
  rw [if_neg (by omega),if_neg (by omega),if_pos hl] at e
  exact e)
 have bh0:((HH:Int) == 0)=true:=beq_iff_eq.2 (by omega)
 have bl0:((LL:Int) == 0)=true:=beq_iff_eq.2 (by omega)
 have bh1:((HH:Int) == 1)=false:=beq_eq_false_iff_ne.2 (by omega)
 have bl1:((LL:Int) == 1)=false:=beq_eq_false_iff_ne.2 (by omega)
 have i0:¬ ((k:Int)+2)<2:=by omega
 have i1:(0:Int)≤(k:Int):=by omega
 have i2:(k:Int)<(m:Int):=by omega
 have hgl:=hp.lt
 have HP:=hid hp
 have HC:=hid hc
 have HZ:=hid hz
 have HB:=hid hb
 clear c0 e hh hl hp hz hb hr hkm
 go_enter Tryz.func40,Tryz.ntmps40
 go_wp2_with fail
 with_reducible refine HL.out.mono ?_
 rintro e w1 ⟨rfl,rfl⟩
 go_upto_region 7 with fail
 have E1:=hid (PoE.same HP.out ((Below.refl _ _).alloc (Nat.le_refl _) (.cells #[.int .i64 (V:Int),.int .i64 (LL:Int),.int .i64 (HH:Int)] 80)))
 have HB1:=hid (HB.out.trans (E1.out.below HP.out))
 have HC1:=hid ((E1.out.cel 0 (by omega) (by omega)).trans HC.out)
 have HX:=hid (heap_alloc_new w (.cells #[.int .i64 (V:Int),.int .i64 (LL:Int),.int .i64 (HH:Int)] 80))
 have HNG:Hid (w.heap.size≠g):=hid (by omega)
 have HNF:Hid (vf.ownBlock≠some w.heap.size):=hid (fun e=>by have:=(HP.out.rf.lt _ e).2;omega)
 have HNS:Hid (vs.ownBlock≠some w.heap.size):=hid (fun e=>by have:=(HP.out.rs.lt _ e).2;omega)
 clear hc d0 d1 d2
 generalize w.alloc (.cells #[.int .i64 (V:Int),.int .i64 (LL:Int),.int .i64 (HH:Int)] 80)=w1 at *
 have HX0:=hid ((cell_of_row _ _ 0 _ _ _ HX.out).trans rfl)
 have x0:w1.cell? ⟨w.heap.size,0,none⟩=some (.int .i64 (V:Int)):=by rw [cell_of_row _ _ 0 _ _ _ HX.out];rfl
 have x1:w1.cell? ⟨w.heap.size,1,none⟩=some (.int .i64 (LL:Int)):=by rw [cell_of_row _ _ 1 _ _ _ HX.out];rfl
 have x2:w1.cell? ⟨w.heap.size,2,none⟩=some (.int .i64 (HH:Int)):=by rw [cell_of_row _ _ 2 _ _ _ HX.out];rfl
 clear HX0
 have HK:=hid (xjoin B g V HH 4 true FH _ vf vs s s' w0 w1 HB1 (hid E1.out.m) HC1 HZ HXH HFH HE)
 go_wp2_with fail
 with_reducible refine HK.out.mono ?_
 rintro e w2 ⟨rfl,hx⟩
 have HR:=hid (adO_trans (s1:=s) E1.out hx)
 clear hx HK
 go_wp2
 go_end0
 exact ⟨rfl,HR.out⟩
theorem xexp_11 (B g m c:Nat) (A:Option Addr) (M:List Br) (n r:Nat) (w0:World) (hrd:Hid (Rd w0 B A (up M))) (hml:Hid (M.length=m)) (hm:m≤1000000) (hr:Hid (2≤r→r - 2<m))(hlow:2≤r) (hh:bh M (r - 2)=1) (hl:bl M (r - 2)=1) (HXH:Hid (ExC w0 B g (.slice A m c) (exF M n (bh M (r - 2))) (bh M (r - 2)))) (HXL:Hid (ExC w0 B g (.slice A m c) (exF M n (bl M (r - 2))) (bl M (r - 2)))):ExC w0 B g (.slice A m c) (exF M (n+1) r) r:=by
 intro w vf vs s s' hb hp hc hz e
 rw [exF_succ] at e
 have HL:=hid (large_any B g 1 vf vs s.1 s.2 w hp)
 have c00:¬ 512<s.1.length∨512<s.1.length:=by omega
 rcases c00 with c0 | c0
 rotate_left
 ·rw [if_pos c0] at e
  injection e with e
  subst e
  rw [decide_eq_true c0] at HL
  have HE:=hid (AdO.mk (PoE.same hp (Below.refl _ _)))
  clear hb hp hc hz c0 HXH HXL
  go_enter Tryz.func40,Tryz.ntmps40
  go_wp2_with fail
  with_reducible refine HL.out.mono ?_
  rintro e w1 ⟨rfl,rfl⟩
  go_wp2
  refine bodyPost_ret (results_none rfl _ _ _) rfl ?_
  exact ⟨rfl,HE.out⟩
 rw [decide_eq_false c0] at HL
 rw [if_neg c0,if_neg (show ¬ r<2 by omega)] at e
 obtain ⟨k,rfl⟩:∃ k,r=k+2:=⟨r - 2,by omega⟩
 have hkm:=hr.out (by omega)
 rw [Nat.add_sub_cancel] at *
 obtain ⟨b,o,eA,hbB,hcl⟩:=(hrd.out.below hb) (by rw [up_len,hml.out];omega)
 subst eA
 obtain ⟨d0,d1,d2⟩:=hcl k (by rw [up_len,hml.out];exact hkm)
 rw [iv_up] at d0
 rw [il_up] at d1
 rw [ih_up] at d2
 have hfz:=fun r=>exF_lz M n r
 have HFH:=hid (hfz (bh M k))
 have HFL:=hid (hfz (bl M k))
 clear hcl hfz
 generalize exF M n (bh M k)=FH at *
 generalize exF M n (bl M k)=FL at *
 generalize bv M k=V at *
 generalize bl M k=LL at *
 generalize bh M k=HH at *
 have HE:Hid (jnF 5 V true FL s=.ok s'):=hid (by
  rw [if_neg (by omega),if_neg (by omega),if_neg (by omega),if_neg (by omega),if_pos hh] at e
  exact e)
 have bh0:((HH:Int) == 0)=false:=beq_eq_false_iff_ne.2 (by omega)
 have bl0:((LL:Int) == 0)=false:=beq_eq_false_iff_ne.2 (by omega)
 have bh1:((HH:Int) == 1)=true:=beq_iff_eq.2 (by omega)
 have bl1:((LL:Int) == 1)=true:=beq_iff_eq.2 (by omega)
 have i0:¬ ((k:Int)+2)<2:=by omega
 have i1:(0:Int)≤(k:Int):=by omega
 have i2:(k:Int)<(m:Int):=by omega
 have hgl:=hp.lt
 have HP:=hid hp
 have HC:=hid hc
 have HZ:=hid hz
 have HB:=hid hb
 clear c0 e hh hl hp hz hb hr hkm
 go_enter Tryz.func40,Tryz.ntmps40
 go_wp2_with fail
 with_reducible refine HL.out.mono ?_
 rintro e w1 ⟨rfl,rfl⟩
 go_upto_region 7 with fail
 have E1:=hid (PoE.same HP.out ((Below.refl _ _).alloc (Nat.le_refl _) (.cells #[.int .i64 (V:Int),.int .i64 (LL:Int),.int .i64 (HH:Int)] 80)))
 have HB1:=hid (HB.out.trans (E1.out.below HP.out))
 have HC1:=hid ((E1.out.cel 0 (by omega) (by omega)).trans HC.out)
 have HX:=hid (heap_alloc_new w (.cells #[.int .i64 (V:Int),.int .i64 (LL:Int),.int .i64 (HH:Int)] 80))
 have HNG:Hid (w.heap.size≠g):=hid (by omega)
 have HNF:Hid (vf.ownBlock≠some w.heap.size):=hid (fun e=>by have:=(HP.out.rf.lt _ e).2;omega)
 have HNS:Hid (vs.ownBlock≠some w.heap.size):=hid (fun e=>by have:=(HP.out.rs.lt _ e).2;omega)
 clear hc d0 d1 d2
 generalize w.alloc (.cells #[.int .i64 (V:Int),.int .i64 (LL:Int),.int .i64 (HH:Int)] 80)=w1 at *
 have HX0:=hid ((cell_of_row _ _ 0 _ _ _ HX.out).trans rfl)
 have x0:w1.cell? ⟨w.heap.size,0,none⟩=some (.int .i64 (V:Int)):=by rw [cell_of_row _ _ 0 _ _ _ HX.out];rfl
 have x1:w1.cell? ⟨w.heap.size,1,none⟩=some (.int .i64 (LL:Int)):=by rw [cell_of_row _ _ 1 _ _ _ HX.out];rfl
 have x2:w1.cell? ⟨w.heap.size,2,none⟩=some (.int .i64 (HH:Int)):=by rw [cell_of_row _ _ 2 _ _ _ HX.out];rfl
 clear HX0
 have HK:=hid (xjoin B g V LL 5 true FL _ vf vs s s' w0 w1 HB1 (hid E1.out.m) HC1 HZ HXL HFL HE)
 go_wp2_with fail
 with_reducible refine HK.out.mono ?_
 rintro e w2 ⟨rfl,hx⟩
 have HR:=hid (adO_trans (s1:=s) E1.out hx)
 clear hx HK
 go_wp2
 go_end0
 exact ⟨rfl,HR.out⟩
theorem xexp_0x (B g m c:Nat) (A:Option Addr) (M:List Br) (n r:Nat) (w0:World) (hrd:Hid (Rd w0 B A (up M))) (hml:Hid (M.length=m)) (hm:m≤1000000) (hr:Hid (2≤r→r - 2<m))(hlow:2≤r) (hh:bh M (r - 2)=0) (hl0:¬ bl M (r - 2)=0) (hl1:¬ bl M (r - 2)=1) (HXH:Hid (ExC w0 B g (.slice A m c) (exF M n (bh M (r - 2))) (bh M (r - 2)))) (HXL:Hid (ExC w0 B g (.slice A m c) (exF M n (bl M (r - 2))) (bl M (r - 2)))):ExC w0 B g (.slice A m c) (exF M (n+1) r) r:=by
 intro w vf vs s s' hb hp hc hz e
 rw [exF_succ] at e
 have HL:=hid (large_any B g 1 vf vs s.1 s.2 w hp)
 have c00:¬ 512<s.1.length∨512<s.1.length:=by omega
 rcases c00 with c0 | c0
 rotate_left
 ·rw [if_pos c0] at e
  injection e with e
  subst e
  rw [decide_eq_true c0] at HL
  have HE:=hid (AdO.mk (PoE.same hp (Below.refl _ _)))
  clear hb hp hc hz c0 HXH HXL
  go_enter Tryz.func40,Tryz.ntmps40
  go_wp2_with fail
  with_reducible refine HL.out.mono ?_
  rintro e w1 ⟨rfl,rfl⟩
  go_wp2
  refine bodyPost_ret (results_none rfl _ _ _) rfl ?_
  exact ⟨rfl,HE.out⟩
 rw [decide_eq_false c0] at HL
 rw [if_neg c0,if_neg (show ¬ r<2 by omega)] at e
 obtain ⟨k,rfl⟩:∃ k,r=k+2:=⟨r - 2,by omega⟩
 have hkm:=hr.out (by omega)
 rw [Nat.add_sub_cancel] at *
 obtain ⟨b,o,eA,hbB,hcl⟩:=(hrd.out.below hb) (by rw [up_len,hml.out];omega)
 subst eA
 obtain ⟨d0,d1,d2⟩:=hcl k (by rw [up_len,hml.out];exact hkm)
 rw [iv_up] at d0
 rw [il_up] at d1
 rw [ih_up] at d2
 have hfz:=fun r=>exF_lz M n r
 have HFH:=hid (hfz (bh M k))
 have HFL:=hid (hfz (bl M k))
 clear hcl hfz
 generalize exF M n (bh M k)=FH at *
 generalize exF M n (bl M k)=FL at *
 generalize bv M k=V at *
 generalize bl M k=LL at *
 generalize bh M k=HH at *
 have HE:Hid (jnF 4 V false FL s=.ok s'):=hid (by
  rw [if_neg (by omega),if_neg (by omega),if_neg (by omega),if_pos hh] at e
  exact e)
 have bh0:((HH:Int) == 0)=true:=beq_iff_eq.2 (by omega)
 have bl0:((LL:Int) == 0)=false:=beq_eq_false_iff_ne.2 (by omega)
 have bh1:((HH:Int) == 1)=false:=beq_eq_false_iff_ne.2 (by omega)
 have bl1:((LL:Int) == 1)=false:=beq_eq_false_iff_ne.2 (by omega)
 have i0:¬ ((k:Int)+2)<2:=by omega
 have i1:(0:Int)≤(k:Int):=by omega
 have i2:(k:Int)<(m:Int):=by omega
 have hgl:=hp.lt
 have HP:=hid hp
 have HC:=hid hc
 have HZ:=hid hz
 have HB:=hid hb
 clear c0 e hh hl0 hl1 hp hz hb hr hkm
 go_enter Tryz.func40,Tryz.ntmps40
 go_wp2_with fail
 with_reducible refine HL.out.mono ?_
 rintro e w1 ⟨rfl,rfl⟩
 go_upto_region 7 with fail
 have E1:=hid (PoE.same HP.out ((Below.refl _ _).alloc (Nat.le_refl _) (.cells #[.int .i64 (V:Int),.int .i64 (LL:Int),.int .i64 (HH:Int)] 80)))
 have HB1:=hid (HB.out.trans (E1.out.below HP.out))
 have HC1:=hid ((E1.out.cel 0 (by omega) (by omega)).trans HC.out)
 have HX:=hid (heap_alloc_new w (.cells #[.int .i64 (V:Int),.int .i64 (LL:Int),.int .i64 (HH:Int)] 80))
 have HNG:Hid (w.heap.size≠g):=hid (by omega)
 have HNF:Hid (vf.ownBlock≠some w.heap.size):=hid (fun e=>by have:=(HP.out.rf.lt _ e).2;omega)
 have HNS:Hid (vs.ownBlock≠some w.heap.size):=hid (fun e=>by have:=(HP.out.rs.lt _ e).2;omega)
 clear hc d0 d1 d2
 generalize w.alloc (.cells #[.int .i64 (V:Int),.int .i64 (LL:Int),.int .i64 (HH:Int)] 80)=w1 at *
 have HX0:=hid ((cell_of_row _ _ 0 _ _ _ HX.out).trans rfl)
 have x0:w1.cell? ⟨w.heap.size,0,none⟩=some (.int .i64 (V:Int)):=by rw [cell_of_row _ _ 0 _ _ _ HX.out];rfl
 have x1:w1.cell? ⟨w.heap.size,1,none⟩=some (.int .i64 (LL:Int)):=by rw [cell_of_row _ _ 1 _ _ _ HX.out];rfl
 have x2:w1.cell? ⟨w.heap.size,2,none⟩=some (.int .i64 (HH:Int)):=by rw [cell_of_row _ _ 2 _ _ _ HX.out];rfl
 clear HX0
 have HK:=hid (xjoin B g V LL 4 false FL _ vf vs s s' w0 w1 HB1 (hid E1.out.m) HC1 HZ HXL HFL HE)
 go_wp2_with fail
 with_reducible refine HK.out.mono ?_
 rintro e w2 ⟨rfl,hx⟩
 have HR:=hid (adO_trans (s1:=s) E1.out hx)
 clear hx HK
 go_wp2
 go_end0
 exact ⟨rfl,HR.out⟩
theorem xexp_1x (B g m c:Nat) (A:Option Addr) (M:List Br) (n r:Nat) (w0:World) (hrd:Hid (Rd w0 B A (up M))) (hml:Hid (M.length=m)) (hm:m≤1000000) (hr:Hid (2≤r→r - 2<m))(hlow:2≤r) (hh:bh M (r - 2)=1) (hl0:¬ bl M (r - 2)=0) (hl1:¬ bl M (r - 2)=1) (HXH:Hid (ExC w0 B g (.slice A m c) (exF M n (bh M (r - 2))) (bh M (r - 2)))) (HXL:Hid (ExC w0 B g (.slice A m c) (exF M n (bl M (r - 2))) (bl M (r - 2)))):ExC w0 B g (.slice A m c) (exF M (n+1) r) r:=by
 intro w vf vs s s' hb hp hc hz e
 rw [exF_succ] at e
 have HL:=hid (large_any B g 1 vf vs s.1 s.2 w hp)
 have c00:¬ 512<s.1.length∨512<s.1.length:=by omega
 rcases c00 with c0 | c0
 rotate_left
 ·rw [if_pos c0] at e
  injection e with e
  subst e
  rw [decide_eq_true c0] at HL
  have HE:=hid (AdO.mk (PoE.same hp (Below.refl _ _)))
  clear hb hp hc hz c0 HXH HXL
  go_enter Tryz.func40,Tryz.ntmps40
  go_wp2_with fail
  with_reducible refine HL.out.mono ?_
  rintro e w1 ⟨rfl,rfl⟩
  go_wp2
  refine bodyPost_ret (results_none rfl _ _ _) rfl ?_
  exact ⟨rfl,HE.out⟩
 rw [decide_eq_false c0] at HL
 rw [if_neg c0,if_neg (show ¬ r<2 by omega)] at e
 obtain ⟨k,rfl⟩:∃ k,r=k+2:=⟨r - 2,by omega⟩
 have hkm:=hr.out (by omega)
 rw [Nat.add_sub_cancel] at *
 obtain ⟨b,o,eA,hbB,hcl⟩:=(hrd.out.below hb) (by rw [up_len,hml.out];omega)
 subst eA
 obtain ⟨d0,d1,d2⟩:=hcl k (by rw [up_len,hml.out];exact hkm)
 rw [iv_up] at d0
 rw [il_up] at d1
 rw [ih_up] at d2
 have hfz:=fun r=>exF_lz M n r
 have HFH:=hid (hfz (bh M k))
 have HFL:=hid (hfz (bl M k))
 clear hcl hfz
 generalize exF M n (bh M k)=FH at *
 generalize exF M n (bl M k)=FL at *
 generalize bv M k=V at *
 generalize bl M k=LL at *
 generalize bh M k=HH at *
 have HE:Hid (jnF 5 V true FL s=.ok s'):=hid (by
  rw [if_neg (by omega),if_neg (by omega),if_neg (by omega),if_neg (by omega),if_pos hh] at e
  exact e)
 have bh0:((HH:Int) == 0)=false:=beq_eq_false_iff_ne.2 (by omega)
 have bl0:((LL:Int) == 0)=false:=beq_eq_false_iff_ne.2 (by omega)
 have bh1:((HH:Int) == 1)=true:=beq_iff_eq.2 (by omega)
 have bl1:((LL:Int) == 1)=false:=beq_eq_false_iff_ne.2 (by omega)
 have i0:¬ ((k:Int)+2)<2:=by omega
 have i1:(0:Int)≤(k:Int):=by omega
 have i2:(k:Int)<(m:Int):=by omega
 have hgl:=hp.lt
 have HP:=hid hp
 have HC:=hid hc
 have HZ:=hid hz
 have HB:=hid hb
 clear c0 e hh hl0 hl1 hp hz hb hr hkm
 go_enter Tryz.func40,Tryz.ntmps40
 go_wp2_with fail
 with_reducible refine HL.out.mono ?_
 rintro e w1 ⟨rfl,rfl⟩
 go_upto_region 7 with fail
 have E1:=hid (PoE.same HP.out ((Below.refl _ _).alloc (Nat.le_refl _) (.cells #[.int .i64 (V:Int),.int .i64 (LL:Int),.int .i64 (HH:Int)] 80)))
 have HB1:=hid (HB.out.trans (E1.out.below HP.out))
 have HC1:=hid ((E1.out.cel 0 (by omega) (by omega)).trans HC.out)
 have HX:=hid (heap_alloc_new w (.cells #[.int .i64 (V:Int),.int .i64 (LL:Int),.int .i64 (HH:Int)] 80))
 have HNG:Hid (w.heap.size≠g):=hid (by omega)
 have HNF:Hid (vf.ownBlock≠some w.heap.size):=hid (fun e=>by have:=(HP.out.rf.lt _ e).2;omega)
 have HNS:Hid (vs.ownBlock≠some w.heap.size):=hid (fun e=>by have:=(HP.out.rs.lt _ e).2;omega)
 clear hc d0 d1 d2
 generalize w.alloc (.cells #[.int .i64 (V:Int),.int .i64 (LL:Int),.int .i64 (HH:Int)] 80)=w1 at *
 have HX0:=hid ((cell_of_row _ _ 0 _ _ _ HX.out).trans rfl)
 have x0:w1.cell? ⟨w.heap.size,0,none⟩=some (.int .i64 (V:Int)):=by rw [cell_of_row _ _ 0 _ _ _ HX.out];rfl
 have x1:w1.cell? ⟨w.heap.size,1,none⟩=some (.int .i64 (LL:Int)):=by rw [cell_of_row _ _ 1 _ _ _ HX.out];rfl
 have x2:w1.cell? ⟨w.heap.size,2,none⟩=some (.int .i64 (HH:Int)):=by rw [cell_of_row _ _ 2 _ _ _ HX.out];rfl
 clear HX0
 have HK:=hid (xjoin B g V LL 5 true FL _ vf vs s s' w0 w1 HB1 (hid E1.out.m) HC1 HZ HXL HFL HE)
 go_wp2_with fail
 with_reducible refine HK.out.mono ?_
 rintro e w2 ⟨rfl,hx⟩
 have HR:=hid (adO_trans (s1:=s) E1.out hx)
 clear hx HK
 go_wp2
 go_end0
 exact ⟨rfl,HR.out⟩
theorem xexp_x0 (B g m c:Nat) (A:Option Addr) (M:List Br) (n r:Nat) (w0:World) (hrd:Hid (Rd w0 B A (up M))) (hml:Hid (M.length=m)) (hm:m≤1000000) (hr:Hid (2≤r→r - 2<m))(hlow:2≤r) (hh0:¬ bh M (r - 2)=0) (hh1:¬ bh M (r - 2)=1) (hl:bl M (r - 2)=0) (HXH:Hid (ExC w0 B g (.slice A m c) (exF M n (bh M (r - 2))) (bh M (r - 2)))) (HXL:Hid (ExC w0 B g (.slice A m c) (exF M n (bl M (r - 2))) (bl M (r - 2)))):ExC w0 B g (.slice A m c) (exF M (n+1) r) r:=by
 intro w vf vs s s' hb hp hc hz e
 rw [exF_succ] at e
 have HL:=hid (large_any B g 1 vf vs s.1 s.2 w hp)
 have c00:¬ 512<s.1.length∨512<s.1.length:=by omega
 rcases c00 with c0 | c0
 rotate_left
 ·rw [if_pos c0] at e
  injection e with e
  subst e
  rw [decide_eq_true c0] at HL
  have HE:=hid (AdO.mk (PoE.same hp (Below.refl _ _)))
  clear hb hp hc hz c0 HXH HXL
  go_enter Tryz.func40,Tryz.ntmps40
  go_wp2_with fail
  with_reducible refine HL.out.mono ?_
  rintro e w1 ⟨rfl,rfl⟩
  go_wp2
  refine bodyPost_ret (results_none rfl _ _ _) rfl ?_
  exact ⟨rfl,HE.out⟩
 rw [decide_eq_false c0] at HL
 rw [if_neg c0,if_neg (show ¬ r<2 by omega)] at e
 obtain ⟨k,rfl⟩:∃ k,r=k+2:=⟨r - 2,by omega⟩
 have hkm:=hr.out (by omega)
 rw [Nat.add_sub_cancel] at *
 obtain ⟨b,o,eA,hbB,hcl⟩:=(hrd.out.below hb) (by rw [up_len,hml.out];omega)
 subst eA
 obtain ⟨d0,d1,d2⟩:=hcl k (by rw [up_len,hml.out];exact hkm)
 rw [iv_up] at d0
 rw [il_up] at d1
 rw [ih_up] at d2
 have hfz:=fun r=>exF_lz M n r
 have HFH:=hid (hfz (bh M k))
 have HFL:=hid (hfz (bl M k))
 clear hcl hfz
 generalize exF M n (bh M k)=FH at *
 generalize exF M n (bl M k)=FL at *
 generalize bv M k=V at *
 generalize bl M k=LL at *
 generalize bh M k=HH at *
 have HE:Hid (jnF 4 V true FH s=.ok s'):=hid (by
  rw [if_neg (by omega),if_neg (by omega),if_pos hl] at e
  exact e)
 have bh0:((HH:Int) == 0)=false:=beq_eq_false_iff_ne.2 (by omega)
 have bl0:((LL:Int) == 0)=true:=beq_iff_eq.2 (by omega)
 have bh1:((HH:Int) == 1)=false:=beq_eq_false_iff_ne.2 (by omega)
 have bl1:((LL:Int) == 1)=false:=beq_eq_false_iff_ne.2 (by omega)
 have i0:¬ ((k:Int)+2)<2:=by omega
 have i1:(0:Int)≤(k:Int):=by omega
 have i2:(k:Int)<(m:Int):=by omega
 have hgl:=hp.lt
 have HP:=hid hp
 have HC:=hid hc
 have HZ:=hid hz
 have HB:=hid hb
 clear c0 e hh0 hh1 hl hp hz hb hr hkm
 go_enter Tryz.func40,Tryz.ntmps40
 go_wp2_with fail
 with_reducible refine HL.out.mono ?_
 rintro e w1 ⟨rfl,rfl⟩
 go_upto_region 7 with fail
 have E1:=hid (PoE.same HP.out ((Below.refl _ _).alloc (Nat.le_refl _) (.cells #[.int .i64 (V:Int),.int .i64 (LL:Int),.int .i64 (HH:Int)] 80)))
 have HB1:=hid (HB.out.trans (E1.out.below HP.out))
 have HC1:=hid ((E1.out.cel 0 (by omega) (by omega)).trans HC.out)
 have HX:=hid (heap_alloc_new w (.cells #[.int .i64 (V:Int),.int .i64 (LL:Int),.int .i64 (HH:Int)] 80))
 have HNG:Hid (w.heap.size≠g):=hid (by omega)
 have HNF:Hid (vf.ownBlock≠some w.heap.size):=hid (fun e=>by have:=(HP.out.rf.lt _ e).2;omega)
 have HNS:Hid (vs.ownBlock≠some w.heap.size):=hid (fun e=>by have:=(HP.out.rs.lt _ e).2;omega)
 clear hc d0 d1 d2
 generalize w.alloc (.cells #[.int .i64 (V:Int),.int .i64 (LL:Int),.int .i64 (HH:Int)] 80)=w1 at *
 have HX0:=hid ((cell_of_row _ _ 0 _ _ _ HX.out).trans rfl)
 have x0:w1.cell? ⟨w.heap.size,0,none⟩=some (.int .i64 (V:Int)):=by rw [cell_of_row _ _ 0 _ _ _ HX.out];rfl
 have x1:w1.cell? ⟨w.heap.size,1,none⟩=some (.int .i64 (LL:Int)):=by rw [cell_of_row _ _ 1 _ _ _ HX.out];rfl
 have x2:w1.cell? ⟨w.heap.size,2,none⟩=some (.int .i64 (HH:Int)):=by rw [cell_of_row _ _ 2 _ _ _ HX.out];rfl
 clear HX0
 have HK:=hid (xjoin B g V HH 4 true FH _ vf vs s s' w0 w1 HB1 (hid E1.out.m) HC1 HZ HXH HFH HE)
 go_wp2_with fail
 with_reducible refine HK.out.mono ?_
 rintro e w2 ⟨rfl,hx⟩
 have HR:=hid (adO_trans (s1:=s) E1.out hx)
 clear hx HK
 go_wp2
 go_end0
 exact ⟨rfl,HR.out⟩
theorem xexp_x1 (B g m c:Nat) (A:Option Addr) (M:List Br) (n r:Nat) (w0:World) (hrd:Hid (Rd w0 B A (up M))) (hml:Hid (M.length=m)) (hm:m≤1000000) (hr:Hid (2≤r→r - 2<m))(hlow:2≤r) (hh0:¬ bh M (r - 2)=0) (hh1:¬ bh M (r - 2)=1) (hl:bl M (r - 2)=1) (HXH:Hid (ExC w0 B g (.slice A m c) (exF M n (bh M (r - 2))) (bh M (r - 2)))) (HXL:Hid (ExC w0 B g (.slice A m c) (exF M n (bl M (r - 2))) (bl M (r - 2)))):ExC w0 B g (.slice A m c) (exF M (n+1) r) r:=by
 intro w vf vs s s' hb hp hc hz e
 rw [exF_succ] at e
 have HL:=hid (large_any B g 1 vf vs s.1 s.2 w hp)
 have c00:¬ 512<s.1.length∨512<s.1.length:=by omega
 rcases c00 with c0 | c0
 rotate_left
 ·rw [if_pos c0] at e
  injection e with e
  subst e
  rw [decide_eq_true c0] at HL
  have HE:=hid (AdO.mk (PoE.same hp (Below.refl _ _)))
  clear hb hp hc hz c0 HXH HXL
  go_enter Tryz.func40,Tryz.ntmps40
  go_wp2_with fail
  with_reducible refine HL.out.mono ?_
  rintro e w1 ⟨rfl,rfl⟩
  go_wp2
  refine bodyPost_ret (results_none rfl _ _ _) rfl ?_
  exact ⟨rfl,HE.out⟩
 rw [decide_eq_false c0] at HL
 rw [if_neg c0,if_neg (show ¬ r<2 by omega)] at e
 obtain ⟨k,rfl⟩:∃ k,r=k+2:=⟨r - 2,by omega⟩
 have hkm:=hr.out (by omega)
 rw [Nat.add_sub_cancel] at *
 obtain ⟨b,o,eA,hbB,hcl⟩:=(hrd.out.below hb) (by rw [up_len,hml.out];omega)
 subst eA
 obtain ⟨d0,d1,d2⟩:=hcl k (by rw [up_len,hml.out];exact hkm)
 rw [iv_up] at d0
 rw [il_up] at d1
 rw [ih_up] at d2
 have hfz:=fun r=>exF_lz M n r
 have HFH:=hid (hfz (bh M k))
 have HFL:=hid (hfz (bl M k))
 clear hcl hfz
 generalize exF M n (bh M k)=FH at *
 generalize exF M n (bl M k)=FL at *
 generalize bv M k=V at *
 generalize bl M k=LL at *
 generalize bh M k=HH at *
 have HE:Hid (jnF 5 V false FH s=.ok s'):=hid (by
  rw [if_neg (by omega),if_neg (by omega),if_neg (by omega),if_neg (by omega),if_neg (by omega),if_pos hl] at e
  exact e)
 have bh0:((HH:Int) == 0)=false:=beq_eq_false_iff_ne.2 (by omega)
 have bl0:((LL:Int) == 0)=false:=beq_eq_false_iff_ne.2 (by omega)
 have bh1:((HH:Int) == 1)=false:=beq_eq_false_iff_ne.2 (by omega)
 have bl1:((LL:Int) == 1)=true:=beq_iff_eq.2 (by omega)
 have i0:¬ ((k:Int)+2)<2:=by omega
 have i1:(0:Int)≤(k:Int):=by omega
 have i2:(k:Int)<(m:Int):=by omega
 have hgl:=hp.lt
 have HP:=hid hp
 have HC:=hid hc
 have HZ:=hid hz
 have HB:=hid hb
 clear c0 e hh0 hh1 hl hp hz hb hr hkm
 go_enter Tryz.func40,Tryz.ntmps40
 go_wp2_with fail
 with_reducible refine HL.out.mono ?_
 rintro e w1 ⟨rfl,rfl⟩
 go_upto_region 7 with fail
 have E1:=hid (PoE.same HP.out ((Below.refl _ _).alloc (Nat.le_refl _) (.cells #[.int .i64 (V:Int),.int .i64 (LL:Int),.int .i64 (HH:Int)] 80)))
 have HB1:=hid (HB.out.trans (E1.out.below HP.out))
 have HC1:=hid ((E1.out.cel 0 (by omega) (by omega)).trans HC.out)
 have HX:=hid (heap_alloc_new w (.cells #[.int .i64 (V:Int),.int .i64 (LL:Int),.int .i64 (HH:Int)] 80))
 have HNG:Hid (w.heap.size≠g):=hid (by omega)
 have HNF:Hid (vf.ownBlock≠some w.heap.size):=hid (fun e=>by have:=(HP.out.rf.lt _ e).2;omega)
 have HNS:Hid (vs.ownBlock≠some w.heap.size):=hid (fun e=>by have:=(HP.out.rs.lt _ e).2;omega)
 clear hc d0 d1 d2
 generalize w.alloc (.cells #[.int .i64 (V:Int),.int .i64 (LL:Int),.int .i64 (HH:Int)] 80)=w1 at *
 have HX0:=hid ((cell_of_row _ _ 0 _ _ _ HX.out).trans rfl)
 have x0:w1.cell? ⟨w.heap.size,0,none⟩=some (.int .i64 (V:Int)):=by rw [cell_of_row _ _ 0 _ _ _ HX.out];rfl
 have x1:w1.cell? ⟨w.heap.size,1,none⟩=some (.int .i64 (LL:Int)):=by rw [cell_of_row _ _ 1 _ _ _ HX.out];rfl
 have x2:w1.cell? ⟨w.heap.size,2,none⟩=some (.int .i64 (HH:Int)):=by rw [cell_of_row _ _ 2 _ _ _ HX.out];rfl
 clear HX0
 have HK:=hid (xjoin B g V HH 5 false FH _ vf vs s s' w0 w1 HB1 (hid E1.out.m) HC1 HZ HXH HFH HE)
 go_wp2_with fail
 with_reducible refine HK.out.mono ?_
 rintro e w2 ⟨rfl,hx⟩
 have HR:=hid (adO_trans (s1:=s) E1.out hx)
 clear hx HK
 go_wp2
 go_end0
 exact ⟨rfl,HR.out⟩
theorem xexp_xx (B g m c:Nat) (A:Option Addr) (M:List Br) (n r:Nat) (w0:World) (hrd:Hid (Rd w0 B A (up M))) (hml:Hid (M.length=m)) (hm:m≤1000000) (hr:Hid (2≤r→r - 2<m))(hlow:2≤r) (hh0:¬ bh M (r - 2)=0) (hh1:¬ bh M (r - 2)=1) (hl0:¬ bl M (r - 2)=0) (hl1:¬ bl M (r - 2)=1) (HXH:Hid (ExC w0 B g (.slice A m c) (exF M n (bh M (r - 2))) (bh M (r - 2)))) (HXL:Hid (ExC w0 B g (.slice A m c) (exF M n (bl M (r - 2))) (bl M (r - 2)))):ExC w0 B g (.slice A m c) (exF M (n+1) r) r:=by
 intro w vf vs s s' hb hp hc hz e
 rw [exF_succ] at e
 have HL:=hid (large_any B g 1 vf vs s.1 s.2 w hp)
 have c00:¬ 512<s.1.length∨512<s.1.length:=by omega
 rcases c00 with c0 | c0
 rotate_left
 ·rw [if_pos c0] at e
  injection e with e
  subst e
  rw [decide_eq_true c0] at HL
  have HE:=hid (AdO.mk (PoE.same hp (Below.refl _ _)))
  clear hb hp hc hz c0 HXH HXL
  go_enter Tryz.func40,Tryz.ntmps40
  go_wp2_with fail
  with_reducible refine HL.out.mono ?_
  rintro e w1 ⟨rfl,rfl⟩
  go_wp2
  refine bodyPost_ret (results_none rfl _ _ _) rfl ?_
  exact ⟨rfl,HE.out⟩
 rw [decide_eq_false c0] at HL
 rw [if_neg c0,if_neg (show ¬ r<2 by omega)] at e
 obtain ⟨k,rfl⟩:∃ k,r=k+2:=⟨r - 2,by omega⟩
 have hkm:=hr.out (by omega)
 rw [Nat.add_sub_cancel] at *
 obtain ⟨b,o,eA,hbB,hcl⟩:=(hrd.out.below hb) (by rw [up_len,hml.out];omega)
 subst eA
 obtain ⟨d0,d1,d2⟩:=hcl k (by rw [up_len,hml.out];exact hkm)
 rw [iv_up] at d0
 rw [il_up] at d1
 rw [ih_up] at d2
 have hfz:=fun r=>exF_lz M n r
 have HFH:=hid (hfz (bh M k))
 have HFL:=hid (hfz (bl M k))
 clear hcl hfz
 generalize exF M n (bh M k)=FH at *
 generalize exF M n (bl M k)=FL at *
 generalize bv M k=V at *
 generalize bl M k=LL at *
 generalize bh M k=HH at *
 have HE:Hid (((jnF 4 V true FH s).bind fun s=>(jnF 4 V false FL s).bind fun s=>adN 5 0 s)=.ok s'):=hid (by
  rw [if_neg (by omega),if_neg (by omega),if_neg (by omega),if_neg (by omega),if_neg (by omega),if_neg (by omega)] at e
  exact e)
 have bh0:((HH:Int) == 0)=false:=beq_eq_false_iff_ne.2 (by omega)
 have bl0:((LL:Int) == 0)=false:=beq_eq_false_iff_ne.2 (by omega)
 have bh1:((HH:Int) == 1)=false:=beq_eq_false_iff_ne.2 (by omega)
 have bl1:((LL:Int) == 1)=false:=beq_eq_false_iff_ne.2 (by omega)
 have i0:¬ ((k:Int)+2)<2:=by omega
 have i1:(0:Int)≤(k:Int):=by omega
 have i2:(k:Int)<(m:Int):=by omega
 have hgl:=hp.lt
 have HP:=hid hp
 have HC:=hid hc
 have HZ:=hid hz
 have HB:=hid hb
 clear c0 e hh0 hh1 hl0 hl1 hp hz hb hr hkm
 go_enter Tryz.func40,Tryz.ntmps40
 go_wp2_with fail
 with_reducible refine HL.out.mono ?_
 rintro e w1 ⟨rfl,rfl⟩
 go_upto_region 7 with fail
 have E1:=hid (PoE.same HP.out ((Below.refl _ _).alloc (Nat.le_refl _) (.cells #[.int .i64 (V:Int),.int .i64 (LL:Int),.int .i64 (HH:Int)] 80)))
 have HB1:=hid (HB.out.trans (E1.out.below HP.out))
 have HC1:=hid ((E1.out.cel 0 (by omega) (by omega)).trans HC.out)
 have HX:=hid (heap_alloc_new w (.cells #[.int .i64 (V:Int),.int .i64 (LL:Int),.int .i64 (HH:Int)] 80))
 have HNG:Hid (w.heap.size≠g):=hid (by omega)
 have HNF:Hid (vf.ownBlock≠some w.heap.size):=hid (fun e=>by have:=(HP.out.rf.lt _ e).2;omega)
 have HNS:Hid (vs.ownBlock≠some w.heap.size):=hid (fun e=>by have:=(HP.out.rs.lt _ e).2;omega)
 clear hc d0 d1 d2
 generalize w.alloc (.cells #[.int .i64 (V:Int),.int .i64 (LL:Int),.int .i64 (HH:Int)] 80)=w1 at *
 have HX0:=hid ((cell_of_row _ _ 0 _ _ _ HX.out).trans rfl)
 have x0:w1.cell? ⟨w.heap.size,0,none⟩=some (.int .i64 (V:Int)):=by rw [cell_of_row _ _ 0 _ _ _ HX.out];rfl
 have x1:w1.cell? ⟨w.heap.size,1,none⟩=some (.int .i64 (LL:Int)):=by rw [cell_of_row _ _ 1 _ _ _ HX.out];rfl
 have x2:w1.cell? ⟨w.heap.size,2,none⟩=some (.int .i64 (HH:Int)):=by rw [cell_of_row _ _ 2 _ _ _ HX.out];rfl
 clear HX0
 obtain ⟨s1,e1,e23⟩:=bind_ok HE.out
 obtain ⟨s2,e2,e3⟩:=bind_ok e23
 have HZ1:=hid (jnF_lz HFH.out e1 HZ.out)
 have HZ2:=hid (jnF_lz HFL.out e2 HZ1.out)
 have HE2:=hid e2
 have HE3:=hid e3
 have HK:=hid (xjoin B g V HH 4 true FH _ vf vs s s1 w0 w1 HB1 (hid E1.out.m) HC1 HZ HXH HFH (hid e1))
 clear e1 e2 e3 e23 HE
 go_wp2_with fail
 with_reducible refine HK.out.mono ?_
 rintro e w2 ⟨rfl,hx⟩
 obtain ⟨vf1,vs1,hE⟩:=hx
 have hX2:=hE.box HX.out HNG.out HNF.out HNS.out
 have HB2:=hid (HB1.out.trans (hE.below E1.out.m))
 have HC2:=hid ((hE.cel 0 (by omega) (by omega)).trans HC1.out)
 have HL2:=hid (xjoin B g V LL 4 false FL _ vf1 vs1 s1 s2 w0 w2 HB2 (hid hE.m) HC2 HZ1 HXL HFL HE2)
 have HEE:=hid (E1.out.trans hE)
 clear HK x0 x1 x2 hE
 have x0:w2.cell? ⟨w.heap.size,0,none⟩=some (.int .i64 (V:Int)):=by rw [cell_of_row _ _ 0 _ _ _ hX2];rfl
 have x1:w2.cell? ⟨w.heap.size,1,none⟩=some (.int .i64 (LL:Int)):=by rw [cell_of_row _ _ 1 _ _ _ hX2];rfl
 have x2:w2.cell? ⟨w.heap.size,2,none⟩=some (.int .i64 (HH:Int)):=by rw [cell_of_row _ _ 2 _ _ _ hX2];rfl
 clear hX2
 go_wp2_with fail
 with_reducible refine HL2.out.mono ?_
 rintro e w3 ⟨rfl,hx⟩
 obtain ⟨vf2,vs2,hE2⟩:=hx
 have HAD:=hid (xadd B g vf2 vs2 5 0 s2 s' w3 hE2.m HZ2.out HE3.out)
 have HE4:=hid (HEE.out.trans hE2)
 clear HL2 hE2 x0 x1 x2
 go_wp2_with fail
 with_reducible refine HAD.out.mono ?_
 rintro e w4 ⟨rfl,hx⟩
 have HR:=hid (adO_trans HE4.out hx)
 clear hx HAD
 go_wp2
 go_end0
 exact ⟨rfl,HR.out⟩
end Go.Proofs.YtpaednfinlaioaaGreatDoor
