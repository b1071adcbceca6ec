/-
  Plain mathematics and contracts of package diagram, several texts in one: DSettle, DPi, DNumA.
-/
import Derived.Test.YtpaednfinlaioaaGreatDoorMd
import Derived.Test.YtpaednfinlaioaaGreatDoorMc
set_option maxHeartbeats 4000000
set_option maxRecDepth 100000
namespace Go.Proofs.YtpaednfinlaioaaGreatDoor
open Go.Lib (hid)
open Go.RowKit Dg St
structure Ins (w:World) (d:Nat):Prop where
 c0:w.cell? ⟨d,0,none⟩=some (.int .u8 170)
 c1:w.cell? ⟨d,1,none⟩=some (.int .u8 204)
 c2:w.cell? ⟨d,2,none⟩=some (.int .u8 240)
theorem Ins.below {w w':World} {d:Nat} (h:Ins w d) (hb:Below w.heap.size w w'):Ins w' d:=by
 have hd:d<w.heap.size:=block_lt_of_cell h.c0
 exact ⟨(hb.cell (p:=⟨d,0,none⟩) hd).trans h.c0,(hb.cell (p:=⟨d,1,none⟩) hd).trans h.c1,(hb.cell (p:=⟨d,2,none⟩) hd).trans h.c2⟩
theorem C3.drewN {w:World} {b x y z:Nat} (h:C3 w b x y z) (n:Nat):C3 (w.drewN n) b x y z:=h.keep rfl
def rw1 (i j k:Nat):Nat→Nat
 | 0=>255
 | 1=>nrow 255 0 (cls i)
 | 2=>nrow (nrow 255 0 (cls i)) 1 (cls j)
 | _=>rows3 (cls i) (cls j) (cls k)
def rw2 (T i j k:Nat):Nat→Nat
 | 0=>rows4 (cls i) (cls j) (cls k) (decide (j=k))
 | 1=>r0 T (cls i) (cls j) (cls k) (decide (j=k))
 | 2=>r1 T (cls i) (cls j) (cls k) (decide (j=k))
 | _=>r2 T (cls i) (cls j) (cls k) (decide (j=k))
theorem nrow_lt {R t k:Nat} (h:R<256):nrow R t k<256:=by
 unfold nrow
 split
 ·exact andn_lt8 h
 ·split
  ·exact and_lt8 h
  ·exact h
theorem rw1_lt (i j k t:Nat):rw1 i j k t<256:=by
 unfold rw1
 split
 ·omega
 ·exact nrow_lt (by omega)
 ·exact nrow_lt (nrow_lt (by omega))
 ·exact nrow_lt (nrow_lt (nrow_lt (by omega)))
theorem rows4_lt (a b c:Nat) (e:Bool):rows4 a b c e<256:=by
 have h:rows3 a b c<256:=nrow_lt (nrow_lt (nrow_lt (by omega)))
 unfold rows4
 split
 ·exact andn_lt8 h
 ·exact h
theorem arow_lt {T R t k:Nat} (h:R<256):arow T R t k<256:=by
 unfold arow
 split
 ·exact andn_lt8 h
 ·exact h
theorem rw2_lt (T i j k t:Nat):rw2 T i j k t<256:=by
 unfold rw2
 split
 ·exact rows4_lt _ _ _ _
 ·exact arow_lt (rows4_lt _ _ _ _)
 ·exact arow_lt (arow_lt (rows4_lt _ _ _ _))
 ·exact arow_lt (arow_lt (arow_lt (rows4_lt _ _ _ _)))
def SetOut (T i j k x y z:Nat) (r:Int):Prop :=
 (code T (cls i) (cls j) (cls k) (decide (j=k))=0→r=0)∧(code T (cls i) (cls j) (cls k) (decide (j=k))=1→r=1) ∧
 (code T (cls i) (cls j) (cls k) (decide (j=k))=2→r = -1∧x=zap (z0 T (cls i) (cls j) (cls k) (decide (j=k))) i∧y=zap (z1 T (cls i) (cls j) (cls k) (decide (j=k))) j∧z=zap (z2 T (cls i) (cls j) (cls k) (decide (j=k))) k)
structure Se (w wr:World) (H x y z:Nat):Prop where
 hH:w.heap.size=H
 sz:H+1<wr.heap.size
 bel:Below H w wr
 x:C3 wr H x y z
 l:C3 wr (H+1) 0 0 0
theorem Se.drewN {w wr:World} {H x y z:Nat} (h:Se w wr H x y z) (n:Nat):Se w (wr.drewN n) H x y z:=⟨h.hH,h.sz,below_drewN h.bel n,h.x.drewN n,h.l.drewN n⟩
theorem Se.zap0 {w wr:World} {H x y z:Nat} (h:Se w wr H x y z):Se w (wr.setCell ⟨H,0,none⟩ (.int .i64 0)) H 0 y z :=
 ⟨h.hH,by have:=h.sz;simpa [World.setCell] using this,h.bel.setCell (by simp) _,h.x.set0 0,h.l.other (by simp) _⟩
theorem Se.zap1 {w wr:World} {H x y z:Nat} (h:Se w wr H x y z):Se w (wr.setCell ⟨H,1,none⟩ (.int .i64 0)) H x 0 z :=
 ⟨h.hH,by have:=h.sz;simpa [World.setCell] using this,h.bel.setCell (by simp) _,h.x.set1 0,h.l.other (by simp) _⟩
theorem Se.zap2 {w wr:World} {H x y z:Nat} (h:Se w wr H x y z):Se w (wr.setCell ⟨H,2,none⟩ (.int .i64 0)) H x y 0 :=
 ⟨h.hH,by have:=h.sz;simpa [World.setCell] using this,h.bel.setCell (by simp) _,h.x.set2 0,h.l.other (by simp) _⟩
theorem Se.fin {w wr:World} {H x y z:Nat} (h:Se w wr H x y z):C3 (((wr.setCell ⟨H+1,0,none⟩ (.int .i64 (x:Int))).setCell ⟨H+1,1,none⟩ (.int .i64 (y:Int))).setCell ⟨H+1,2,none⟩ (.int .i64 (z:Int))) (H+1) x y z ∧
  Below H w (((wr.setCell ⟨H+1,0,none⟩ (.int .i64 (x:Int))).setCell ⟨H+1,1,none⟩ (.int .i64 (y:Int))).setCell ⟨H+1,2,none⟩ (.int .i64 (z:Int))) :=
 ⟨((h.l.set0 x).set1 y).set2 z,((h.bel.setCell (by simp) _).setCell (by simp) _).setCell (by simp) _⟩
theorem away_two {T R t n:Nat} (h:¬ 2≤n):away T R t (cls n)=false:=by
 unfold away
 have h2:¬ 2≤cls n:=by
  unfold cls
  split
  ·omega
  ·split <;> omega
 rw [decide_eq_false h2,Bool.false_and]
theorem away_ge {T R t n:Nat} (h:2≤n):away T R t (cls n)=decide ((T &&& R &&& insd t) >>> (1 <<< t)=andn (T &&& R) (insd t)):=by
 unfold away
 have:cls n=2:=by unfold cls;rw [if_neg (by omega),if_neg (by omega)]
 rw [this,decide_eq_true (Nat.le_refl 2),Bool.true_and]
theorem settle_any (g i j k T:Nat) (w:World) (hT:T<256) (hgT:w.cell? ⟨g,6,none⟩=some (.int .u8 (T:Int))) (hin:Hid (Ins w 0)) :
  Calls Tryz.prog 130 #[.pointer (some ⟨g,0,none⟩),.agg #[.int .i64 (i:Int),.int .i64 (j:Int),.int .i64 (k:Int)]] w fun e w' =>
   (∃ (x y z:Nat) (r:Int),e=.returned (.tuple #[.agg #[.int .i64 (x:Int),.int .i64 (y:Int),.int .i64 (z:Int)],.int .i64 r])∧SetOut T i j k x y z r)∧Below w.heap.size w w':=by
 have x0:∀ (a b c:Int) (W:World),(Instr.index 167 (.agg #[.int .i64 a,.int .i64 b,.int .i64 c]) (.int .i64 0)).run Tryz.prog W=.ok (.int .i64 a) W:=fun _ _ _ _=>by kernel_rfl
 have x1:∀ (a b c:Int) (W:World),(Instr.index 167 (.agg #[.int .i64 a,.int .i64 b,.int .i64 c]) (.int .i64 1)).run Tryz.prog W=.ok (.int .i64 b) W:=fun _ _ _ _=>by kernel_rfl
 have x2:∀ (a b c:Int) (W:World),(Instr.index 167 (.agg #[.int .i64 a,.int .i64 b,.int .i64 c]) (.int .i64 2)).run Tryz.prog W=.ok (.int .i64 c) W:=fun _ _ _ _=>by kernel_rfl
 have hw0:Hid (Se w ((w.alloc (.cells #[.int .i64 (i:Int),.int .i64 (j:Int),.int .i64 (k:Int)] 167)).alloc (.cells #[.int .i64 0,.int .i64 0,.int .i64 0] 167)) w.heap.size i j k):=by
  refine ⟨rfl,by simp,(((Below.refl _ _).alloc (Nat.le_refl _) _).alloc (by simp) _),?_,?_⟩
  ·exact (C3.new (w:=w) rfl i j k _).below ((Below.refl _ _).alloc (Nat.le_refl _) _)
  ·exact C3.new (w:=w.alloc _) (by simp) 0 0 0 _
 have hgl:g<w.heap.size:=block_lt_of_cell hgT
 have hdl:0<w.heap.size:=block_lt_of_cell hin.out.c0
 go_enter Tryz.func130,Tryz.ntmps130
 go_wp2
 generalize ((w.alloc (.cells #[.int .i64 (i:Int),.int .i64 (j:Int),.int .i64 (k:Int)] 167)).alloc (.cells #[.int .i64 0,.int .i64 0,.int .i64 0] 167))=w3 at *
 have hgT3:=(hw0.out.bel.cell (p:=⟨g,6,none⟩) hgl).trans hgT
 obtain ⟨in0,in1,in2⟩:=hin.out.below hw0.out.bel
 generalize hHH:w.heap.size=H at *
 go_loop [6,14] (fun v t=>∃ r:Nat,r≤3∧t=.int .i64 (r:Int)∧v=.int .u8 ((rw1 i j k r:Nat):Int)) (fun _ t=>3 - (intOf t).toNat)
 case atStart=>exact ⟨0,by omega,rfl,rfl⟩
 case round =>
  obtain ⟨r,hr,rfl,rfl⟩:=hrel
  rcases r with _ | _ | _ | r
  ·-- argument 0
   have HR:Hid (rw1 i j k 1=nrow (rw1 i j k 0) 0 (cls i)):=show _=_ from rfl
   have hR:=rw1_lt i j k 0
   have hb1:=bandn8 (b:=170) hR (by omega)
   have hb2:=band8 (b:=170) hR (by omega)
   generalize rw1 i j k 0=R at *
   have hb1':bits .andNot .u8 (R:Int) 170=((andn R 170:Nat):Int):=hb1
   have hb2':bits .and .u8 (R:Int) 170=((R &&& 170:Nat):Int):=hb2
   clear hb1 hb2
   by_cases q0:i=0
   ·have HX:Hid (rw1 i j k 1=andn R 170):=by rw [HR.out,q0];rfl
    have hn0:((i:Int) == 0)=true:=by rw [q0];rfl
    clear q0
    go_wp2
    go_round
    case rel=>exact ⟨1,by omega,by go_num,by rw [HX.out]⟩
    case measure=>simp [intOf]
   ·have hn0:((i:Int) == 0)=false:=beq_eq_false_iff_ne.2 (by omega)
    by_cases q1:i=1
    ·have HX:Hid (rw1 i j k 1=R &&& 170):=by rw [HR.out,q1];rfl
     have hn1:((i:Int) == 1)=true:=by rw [q1];rfl
     clear q0 q1
     go_wp2
     go_round
     case rel=>exact ⟨1,by omega,by go_num,by rw [HX.out]⟩
     case measure=>simp [intOf]
    ·have HX:Hid (rw1 i j k 1=R):=by rw [HR.out];unfold cls;rw [if_neg q0,if_neg q1];rfl
     have hn1:((i:Int) == 1)=false:=beq_eq_false_iff_ne.2 (by omega)
     clear q0 q1
     go_wp2
     go_round
     case rel=>exact ⟨1,by omega,by go_num,by rw [HX.out]⟩
     case measure=>simp [intOf]
  ·-- argument 1
   have HR:Hid (rw1 i j k 2=nrow (rw1 i j k 1) 1 (cls j)):=show _=_ from rfl
   have hR:=rw1_lt i j k 1
   have hb1:=bandn8 (b:=204) hR (by omega)
   have hb2:=band8 (b:=204) hR (by omega)
   generalize rw1 i j k 1=R at *
   have hb1':bits .andNot .u8 (R:Int) 204=((andn R 204:Nat):Int):=hb1
   have hb2':bits .and .u8 (R:Int) 204=((R &&& 204:Nat):Int):=hb2
   clear hb1 hb2
   by_cases q0:j=0
   ·have HX:Hid (rw1 i j k 2=andn R 204):=by rw [HR.out,q0];rfl
    have hn0:((j:Int) == 0)=true:=by rw [q0];rfl
    clear q0
    go_wp2
    go_round
    case rel=>exact ⟨2,by omega,by go_num,by rw [HX.out]⟩
    case measure=>simp [intOf]
   ·have hn0:((j:Int) == 0)=false:=beq_eq_false_iff_ne.2 (by omega)
    by_cases q1:j=1
    ·have HX:Hid (rw1 i j k 2=R &&& 204):=by rw [HR.out,q1];rfl
     have hn1:((j:Int) == 1)=true:=by rw [q1];rfl
     clear q0 q1
     go_wp2
     go_round
     case rel=>exact ⟨2,by omega,by go_num,by rw [HX.out]⟩
     case measure=>simp [intOf]
    ·have HX:Hid (rw1 i j k 2=R):=by rw [HR.out];unfold cls;rw [if_neg q0,if_neg q1];rfl
     have hn1:((j:Int) == 1)=false:=beq_eq_false_iff_ne.2 (by omega)
     clear q0 q1
     go_wp2
     go_round
     case rel=>exact ⟨2,by omega,by go_num,by rw [HX.out]⟩
     case measure=>simp [intOf]
  ·-- argument 2
   have HR:Hid (rw1 i j k 3=nrow (rw1 i j k 2) 2 (cls k)):=show _=_ from rfl
   have hR:=rw1_lt i j k 2
   have hb1:=bandn8 (b:=240) hR (by omega)
   have hb2:=band8 (b:=240) hR (by omega)
   generalize rw1 i j k 2=R at *
   have hb1':bits .andNot .u8 (R:Int) 240=((andn R 240:Nat):Int):=hb1
   have hb2':bits .and .u8 (R:Int) 240=((R &&& 240:Nat):Int):=hb2
   clear hb1 hb2
   by_cases q0:k=0
   ·have HX:Hid (rw1 i j k 3=andn R 240):=by rw [HR.out,q0];rfl
    have hn0:((k:Int) == 0)=true:=by rw [q0];rfl
    clear q0
    go_wp2
    go_round
    case rel=>exact ⟨3,by omega,by go_num,by rw [HX.out]⟩
    case measure=>simp [intOf]
   ·have hn0:((k:Int) == 0)=false:=beq_eq_false_iff_ne.2 (by omega)
    by_cases q1:k=1
    ·have HX:Hid (rw1 i j k 3=R &&& 240):=by rw [HR.out,q1];rfl
     have hn1:((k:Int) == 1)=true:=by rw [q1];rfl
     clear q0 q1
     go_wp2
     go_round
     case rel=>exact ⟨3,by omega,by go_num,by rw [HX.out]⟩
     case measure=>simp [intOf]
    ·have HX:Hid (rw1 i j k 3=R):=by rw [HR.out];unfold cls;rw [if_neg q0,if_neg q1];rfl
     have hn1:((k:Int) == 1)=false:=beq_eq_false_iff_ne.2 (by omega)
     clear q0 q1
     go_wp2
     go_round
     case rel=>exact ⟨3,by omega,by go_num,by rw [HX.out]⟩
     case measure=>simp [intOf]
  ·obtain rfl:r=0:=by omega
   have HR3:Hid (rw1 i j k 3=rows3 (cls i) (cls j) (cls k)):=show _=_ from rfl
   have hR3:=rw1_lt i j k 3
   have HR4:Hid (rw2 T i j k 0=rows4 (cls i) (cls j) (cls k) (decide (j=k))):=show _=_ from rfl
   have hR4:=rw2_lt T i j k 0
   have HC:Hid (code T (cls i) (cls j) (cls k) (decide (j=k))=if T &&& rw2 T i j k 0=0 then 0 else if T &&& rw2 T i j k 0=rw2 T i j k 0 then 1 else 2):=show _=_ from rfl
   have sz:=hw0.out.sz
   obtain ⟨xa0,xa1,xa2,xf0,xf1,xf2⟩:=hw0.out.x
   obtain ⟨la0,la1,la2,lf0,lf1,lf2⟩:=hw0.out.l
   have hand:=band8 hT hR4
   have hWlt:=and_lt8 (b:=rw2 T i j k 0) hT
   have hxor:bits .xor .u8 204 240=60:=by decide +kernel
   have hnot:=bandn8 (b:=60) hR3 (by omega)
   have h4:(j=k→rw2 T i j k 0=andn (rw1 i j k 3) 60)∧(¬ j=k→rw2 T i j k 0=rw1 i j k 3):=by
    rw [HR3.out,HR4.out]
    unfold rows4
    exact ⟨fun e=>by rw [decide_eq_true e,if_pos rfl],fun e=>by rw [decide_eq_false e,if_neg (by simp)]⟩
   have H4:=hid h4
   clear h4
   generalize hg4:rw2 T i j k 0=R4 at *
   have HG4:=hid hg4
   clear hg4
   generalize hgW:T &&& R4=W at *
   have HGW:=hid hgW
   clear hgW
   have hends:∀ (rr:Int),(W=0→rr=0)→(W≠0→W=R4→rr=1)→(W=0∨W=R4)→SetOut T i j k i j k rr:=fun rr q0 q1 q2=>by
    have hc:=HC.out
    refine ⟨fun e=>?_,fun e=>?_,fun e=>?_⟩ <;> rw [hc] at e
    ·by_cases w0:W=0
     ·exact q0 w0
     ·rw [if_neg w0] at e
      by_cases w1:W=R4
      ·rw [if_pos w1] at e;omega
      ·rw [if_neg w1] at e;omega
    ·by_cases w0:W=0
     ·rw [if_pos w0] at e;omega
     ·rw [if_neg w0] at e
      by_cases w1:W=R4
      ·exact q1 w0 w1
      ·rw [if_neg w1] at e;omega
    ·rcases q2 with w0 | w1
     ·rw [if_pos w0] at e;omega
     ·by_cases w0:W=0
      ·rw [if_pos w0] at e;omega
      ·rw [if_neg w0,if_pos w1] at e;omega
   have HENDS:=hid hends
   clear hends
   by_cases ejk:j=k
   ·have R4e:Hid (andn (rw1 i j k 3) 60=R4):=(H4.out.1 ejk).symm
    have hnot2':bits .andNot .u8 ((rw1 i j k 3:Nat):Int) 60=(R4:Int):=by rw [← R4e.out];exact hnot
    have hje:((j:Int) == (k:Int))=true:=by rw [ejk];exact beq_self_eq_true _
    have EJK:=hid ejk
    clear ejk hnot
    generalize rw1 i j k 3=R3 at *
    by_cases w0:W=0
    ·have hw:((W:Int) == 0)=true:=by rw [w0];rfl
     have W0:=hid w0
     clear w0
     go_wp2
     clear la0 la1 la2 lf0 lf1 lf2 xa0 xa1 xa2 xf0 xf1 xf2
     have hF:=hid (hw0.out.fin)
     generalize ((w3.setCell ⟨H+1,0,none⟩ (.int .i64 ((i:Int)))).setCell ⟨H+1,1,none⟩ (.int .i64 ((j:Int)))).setCell ⟨H+1,2,none⟩ (.int .i64 ((k:Int)))=wf at *
     obtain ⟨la0,la1,la2,_,_,_⟩:=hF.out.1
     have hbel:=hF.out.2
     refine bodyPost_ret (v:=.tuple #[.agg #[.int .i64 ((i:Int)),.int .i64 ((j:Int)),.int .i64 ((k:Int))],.int .i64 0]) ?_ rfl ⟨⟨_,_,_,0,rfl,HENDS.out 0 (fun _=>rfl) (fun h=>absurd W0.out h) (.inl W0.out)⟩,hbel⟩
     simp [results,Tryz.results130,go_sem,la0,la1,la2]
    ·have hw:((W:Int) == 0)=false:=beq_eq_false_iff_ne.2 (by omega)
     have W0:=hid w0
     clear w0
     by_cases w1:W=R4
     ·have hw1:((W:Int) == (R4:Int))=true:=by rw [w1];exact beq_self_eq_true _
      have W1:=hid w1
      clear w1
      go_wp2
      clear la0 la1 la2 lf0 lf1 lf2 xa0 xa1 xa2 xf0 xf1 xf2
      have hF:=hid (hw0.out.fin)
      generalize ((w3.setCell ⟨H+1,0,none⟩ (.int .i64 ((i:Int)))).setCell ⟨H+1,1,none⟩ (.int .i64 ((j:Int)))).setCell ⟨H+1,2,none⟩ (.int .i64 ((k:Int)))=wf at *
      obtain ⟨la0,la1,la2,_,_,_⟩:=hF.out.1
      have hbel:=hF.out.2
      refine bodyPost_ret (v:=.tuple #[.agg #[.int .i64 ((i:Int)),.int .i64 ((j:Int)),.int .i64 ((k:Int))],.int .i64 1]) ?_ rfl ⟨⟨_,_,_,1,rfl,HENDS.out 1 (fun h=>absurd h W0.out) (fun _ _=>rfl) (.inr W1.out)⟩,hbel⟩
      simp [results,Tryz.results130,go_sem,la0,la1,la2]
     ·have hw1:((W:Int) == (R4:Int))=false:=beq_eq_false_iff_ne.2 (by omega)
      have W1:=hid w1
      clear w1
      go_wp2
      clear la0 la1 la2 lf0 lf1 lf2 xa0 xa1 xa2 xf0 xf1 xf2 hand hWlt hw hw1 hje
      have hout:Hid (code T (cls i) (cls j) (cls k) (decide (j=k))=2):=by
       show _=_
       rw [HC.out,if_neg W0.out,if_neg W1.out]
      have HGT:=hid hgT3
      have HIN:Hid (Ins w 0):=hin
      clear hgT3 in0 in1 in2 HENDS
      try clear hnot2'
      go_loopw [6,60] (fun v t wr=>∃ r:Nat,r≤3∧t=.int .i64 (r:Int)∧v=.int .u8 ((rw2 T i j k r:Nat):Int)∧Hid (Se w wr H (mx r 0 (zap (z0 T (cls i) (cls j) (cls k) (decide (j=k))) i) i) (mx r 1 (zap (z1 T (cls i) (cls j) (cls k) (decide (j=k))) j) j) (mx r 2 (zap (z2 T (cls i) (cls j) (cls k) (decide (j=k))) k) k))) (fun _ t _=>3 - (intOf t).toNat)
      case atStart=>exact ⟨0,by omega,rfl,by rw [← HG4.out],hw0.out⟩
      case round =>
       obtain ⟨r,hr,rfl,rfl,hst⟩:=hrel
       rcases r with _ | _ | _ | r
       ·-- argument 0
        have hse:Hid (Se w wr H i j k):=hst
        clear hst
        have hR:=rw2_lt T i j k 0
        have HRN:Hid (rw2 T i j k 1=arow T (rw2 T i j k 0) 0 (cls i)):=show _=_ from rfl
        have HZ:Hid (z0 T (cls i) (cls j) (cls k) (decide (j=k))=away T (rw2 T i j k 0) 0 (cls i)):=show _=_ from rfl
        generalize rw2 T i j k 0=R at *
        have hbel:=hse.out.bel
        have hgTr:=(hbel.cell (p:=⟨g,6,none⟩) hgl).trans hgT
        obtain ⟨in0,in1,in2⟩:=HIN.out.below (by rw [hHH];exact hbel)
        clear hbel
        have hb1:=band8 hT hR
        have hWlt:=and_lt8 (b:=R) hT
        have hb2:=band8 (b:=170) hWlt (by omega)
        have hb3:=bandn8 (b:=170) hWlt (by omega)
        have hb4:=bandn8 (b:=170) hR (by omega)
        have HSH:Hid ((T &&& R) &&& 170=T &&& R &&& 170):=rfl
        have hAW:=away_ge (T:=T) (R:=R) (t:=0) (n:=i)
        generalize T &&& R=W at *
        have hb2':bits .and .u8 (W:Int) 170=((W &&& 170:Nat):Int):=hb2
        have hb3':bits .andNot .u8 (W:Int) 170=((andn W 170:Nat):Int):=hb3
        have hb4':bits .andNot .u8 (R:Int) 170=((andn R 170:Nat):Int):=hb4
        have hAW':2≤i→away T R 0 (cls i)=decide ((W &&& 170) / 2 ^ 1=andn W 170):=fun h=>by rw [hAW h,← Nat.shiftRight_eq_div_pow];rfl
        have HAW:=hid hAW'
        clear hb2 hb3 hb4 hAW hAW'
        have hXl:W &&& 170<256:=and_lt8 hWlt
        have hYl:andn W 170<256:=andn_lt8 hWlt
        obtain ⟨xa0,xa1,xa2,xf0,xf1,xf2⟩:=hse.out.x
        generalize W &&& 170=X at *
        generalize andn W 170=Y at *
        by_cases q:2≤i
        ·have hge:decide ((2:Int)≤(i:Int))=true:=decide_eq_true (by omega)
         by_cases q2:X / 2 ^ 1=Y
         ·have ha:away T R 0 (cls i)=true:=by rw [HAW.out q,decide_eq_true q2]
          have HX:Hid (rw2 T i j k 1=andn R 170):=by show _=_;rw [HRN.out];unfold arow;rw [ha,if_pos rfl];rfl
          have HY:Hid (zap (z0 T (cls i) (cls j) (cls k) (decide (j=k))) i=0):=by show _=_;rw [HZ.out,ha];rfl
          have hq:((X:Int) / 2 ^ 1 == (Y:Int))=true:=by rw [← q2];simp
          clear ha q2
          go_wp2
          go_quiet (fail)
          go_wp2
          go_roundw
          case rel=>exact ⟨1,by omega,by go_num,by rw [HX.out],by rw [HY.out];first | exact (hse.out.drewN _).zap0 | exact hse.out.zap0.drewN _⟩
          case measure=>simp [intOf]
         ·have ha:away T R 0 (cls i)=false:=by rw [HAW.out q,decide_eq_false q2]
          have HX:Hid (rw2 T i j k 1=R):=by show _=_;rw [HRN.out];unfold arow;rw [ha,if_neg (by simp)]
          have HY:Hid (zap (z0 T (cls i) (cls j) (cls k) (decide (j=k))) i=i):=by show _=_;rw [HZ.out,ha];rfl
          have hq:((X:Int) / 2 ^ 1 == (Y:Int))=false:=beq_eq_false_iff_ne.2 (fun e=>q2 (by exact_mod_cast e))
          clear ha q2
          go_wp2
          go_quiet (fail)
          go_wp2
          go_roundw
          case rel=>exact ⟨1,by omega,by go_num,by rw [HX.out],by rw [HY.out];exact hse.out.drewN _⟩
          case measure=>simp [intOf]
        ·have ha:=away_two (T:=T) (R:=R) (t:=0) q
         have hge:decide ((2:Int)≤(i:Int))=false:=decide_eq_false (by omega)
         have HX:Hid (rw2 T i j k 1=R):=by show _=_;rw [HRN.out];unfold arow;rw [ha,if_neg (by simp)]
         have HY:Hid (zap (z0 T (cls i) (cls j) (cls k) (decide (j=k))) i=i):=by show _=_;rw [HZ.out,ha];rfl
         clear ha
         go_wp2
         go_quiet (fail)
         go_wp2
         go_roundw
         case rel=>exact ⟨1,by omega,by go_num,by rw [HX.out],by rw [HY.out];exact hse.out.drewN _⟩
         case measure=>simp [intOf]
       ·-- argument 1
        have hse:Hid (Se w wr H (zap (z0 T (cls i) (cls j) (cls k) (decide (j=k))) i) j k):=hst
        clear hst
        have hR:=rw2_lt T i j k 1
        have HRN:Hid (rw2 T i j k 2=arow T (rw2 T i j k 1) 1 (cls j)):=show _=_ from rfl
        have HZ:Hid (z1 T (cls i) (cls j) (cls k) (decide (j=k))=away T (rw2 T i j k 1) 1 (cls j)):=show _=_ from rfl
        generalize rw2 T i j k 1=R at *
        have hbel:=hse.out.bel
        have hgTr:=(hbel.cell (p:=⟨g,6,none⟩) hgl).trans hgT
        obtain ⟨in0,in1,in2⟩:=HIN.out.below (by rw [hHH];exact hbel)
        clear hbel
        have hb1:=band8 hT hR
        have hWlt:=and_lt8 (b:=R) hT
        have hb2:=band8 (b:=204) hWlt (by omega)
        have hb3:=bandn8 (b:=204) hWlt (by omega)
        have hb4:=bandn8 (b:=204) hR (by omega)
        have HSH:Hid ((T &&& R) &&& 204=T &&& R &&& 204):=rfl
        have hAW:=away_ge (T:=T) (R:=R) (t:=1) (n:=j)
        generalize T &&& R=W at *
        have hb2':bits .and .u8 (W:Int) 204=((W &&& 204:Nat):Int):=hb2
        have hb3':bits .andNot .u8 (W:Int) 204=((andn W 204:Nat):Int):=hb3
        have hb4':bits .andNot .u8 (R:Int) 204=((andn R 204:Nat):Int):=hb4
        have hAW':2≤j→away T R 1 (cls j)=decide ((W &&& 204) / 2 ^ 2=andn W 204):=fun h=>by rw [hAW h,← Nat.shiftRight_eq_div_pow];rfl
        have HAW:=hid hAW'
        clear hb2 hb3 hb4 hAW hAW'
        have hXl:W &&& 204<256:=and_lt8 hWlt
        have hYl:andn W 204<256:=andn_lt8 hWlt
        obtain ⟨xa0,xa1,xa2,xf0,xf1,xf2⟩:=hse.out.x
        generalize W &&& 204=X at *
        generalize andn W 204=Y at *
        by_cases q:2≤j
        ·have hge:decide ((2:Int)≤(j:Int))=true:=decide_eq_true (by omega)
         by_cases q2:X / 2 ^ 2=Y
         ·have ha:away T R 1 (cls j)=true:=by rw [HAW.out q,decide_eq_true q2]
          have HX:Hid (rw2 T i j k 2=andn R 204):=by show _=_;rw [HRN.out];unfold arow;rw [ha,if_pos rfl];rfl
          have HY:Hid (zap (z1 T (cls i) (cls j) (cls k) (decide (j=k))) j=0):=by show _=_;rw [HZ.out,ha];rfl
          have hq:((X:Int) / 2 ^ 2 == (Y:Int))=true:=by rw [← q2];simp
          clear ha q2
          go_wp2
          go_quiet (fail)
          go_wp2
          go_roundw
          case rel=>exact ⟨2,by omega,by go_num,by rw [HX.out],by rw [HY.out];first | exact (hse.out.drewN _).zap1 | exact hse.out.zap1.drewN _⟩
          case measure=>simp [intOf]
         ·have ha:away T R 1 (cls j)=false:=by rw [HAW.out q,decide_eq_false q2]
          have HX:Hid (rw2 T i j k 2=R):=by show _=_;rw [HRN.out];unfold arow;rw [ha,if_neg (by simp)]
          have HY:Hid (zap (z1 T (cls i) (cls j) (cls k) (decide (j=k))) j=j):=by show _=_;rw [HZ.out,ha];rfl
          have hq:((X:Int) / 2 ^ 2 == (Y:Int))=false:=beq_eq_false_iff_ne.2 (fun e=>q2 (by exact_mod_cast e))
          clear ha q2
          go_wp2
          go_quiet (fail)
          go_wp2
          go_roundw
          case rel=>exact ⟨2,by omega,by go_num,by rw [HX.out],by rw [HY.out];exact hse.out.drewN _⟩
          case measure=>simp [intOf]
        ·have ha:=away_two (T:=T) (R:=R) (t:=1) q
         have hge:decide ((2:Int)≤(j:Int))=false:=decide_eq_false (by omega)
         have HX:Hid (rw2 T i j k 2=R):=by show _=_;rw [HRN.out];unfold arow;rw [ha,if_neg (by simp)]
         have HY:Hid (zap (z1 T (cls i) (cls j) (cls k) (decide (j=k))) j=j):=by show _=_;rw [HZ.out,ha];rfl
         clear ha
         go_wp2
         go_quiet (fail)
         go_wp2
         go_roundw
         case rel=>exact ⟨2,by omega,by go_num,by rw [HX.out],by rw [HY.out];exact hse.out.drewN _⟩
         case measure=>simp [intOf]
       ·-- argument 2
        have hse:Hid (Se w wr H (zap (z0 T (cls i) (cls j) (cls k) (decide (j=k))) i) (zap (z1 T (cls i) (cls j) (cls k) (decide (j=k))) j) k):=hst
        clear hst
        have hR:=rw2_lt T i j k 2
        have HRN:Hid (rw2 T i j k 3=arow T (rw2 T i j k 2) 2 (cls k)):=show _=_ from rfl
        have HZ:Hid (z2 T (cls i) (cls j) (cls k) (decide (j=k))=away T (rw2 T i j k 2) 2 (cls k)):=show _=_ from rfl
        generalize rw2 T i j k 2=R at *
        have hbel:=hse.out.bel
        have hgTr:=(hbel.cell (p:=⟨g,6,none⟩) hgl).trans hgT
        obtain ⟨in0,in1,in2⟩:=HIN.out.below (by rw [hHH];exact hbel)
        clear hbel
        have hb1:=band8 hT hR
        have hWlt:=and_lt8 (b:=R) hT
        have hb2:=band8 (b:=240) hWlt (by omega)
        have hb3:=bandn8 (b:=240) hWlt (by omega)
        have hb4:=bandn8 (b:=240) hR (by omega)
        have HSH:Hid ((T &&& R) &&& 240=T &&& R &&& 240):=rfl
        have hAW:=away_ge (T:=T) (R:=R) (t:=2) (n:=k)
        generalize T &&& R=W at *
        have hb2':bits .and .u8 (W:Int) 240=((W &&& 240:Nat):Int):=hb2
        have hb3':bits .andNot .u8 (W:Int) 240=((andn W 240:Nat):Int):=hb3
        have hb4':bits .andNot .u8 (R:Int) 240=((andn R 240:Nat):Int):=hb4
        have hAW':2≤k→away T R 2 (cls k)=decide ((W &&& 240) / 2 ^ 4=andn W 240):=fun h=>by rw [hAW h,← Nat.shiftRight_eq_div_pow];rfl
        have HAW:=hid hAW'
        clear hb2 hb3 hb4 hAW hAW'
        have hXl:W &&& 240<256:=and_lt8 hWlt
        have hYl:andn W 240<256:=andn_lt8 hWlt
        obtain ⟨xa0,xa1,xa2,xf0,xf1,xf2⟩:=hse.out.x
        generalize W &&& 240=X at *
        generalize andn W 240=Y at *
        by_cases q:2≤k
        ·have hge:decide ((2:Int)≤(k:Int))=true:=decide_eq_true (by omega)
         by_cases q2:X / 2 ^ 4=Y
         ·have ha:away T R 2 (cls k)=true:=by rw [HAW.out q,decide_eq_true q2]
          have HX:Hid (rw2 T i j k 3=andn R 240):=by show _=_;rw [HRN.out];unfold arow;rw [ha,if_pos rfl];rfl
          have HY:Hid (zap (z2 T (cls i) (cls j) (cls k) (decide (j=k))) k=0):=by show _=_;rw [HZ.out,ha];rfl
          have hq:((X:Int) / 2 ^ 4 == (Y:Int))=true:=by rw [← q2];simp
          clear ha q2
          go_wp2
          go_quiet (fail)
          go_wp2
          go_roundw
          case rel=>exact ⟨3,by omega,by go_num,by rw [HX.out],by rw [HY.out];first | exact (hse.out.drewN _).zap2 | exact hse.out.zap2.drewN _⟩
          case measure=>simp [intOf]
         ·have ha:away T R 2 (cls k)=false:=by rw [HAW.out q,decide_eq_false q2]
          have HX:Hid (rw2 T i j k 3=R):=by show _=_;rw [HRN.out];unfold arow;rw [ha,if_neg (by simp)]
          have HY:Hid (zap (z2 T (cls i) (cls j) (cls k) (decide (j=k))) k=k):=by show _=_;rw [HZ.out,ha];rfl
          have hq:((X:Int) / 2 ^ 4 == (Y:Int))=false:=beq_eq_false_iff_ne.2 (fun e=>q2 (by exact_mod_cast e))
          clear ha q2
          go_wp2
          go_quiet (fail)
          go_wp2
          go_roundw
          case rel=>exact ⟨3,by omega,by go_num,by rw [HX.out],by rw [HY.out];exact hse.out.drewN _⟩
          case measure=>simp [intOf]
        ·have ha:=away_two (T:=T) (R:=R) (t:=2) q
         have hge:decide ((2:Int)≤(k:Int))=false:=decide_eq_false (by omega)
         have HX:Hid (rw2 T i j k 3=R):=by show _=_;rw [HRN.out];unfold arow;rw [ha,if_neg (by simp)]
         have HY:Hid (zap (z2 T (cls i) (cls j) (cls k) (decide (j=k))) k=k):=by show _=_;rw [HZ.out,ha];rfl
         clear ha
         go_wp2
         go_quiet (fail)
         go_wp2
         go_roundw
         case rel=>exact ⟨3,by omega,by go_num,by rw [HX.out],by rw [HY.out];exact hse.out.drewN _⟩
         case measure=>simp [intOf]
       ·obtain rfl:r=0:=by omega
        have hse:Hid (Se w wr H (zap (z0 T (cls i) (cls j) (cls k) (decide (j=k))) i) (zap (z1 T (cls i) (cls j) (cls k) (decide (j=k))) j) (zap (z2 T (cls i) (cls j) (cls k) (decide (j=k))) k)):=hst
        clear hst
        obtain ⟨xa0,xa1,xa2,xf0,xf1,xf2⟩:=hse.out.x
        obtain ⟨la0,la1,la2,lf0,lf1,lf2⟩:=hse.out.l
        have HSO:Hid (SetOut T i j k (zap (z0 T (cls i) (cls j) (cls k) (decide (j=k))) i) (zap (z1 T (cls i) (cls j) (cls k) (decide (j=k))) j) (zap (z2 T (cls i) (cls j) (cls k) (decide (j=k))) k) (-1)):=by
         refine ⟨fun h=>?_,fun h=>?_,fun _=>⟨rfl,rfl,rfl,rfl⟩⟩
         ·rw [hout.out] at h;omega
         ·rw [hout.out] at h;omega
        generalize zap (z0 T (cls i) (cls j) (cls k) (decide (j=k))) i=X at *
        generalize zap (z1 T (cls i) (cls j) (cls k) (decide (j=k))) j=Y at *
        generalize zap (z2 T (cls i) (cls j) (cls k) (decide (j=k))) k=Z at *
        go_wp2
        clear la0 la1 la2 lf0 lf1 lf2 xa0 xa1 xa2 xf0 xf1 xf2
        have hF:=hid (hse.out.fin)
        generalize ((wr.setCell ⟨H+1,0,none⟩ (.int .i64 ((X:Int)))).setCell ⟨H+1,1,none⟩ (.int .i64 ((Y:Int)))).setCell ⟨H+1,2,none⟩ (.int .i64 ((Z:Int)))=wf at *
        obtain ⟨la0,la1,la2,_,_,_⟩:=hF.out.1
        have hbel:=hF.out.2
        refine bodyPost_ret (v:=.tuple #[.agg #[.int .i64 ((X:Int)),.int .i64 ((Y:Int)),.int .i64 ((Z:Int))],.int .i64 (-1)]) ?_ rfl ⟨⟨_,_,_,(-1),rfl,HSO.out⟩,by rw [hHH];exact hbel⟩
        simp [results,Tryz.results130,go_sem,la0,la1,la2]
   ·have R4e:Hid (rw1 i j k 3=R4):=(H4.out.2 ejk).symm
    have hje:((j:Int) == (k:Int))=false:=beq_eq_false_iff_ne.2 (fun e=>ejk (by omega))
    have EJK:=hid ejk
    clear ejk hnot
    rw [R4e.out]
    by_cases w0:W=0
    ·have hw:((W:Int) == 0)=true:=by rw [w0];rfl
     have W0:=hid w0
     clear w0
     go_wp2
     clear la0 la1 la2 lf0 lf1 lf2 xa0 xa1 xa2 xf0 xf1 xf2
     have hF:=hid (hw0.out.fin)
     generalize ((w3.setCell ⟨H+1,0,none⟩ (.int .i64 ((i:Int)))).setCell ⟨H+1,1,none⟩ (.int .i64 ((j:Int)))).setCell ⟨H+1,2,none⟩ (.int .i64 ((k:Int)))=wf at *
     obtain ⟨la0,la1,la2,_,_,_⟩:=hF.out.1
     have hbel:=hF.out.2
     refine bodyPost_ret (v:=.tuple #[.agg #[.int .i64 ((i:Int)),.int .i64 ((j:Int)),.int .i64 ((k:Int))],.int .i64 0]) ?_ rfl ⟨⟨_,_,_,0,rfl,HENDS.out 0 (fun _=>rfl) (fun h=>absurd W0.out h) (.inl W0.out)⟩,hbel⟩
     simp [results,Tryz.results130,go_sem,la0,la1,la2]
    ·have hw:((W:Int) == 0)=false:=beq_eq_false_iff_ne.2 (by omega)
     have W0:=hid w0
     clear w0
     by_cases w1:W=R4
     ·have hw1:((W:Int) == (R4:Int))=true:=by rw [w1];exact beq_self_eq_true _
      have W1:=hid w1
      clear w1
      go_wp2
      clear la0 la1 la2 lf0 lf1 lf2 xa0 xa1 xa2 xf0 xf1 xf2
      have hF:=hid (hw0.out.fin)
      generalize ((w3.setCell ⟨H+1,0,none⟩ (.int .i64 ((i:Int)))).setCell ⟨H+1,1,none⟩ (.int .i64 ((j:Int)))).setCell ⟨H+1,2,none⟩ (.int .i64 ((k:Int)))=wf at *
      obtain ⟨la0,la1,la2,_,_,_⟩:=hF.out.1
      have hbel:=hF.out.2
      refine bodyPost_ret (v:=.tuple #[.agg #[.int .i64 ((i:Int)),.int .i64 ((j:Int)),.int .i64 ((k:Int))],.int .i64 1]) ?_ rfl ⟨⟨_,_,_,1,rfl,HENDS.out 1 (fun h=>absurd h W0.out) (fun _ _=>rfl) (.inr W1.out)⟩,hbel⟩
      simp [results,Tryz.results130,go_sem,la0,la1,la2]
     ·have hw1:((W:Int) == (R4:Int))=false:=beq_eq_false_iff_ne.2 (by omega)
      have W1:=hid w1
      clear w1
      go_wp2
      clear la0 la1 la2 lf0 lf1 lf2 xa0 xa1 xa2 xf0 xf1 xf2 hand hWlt hw hw1 hje
      have hout:Hid (code T (cls i) (cls j) (cls k) (decide (j=k))=2):=by
       show _=_
       rw [HC.out,if_neg W0.out,if_neg W1.out]
      have HGT:=hid hgT3
      have HIN:Hid (Ins w 0):=hin
      clear hgT3 in0 in1 in2 HENDS
      try clear hnot2'
      go_loopw [6,60] (fun v t wr=>∃ r:Nat,r≤3∧t=.int .i64 (r:Int)∧v=.int .u8 ((rw2 T i j k r:Nat):Int)∧Hid (Se w wr H (mx r 0 (zap (z0 T (cls i) (cls j) (cls k) (decide (j=k))) i) i) (mx r 1 (zap (z1 T (cls i) (cls j) (cls k) (decide (j=k))) j) j) (mx r 2 (zap (z2 T (cls i) (cls j) (cls k) (decide (j=k))) k) k))) (fun _ t _=>3 - (intOf t).toNat)
      case atStart=>exact ⟨0,by omega,rfl,by rw [← HG4.out],hw0.out⟩
      case round =>
       obtain ⟨r,hr,rfl,rfl,hst⟩:=hrel
       rcases r with _ | _ | _ | r
       ·-- argument 0
        have hse:Hid (Se w wr H i j k):=hst
        clear hst
        have hR:=rw2_lt T i j k 0
        have HRN:Hid (rw2 T i j k 1=arow T (rw2 T i j k 0) 0 (cls i)):=show _=_ from rfl
        have HZ:Hid (z0 T (cls i) (cls j) (cls k) (decide (j=k))=away T (rw2 T i j k 0) 0 (cls i)):=show _=_ from rfl
        generalize rw2 T i j k 0=R at *
        have hbel:=hse.out.bel
        have hgTr:=(hbel.cell (p:=⟨g,6,none⟩) hgl).trans hgT
        obtain ⟨in0,in1,in2⟩:=HIN.out.below (by rw [hHH];exact hbel)
        clear hbel
        have hb1:=band8 hT hR
        have hWlt:=and_lt8 (b:=R) hT
        have hb2:=band8 (b:=170) hWlt (by omega)
        have hb3:=bandn8 (b:=170) hWlt (by omega)
        have hb4:=bandn8 (b:=170) hR (by omega)
        have HSH:Hid ((T &&& R) &&& 170=T &&& R &&& 170):=rfl
        have hAW:=away_ge (T:=T) (R:=R) (t:=0) (n:=i)
        generalize T &&& R=W at *
        have hb2':bits .and .u8 (W:Int) 170=((W &&& 170:Nat):Int):=hb2
        have hb3':bits .andNot .u8 (W:Int) 170=((andn W 170:Nat):Int):=hb3
        have hb4':bits .andNot .u8 (R:Int) 170=((andn R 170:Nat):Int):=hb4
        have hAW':2≤i→away T R 0 (cls i)=decide ((W &&& 170) / 2 ^ 1=andn W 170):=fun h=>by rw [hAW h,← Nat.shiftRight_eq_div_pow];rfl
        have HAW:=hid hAW'
        clear hb2 hb3 hb4 hAW hAW'
        have hXl:W &&& 170<256:=and_lt8 hWlt
        have hYl:andn W 170<256:=andn_lt8 hWlt
        obtain ⟨xa0,xa1,xa2,xf0,xf1,xf2⟩:=hse.out.x
        generalize W &&& 170=X at *
        generalize andn W 170=Y at *
        by_cases q:2≤i
        ·have hge:decide ((2:Int)≤(i:Int))=true:=decide_eq_true (by omega)
         by_cases q2:X / 2 ^ 1=Y
         ·have ha:away T R 0 (cls i)=true:=by rw [HAW.out q,decide_eq_true q2]
          have HX:Hid (rw2 T i j k 1=andn R 170):=by show _=_;rw [HRN.out];unfold arow;rw [ha,if_pos rfl];rfl
          have HY:Hid (zap (z0 T (cls i) (cls j) (cls k) (decide (j=k))) i=0):=by show _=_;rw [HZ.out,ha];rfl
          have hq:((X:Int) / 2 ^ 1 == (Y:Int))=true:=by rw [← q2];simp
          clear ha q2
          go_wp2
          go_quiet (fail)
          go_wp2
          go_roundw
          case rel=>exact ⟨1,by omega,by go_num,by rw [HX.out],by rw [HY.out];first | exact (hse.out.drewN _).zap0 | exact hse.out.zap0.drewN _⟩
          case measure=>simp [intOf]
         ·have ha:away T R 0 (cls i)=false:=by rw [HAW.out q,decide_eq_false q2]
          have HX:Hid (rw2 T i j k 1=R):=by show _=_;rw [HRN.out];unfold arow;rw [ha,if_neg (by simp)]
          have HY:Hid (zap (z0 T (cls i) (cls j) (cls k) (decide (j=k))) i=i):=by show _=_;rw [HZ.out,ha];rfl
          have hq:((X:Int) / 2 ^ 1 == (Y:Int))=false:=beq_eq_false_iff_ne.2 (fun e=>q2 (by exact_mod_cast e))
          clear ha q2
          go_wp2
          go_quiet (fail)
          go_wp2
          go_roundw
          case rel=>exact ⟨1,by omega,by go_num,by rw [HX.out],by rw [HY.out];exact hse.out.drewN _⟩
          case measure=>simp [intOf]
        ·have ha:=away_two (T:=T) (R:=R) (t:=0) q
         have hge:decide ((2:Int)≤(i:Int))=false:=decide_eq_false (by omega)
         have HX:Hid (rw2 T i j k 1=R):=by show _=_;rw [HRN.out];unfold arow;rw [ha,if_neg (by simp)]
         have HY:Hid (zap (z0 T (cls i) (cls j) (cls k) (decide (j=k))) i=i):=by show _=_;rw [HZ.out,ha];rfl
         clear ha
         go_wp2
         go_quiet (fail)
         go_wp2
         go_roundw
         case rel=>exact ⟨1,by omega,by go_num,by rw [HX.out],by rw [HY.out];exact hse.out.drewN _⟩
         case measure=>simp [intOf]
       ·-- argument 1
        have hse:Hid (Se w wr H (zap (z0 T (cls i) (cls j) (cls k) (decide (j=k))) i) j k):=hst
        clear hst
        have hR:=rw2_lt T i j k 1
        have HRN:Hid (rw2 T i j k 2=arow T (rw2 T i j k 1) 1 (cls j)):=show _=_ from rfl
        have HZ:Hid (z1 T (cls i) (cls j) (cls k) (decide (j=k))=away T (rw2 T i j k 1) 1 (cls j)):=show _=_ from rfl
        generalize rw2 T i j k 1=R at *
        have hbel:=hse.out.bel
        have hgTr:=(hbel.cell (p:=⟨g,6,none⟩) hgl).trans hgT
        obtain ⟨in0,in1,in2⟩:=HIN.out.below (by rw [hHH];exact hbel)
        clear hbel
        have hb1:=band8 hT hR
        have hWlt:=and_lt8 (b:=R) hT
        have hb2:=band8 (b:=204) hWlt (by omega)
        have hb3:=bandn8 (b:=204) hWlt (by omega)
        have hb4:=bandn8 (b:=204) hR (by omega)
        have HSH:Hid ((T &&& R) &&& 204=T &&& R &&& 204):=rfl
        have hAW:=away_ge (T:=T) (R:=R) (t:=1) (n:=j)
        generalize T &&& R=W at *
        have hb2':bits .and .u8 (W:Int) 204=((W &&& 204:Nat):Int):=hb2
        have hb3':bits .andNot .u8 (W:Int) 204=((andn W 204:Nat):Int):=hb3
        have hb4':bits .andNot .u8 (R:Int) 204=((andn R 204:Nat):Int):=hb4
        have hAW':2≤j→away T R 1 (cls j)=decide ((W &&& 204) / 2 ^ 2=andn W 204):=fun h=>by rw [hAW h,← Nat.shiftRight_eq_div_pow];rfl
        have HAW:=hid hAW'
        clear hb2 hb3 hb4 hAW hAW'
        have hXl:W &&& 204<256:=and_lt8 hWlt
        have hYl:andn W 204<256:=andn_lt8 hWlt
        obtain ⟨xa0,xa1,xa2,xf0,xf1,xf2⟩:=hse.out.x
        generalize W &&& 204=X at *
        generalize andn W 204=Y at *
        by_cases q:2≤j
        ·have hge:decide ((2:Int)≤(j:Int))=true:=decide_eq_true (by omega)
         by_cases q2:X / 2 ^ 2=Y
         ·have ha:away T R 1 (cls j)=true:=by rw [HAW.out q,decide_eq_true q2]
          have HX:Hid (rw2 T i j k 2=andn R 204):=by show _=_;rw [HRN.out];unfold arow;rw [ha,if_pos rfl];rfl
          have HY:Hid (zap (z1 T (cls i) (cls j) (cls k) (decide (j=k))) j=0):=by show _=_;rw [HZ.out,ha];rfl
          have hq:((X:Int) / 2 ^ 2 == (Y:Int))=true:=by rw [← q2];simp
          clear ha q2
          go_wp2
          go_quiet (fail)
          go_wp2
          go_roundw
          case rel=>exact ⟨2,by omega,by go_num,by rw [HX.out],by rw [HY.out];first | exact (hse.out.drewN _).zap1 | exact hse.out.zap1.drewN _⟩
          case measure=>simp [intOf]
         ·have ha:away T R 1 (cls j)=false:=by rw [HAW.out q,decide_eq_false q2]
          have HX:Hid (rw2 T i j k 2=R):=by show _=_;rw [HRN.out];unfold arow;rw [ha,if_neg (by simp)]
          have HY:Hid (zap (z1 T (cls i) (cls j) (cls k) (decide (j=k))) j=j):=by show _=_;rw [HZ.out,ha];rfl
          have hq:((X:Int) / 2 ^ 2 == (Y:Int))=false:=beq_eq_false_iff_ne.2 (fun e=>q2 (by exact_mod_cast e))
          clear ha q2
          go_wp2
          go_quiet (fail)
          go_wp2
          go_roundw
          case rel=>exact ⟨2,by omega,by go_num,by rw [HX.out],by rw [HY.out];exact hse.out.drewN _⟩
          case measure=>simp [intOf]
        ·have ha:=away_two (T:=T) (R:=R) (t:=1) q
         have hge:decide ((2:Int)≤(j:Int))=false:=decide_eq_false (by omega)
         have HX:Hid (rw2 T i j k 2=R):=by show _=_;rw [HRN.out];unfold arow;rw [ha,if_neg (by simp)]
         have HY:Hid (zap (z1 T (cls i) (cls j) (cls k) (decide (j=k))) j=j):=by show _=_;rw [HZ.out,ha];rfl
         clear ha
         go_wp2
         go_quiet (fail)
         go_wp2
         go_roundw
         case rel=>exact ⟨2,by omega,by go_num,by rw [HX.out],by rw [HY.out];exact hse.out.drewN _⟩
         case measure=>simp [intOf]
       ·-- argument 2
        have hse:Hid (Se w wr H (zap (z0 T (cls i) (cls j) (cls k) (decide (j=k))) i) (zap (z1 T (cls i) (cls j) (cls k) (decide (j=k))) j) k):=hst
        clear hst
        have hR:=rw2_lt T i j k 2
        have HRN:Hid (rw2 T i j k 3=arow T (rw2 T i j k 2) 2 (cls k)):=show _=_ from rfl
        have HZ:Hid (z2 T (cls i) (cls j) (cls k) (decide (j=k))=away T (rw2 T i j k 2) 2 (cls k)):=show _=_ from rfl
        generalize rw2 T i j k 2=R at *
        have hbel:=hse.out.bel
        have hgTr:=(hbel.cell (p:=⟨g,6,none⟩) hgl).trans hgT
        obtain ⟨in0,in1,in2⟩:=HIN.out.below (by rw [hHH];exact hbel)
        clear hbel
        have hb1:=band8 hT hR
        have hWlt:=and_lt8 (b:=R) hT
        have hb2:=band8 (b:=240) hWlt (by omega)
        have hb3:=bandn8 (b:=240) hWlt (by omega)
        have hb4:=bandn8 (b:=240) hR (by omega)
        have HSH:Hid ((T &&& R) &&& 240=T &&& R &&& 240):=rfl
        have hAW:=away_ge (T:=T) (R:=R) (t:=2) (n:=k)
        generalize T &&& R=W at *
        have hb2':bits .and .u8 (W:Int) 240=((W &&& 240:Nat):Int):=hb2
        have hb3':bits .andNot .u8 (W:Int) 240=((andn W 240:Nat):Int):=hb3
        have hb4':bits .andNot .u8 (R:Int) 240=((andn R 240:Nat):Int):=hb4
        have hAW':2≤k→away T R 2 (cls k)=decide ((W &&& 240) / 2 ^ 4=andn W 240):=fun h=>by rw [hAW h,← Nat.shiftRight_eq_div_pow];rfl
        have HAW:=hid hAW'
        clear hb2 hb3 hb4 hAW hAW'
        have hXl:W &&& 240<256:=and_lt8 hWlt
        have hYl:andn W 240<256:=andn_lt8 hWlt
        obtain ⟨xa0,xa1,xa2,xf0,xf1,xf2⟩:=hse.out.x
        generalize W &&& 240=X at *
        generalize andn W 240=Y at *
        by_cases q:2≤k
        ·have hge:decide ((2:Int)≤(k:Int))=true:=decide_eq_true (by omega)
         by_cases q2:X / 2 ^ 4=Y
         ·have ha:away T R 2 (cls k)=true:=by rw [HAW.out q,decide_eq_true q2]
          have HX:Hid (rw2 T i j k 3=andn R 240):=by show _=_;rw [HRN.out];unfold arow;rw [ha,if_pos rfl];rfl
          have HY:Hid (zap (z2 T (cls i) (cls j) (cls k) (decide (j=k))) k=0):=by show _=_;rw [HZ.out,ha];rfl
          have hq:((X:Int) / 2 ^ 4 == (Y:Int))=true:=by rw [← q2];simp
          clear ha q2
          go_wp2
          go_quiet (fail)
          go_wp2
          go_roundw
          case rel=>exact ⟨3,by omega,by go_num,by rw [HX.out],by rw [HY.out];first | exact (hse.out.drewN _).zap2 | exact hse.out.zap2.drewN _⟩
          case measure=>simp [intOf]
         ·have ha:away T R 2 (cls k)=false:=by rw [HAW.out q,decide_eq_false q2]
          have HX:Hid (rw2 T i j k 3=R):=by show _=_;rw [HRN.out];unfold arow;rw [ha,if_neg (by simp)]
          have HY:Hid (zap (z2 T (cls i) (cls j) (cls k) (decide (j=k))) k=k):=by show _=_;rw [HZ.out,ha];rfl
          have hq:((X:Int) / 2 ^ 4 == (Y:Int))=false:=beq_eq_false_iff_ne.2 (fun e=>q2 (by exact_mod_cast e))
          clear ha q2
          go_wp2
          go_quiet (fail)
          go_wp2
          go_roundw
          case rel=>exact ⟨3,by omega,by go_num,by rw [HX.out],by rw [HY.out];exact hse.out.drewN _⟩
          case measure=>simp [intOf]
        ·have ha:=away_two (T:=T) (R:=R) (t:=2) q
         have hge:decide ((2:Int)≤(k:Int))=false:=decide_eq_false (by omega)
         have HX:Hid (rw2 T i j k 3=R):=by show _=_;rw [HRN.out];unfold arow;rw [ha,if_neg (by simp)]
         have HY:Hid (zap (z2 T (cls i) (cls j) (cls k) (decide (j=k))) k=k):=by show _=_;rw [HZ.out,ha];rfl
         clear ha
         go_wp2
         go_quiet (fail)
         go_wp2
         go_roundw
         case rel=>exact ⟨3,by omega,by go_num,by rw [HX.out],by rw [HY.out];exact hse.out.drewN _⟩
         case measure=>simp [intOf]
       ·obtain rfl:r=0:=by omega
        have hse:Hid (Se w wr H (zap (z0 T (cls i) (cls j) (cls k) (decide (j=k))) i) (zap (z1 T (cls i) (cls j) (cls k) (decide (j=k))) j) (zap (z2 T (cls i) (cls j) (cls k) (decide (j=k))) k)):=hst
        clear hst
        obtain ⟨xa0,xa1,xa2,xf0,xf1,xf2⟩:=hse.out.x
        obtain ⟨la0,la1,la2,lf0,lf1,lf2⟩:=hse.out.l
        have HSO:Hid (SetOut T i j k (zap (z0 T (cls i) (cls j) (cls k) (decide (j=k))) i) (zap (z1 T (cls i) (cls j) (cls k) (decide (j=k))) j) (zap (z2 T (cls i) (cls j) (cls k) (decide (j=k))) k) (-1)):=by
         refine ⟨fun h=>?_,fun h=>?_,fun _=>⟨rfl,rfl,rfl,rfl⟩⟩
         ·rw [hout.out] at h;omega
         ·rw [hout.out] at h;omega
        generalize zap (z0 T (cls i) (cls j) (cls k) (decide (j=k))) i=X at *
        generalize zap (z1 T (cls i) (cls j) (cls k) (decide (j=k))) j=Y at *
        generalize zap (z2 T (cls i) (cls j) (cls k) (decide (j=k))) k=Z at *
        go_wp2
        clear la0 la1 la2 lf0 lf1 lf2 xa0 xa1 xa2 xf0 xf1 xf2
        have hF:=hid (hse.out.fin)
        generalize ((wr.setCell ⟨H+1,0,none⟩ (.int .i64 ((X:Int)))).setCell ⟨H+1,1,none⟩ (.int .i64 ((Y:Int)))).setCell ⟨H+1,2,none⟩ (.int .i64 ((Z:Int)))=wf at *
        obtain ⟨la0,la1,la2,_,_,_⟩:=hF.out.1
        have hbel:=hF.out.2
        refine bodyPost_ret (v:=.tuple #[.agg #[.int .i64 ((X:Int)),.int .i64 ((Y:Int)),.int .i64 ((Z:Int))],.int .i64 (-1)]) ?_ rfl ⟨⟨_,_,_,(-1),rfl,HSO.out⟩,by rw [hHH];exact hbel⟩
        simp [results,Tryz.results130,go_sem,la0,la1,la2]
structure Pr where
 A0:Option Addr
 A1:Option Addr
 A2:Option Addr
 m0:Nat
 m1:Nat
 m2:Nat
 c0:Nat
 c1:Nat
 c2:Nat
 A:List Br
 B:List Br
 C:List Br
 s0:Nat
 s1:Nat
 s2:Nat
 T:Nat
 lim:Nat
structure Pr.Ok (P:Pr):Prop where
 tab:P.T∈tabs
 same:∀ n,n<P.s1→n<P.s2→Den P.B n=Den P.C n
 l0:P.s0≤P.m0+2
 l1:P.s1≤P.m1+2
 l2:P.s2≤P.m2+2
 b0:P.s0≤5000
 b1:P.s1≤5000
 b2:P.s2≤5000
 lim:P.lim≤4096
theorem tab_lt {T:Nat} (h:T∈tabs):T<256:=by
 unfold tabs at h
 simp only [List.mem_cons,List.not_mem_nil,or_false] at h
 omega
structure Ag (w:World) (base g t:Nat) (A:Option Addr) (m c:Nat) (M:List Br):Prop where
 cell:w.cell? ⟨g,t,none⟩=some (.slice A m c)
 rd:Rd w base A (up M)
 len:M.length=m
 lm:m≤1000000
 ord:Ord M
theorem Ag.arg {w:World} {base g t m c:Nat} {A:Option Addr} {M:List Br} (h:Ag w base g t A m c M) (hb:base≤w.heap.size):Arg w g t A m c M:=⟨h.cell,h.rd.mono hb,h.len,h.lm,h.ord⟩
def Pv (g:Nat) (v:Value) (gi:Option Nat) (mb q:Nat):Prop:=q=g∨v.ownBlock=some q∨gi=some q∨q=mb
structure PI (w:World) (base g:Nat) (P:Pr) (M:List Br) (E:Nat→Nat) (v:Value) (gi:Option Nat) (mb:Nat):Prop where
 a0:Ag w base g 0 P.A0 P.m0 P.c0 P.A
 a1:Ag w base g 1 P.A1 P.m1 P.c1 P.B
 a2:Ag w base g 2 P.A2 P.m2 P.c2 P.C
 s0:w.cell? ⟨g,3,none⟩=some (.int .i64 (P.s0:Int))
 s1:w.cell? ⟨g,4,none⟩=some (.int .i64 (P.s1:Int))
 s2:w.cell? ⟨g,5,none⟩=some (.int .i64 (P.s2:Int))
 tr:w.cell? ⟨g,6,none⟩=some (.int .u8 (P.T:Int))
 li:w.cell? ⟨g,7,none⟩=some (.int .i64 (P.lim:Int))
 tb:Tb w base g 8 M v gi
 mm:Mm w base g 10 (P.s0*P.s1*P.s2) mb E
 ins:Ins w 0
 b0:0<base
 bs:base≤w.heap.size
 d1:v.ownBlock≠some mb
 d2:gi≠some mb
 good:Dg.Good M
 mo:Mo P.T P.s0 P.s1 P.s2 P.A P.B P.C M E
 len:M.length≤P.lim
theorem PI.gl {w:World} {base g:Nat} {P:Pr} {M:List Br} {E:Nat→Nat} {v:Value} {gi:Option Nat} {mb:Nat} (h:PI w base g P M E v gi mb):g<w.heap.size:=block_lt_of_cell h.s0
theorem PI.lt {w:World} {base g:Nat} {P:Pr} {M:List Br} {E:Nat→Nat} {v:Value} {gi:Option Nat} {mb q:Nat} (h:PI w base g P M E v gi mb) (hq:Pv g v gi mb q):q<w.heap.size:=by
 rcases hq with rfl | e | e | rfl
 ·exact h.gl
 ·exact (World.ownsRow.lt h.tb.own q e).2
 ·subst e
  exact h.tb.idx.2.2.lt
 ·exact h.mm.lt
theorem PI.ge {w:World} {base g:Nat} {P:Pr} {M:List Br} {E:Nat→Nat} {v:Value} {gi:Option Nat} {mb q:Nat} (h:PI w base g P M E v gi mb) (hq:Pv g v gi mb q):base≤q:=by
 rcases hq with rfl | e | e | rfl
 ·exact h.tb.gb
 ·exact (World.ownsRow.lt h.tb.own q e).1
 ·subst e
  exact h.tb.idx.1
 ·exact h.mm.ge
theorem Ag.keep {w w':World} {base g t m c:Nat} {A:Option Addr} {M:List Br} (h:Ag w base g t A m c M) (hg:w'.heap[g]? = w.heap[g]?) (hk:∀ k,k<base→w'.heap[k]? = w.heap[k]?):Ag w' base g t A m c M :=
 ⟨(World.cell?_of_block (w:=w) hg).trans h.cell,h.rd.keep hk,h.len,h.lm,h.ord⟩
theorem Ins.keep {w w':World} {d:Nat} (h:Ins w d) (hd:w'.heap[d]? = w.heap[d]?):Ins w' d :=
 ⟨(World.cell?_of_block (w:=w) hd).trans h.c0,(World.cell?_of_block (w:=w) hd).trans h.c1,(World.cell?_of_block (w:=w) hd).trans h.c2⟩
theorem Tb.keepAt {w w':World} {base g o:Nat} {M:List Br} {v:Value} {gi:Option Nat} (h:Tb w base g o M v gi) (hg:w'.heap[g]? = w.heap[g]?) (hv:∀ k,v.ownBlock=some k→w'.heap[k]? = w.heap[k]?) (hi:∀ k,gi=some k→w'.heap[k]? = w.heap[k]?):Tb w' base g o M v gi:=by
 have hown:w'.ownsRow base 80 3 v M.length (flat M):=by
  rcases h.own.2 with ⟨rfl,h0⟩ | ⟨g',cap,cur,rfl,h1,h2,h3,h4⟩
  ·exact ⟨h.own.1,.inl ⟨rfl,h0⟩⟩
  ·exact ⟨h.own.1,.inr ⟨g',cap,cur,rfl,h1,(hv g' rfl).trans h2,h3,h4⟩⟩
 refine ⟨(World.cell?_of_block (w:=w) hg).trans h.cn,(World.cell?_of_block (w:=w) hg).trans h.ci,(World.frozen?_of_block (w:=w) hg).trans h.fn,(World.frozen?_of_block (w:=w) hg).trans h.fi,hown,?_,h.vg,h.gb⟩
 have hix:=h.idx
 rcases gi with _ | b
 ·exact hix
 ·exact ⟨hix.1,hix.2.1,hix.2.2.keep (hi b rfl)⟩
theorem PI.keep {w w':World} {base g:Nat} {P:Pr} {M:List Br} {E:Nat→Nat} {v:Value} {gi:Option Nat} {mb:Nat} (h:PI w base g P M E v gi mb) {S:Nat→Prop} (hc:Chg S w w') (hp:∀ q,Pv g v gi mb q→¬ S q) (hb:∀ q,q<base→¬ S q):PI w' base g P M E v gi mb:=by
 have hg:w'.heap[g]? = w.heap[g]?:=hc.block g h.gl (hp g (.inl rfl))
 have hk:∀ k,k<base→w'.heap[k]? = w.heap[k]?:=fun k hk=>hc.block k (Nat.lt_of_lt_of_le hk h.bs) (hb k hk)
 have hcell:=fun j=>World.cell?_of_block (w:=w) (w':=w') (a:=⟨g,j,none⟩) hg
 have hv:∀ k,v.ownBlock=some k→w'.heap[k]? = w.heap[k]?:=fun k e=>hc.block k (h.lt (.inr (.inl e))) (hp k (.inr (.inl e)))
 have hi:∀ k,gi=some k→w'.heap[k]? = w.heap[k]?:=fun k e=>hc.block k (h.lt (.inr (.inr (.inl e)))) (hp k (.inr (.inr (.inl e))))
 exact ⟨h.a0.keep hg hk,h.a1.keep hg hk,h.a2.keep hg hk,(hcell 3).trans h.s0,(hcell 4).trans h.s1,(hcell 5).trans h.s2,(hcell 6).trans h.tr,(hcell 7).trans h.li,
  h.tb.keepAt hg hv hi,h.mm.keep hg (hc.block mb (h.lt (.inr (.inr (.inr rfl)))) (hp mb (.inr (.inr (.inr rfl))))),h.ins.keep (hk 0 h.b0),h.b0,Nat.le_trans h.bs hc.size,h.d1,h.d2,h.good,h.mo,h.len⟩
theorem PI.below {w w':World} {base g:Nat} {P:Pr} {M:List Br} {E:Nat→Nat} {v:Value} {gi:Option Nat} {mb:Nat} (h:PI w base g P M E v gi mb) (hb:Below w.heap.size w w'):PI w' base g P M E v gi mb :=
 h.keep (Chg.of_below (S:=fun _=>False) hb) (fun _ _ h=>h) (fun _ _ h=>h)
def Out (w w':World) (base g:Nat) (P:Pr) (i j k:Nat) (M:List Br) (v:Value) (gi:Option Nat) (mb:Nat) (e:Ending):Prop :=
 Chg (Pv g v gi mb) w w' ∧
 (((put 64 (fx P.T P.A P.B P.C i j k) M).1.length≤P.lim∧e=.returned (.int .i64 (((put 64 (fx P.T P.A P.B P.C i j k) M).2:Nat):Int)) ∧
   ∃ E' v' gi' mb',PI w' base g P (put 64 (fx P.T P.A P.B P.C i j k) M).1 E' v' gi' mb'∧∀ q,Pv g v' gi' mb' q→Pv g v gi mb q∨w.heap.size≤q) ∨
  (P.lim<(put 64 (fx P.T P.A P.B P.C i j k) M).1.length∧e=.returned (.int .i64 (-2))))
theorem settle_const (g i j k T c:Nat) (w:World) (hT:T<256) (hgT:w.cell? ⟨g,6,none⟩=some (.int .u8 (T:Int))) (hin:Hid (Ins w 0)) (hc:Hid (code T (cls i) (cls j) (cls k) (decide (j=k))=c)) (hc2:c<2) :
  Calls Tryz.prog 130 #[.pointer (some ⟨g,0,none⟩),.agg #[.int .i64 (i:Int),.int .i64 (j:Int),.int .i64 (k:Int)]] w fun e w' =>
   (∃ (x y z:Nat),e=.returned (.tuple #[.agg #[.int .i64 (x:Int),.int .i64 (y:Int),.int .i64 (z:Int)],.int .i64 (c:Int)]))∧Below w.heap.size w w':=by
 refine (settle_any g i j k T w hT hgT hin).mono ?_
 rintro e w' ⟨⟨x,y,z,r,rfl,h0,h1,_⟩,hb⟩
 have hr:r=(c:Int):=by
  have hc':=hc.out
  obtain h | h:c=0∨c=1:=by omega
  ·rw [h0 (by omega),h];rfl
  ·rw [h1 (by omega),h];rfl
 rw [hr]
 exact ⟨⟨x,y,z,rfl⟩,hb⟩
theorem settle_open (g i j k T x y z:Nat) (w:World) (hT:T<256) (hgT:w.cell? ⟨g,6,none⟩=some (.int .u8 (T:Int))) (hin:Hid (Ins w 0)) (hc:Hid (code T (cls i) (cls j) (cls k) (decide (j=k))=2))
  (hx:Hid (zap (z0 T (cls i) (cls j) (cls k) (decide (j=k))) i=x)) (hy:Hid (zap (z1 T (cls i) (cls j) (cls k) (decide (j=k))) j=y)) (hz:Hid (zap (z2 T (cls i) (cls j) (cls k) (decide (j=k))) k=z)) :
  Calls Tryz.prog 130 #[.pointer (some ⟨g,0,none⟩),.agg #[.int .i64 (i:Int),.int .i64 (j:Int),.int .i64 (k:Int)]] w fun e w' =>
   e=.returned (.tuple #[.agg #[.int .i64 (x:Int),.int .i64 (y:Int),.int .i64 (z:Int)],.int .i64 (-1)])∧Below w.heap.size w w':=by
 refine (settle_any g i j k T w hT hgT hin).mono ?_
 rintro e w' ⟨⟨a,b,c,r,rfl,_,_,h2⟩,hb⟩
 obtain ⟨rfl,rfl,rfl,rfl⟩:=h2 hc.out
 rw [hx.out,hy.out,hz.out]
 exact ⟨rfl,hb⟩
theorem fx_const {T:Nat} {A B C M:List Br} {i j k c:Nat} (hT:T∈tabs) (he:j=k→Den B j=Den C k) (hc:code T (cls i) (cls j) (cls k) (decide (j=k))=c) (hc2:c<2) (hM:Dg.Good M):put 64 (fx T A B C i j k) M=(M,c):=by
 have h:=fx_good (A:=A) (i:=i) hT he
 obtain e | e:c=0∨c=1:=by omega
 ·rw [put_const (b:=false) (fun c'=>(h c').1 (by omega)) hM,e];rfl
 ·rw [put_const (b:=true) (fun c'=>(h c').2.1 (by omega)) hM,e];rfl
theorem fx_open {T:Nat} {A B C:List Br} {i j k:Nat} (hT:T∈tabs) (he:j=k→Den B j=Den C k) (hc:code T (cls i) (cls j) (cls k) (decide (j=k))=2) :
  fx T A B C i j k=fx T A B C (zap (z0 T (cls i) (cls j) (cls k) (decide (j=k))) i) (zap (z1 T (cls i) (cls j) (cls k) (decide (j=k))) j) (zap (z2 T (cls i) (cls j) (cls k) (decide (j=k))) k):=by
 funext c
 exact (fx_good hT he c).2.2 hc
theorem zap_le (z:Bool) (i:Nat):zap z i≤i:=by unfold zap;split <;> omega
theorem C3.alloc {w:World} {b x y z:Nat} (h:C3 w b x y z) (o:Obj):C3 (w.alloc o) b x y z:=h.below ((Below.refl _ _).alloc (Nat.le_refl _) o)
theorem C3.all {w:World} {b x y z:Nat} (h:C3 w b x y z) (x' y' z':Nat):C3 (((w.setCell ⟨b,0,none⟩ (.int .i64 (x':Int))).setCell ⟨b,1,none⟩ (.int .i64 (y':Int))).setCell ⟨b,2,none⟩ (.int .i64 (z':Int))) b x' y' z':=((h.set0 x').set1 y').set2 z'
theorem below_all {B:Nat} {a w:World} {b:Nat} (h:Below B a w) (hb:B≤b) (u v x:Value):Below B a (((w.setCell ⟨b,0,none⟩ u).setCell ⟨b,1,none⟩ v).setCell ⟨b,2,none⟩ x):=((h.setCell hb u).setCell hb v).setCell hb x
theorem num_const (P:Pr) (hP:Hid P.Ok) (base g i j k c mb:Nat) (M:List Br) (E:Nat→Nat) (v:Value) (gi:Option Nat) (w:World) (hpi:Hid (PI w base g P M E v gi mb)) (hj:j<P.s1) (hk:k<P.s2)
  (hc:Hid (code P.T (cls i) (cls j) (cls k) (decide (j=k))=c)) (hc2:c<2) :
  Calls Tryz.prog 124 #[.pointer (some ⟨g,0,none⟩),.agg #[.int .i64 (i:Int),.int .i64 (j:Int),.int .i64 (k:Int)]] w (fun e w'=>Out w w' base g P i j k M v gi mb e):=by
 have hput:Hid (put 64 (fx P.T P.A P.B P.C i j k) M=(M,c)):=fx_const hP.out.tab (fun e=>by subst e;exact hP.out.same j hj hk) hc.out hc2 hpi.out.good
 have b1:=(Below.refl w.heap.size w).alloc (Nat.le_refl _) (.cells #[.int .i64 (i:Int),.int .i64 (j:Int),.int .i64 (k:Int)] 167)
 have hp1:=hid (hpi.out.below b1)
 have hx1:=hid (C3.new (w:=w) rfl i j k 167)
 have HB1:=hid b1
 have hne:((c:Int) == -1)=false:=beq_eq_false_iff_ne.2 (by omega)
 have hne2:((c:Int) != -1)=true:=bne_iff_ne.2 (by omega)
 clear b1
 go_enter Tryz.func124,Tryz.ntmps124
 go_wp2_with (go_at_call 130;refine (settle_const g i j k P.T c _ (tab_lt hP.out.tab) hp1.out.tr (hid hp1.out.ins) hc hc2).mono ?_;rintro e w2 ⟨⟨x,y,z,rfl⟩,hb2⟩;obtain ⟨xa0,xa1,xa2,xf0,xf1,xf2⟩:=hx1.out.below hb2;have HB2:=hid (HB1.out.trans (hb2.mono HB1.out.size));clear hb2)
 go_ret
 have hbl:=below_all HB2.out (Nat.le_refl _) (.int .i64 (x:Int)) (.int .i64 (y:Int)) (.int .i64 (z:Int))
 unfold Out
 rw [hput.out]
 exact ⟨Chg.of_below hbl,.inl ⟨hpi.out.len,rfl,E,v,gi,mb,hpi.out.below hbl,fun q hq=>.inl hq⟩⟩
structure CellOf (x y z s1 s2 p q u cc:Nat):Prop where
 h1:x*s1=p
 h2:p+y=q
 h3:q*s2=u
 h4:u+z=cc
theorem CellOf.ci {x y z s1 s2 p q u cc:Nat} (h:CellOf x y z s1 s2 p q u cc):cc=ci s1 s2 x y z:=by
 obtain ⟨rfl,rfl,rfl,rfl⟩:=h
 rfl
theorem CellOf.mk_ (x y z s1 s2:Nat):∃ p q u cc,CellOf x y z s1 s2 p q u cc:=⟨_,_,_,_,rfl,rfl,rfl,rfl⟩
theorem CellOf.small {x y z s0 s1 s2 p q u cc:Nat} (h:CellOf x y z s1 s2 p q u cc) (hx:x<s0) (hy:y<s1) (hz:z<s2) (b0:s0≤5000) (b1:s1≤5000) (b2:s2≤5000):p≤25000000∧q≤25005000∧u≤125025000000∧cc≤125025005000∧cc<s0*s1*s2:=by
 have hc:=ci_lt hx hy hz
 rw [← h.ci] at hc
 obtain ⟨h1,h2,h3,h4⟩:=h
 have a1:x*s1≤5000*5000:=Nat.mul_le_mul (by omega) b1
 have a2:q*s2≤25005000*5000:=Nat.mul_le_mul (by omega) b2
 exact ⟨by omega,by omega,by omega,by omega,hc⟩
theorem num_hit (P:Pr) (hP:Hid P.Ok) (base g i j k x y z mb:Nat) (M:List Br) (E:Nat→Nat) (v:Value) (gi:Option Nat) (w:World) (hpi:Hid (PI w base g P M E v gi mb)) (hi:i<P.s0) (hj:j<P.s1) (hk:k<P.s2)
  (hc:Hid (code P.T (cls i) (cls j) (cls k) (decide (j=k))=2))
  (hx:Hid (zap (z0 P.T (cls i) (cls j) (cls k) (decide (j=k))) i=x)) (hy:Hid (zap (z1 P.T (cls i) (cls j) (cls k) (decide (j=k))) j=y)) (hz:Hid (zap (z2 P.T (cls i) (cls j) (cls k) (decide (j=k))) k=z))
  (hE:Hid (E (ci P.s1 P.s2 x y z)≠0)) :
  Calls Tryz.prog 124 #[.pointer (some ⟨g,0,none⟩),.agg #[.int .i64 (i:Int),.int .i64 (j:Int),.int .i64 (k:Int)]] w (fun e w'=>Out w w' base g P i j k M v gi mb e):=by
 have lx:x<P.s0:=by have:=hx.out;have:=zap_le (z0 P.T (cls i) (cls j) (cls k) (decide (j=k))) i;omega
 have ly:y<P.s1:=by have:=hy.out;have:=zap_le (z1 P.T (cls i) (cls j) (cls k) (decide (j=k))) j;omega
 have lz:z<P.s2:=by have:=hz.out;have:=zap_le (z2 P.T (cls i) (cls j) (cls k) (decide (j=k))) k;omega
 have hput:Hid (put 64 (fx P.T P.A P.B P.C i j k) M=(M,E (ci P.s1 P.s2 x y z) - 1)):=by
  show _=_
  rw [fx_open hP.out.tab (fun e=>by subst e;exact hP.out.same j hj hk) hc.out,hx.out,hy.out,hz.out]
  exact hpi.out.mo.hit hpi.out.good lx ly lz hE.out
 obtain ⟨p,q,u,cc,hcell⟩:=CellOf.mk_ x y z P.s1 P.s2
 obtain ⟨bp,bq,bu,bc,hlt⟩:=hcell.small lx ly lz hP.out.b0 hP.out.b1 hP.out.b2
 have hcc:=hcell.ci
 rw [← hcc] at hE hput
 have HCL:=hid hcell
 have HPT:=tab_lt hP.out.tab
 have HLT:=hid hlt
 have wr1:IntKind.i64.wrap ((x:Int)*(P.s1:Int))=(p:Int):=by
  rw [← Int.natCast_mul,hcell.h1];exact wrap_small _ (by omega) (by omega)
 have wr2:IntKind.i64.wrap ((p:Int)+(y:Int))=(q:Int):=by
  rw [← Int.natCast_add,hcell.h2];exact wrap_small _ (by omega) (by omega)
 have wr3:IntKind.i64.wrap ((q:Int)*(P.s2:Int))=(u:Int):=by
  rw [← Int.natCast_mul,hcell.h3];exact wrap_small _ (by omega) (by omega)
 have wr4:IntKind.i64.wrap ((u:Int)+(z:Int))=(cc:Int):=by
  rw [← Int.natCast_add,hcell.h4];exact wrap_small _ (by omega) (by omega)
 have b1:=(Below.refl w.heap.size w).alloc (Nat.le_refl _) (.cells #[.int .i64 (i:Int),.int .i64 (j:Int),.int .i64 (k:Int)] 167)
 have hp1:=hid (hpi.out.below b1)
 have hx1:=hid (C3.new (w:=w) rfl i j k 167)
 have HB1:=hid b1
 clear b1 hcell hcc hlt
 go_enter Tryz.func124,Tryz.ntmps124
 go_wp2_with (go_at_call 130;refine (settle_open g i j k P.T x y z _ HPT hp1.out.tr (hid hp1.out.ins) hc hx hy hz).mono ?_;rintro e w2 ⟨rfl,hb2⟩;have HC2:=hid (hx1.out.below hb2);obtain ⟨xa0,xa1,xa2,xf0,xf1,xf2⟩:=HC2.out;have HB2:=hid (HB1.out.trans (hb2.mono HB1.out.size));clear hb2)
 have HC3:=hid (HC2.out.all x y z)
 have HB3:=hid (below_all HB2.out (Nat.le_refl _) (.int .i64 (x:Int)) (.int .i64 (y:Int)) (.int .i64 (z:Int)))
 clear xa0 xa1 xa2 xf0 xf1 xf2
 generalize ((w2.setCell ⟨w.heap.size,0,none⟩ (.int .i64 (x:Int))).setCell ⟨w.heap.size,1,none⟩ (.int .i64 (y:Int))).setCell ⟨w.heap.size,2,none⟩ (.int .i64 (z:Int))=W3 at *
 have HP3:=hid (hpi.out.below HB3.out)
 obtain ⟨xa0,xa1,xa2,_,_,_⟩:=HC3.out
 have ps1:=HP3.out.s1
 have ps2:=HP3.out.s2
 go_quiet (fail)
 have HB4:=hid (below_drewN HB3.out nq)
 have HP4:=hid (hpi.out.below HB4.out)
 have hdt:=decide_eq_true hE.out
 clear wr1 wr2 wr3 wr4
 go_wp2_with (go_at_call 131;refine (get_mm base g 10 (P.s0*P.s1*P.s2) mb cc E _ (hid HP4.out.mm) HLT.out).mono ?_;rintro e w5 ⟨⟨r,hr,rfl⟩,hb5⟩;have HR:=hid (hr hE.out);have HB5:=hid (HB4.out.trans (hb5.mono HB4.out.size));clear hb5 hr)
 go_ret
 unfold Out
 rw [hput.out]
 have hnat:((E cc:Nat):Int) - 1=((E cc - 1:Nat):Int):=by have:=hE.out;omega
 exact ⟨Chg.of_below HB5.out,.inl ⟨hpi.out.len,ret_i (by rw [HR.out,hnat]),E,v,gi,mb,hpi.out.below HB5.out,fun q hq=>.inl hq⟩⟩
end Go.Proofs.YtpaednfinlaioaaGreatDoor
