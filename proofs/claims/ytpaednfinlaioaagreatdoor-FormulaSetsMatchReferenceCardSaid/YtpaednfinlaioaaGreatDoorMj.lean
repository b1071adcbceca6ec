/-
  Plain mathematics and contracts of package diagram, several texts in one: DVis.
-/
import Derived.Test.YtpaednfinlaioaaGreatDoorMc
import Derived.Test.YtpaednfinlaioaaGreatDoorMa
set_option maxHeartbeats 8000000
set_option maxRecDepth 100000
namespace Go.Proofs.YtpaednfinlaioaaGreatDoor
open Go.Lib (hid)
open Go.RowKit Dg St Go.Maps
structure Vw (w:World) (base g h:Nat) (A:Option Addr) (m c cm:Nat) (num:Nat→Nat) (O:List Br) (v:Value):Prop where
 c0:w.cell? ⟨g,0,none⟩=some (.slice A m c)
 c1:w.cell? ⟨g,1,none⟩=some (.slice (some ⟨h,0,none⟩) m cm)
 c2:w.cell? ⟨g,2,none⟩=some v
 f2:w.frozen? ⟨g,2,none⟩=false
 nb:Blk w h m (fun i=>.int .i64 ((num i:Nat):Int))
 own:w.ownsRow base 80 3 v O.length (flat O)
 vg:v.ownBlock≠some g
 vh:v.ownBlock≠some h
 gh:g≠h
 gb:base≤g
 hb:base≤h
theorem Vw.keep {w w':World} {base g h:Nat} {A:Option Addr} {m c cm:Nat} {num:Nat→Nat} {O:List Br} {v:Value} (q:Vw w base g h A m c cm num O v) (hb:Below w.heap.size w w'):Vw w' base g h A m c cm num O v:=by
 have hg:g<w.heap.size:=block_lt_of_cell q.c0
 refine ⟨(hb.cell (p:=⟨g,0,none⟩) hg).trans q.c0,(hb.cell (p:=⟨g,1,none⟩) hg).trans q.c1,(hb.cell (p:=⟨g,2,none⟩) hg).trans q.c2,(hb.frozen (p:=⟨g,2,none⟩) hg).trans q.f2,?_,own_below q.own hb,q.vg,q.vh,q.gh,q.gb,q.hb⟩
 intro i hi
 exact q.nb.below (by omega) hb i hi
def VisOk (w w':World) (base g h:Nat) (A:Option Addr) (m c cm n:Nat) (v:Value) (num:Nat→Nat) (N:List Br) (O':List Br) (r:Nat) (e:Ending):Prop :=
 e=.returned (.int .i64 (r:Int))∧∃ num' v',Vw w' base g h A m c cm num' O' v'∧VI N num' O'∧(∀ k,n<k+2→num' k=num k)∧Chg (fun j=>j=g∨j=h∨v.ownBlock=some j) w w'∧(∀ j,v'.ownBlock=some j→v.ownBlock=some j∨w.heap.size≤j)
theorem Vw.step {w w5:World} {base g h nw k gn cap:Nat} {A:Option Addr} {m c cm:Nat} {num:Nat→Nat} {O:List Br} {v:Value} {x y z:Nat} {w2:World} (q:Vw w base g h A m c cm num O v) (hb2:Below w.heap.size w w2) (hk:k<m)
  (hown:w5.ownsRow base 80 3 (.slice (some ⟨gn,0,none⟩) (O.length+1) cap) (O.length+1) (flat O++c3 x y z)) (hgr:w2.grownBy w5 v.ownBlock) (hat:v.ownBlock=some gn∨w.heap.size≤gn) (u:Value) (hu:u=.int .i64 ((nw:Nat):Int)) :
  Vw ((w5.setCell ⟨g,2,none⟩ (.slice (some ⟨gn,0,none⟩) (O.length+1) cap)).setCell ⟨h,k,none⟩ u) base g h A m c cm (upd num k nw) (O++[(x,y,z)]) (.slice (some ⟨gn,0,none⟩) (O.length+1) cap) ∧
  Chg (fun j=>j=g∨j=h∨v.ownBlock=some j) w ((w5.setCell ⟨g,2,none⟩ (.slice (some ⟨gn,0,none⟩) (O.length+1) cap)).setCell ⟨h,k,none⟩ u) ∧
  (∀ j,(Value.slice (some ⟨gn,0,none⟩) (O.length+1) cap).ownBlock=some j→v.ownBlock=some j∨w.heap.size≤j):=by
 subst hu
 have hg:g<w.heap.size:=block_lt_of_cell q.c0
 have hh:h<w.heap.size:=q.nb.lt (by omega)
 have hgn:gn≠g∧gn≠h:=by
  rcases hat with e | e
  ·exact ⟨fun e2=>q.vg (by rw [e,e2]),fun e2=>q.vh (by rw [e,e2])⟩
  ·exact ⟨by omega,by omega⟩
 have far:∀ a:Addr,a.block<w.heap.size→some a.block≠v.ownBlock→w5.cell? a=w.cell? a∧w5.frozen? a=w.frozen? a:=fun a ha hne =>
  ⟨(hgr.cell_far a (Nat.lt_of_lt_of_le ha hb2.size) hne).trans (hb2.cell ha),(hgr.frozen_far a (Nat.lt_of_lt_of_le ha hb2.size) hne).trans (hb2.frozen ha)⟩
 have fg:=fun j=>far ⟨g,j,none⟩ hg (Ne.symm q.vg)
 have fh:=fun j=>far ⟨h,j,none⟩ hh (Ne.symm q.vh)
 have hbk:Blk w5 h m (fun i=>.int .i64 ((num i:Nat):Int)):=fun i hi=>⟨(fh i).1.trans (q.nb i hi).1,(fh i).2.trans (q.nb i hi).2⟩
 have hgh:=q.gh
 refine ⟨⟨?_,?_,?_,?_,?_,?_,?_,?_,hgh,q.gb,q.hb⟩,?_,?_⟩
 ·rw [show ((w5.setCell ⟨g,2,none⟩ (.slice (some ⟨gn,0,none⟩) (O.length+1) cap)).setCell ⟨h,k,none⟩ (.int .i64 ((nw:Nat):Int))).cell? ⟨g,0,none⟩=(w5.setCell ⟨g,2,none⟩ (.slice (some ⟨gn,0,none⟩) (O.length+1) cap)).cell? ⟨g,0,none⟩ from World.cell?_of_block (Below.heap_setCell _ _ _ _ hgh),cell_set_off _ _ _ _ _ (by omega)]
  exact (fg 0).1.trans q.c0
 ·rw [show ((w5.setCell ⟨g,2,none⟩ (.slice (some ⟨gn,0,none⟩) (O.length+1) cap)).setCell ⟨h,k,none⟩ (.int .i64 ((nw:Nat):Int))).cell? ⟨g,1,none⟩=(w5.setCell ⟨g,2,none⟩ (.slice (some ⟨gn,0,none⟩) (O.length+1) cap)).cell? ⟨g,1,none⟩ from World.cell?_of_block (Below.heap_setCell _ _ _ _ hgh),cell_set_off _ _ _ _ _ (by omega)]
  exact (fg 1).1.trans q.c1
 ·rw [show ((w5.setCell ⟨g,2,none⟩ (.slice (some ⟨gn,0,none⟩) (O.length+1) cap)).setCell ⟨h,k,none⟩ (.int .i64 ((nw:Nat):Int))).cell? ⟨g,2,none⟩=(w5.setCell ⟨g,2,none⟩ (.slice (some ⟨gn,0,none⟩) (O.length+1) cap)).cell? ⟨g,2,none⟩ from World.cell?_of_block (Below.heap_setCell _ _ _ _ hgh)]
  exact World.cell?_setCell_same _ _ _ ((fg 2).1.trans q.c2)
 ·rw [World.frozen?_setCell,World.frozen?_setCell];exact (fg 2).2.trans q.f2
 ·refine ((hbk.other (p:=⟨g,2,none⟩) hgh _).set hk _).congr (fun i _=>?_)
  unfold fup upd
  by_cases e:i=k
  ·rw [if_pos e,if_pos e]
  ·rw [if_neg e,if_neg e]
 ·rw [flat_snoc,List.length_append]
  exact (hown.kept (grown_set w5 g 2 (.slice (some ⟨gn,0,none⟩) (O.length+1) cap)) (.inr (by simp [Value.ownBlock,hgn.1]))).kept (grown_set _ h k _) (.inr (by simp [Value.ownBlock,hgn.2]))
 ·simp [Value.ownBlock,hgn.1]
 ·simp [Value.ownBlock,hgn.2]
 ·exact (((Chg.of_below hb2).trans (T:=fun j=>v.ownBlock=some j) (Chg.of_grown hgr (fun j e=>e)) (fun j _ e=>.inr (.inr e))).set (.inl rfl) _).set (.inr (.inl rfl)) _
 ·intro j e
  simp only [Value.ownBlock,Option.some.injEq] at e
  subst e
  exact hat
theorem vis_const (g n:Nat) (w:World) (hn:n<2) :
  Calls Tryz.prog 120 #[.pointer (some ⟨g,0,none⟩),.int .i64 (n:Int)] w fun e w'=>e=.returned (.int .i64 (n:Int))∧w=w':=by
 go_enter Tryz.func120,Tryz.ntmps120
 go_wp2
 go_ret
 exact ⟨rfl,rfl⟩
theorem vis_hit (g h m cm k q:Nat) (w:World) (c1:w.cell? ⟨g,1,none⟩=some (.slice (some ⟨h,0,none⟩) m cm)) (hk:k<m) (hm:m≤1000000) (hc:w.cell? ⟨h,k,none⟩=some (.int .i64 (q:Int))) (hq:0<q) :
  Calls Tryz.prog 120 #[.pointer (some ⟨g,0,none⟩),.int .i64 ((k:Int)+2)] w fun e w'=>e=.returned (.int .i64 (q:Int))∧w=w':=by
 have i1:(0:Int)≤(k:Int):=by omega
 have i2:(k:Int)<(m:Int):=by omega
 have hn2:¬ (k:Int)+2<2:=by omega
 go_enter Tryz.func120,Tryz.ntmps120
 go_wp2
 go_ret
 exact ⟨rfl,rfl⟩
theorem Vw.drew {w:World} {base g h:Nat} {A:Option Addr} {m c cm:Nat} {num:Nat→Nat} {O:List Br} {v:Value} (q:Vw w base g h A m c cm num O v):Vw w.drew base g h A m c cm num O v:=q.keep ((Below.refl _ _).drew)
theorem ret_in {a b:Int} (h:a=b):Ending.returned (.int .i64 a)=.returned (.int .i64 b):=by rw [h]
theorem vis_end {w w1 w3 w4 w4' w5:World} {base g h m c cm k n2 gn cap r1 r2 V L U:Nat} {A A2:Option Addr} {cv2 H:Nat} {N O2:List Br} {num num1 num2:Nat→Nat} {v v1:Value} {P:List Br × Nat}
  (q2:Vw w4 base g h A m c cm num2 O2 (.slice A2 O2.length cv2)) (hbx:Below w.heap.size w w1)
  (c1:Chg (fun j=>j=g∨j=h∨v.ownBlock=some j) w1 w3) (c2:Chg (fun j=>j=g∨j=h∨v1.ownBlock=some j) w3 w4)
  (o1:∀ j,v1.ownBlock=some j→v.ownBlock=some j∨w1.heap.size≤j) (o2:∀ j,(Value.slice A2 O2.length cv2).ownBlock=some j→v1.ownBlock=some j∨w3.heap.size≤j)
  (k1:∀ j,L<j+2→num1 j=num j) (k2:∀ j,U<j+2→num2 j=num1 j) (hlu:L<k+2∧U<k+2)
  (hput:P=(O2++[(V,r1,r2)],O2.length+2)) (hvi:VI N (upd num2 k (O2.length+2)) (O2++[(V,r1,r2)])) (hn2:O2.length=n2) (hk:k<m)
  (hown:w5.ownsRow base 80 3 (.slice (some ⟨gn,0,none⟩) (n2+1) cap) (n2+1) (flat O2++c3 V r1 r2)) (hgrow:w4'.grownBy w5 (Value.slice A2 n2 cv2).ownBlock) (hb4:Below w4.heap.size w4 w4') (hat:(Value.slice A2 n2 cv2).ownBlock=some gn∨gn=H) (hH:H=w4'.heap.size) :
  VisOk w (((w5.setCell ⟨g,2,none⟩ (.slice (some ⟨gn,0,none⟩) (n2+1) cap)).setCell ⟨h,k,none⟩ (.int .i64 ((n2:Int)+1+1))).drew) base g h A m c cm (k+2) v num N P.1 P.2 (.returned (.int .i64 ((n2:Int)+1+1))):=by
 subst hn2
 subst hH
 obtain ⟨s1,s2,s3⟩:=q2.step (nw:=O2.length+2) (x:=V) (y:=r1) (z:=r2) hb4 hk hown hgrow (hat.imp id (fun e=>by rw [e];exact hb4.size)) (.int .i64 ((O2.length:Int)+1+1)) (by rw [show (O2.length:Int)+1+1=((O2.length+2:Nat):Int) by omega])
 rw [hput]
 have z1:=hbx.size
 have z3:=c1.size
 have z4:=c2.size
 refine ⟨ret_in (by show (O2.length:Int)+1+1=((O2.length+2:Nat):Int);omega),_,_,s1.drew,hvi,fun j hj=>?_,?_,fun j hj=>?_⟩
 ·unfold upd
  rw [if_neg (by omega),k2 j (by omega),k1 j (by omega)]
 ·refine Chg.drew ?_
  refine (((Chg.of_below hbx).trans c1 (fun j _ e=>e)).trans c2 (fun j hj e=>?_)).trans s2 (fun j hj e=>?_)
  ·rcases e with e | e | e
   ·exact .inl e
   ·exact .inr (.inl e)
   ·rcases o1 j e with e | e
    ·exact .inr (.inr e)
    ·omega
  ·rcases e with e | e | e
   ·exact .inl e
   ·exact .inr (.inl e)
   ·rcases o2 j e with e | e
    ·rcases o1 j e with e | e
     ·exact .inr (.inr e)
     ·omega
    ·omega
 ·rcases s3 j hj with e | e
  ·rcases o2 j e with e | e
   ·rcases o1 j e with e | e
    ·exact .inl e
    ·right;omega
   ·right;omega
  ·right;omega
theorem vis_node (base g h m c cm k:Nat) (A:Option Addr) (N O:List Br) (num:Nat→Nat) (v:Value) (w:World) (hN:Hid (Dg.Good N)) (hNl:Hid (N.length=m)) (hm:m≤1000000) (hbase:base≤w.heap.size) (hq:Hid (Vw w base g h A m c cm num O v)) (hv:Hid (VI N num O)) (hrd:Hid (Rd w base A (up N))) (hk:k<m) (h0:Hid (num k=0))
  (hrec:Hid (∀ (n:Nat) (O:List Br) (num:Nat→Nat) (v:Value) (w:World),n<k+2→base≤w.heap.size→Vw w base g h A m c cm num O v→VI N num O→Rd w base A (up N) →
   Calls Tryz.prog 120 #[.pointer (some ⟨g,0,none⟩),.int .i64 (n:Int)] w (fun e w'=>VisOk w w' base g h A m c cm n v num N (put 64 (Den N n) O).1 (put 64 (Den N n) O).2 e))) :
  Calls Tryz.prog 120 #[.pointer (some ⟨g,0,none⟩),.int .i64 ((k:Int)+2)] w (fun e w'=>VisOk w w' base g h A m c cm (k+2) v num N (put 64 (Den N (k+2)) O).1 (put 64 (Den N (k+2)) O).2 e):=by
 have i1:(0:Int)≤(k:Int):=by omega
 have i2:(k:Int)<(m:Int):=by omega
 have hn2:¬ (k:Int)+2<2:=by omega
 have c0:=hq.out.c0
 have c1:=hq.out.c1
 have hz:w.cell? ⟨h,k,none⟩=some (.int .i64 0):=by have:=(hq.out.nb k hk).1;simp only [h0.out] at this;exact this
 obtain ⟨b,o,e,hb,hc⟩:=hrd.out (by rw [up_len,hNl.out];omega)
 subst e
 obtain ⟨d1,d2,d3⟩:=hc k (by rw [up_len,hNl.out];exact hk)
 rw [iv_up] at d1
 rw [il_up] at d2
 rw [ih_up] at d3
 obtain ⟨hv64,hbl,hbh,_,_⟩:=hN.out.ord k (by rw [hNl.out];exact hk)
 have hg:g<w.heap.size:=block_lt_of_cell c0
 have HBX:=hid ((Below.refl w.heap.size w).alloc (Nat.le_refl _) (.cells #[.int .i64 ((bv N k:Nat):Int),.int .i64 ((bl N k:Nat):Int),.int .i64 ((bh N k:Nat):Int)] 80))
 have HX:=hid (Blk.new (w:=w) rfl [.int .i64 ((bv N k:Nat):Int),.int .i64 ((bl N k:Nat):Int),.int .i64 ((bh N k:Nat):Int)] 80)
 have HL:=hid (hrec.out (bl N k) O num v _ (by omega) (Nat.le_trans hbase HBX.out.size) (hq.out.keep HBX.out) hv.out (hrd.out.below (HBX.out.mono hbase)))
 have HP:=hid (fun w5 O5 num5 v5=>hrec.out (bh N k) O5 num5 v5 w5 (by omega))
 have HSTEP:=hid (fun num2=>VI.step (num2:=num2) hN.out (show k<N.length by rw [hNl.out];exact hk) hv.out.good)
 have HBLK:=hid (And.intro hbl hbh)
 clear hc
 generalize hV:bv N k=V at *
 generalize hLL:bl N k=L at *
 generalize hUU:bh N k=U at *
 have HG:=hid (put_ok64 (den_dep64 hN.out.ord (n:=L) (by have:=HBLK.out.1;rw [hNl.out];omega)) hv.out.good).good
 clear hV hLL hUU hbl hbh
 go_enter Tryz.func120,Tryz.ntmps120
 go_wp2_with fail
 refine HL.out.mono ?_
 rintro e w3 ⟨rfl,num1,v1,q1,vi1,kp1,chg1,ob1⟩
 have HQ1:=hid q1
 have HV1:=hid vi1
 have HK1:=hid kp1
 have HC1:=hid chg1
 have HO1:=hid ob1
 have hnoH:¬ (w.heap.size=g∨w.heap.size=h∨v.ownBlock=some w.heap.size):=by
  rintro (e | e | e)
  ·omega
  ·have:=hq.out.nb.lt (by omega);omega
  ·have:=(hq.out.own.lt _ e).2;omega
 have hs1:w.heap.size<(w.alloc (.cells #[.int .i64 (V:Int),.int .i64 (L:Int),.int .i64 (U:Int)] 80)).heap.size:=by simp
 have HX3:Hid (Blk w3 w.heap.size 3 (fun i=>[Value.int .i64 (V:Int),.int .i64 (L:Int),.int .i64 (U:Int)].getD i undef)):=fun i hi=>⟨(chg1.cell (p:=⟨w.heap.size,i,none⟩) hs1 hnoH).trans (HX.out i hi).1,(chg1.frozen (p:=⟨w.heap.size,i,none⟩) hs1 hnoH).trans (HX.out i hi).2⟩
 have x2:w3.cell? ⟨w.heap.size,2,none⟩=some (.int .i64 (U:Int)):=(HX3.out 2 (by omega)).1
 have HS3:=hid (Nat.lt_of_lt_of_le hs1 chg1.size)
 have HNH:=hid hnoH
 have HH:=HP.out w3 _ num1 v1 (by have:=HS3.out;omega) q1 vi1 ((hrd.out.below (HBX.out.mono hbase)).below (chg1.below (B:=base) (by have:=HS3.out;simp;omega) (fun j hj e=>by
  rcases e with e | e | e
  ·have:=hq.out.gb;omega
  ·have:=hq.out.hb;omega
  ·have:=(hq.out.own.lt _ e).1;omega)))
 have HHH:=hid HH
 clear q1 vi1 kp1 chg1 ob1 hnoH hs1 HH
 go_wp2_with fail
 refine HHH.out.mono ?_
 rintro e w4 ⟨rfl,num2,v2,q2,vi2,kp2,chg2,ob2⟩
 have hnoH2:¬ (w.heap.size=g∨w.heap.size=h∨v1.ownBlock=some w.heap.size):=by
  rintro (e | e | e)
  ·exact HNH.out (.inl e)
  ·exact HNH.out (.inr (.inl e))
  ·rcases HO1.out _ e with e | e
   ·exact HNH.out (.inr (.inr e))
   ·simp at e;omega
 have HX4:Hid (Blk w4 w.heap.size 3 (fun i=>[Value.int .i64 (V:Int),.int .i64 (L:Int),.int .i64 (U:Int)].getD i undef)):=fun i hi=>⟨(chg2.cell (p:=⟨w.heap.size,i,none⟩) HS3.out hnoH2).trans (HX3.out i hi).1,(chg2.frozen (p:=⟨w.heap.size,i,none⟩) HS3.out hnoH2).trans (HX3.out i hi).2⟩
 have hnum:num2 k=0:=by rw [kp2 k (by have:=HBLK.out.2;omega),HK1.out k (by have:=HBLK.out.1;omega),h0.out]
 obtain ⟨hput,hvi⟩:=HSTEP.out num2 vi2 hnum
 have hlen2:=vi2.len
 have HQ2:=hid q2
 have HK2:=hid kp2
 have HC2:=hid chg2
 have HO2:=hid ob2
 have HPUT:=hid hput
 have HVI:=hid hvi
 have HLEN2:=hid (show (put 64 (Den N U) (put 64 (Den N L) O).1).1.length<1000000000 by rw [hNl.out] at hlen2;omega)
 have hs4:w.heap.size<w4.heap.size:=Nat.lt_of_lt_of_le HS3.out chg2.size
 have y0:w4.cell? ⟨w.heap.size,0,none⟩=some (.int .i64 (V:Int)):=(HX4.out 0 (by omega)).1
 clear x2 hput hvi q2 vi2 kp2 chg2 ob2 hnoH2 hlen2 hnum
 generalize hP1:put 64 (Den N L) O=P1 at *
 generalize hP2:put 64 (Den N U) P1.1=P2 at *
 obtain ⟨O1,r1⟩:=P1
 obtain ⟨O2,r2⟩:=P2
 have HP12:=hid (And.intro hP1 hP2)
 clear hP1 hP2 d1 d2 d3 hz c0 c1
 simp only at HQ2 HPUT HVI HLEN2
 obtain ⟨i0,hi,hz0,hz1,hz2⟩:=info_parts Tryz.infoBr
 have e2:=HQ2.out.c2
 have e1:=HQ2.out.c1
 have f2:=HQ2.out.f2
 have hvg:=HQ2.out.vg
 have hvh:=HQ2.out.vh
 have hbk:=HQ2.out.nb k hk
 have ek:=hbk.1
 have fk:=hbk.2
 have hgh:¬ h=g:=fun e=>HQ2.out.gh e.symm
 have hvl:Hid (∃ A c,v2=.slice A O2.length c):=by
  obtain ⟨A,c,e,_⟩:=own_rd HQ2.out.own
  exact ⟨A,c,e⟩
 obtain ⟨A2,cv2,rfl⟩:=hvl.out
 obtain ⟨n2,hn2'⟩:∃ n2,O2.length=n2:=⟨_,rfl⟩
 have HN2:=hid hn2'
 rw [hn2'] at e2 hvg hvh
 have HO:Hid (w4.ownsRow base 80 3 (.slice A2 n2 cv2) n2 (flat O2)):=by have:=HQ2.out.own;rw [hn2'] at this;exact this
 have hb2:n2<1000000000:=by rw [← hn2'];exact HLEN2.out
 have hbase4:base≤w4.heap.size:=by omega
 have hg4:g<w4.heap.size:=block_lt_of_cell e2
 have hh4:h<w4.heap.size:=block_lt_of_cell ek
 have n1:¬ g=w4.heap.size:=by omega
 have n2':¬ h=w4.heap.size:=by omega
 have n3:¬ w.heap.size=w4.heap.size:=by omega
 clear hbk hvl hn2'
 go_wp2
 go_region_law ((refine step_append_lies _ (by rfl) _ _ _ (by rfl) base 80 i0 _ 3 24 Tryz.underlying29 hi hz0 hz1 hz2 rfl (by omega) (.slice A2 n2 cv2) n2 (flat O2) (by rfl) (by first | exact HO.out.alloc_own _ | exact HO.out.alloc_own2 _) _ _ _ (c3 V r1 r2) (by rfl) (by rfl) (World.news_of_block (heap_alloc_new _ _)) (by simp [c3,Value.oneCell']) (by omega) (by simp only [maxLen];omega) (by omega) (by simp;omega) _ rfl ?_;intro gn cap w5 hown hgrow hat hlt;have d1:=(hgrow.cell_far ⟨g,1,none⟩ (by simp;omega) (Ne.symm hvg)).trans (show _=some (Value.slice (some ⟨h,0,none⟩) m cm) by go_simp);have d2:=(hgrow.cell_far ⟨g,2,none⟩ (by simp;omega) (Ne.symm hvg)).trans (show _=some (Value.slice A2 n2 cv2) by go_simp);have d3:=(hgrow.frozen_far ⟨g,2,none⟩ (by simp;omega) (Ne.symm hvg)).trans (show _=false by go_simp);have d4:=(hgrow.cell_far ⟨h,k,none⟩ (by simp;omega) (Ne.symm hvh)).trans (show _=some (Value.int .i64 ((num2 k:Nat):Int)) by go_simp);have d5:=(hgrow.frozen_far ⟨h,k,none⟩ (by simp;omega) (Ne.symm hvh)).trans (show _=false by go_simp)))
 all_goals
  clear e1 e2 f2 ek fk y0
  go_wp2
  go_region
  go_wp2
  go_ret
  refine vis_end HQ2.out HBX.out HC1.out HC2.out HO1.out HO2.out HK1.out HK2.out HBLK.out HPUT.out HVI.out HN2.out hk hown hgrow ?_ hat ?_
  ·first | exact ((Below.refl _ _).alloc (Nat.le_refl _) _).drew | exact (Below.refl _ _).drew.alloc (Nat.le_refl _) _
  ·rfl
theorem vis_any (base g h m c cm:Nat) (A:Option Addr) (N:List Br) (hN:Dg.Good N) (hNl:N.length=m) (hm:m≤1000000) :
  ∀ (B n:Nat) (O:List Br) (num:Nat→Nat) (v:Value) (w:World),n<B→n<m+2→base≤w.heap.size→Vw w base g h A m c cm num O v→VI N num O→Rd w base A (up N) →
    Calls Tryz.prog 120 #[.pointer (some ⟨g,0,none⟩),.int .i64 (n:Int)] w (fun e w'=>VisOk w w' base g h A m c cm n v num N (put 64 (Den N n) O).1 (put 64 (Den N n) O).2 e):=by
 intro B
 induction B with
 | zero=>intro n O num v w hB;omega
 | succ B ih =>
   intro n O num v w hB hn hbase hq hv hrd
   by_cases hc:n<2
   ·refine (vis_const g n w hc).mono ?_
    rintro e w' ⟨rfl,rfl⟩
    rw [hv.const hc]
    exact ⟨rfl,num,v,hq,hv,fun _ _=>rfl,Chg.refl _ _,fun _ e=>.inl e⟩
   ·obtain ⟨k,rfl⟩:∃ k,n=k+2:=⟨n - 2,by omega⟩
    have hk:k<m:=by omega
    by_cases h0:num k=0
    ·exact vis_node base g h m c cm k A N O num v w (hid hN) (hid hNl) hm hbase (hid hq) (hid hv) (hid hrd) hk (hid h0)
      (hid (fun n' O' num' v' w' hlt=>ih n' O' num' v' w' (by omega) (by omega)))
    ·refine (vis_hit g h m cm k (num k) w hq.c1 hk hm (hq.nb k hk).1 (by omega)).mono ?_
     rintro e w' ⟨rfl,rfl⟩
     rw [hv.hit (by omega) h0]
     exact ⟨rfl,num,v,hq,hv,fun _ _=>rfl,Chg.refl _ _,fun _ e=>.inl e⟩
end Go.Proofs.YtpaednfinlaioaaGreatDoor
