/-
  Plain mathematics and contracts of package diagram, several texts in one: DAt, DCom, DTbl, DMade.
-/
import Derived.Test.YtpaednfinlaioaaGreatDoorMj
import Derived.Test.YtpaednfinlaioaaGreatDoorMg
import Derived.Test.YtpaednfinlaioaaGreatDoorMa
import Derived.Test.YtpaednfinlaioaaGreatDoorMh
import Derived.Deep.DeepCutAuto
import Derived.Test.YtpaednfinlaioaaGreatDoorMo
import Derived.Laws.BitsAllLaws
import Derived.Deep.RegionHeld3
set_option maxHeartbeats 8000000
set_option maxRecDepth 100000
namespace Go.Proofs.YtpaednfinlaioaaGreatDoor
open Go.Lib (hid)
open Go.RowKit Dg St Go.Maps
structure Ac where
 A0:Option Addr
 m0:Nat
 c0:Nat
 r0:Nat
 A1:Option Addr
 m1:Nat
 c1:Nat
 r1:Nat
 op:Nat
 A:List Br
 B:List Br
 T:Nat
structure Ac.Ok (P:Ac) (w:World) (base:Nat):Prop where
 oA:Ord P.A
 oB:Ord P.B
 lA:P.A.length=P.m0
 lB:P.B.length=P.m1
 s0:P.m0≤4096
 s1:P.m1≤4096
 rA:Rd w base P.A0 (up P.A)
 rB:Rd w base P.A1 (up P.B)
 op2:P.op≤2
 con:∀ x y,x<2→y<2→rcon P.op x y=(tt P.T (decide (x=1)) (decide (y=1)) false).toNat
theorem Ac.Ok.below {P:Ac} {w w':World} {base:Nat} (h:P.Ok w base) (hb:Below base w w'):P.Ok w' base :=
 ⟨h.oA,h.oB,h.lA,h.lB,h.s0,h.s1,h.rA.below hb,h.rB.below hb,h.op2,h.con⟩
structure Rs (w:World) (base g:Nat) (P:Ac) (M S:List Br) (v s:Value):Prop where
 a0:w.cell? ⟨g,0,none⟩=some (.slice P.A0 P.m0 P.c0)
 a1:w.cell? ⟨g,1,none⟩=some (.int .i64 (P.r0:Int))
 b0:w.cell? ⟨g,2,none⟩=some (.slice P.A1 P.m1 P.c1)
 b1:w.cell? ⟨g,3,none⟩=some (.int .i64 (P.r1:Int))
 op:w.cell? ⟨g,4,none⟩=some (.int .i64 (P.op:Int))
 cn:w.cell? ⟨g,5,none⟩=some v
 cs:w.cell? ⟨g,6,none⟩=some s
 fn:w.frozen? ⟨g,5,none⟩=false
 fs:w.frozen? ⟨g,6,none⟩=false
 own:w.ownsRow base 80 3 v M.length (flat M)
 ows:w.ownsRow base 155 3 s S.length (flat S)
 vg:v.ownBlock≠some g
 sg:s.ownBlock≠some g
 vs:∀ k,v.ownBlock=some k→s.ownBlock≠some k
 gb:base≤g
theorem Rs.lt {w:World} {base g:Nat} {P:Ac} {M S:List Br} {v s:Value} (h:Rs w base g P M S v s):g<w.heap.size:=block_lt_of_cell h.a0
theorem Rs.keep {w w':World} {base g:Nat} {P:Ac} {M S:List Br} {v s:Value} (h:Rs w base g P M S v s) (hb:Below w.heap.size w w'):Rs w' base g P M S v s:=by
 have hg:=h.lt
 exact ⟨(hb.cell (p:=⟨g,0,none⟩) hg).trans h.a0,(hb.cell (p:=⟨g,1,none⟩) hg).trans h.a1,(hb.cell (p:=⟨g,2,none⟩) hg).trans h.b0,(hb.cell (p:=⟨g,3,none⟩) hg).trans h.b1,(hb.cell (p:=⟨g,4,none⟩) hg).trans h.op,
  (hb.cell (p:=⟨g,5,none⟩) hg).trans h.cn,(hb.cell (p:=⟨g,6,none⟩) hg).trans h.cs,(hb.frozen (p:=⟨g,5,none⟩) hg).trans h.fn,(hb.frozen (p:=⟨g,6,none⟩) hg).trans h.fs,own_below h.own hb,own_below h.ows hb,h.vg,h.sg,h.vs,h.gb⟩
theorem ows_rd {w:World} {base:Nat} {v:Value} {M:List Br} (h:w.ownsRow base 155 3 v M.length (flat M)):∃ A c,v=.slice A M.length c∧M.length≤c∧Rd w w.heap.size A (up M):=by
 rcases h.2 with ⟨rfl,h0⟩ | ⟨g,cap,cur,rfl,_,hh,hnc,_⟩
 ·exact ⟨none,0,by rw [h0],by omega,fun hp=>by rw [up_len] at hp;omega⟩
 ·have hown:w.ownsRow base 155 3 (.slice (some ⟨g,0,none⟩) M.length cap) M.length (flat M):=h
  refine ⟨_,cap,rfl,hnc,fun hp=>⟨g,0,rfl,(World.ownsRow.lt hown g rfl).2,fun j hj=>?_⟩⟩
  rw [up_len] at hj
  obtain ⟨f1,f2,f3⟩:=flat_at M j hj
  rw [iv_up,il_up,ih_up,Nat.zero_add]
  exact ⟨(hown.cellAt (j*3) (by omega)).trans f1,(hown.cellAt (j*3+1) (by omega)).trans f2,(hown.cellAt (j*3+2) (by omega)).trans f3⟩
def AtOk (w w':World) (base g:Nat) (P:Ac) (S:List Br) (x y:Nat) (M':List Br) (r:Nat) (e:Ending):Prop :=
 e=.returned (.int .i64 (r:Int))∧∃ S' v' s',Rs w' base g P M' S' v' s'∧Sn P.T (P.m0+2) (P.m1+2) P.A P.B M' S'∧(∀ t∈S',t∈S∨t.1+t.2.1≤x+y)∧Below base w w'
theorem Tryz.infoAr:(Tryz.prog.info? 155).map (fun i=>(i.zero,i.size,i.bytes))=some (some (.agg #[.int .i64 0,.int .i64 0,.int .i64 0]),3,24):=by kernel_rfl
theorem unq_or (M:List Br) (b:Br):(unq M b).1=M∨∃ c,(unq M b).1=M++[c]∧(unq M b).2=M.length+2:=by
 unfold unq
 split
 ·exact .inl rfl
 ·unfold ins
  split
  ·exact .inl rfl
  ·exact .inr ⟨b,rfl,rfl⟩
theorem at_const (base g x y:Nat) (P:Ac) (M S:List Br) (v s:Value) (w:World) (hP:Hid (P.Ok w base)) (hr:Hid (Rs w base g P M S v s)) (hs:Hid (Sn P.T (P.m0+2) (P.m1+2) P.A P.B M S)) (hM:Hid (Dg.Good M)) (hx:x<2) (hy:y<2) :
  Calls Tryz.prog 117 #[.pointer (some ⟨g,0,none⟩),.int .i64 (x:Int),.int .i64 (y:Int)] w (fun e w'=>AtOk w w' base g P S x y (put 64 (f2 P.T P.A P.B x y) M).1 (put 64 (f2 P.T P.A P.B x y) M).2 e):=by
 have hc:=rcons_ok g P.op x y w hr.out.op hP.out.op2 hx hy
 rw [hP.out.con x y hx hy] at hc
 rw [f2_const hx hy hM.out]
 have HC:=hid hc
 clear hc
 go_enter Tryz.func117,Tryz.ntmps117
 go_wp2_with (go_at_call 127;(with_reducible refine HC.out.mono ?_);rintro e w' ⟨rfl,rfl⟩)
 go_ret
 exact ⟨rfl,S,v,s,hr.out,hs.out,fun t ht=>.inl ht,Below.refl _ _⟩
def NoP (S:List Br) (x y k:Nat):Prop:=∀ j,j<k→¬ (bv S j=x∧bl S j=y)
theorem NoP.all {S:List Br} {x y:Nat} (h:NoP S x y S.length):∀ t∈S,¬ (t.1=x∧t.2.1=y):=fun t ht=>by
 obtain ⟨k,hk,rfl⟩:=List.getElem_of_mem ht
 rw [br_at hk]
 exact h k hk
theorem at_len {P:Ac} {w:World} {base:Nat} {M S:List Br} (h:Sn P.T (P.m0+2) (P.m1+2) P.A P.B M S) (hP:P.Ok w base):M.length<1000000000:=by
 have h1:=h.lenM
 have h2:=h.len
 have h3:=hP.s0
 have h4:=hP.s1
 have:=Nat.mul_le_mul (show P.m0+2≤4098 by omega) (show P.m1+2≤4098 by omega)
 omega
structure AtFin (P:Ac) (x y V r1 r2:Nat) (M M2 MM:List Br) (rr n8:Nat):Prop where
 whole:put 64 (f2 P.T P.A P.B x y) M=(MM,rr)
 ok:PutOk 64 (f2 P.T P.A P.B x y) M (MM,rr).1 (MM,rr).2
 un:MM=M2∨∃ b,MM=M2++[b]∧rr=M2.length+2
 unq:unq M2 (V,r1,r2)=(MM,rr)
 len:MM.length=n8
theorem unq_sl {w:World} {base n r:Nat} {v:Value} {M:List Br} (hn:M.length=n) (e:Ending) (w':World) (h:Unq w w' base v M r e):∃ A c,e=.returned (.tuple #[.slice A n c,.int .i64 (r:Int)])∧w'.ownsRow base 80 3 (.slice A n c) n (flat M)∧Chg (fun k=>v.ownBlock=some k) w w'∧(∀ k,(Value.slice A n c).ownBlock=some k→v.ownBlock=some k∨w.heap.size≤k):=by
 obtain ⟨v',e1,h1,h2,h3⟩:=h
 obtain ⟨A,c,rfl,_,_⟩:=own_rd h1
 subst hn
 exact ⟨A,c,e1,h1,h2,h3⟩
theorem at_end {w7 w8 w9:World} {base g n7 n8 gn cap x y rr cs7 c8:Nat} {P:Ac} {M2 MM S7:List Br} {v7 s7:Value} {As7 A8:Option Addr} {o:Obj}
  (hr:Rs w7 base g P M2 S7 v7 s7) (he:s7=.slice As7 n7 cs7) (hn7:S7.length=n7) (hl8:MM.length=n8) (ho8:w8.ownsRow base 80 3 (.slice A8 n8 c8) n8 (flat MM))
  (hc8:Chg (fun k=>v7.ownBlock=some k) w7 w8) (hv8:∀ k,(Value.slice A8 n8 c8).ownBlock=some k→v7.ownBlock=some k∨w7.heap.size≤k)
  (hown:w9.ownsRow base 155 3 (.slice (some ⟨gn,0,none⟩) (n7+1) cap) (n7+1) (flat S7++c3 x y rr)) (hgr:((w8.setCell ⟨g,5,none⟩ (.slice A8 n8 c8)).alloc o).grownBy w9 (Value.slice As7 n7 cs7).ownBlock)
  (hat2:(Value.slice As7 n7 cs7).ownBlock=some gn∨w8.heap.size≤gn) :
  Rs (w9.setCell ⟨g,6,none⟩ (.slice (some ⟨gn,0,none⟩) (n7+1) cap)) base g P MM (S7++[(x,y,rr)]) (.slice A8 n8 c8) (.slice (some ⟨gn,0,none⟩) (n7+1) cap)∧Below base w7 (w9.setCell ⟨g,6,none⟩ (.slice (some ⟨gn,0,none⟩) (n7+1) cap)):=by
 subst he
 subst hn7
 subst hl8
 have hg:=hr.lt
 have hs8:=hc8.size
 have hz:(w8.setCell ⟨g,5,none⟩ (.slice A8 MM.length c8)).heap.size=w8.heap.size:=by simp [World.setCell]
 have hv7:¬ v7.ownBlock=some g:=hr.vg
 have hsg:(Value.slice As7 S7.length cs7).ownBlock≠some g:=hr.sg
 have hgn:gn≠g:=by
  rcases hat2 with e | e
  ·exact fun e2=>hsg (by rw [e,e2])
  ·omega
 have hag:(Value.slice A8 MM.length c8).ownBlock≠some g:=fun e=>by
  rcases hv8 g e with h | h
  ·exact hv7 h
  ·omega
 have has:∀ k,(Value.slice A8 MM.length c8).ownBlock=some k→(Value.slice As7 S7.length cs7).ownBlock≠some k:=fun k e e2=>by
  rcases hv8 k e with h | h
  ·exact hr.vs k h e2
  ·have:=(hr.ows.lt k e2).2;omega
 have ha:=ab2 (w8.setCell ⟨g,5,none⟩ (.slice A8 MM.length c8)) o
 have far:∀ a:Addr,a.block=g→w9.cell? a=((w8.setCell ⟨g,5,none⟩ (.slice A8 MM.length c8))).cell? a∧w9.frozen? a=((w8.setCell ⟨g,5,none⟩ (.slice A8 MM.length c8))).frozen? a:=fun a hae=>by
  have hlt:a.block<(w8.setCell ⟨g,5,none⟩ (.slice A8 MM.length c8)).heap.size:=by rw [hz,hae];omega
  have hne:some a.block≠(Value.slice As7 S7.length cs7).ownBlock:=by rw [hae];exact Ne.symm hsg
  exact ⟨(hgr.cell_far a (Nat.lt_of_lt_of_le hlt ha.size) hne).trans (ha.cell hlt),(hgr.frozen_far a (Nat.lt_of_lt_of_le hlt ha.size) hne).trans (ha.frozen hlt)⟩
 have c8':∀ j,w8.cell? ⟨g,j,none⟩=w7.cell? ⟨g,j,none⟩:=fun j=>hc8.cell (p:=⟨g,j,none⟩) hg hv7
 have f8':∀ j,w8.frozen? ⟨g,j,none⟩=w7.frozen? ⟨g,j,none⟩:=fun j=>hc8.frozen (p:=⟨g,j,none⟩) hg hv7
 have old:∀ j,j≠5→j≠6→(w9.setCell ⟨g,6,none⟩ (.slice (some ⟨gn,0,none⟩) (S7.length+1) cap)).cell? ⟨g,j,none⟩=w7.cell? ⟨g,j,none⟩:=fun j h5 h6=>by
  rw [cell_set_off _ _ _ _ _ h6,(far ⟨g,j,none⟩ rfl).1,cell_set_off _ _ _ _ _ h5,c8']
 have own8:w9.ownsRow base 80 3 (.slice A8 MM.length c8) MM.length (flat MM):=by
  have h1:=ho8.kept (grown_set w8 g 5 (.slice A8 MM.length c8)) (.inr hag)
  have h2:=own_below h1 ha
  refine h2.kept hgr ?_
  by_cases e:(Value.slice A8 MM.length c8).ownBlock=none
  ·exact .inl e
  ·refine .inr (fun e2=>?_)
   obtain ⟨q,hq⟩:=Option.ne_none_iff_exists'.1 e
   exact has q hq (e2.symm.trans hq)
 refine ⟨⟨(old 0 (by omega) (by omega)).trans hr.a0,(old 1 (by omega) (by omega)).trans hr.a1,(old 2 (by omega) (by omega)).trans hr.b0,(old 3 (by omega) (by omega)).trans hr.b1,(old 4 (by omega) (by omega)).trans hr.op,?_,?_,?_,?_,?_,?_,hag,?_,?_,hr.gb⟩,?_⟩
 ·rw [cell_set_off _ _ _ _ _ (by omega),(far ⟨g,5,none⟩ rfl).1]
  exact World.cell?_setCell_same _ _ _ ((c8' 5).trans hr.cn)
 ·have h6:w9.cell? ⟨g,6,none⟩=some (Value.slice As7 S7.length cs7):=by
   rw [(far ⟨g,6,none⟩ rfl).1,cell_set_off _ _ _ _ _ (by omega),c8']
   exact hr.cs
  exact World.cell?_setCell_same _ _ _ h6
 ·rw [World.frozen?_setCell,(far ⟨g,5,none⟩ rfl).2,World.frozen?_setCell,f8'];exact hr.fn
 ·rw [World.frozen?_setCell,(far ⟨g,6,none⟩ rfl).2,World.frozen?_setCell,f8'];exact hr.fs
 ·exact own8.kept (grown_set w9 g 6 _) (.inr hag)
 ·have e:(S7++[(x,y,rr)]).length=S7.length+1:=by rw [List.length_append];rfl
  rw [e,flat_snoc]
  exact hown.kept (grown_set w9 g 6 _) (.inr (by simp [Value.ownBlock,hgn]))
 ·simp [Value.ownBlock,hgn]
 ·intro k e e2
  simp only [Value.ownBlock,Option.some.injEq] at e2
  subst e2
  rcases hat2 with h | h
  ·exact has _ e h
  ·have:=(ho8.lt _ e).2;omega
 ·have hb7:base≤w7.heap.size:=by have:=hr.gb;omega
  have b8:Below base w7 w8:=hc8.below hb7 (fun k hk e=>by have:=(hr.own.lt k e).1;omega)
  have b9:Below base w8 w9:=by
   have h1:Below base w8 ((w8.setCell ⟨g,5,none⟩ (.slice A8 MM.length c8)).alloc o):=((Below.refl base w8).setCell hr.gb _).alloc (by rw [hz];omega) o
   refine h1.trans ⟨hgr.os,hgr.tape,hgr.output,hgr.size,fun k hk=>hgr.block k (by have:=ha.size;rw [hz] at this;omega) (fun e=>?_)⟩
   have:=(hr.ows.lt k e.symm).1
   omega
  exact (b8.trans b9).setCell hr.gb _
theorem at_node (base g x y:Nat) (P:Ac) (M S:List Br) (v s:Value) (w:World) (hP:Hid (P.Ok w base)) (hr:Hid (Rs w base g P M S v s)) (hs:Hid (Sn P.T (P.m0+2) (P.m1+2) P.A P.B M S)) (hM:Hid (Dg.Good M)) (hx:x<P.m0+2) (hy:y<P.m1+2) (hn:¬ (x<2∧y<2))
  (hrec:Hid (∀ (x' y':Nat) (M S:List Br) (v s:Value) (w:World),x'+y'<x+y→x'<P.m0+2→y'<P.m1+2→P.Ok w base→Rs w base g P M S v s→Sn P.T (P.m0+2) (P.m1+2) P.A P.B M S→Dg.Good M →
   Calls Tryz.prog 117 #[.pointer (some ⟨g,0,none⟩),.int .i64 (x':Int),.int .i64 (y':Int)] w (fun e w'=>AtOk w w' base g P S x' y' (put 64 (f2 P.T P.A P.B x' y') M).1 (put 64 (f2 P.T P.A P.B x' y') M).2 e))) :
  Calls Tryz.prog 117 #[.pointer (some ⟨g,0,none⟩),.int .i64 (x:Int),.int .i64 (y:Int)] w (fun e w'=>AtOk w w' base g P S x y (put 64 (f2 P.T P.A P.B x y) M).1 (put 64 (f2 P.T P.A P.B x y) M).2 e):=by
 have hsl:=hs.out.len
 obtain ⟨As,cs,rfl,hcs,hrs⟩:=ows_rd hr.out.ows
 obtain ⟨n,hSn⟩:∃ n,Hid (S.length=n):=⟨_,rfl⟩
 have hn9:n<1000000000:=by
  rw [hSn.out] at hsl
  have h1:=hP.out.s0
  have h2:=hP.out.s1
  have:=Nat.mul_le_mul (show P.m0+2≤4098 by omega) (show P.m1+2≤4098 by omega)
  omega
 rw [hSn.out] at hr hcs
 have c6:=hr.out.cs
 have HRS:=hid hrs
 have HCS:=hid hcs
 clear hrs hcs hsl
 have hop:2≤x∨2≤y∨2≤0:=by omega
 obtain ⟨V,L0,L1,L2,U0,U1,U2,M1,M2,r1,r2,hmiss⟩:=miss_of (T:=P.T) (s0:=P.m0+2) (s1:=P.m1+2) (s2:=1) (C:=[]) hP.out.oA hP.out.oB good_nil.ord (by rw [hP.out.lA];omega) (by rw [hP.out.lB];omega) (by simp) hx hy (by omega) hM.out hop
 obtain rfl:L2=0:=by have:=hmiss.bl2;omega
 obtain rfl:U2=0:=by have:=hmiss.bu2;omega
 have hbase:base≤w.heap.size:=by have:=hr.out.gb;have:=hr.out.lt;omega
 obtain ⟨MM,rr,hRR⟩:∃ MM rr,unq M2 (V,r1,r2)=(MM,rr):=⟨_,_,rfl⟩
 have hwhole:put 64 (f2 P.T P.A P.B x y) M=(MM,rr):=hmiss.whole.trans hRR
 have hok:=hmiss.ok
 rw [show fx P.T P.A P.B [] x y 0=f2 P.T P.A P.B x y from rfl,hwhole] at hok
 have hun:MM=M2∨∃ b,MM=M2++[b]∧rr=M2.length+2:=by have:=unq_or M2 (V,r1,r2);rwa [hRR] at this
 obtain ⟨n8,HFI⟩:∃ n8,AtFin P x y V r1 r2 M M2 MM rr n8:=⟨_,hwhole,hok,hun,hRR,rfl⟩
 clear hwhole hok hun hRR
 have HMI:=hid hmiss
 have hmv:=mv_two hP.out.oA hP.out.oB (x:=x) (y:=y) (by rw [hP.out.lA];exact hx) (by rw [hP.out.lB];exact hy)
 rw [hmiss.hV] at hmv
 obtain ⟨la,HLX⟩:∃ la,Hid (lev P.A x=la):=⟨_,rfl⟩
 obtain ⟨lb,HLY⟩:∃ lb,Hid (lev P.B y=lb):=⟨_,rfl⟩
 rw [HLX.out,HLY.out] at hmv
 have hmin:(min (la:Int) (lb:Int))=(V:Int):=by omega
 have hV64:=hmiss.v64
 have HP0:=hP
 have hm0:P.m0≤1000000:=by have:=hP.out.s0;omega
 have hm1:P.m1≤1000000:=by have:=hP.out.s1;omega
 have HLA:=hid hP.out.lA
 have HLB:=hid hP.out.lB
 have HRA:Hid (Rd w.drew w.drew.heap.size P.A0 (up P.A)):=hid ((hP.out.below ((Below.refl base w).drew)).rA.mono hbase)
 have d0:True:=trivial
 have HMV:=hid hmv
 clear hmiss hop hmv
 have hxy:(decide ((x:Int)<2)=true∧decide ((y:Int)<2)=false)∨decide ((x:Int)<2)=false:=by
  by_cases h1:x<2
  ·exact .inl ⟨decide_eq_true (by omega),decide_eq_false (by omega)⟩
  ·exact .inr (decide_eq_false (by omega))
 have HNN:=hid hn
 clear hn
 rcases hxy with ⟨t1,t2⟩ | t1
 all_goals
  go_enter Tryz.func117,Tryz.ntmps117
  go_wp2
  go_loop [7] (fun i=>∃ k:Nat,k≤n∧i=.int .i64 (k:Int)∧Hid (NoP S x y k)) (fun i=>n - (intOf i).toNat)
  case atStart=>exact ⟨0,Nat.zero_le _,rfl,fun j hj=>absurd hj (by omega)⟩
  case round =>
   obtain ⟨k,hk,rfl,hno⟩:=hrel
   have i1:(0:Int)≤(k:Int):=by omega
   by_cases hlt:k<n
   ·have i2:(k:Int)<(n:Int):=by omega
    obtain ⟨b',o',e,hb,hc⟩:=HRS.out (by rw [up_len,hSn.out];omega)
    subst e
    obtain ⟨d1,d2,d3⟩:=hc k (by rw [up_len,hSn.out];exact hlt)
    rw [iv_up] at d1
    rw [il_up] at d2
    rw [ih_up] at d3
    have hin:S[k]'(by rw [hSn.out];exact hlt)∈S:=List.getElem_mem _
    rw [br_at (by rw [hSn.out];exact hlt)] at hin
    have HIN:=hid (hs.out.hit hM.out hin)
    have hnx:∀ hne:¬ (bv S k=x∧bl S k=y),NoP S x y (k+1):=fun hne j hj=>by
     rcases Nat.lt_or_ge j k with h | h
     ·exact hno.out j h
     ·rw [show j=k by omega];exact hne
    have HNX:=hid hnx
    clear hc hnx hin
    generalize bv S k=X at *
    generalize bl S k=Y at *
    generalize bh S k=Z at *
    by_cases q:X=x∧Y=y
    ·obtain ⟨rfl,rfl⟩:=q
     have e1:((X:Int) == (X:Int))=true:=by simp
     have e2:((Y:Int) == (Y:Int))=true:=by simp
     clear HNX
     go_wp2
     go_ret
     refine ⟨ret_in ?_,?_⟩
     ·rw [HIN.out]
     ·rw [HIN.out]
      exact ⟨S,v,_,by rw [← hSn.out] at hr;exact hr.out,hs.out,fun t ht=>.inl ht,Below.refl _ _⟩
    ·have HQ:=hid (HNX.out q)
     by_cases q1:X=x
     ·subst q1
      have e1:((X:Int) == (X:Int))=true:=by simp
      have e2:((Y:Int) == (y:Int))=false:=beq_eq_false_iff_ne.2 (fun h=>q ⟨rfl,by omega⟩)
      clear q
      go_wp2
      go_round
      case rel=>exact ⟨k+1,by omega,by go_num,HQ⟩
      case measure=>simp [intOf];omega
     ·have e1:((X:Int) == (x:Int))=false:=beq_eq_false_iff_ne.2 (by omega)
      clear q
      go_wp2
      go_round
      case rel=>exact ⟨k+1,by omega,by go_num,HQ⟩
      case measure=>simp [intOf];omega
   ·obtain rfl:k=n:=by omega
    have HNO:Hid (∀ t∈S,¬ (t.1=x∧t.2.1=y)):=NoP.all (by rw [hSn.out];exact hno.out)
    have HB:=hbase
    have r0w:=hr.out.a0
    have r1w:=hr.out.a1
    have r2w:=hr.out.b0
    have r3w:=hr.out.b1
    have HP1:=HP0
    clear d0
    go_wp2
    go_cut [8] (fun s8 wx=>s8=.int .i64 (V:Int)∧Below w.heap.size w wx)
    case first =>
     go_region_law ((first
      | (go_simp;go_at_call 119;(with_reducible refine (rlevel_ok P.m0 P.c0 x (P.r0:Int) P.A0 P.A w.drew HRA HLA hm0 hx).mono ?_);rintro e w2 ⟨rfl,b2'⟩;rw [HLX.out];have HB2:Hid (Below w.heap.size w w2):=hid ((Below.refl w.heap.size w).drew.trans b2');have HR2:=hid (hr.out.keep HB2.out);have q0:=HR2.out.a0;have q1:=HR2.out.a1;have q2:=HR2.out.b0;have q3:=HR2.out.b1;clear b2')
      | (go_simp;go_at_call 119;(with_reducible refine (rlevel_ok P.m1 P.c1 y (P.r1:Int) P.A1 P.B w2 (hid ((HP1.out.below (HB2.out.mono hbase)).rB.mono (Nat.le_trans hbase HB2.out.size))) HLB hm1 hy).mono ?_);rintro e w3 ⟨rfl,b3'⟩;rw [HLY.out];have HB3:Hid (Below w.heap.size w w3):=hid (HB2.out.trans (b3'.mono HB2.out.size));have HR3:=hid (HR2.out.keep b3');clear b3')))
     all_goals go_wp2_with fail
     all_goals go_meet
     all_goals exact ⟨by first | rfl | (have:=HMV.out;exact congrArg (Value.int IntKind.i64) (by omega)),by first | exact HB3.out | exact HB3.out.drew⟩
    case rest =>
     obtain ⟨rfl,hbc⟩:=hcut
     have HB3:=hid hbc
     have HR3:=hid (hr.out.keep hbc)
     have HP3:=hid (HP1.out.below (hbc.mono hbase))
     have hb3:base≤wc.heap.size:=Nat.le_trans hbase hbc.size
     have q0:=HR3.out.a0
     have q1:=HR3.out.a1
     have HS3:=rsides_ok P.m0 P.c0 x V (P.r0:Int) P.A0 P.A wc (hid (HP3.out.rA.mono hb3)) HLA hm0 hx hV64
     rw [HMI.out.l0,HMI.out.u0] at HS3
     have HC3:=hid HS3
     clear hbc HS3 r0w r1w r2w r3w hmin
     go_wp2_with fail
     refine HC3.out.mono ?_
     rintro e w4 ⟨rfl,b4⟩
     have HR4:=hid (HR3.out.keep b4)
     have HP4:=hid (HP3.out.below (b4.mono hb3))
     have HB4:=btr HB3 b4 HB3.out.size
     have hb4:base≤w4.heap.size:=Nat.le_trans hb3 b4.size
     clear q0 q1 b4
     have q2:=HR4.out.b0
     have q3:=HR4.out.b1
     have HS4:=rsides_ok P.m1 P.c1 y V (P.r1:Int) P.A1 P.B w4 (hid (HP4.out.rB.mono hb4)) HLB hm1 hy hV64
     rw [HMI.out.l1,HMI.out.u1] at HS4
     have HC4:=hid HS4
     clear HS4
     go_wp2_with fail
     refine HC4.out.mono ?_
     rintro e w5 ⟨rfl,b5⟩
     have HR5:=hid (HR4.out.keep b5)
     have HP5:=hid (HP4.out.below (b5.mono hb4))
     have HB5:=btr HB4 b5 HB4.out.size
     have hb5:base≤w5.heap.size:=Nat.le_trans hb4 b5.size
     clear q2 q3 b5
     have HA5:=hrec.out L0 L1 M S v _ w5 (by have:=HMI.out.ml;omega) HMI.out.bl0 HMI.out.bl1 HP5.out HR5.out hs.out hM.out
     rw [HMI.out.e0] at HA5
     have HC5:=hid HA5
     clear HA5
     go_wp2_with fail
     refine HC5.out.mono ?_
     rintro e w6 ⟨rfl,S6,v6,s6,hr6,hs6,hk6,b6⟩
     have HR6:=hid hr6
     have HSn6:=hid hs6
     have HK6:=hid hk6
     have HP6:=hid (HP5.out.below b6)
     have HB6:Hid (Below base w w6):=hid ((HB5.out.mono hbase).trans b6)
     have HA6:=hrec.out U0 U1 M1 S6 v6 s6 w6 (by have:=HMI.out.mu;omega) HMI.out.bu0 HMI.out.bu1 HP6.out hr6 hs6 HMI.out.g1
     rw [HMI.out.e1] at HA6
     have HC6:=hid HA6
     clear HA6 hr6 hs6 hk6 b6
     go_wp2_with fail
     refine HC6.out.mono ?_
     rintro e w7 ⟨rfl,S7,v7,s7,hr7,hs7,hk7,b7⟩
     have HR7:=hid hr7
     have HSn7:=hid hs7
     have HK7:=hid hk7
     have HB7:Hid (Below base w w7):=hid (HB6.out.trans b7)
     have q5:=hr7.cn
     have hb7:base≤w7.heap.size:=by have:=hr7.gb;have:=hr7.lt;omega
     clear hr7 hs7 hk7 b7
     go_wp2_with fail
     have hu7:=uni_any base V r1 r2 v7 M2 w7 (hid HR7.out.own) (hid (at_len HSn7.out HP1.out)) hb7
     rw [HFI.unq] at hu7
     have HU7:=hid (hu7.mono (unq_sl HFI.len))
     clear hu7
     refine HU7.out.mono ?_
     rintro e w8 ⟨A8,c8,rfl,ho8,hc8,hv8⟩
     have HO8:=hid ho8
     have HC8:=hid hc8
     have HV8:=hid hv8
     have hgl:=HR7.out.lt
     have hgn:¬ v7.ownBlock=some g:=HR7.out.vg
     have x6:w8.cell? ⟨g,6,none⟩=some s7:=(hc8.cell (p:=⟨g,6,none⟩) hgl hgn).trans HR7.out.cs
     have x5:w8.cell? ⟨g,5,none⟩=some v7:=(hc8.cell (p:=⟨g,5,none⟩) hgl hgn).trans HR7.out.cn
     have f6:w8.frozen? ⟨g,6,none⟩=false:=(hc8.frozen (p:=⟨g,6,none⟩) hgl hgn).trans HR7.out.fs
     have f5:w8.frozen? ⟨g,5,none⟩=false:=(hc8.frozen (p:=⟨g,5,none⟩) hgl hgn).trans HR7.out.fn
     have hs8:=hc8.size
     have hgl8:g<w8.heap.size:=Nat.lt_of_lt_of_le hgl hs8
     have hl7:=HSn7.out.len
     obtain ⟨n7,HN7⟩:∃ n7,Hid (S7.length=n7):=⟨_,rfl⟩
     obtain ⟨As7,cs7,he7,hcs7,_⟩:=ows_rd HR7.out.ows
     rw [HN7.out] at he7 hl7
     rw [he7] at x6
     have hn7:n7<1000000000:=by
      have h1:=hP.out.s0
      have h2:=hP.out.s1
      have:=Nat.mul_le_mul (show P.m0+2≤4098 by omega) (show P.m1+2≤4098 by omega)
      omega
     have hsg:¬ (Value.slice As7 n7 cs7).ownBlock=some g:=by rw [← he7];exact HR7.out.sg
     have HO7:Hid (w8.ownsRow base 155 3 (.slice As7 n7 cs7) n7 (flat S7)):=by
      have h:=HR7.out.ows
      rw [HN7.out,he7] at h
      refine h.kept (row:=v7.ownBlock) ⟨hc8.os,hc8.tape,hc8.output,hc8.size,fun k hk hne=>hc8.block k hk (fun e=>hne e.symm)⟩ ?_
      by_cases e:(Value.slice As7 n7 cs7).ownBlock=none
      ·exact .inl e
      ·refine .inr (fun e2=>?_)
       obtain ⟨q,hq⟩:=Option.ne_none_iff_exists'.1 e
       exact HR7.out.vs q (e2.symm.trans hq) (by rw [he7];exact hq)
     have HO7':=hid (HO7.out.kept (grown_set w8 g 5 (.slice A8 n8 c8)) (.inr hsg))
     have HE7:=hid he7
     have HNV:=hid hgn
     obtain ⟨i3,hi3,hz30,hz31,hz32⟩:=info_parts Tryz.infoAr
     clear q5 ho8 hc8 hv8 hl7 hcs7 he7 hgn
     have sz1:base≤((w8.setCell ⟨g,5,none⟩ (.slice A8 n8 c8)).alloc (.cells #[.int .i64 (x:Int),.int .i64 (y:Int),.int .i64 (rr:Int)] 155)).heap.size:=by simp [World.setCell];omega
     have hz8:(w8.setCell ⟨g,5,none⟩ (.slice A8 n8 c8)).heap.size=w8.heap.size:=by simp [World.setCell]
     have nw1:=heap_alloc_new (w8.setCell ⟨g,5,none⟩ (.slice A8 n8 c8)) (.cells #[.int .i64 (x:Int),.int .i64 (y:Int),.int .i64 (rr:Int)] 155)
     rw [hz8] at nw1
     have SZ1:=hid sz1
     have NW1:=hid nw1
     clear sz1 nw1 hz8
     go_wp2_with (refine wpList_append_lies _ rfl _ _ _ rfl base 155 i3 _ 3 24 Tryz.underlying144 hi3 hz30 hz31 hz32 rfl (by omega) (.slice As7 n7 cs7) n7 (flat S7) rfl (HO7'.out.alloc _) _ _ _ (c3 x y rr) rfl rfl (World.news_of_block NW1.out) (by simp [c3,Value.oneCell']) (by omega) (by simp only [maxLen];omega) (by omega) SZ1.out _ rfl ?_;intro gn cap w9 hown9 hgrow9 hat9 hlt9;have d6:=(hgrow9.cell_far ⟨g,6,none⟩ (by simp [World.setCell];omega) (fun e=>hsg e.symm)).trans (show _=some (Value.slice As7 n7 cs7) by go_simp);have e6:=(hgrow9.frozen_far ⟨g,6,none⟩ (by simp [World.setCell];omega) (fun e=>hsg e.symm)).trans (show _=false by go_simp))
     go_ret
     obtain ⟨rs9,bl9⟩:=at_end HR7.out HE7.out HN7.out HFI.len HO8.out HC8.out HV8.out hown9 hgrow9 (hat9.imp id (fun e=>by rw [e];simp [World.setCell]))
     have hkey:∀ t∈S7,t∈S∨t.1+t.2.1<x+y:=fun t ht=>by
      rcases HK7.out t ht with h | h
      ·rcases HK6.out t h with h | h
       ·exact .inl h
       ·right;have:=HMI.out.ml;omega
      ·right;have:=HMI.out.mu;omega
     refine ⟨ret_in (by rw [HFI.whole]),S7++[(x,y,rr)],_,_,by rw [HFI.whole];exact rs9,?_,fun t ht=>?_,HB7.out.trans bl9⟩
     ·rw [HFI.whole]
      refine HSn7.out.step HMI.out.g2.ord HFI.un hx hy HFI.ok.lt HFI.ok.den (fun t ht e=>?_)
      rcases hkey t ht with h | h
      ·exact HNO.out t h e
      ·omega
     ·rcases List.mem_append.1 ht with q | q
      ·rcases hkey t q with h | h
       ·exact .inl h
       ·right;omega
      ·rw [List.mem_singleton] at q
       right;rw [q];exact Nat.le_refl _
theorem at_any (base g:Nat) (P:Ac) :
  ∀ (N x y:Nat) (M S:List Br) (v s:Value) (w:World),x+y<N→x<P.m0+2→y<P.m1+2→P.Ok w base→Rs w base g P M S v s→Sn P.T (P.m0+2) (P.m1+2) P.A P.B M S→Dg.Good M →
    Calls Tryz.prog 117 #[.pointer (some ⟨g,0,none⟩),.int .i64 (x:Int),.int .i64 (y:Int)] w (fun e w'=>AtOk w w' base g P S x y (put 64 (f2 P.T P.A P.B x y) M).1 (put 64 (f2 P.T P.A P.B x y) M).2 e):=by
 intro N
 induction N with
 | zero=>intro x y M S v s w h;omega
 | succ N ih =>
   intro x y M S v s w hN hx hy hP hr hs hM
   by_cases hc:x<2∧y<2
   ·exact at_const base g x y P M S v s w (hid hP) (hid hr) (hid hs) (hid hM) hc.1 hc.2
   ·exact at_node base g x y P M S v s w (hid hP) (hid hr) (hid hs) (hid hM) hx hy hc (hid (fun x' y' M S v s w h=>ih x' y' M S v s w (by omega)))
theorem Tryz.infoInt:(Tryz.prog.info? 3).map (fun i=>(i.zero,i.size,i.bytes))=some (some (.int .i64 0),1,8):=by kernel_rfl
theorem madeCells_N (n:Nat):madeCells #[Value.int .i64 0] n=(List.replicate n (Value.int .i64 0)).toArray:=by
 apply Array.ext'
 rw [toList_madeCells_one]
theorem lid' {p:Prop} (h:p):Hid p:=hid h
theorem own_nil (w:World) (base e size:Nat):w.ownsRow base e size (.slice none 0 0) 0 []:=⟨by simp,.inl ⟨rfl,rfl⟩⟩
theorem own_fr {w:World} {base e size n m c:Nat} {A:Option Addr} {xs:List Value} (h:w.ownsRow base e size (.slice A m c) n xs):Fr A base:=fun b o e=>by
 subst e
 exact (h.lt b rfl).1
theorem numbered_ok (m c n:Nat) (A:Option Addr) (N:List Br) (w:World) (hN:Hid (Dg.Good N)) (hNl:Hid (N.length=m)) (hm:m≤1000000) (hn:n<m+2) (hrd:Hid (Rd w w.heap.size A (up N))) (hsz:Hid ((cn (Den N n)).1.length≤4096)) :
  Calls Tryz.prog 105 #[.slice A m c,.int .i64 (n:Int)] w fun e w'=>DiaOk w w' (Den N n) e:=by
 obtain ⟨i0,hi,hz0,hz1,hz2⟩:=info_parts Tryz.infoInt
 have X0:=nb2 w (.slice none 0 0) (.int .i64 0) 31
 have HB0:=hid (ab2 w (.cells #[.slice none 0 0,.int .i64 0] 31))
 go_enter Tryz.func105,Tryz.ntmps105
 go_wp2_with (refine wpList_make_row _ rfl _ _ _ rfl 3 i0 _ Tryz.underlying61 hi hz0 hz1 rfl .i64 .i64 m rfl rfl (by rw [hz2];omega) (by omega) ?_)
 have hrow:=Blk.new (w:=w.alloc (.cells #[.slice none 0 0,.int .i64 0] 31)) rfl (List.replicate m (Value.int .i64 0)) 3
 rw [List.length_replicate] at hrow
 have b1:=ab2 (w.alloc (.cells #[.slice none 0 0,.int .i64 0] 31)) (.cells (List.replicate m (Value.int .i64 0)).toArray 3)
 have hst:=Blk.new (w:=(w.alloc (.cells #[.slice none 0 0,.int .i64 0] 31)).alloc (.cells (List.replicate m (Value.int .i64 0)).toArray 3)) rfl [.slice A m c,.slice (some ⟨w.heap.size+1,0,none⟩) m m,.slice none 0 0] 152
 have b2:=ab2 ((w.alloc (.cells #[.slice none 0 0,.int .i64 0] 31)).alloc (.cells (List.replicate m (Value.int .i64 0)).toArray 3)) (.cells #[.slice A m c,.slice (some ⟨w.heap.size+1,0,none⟩) m m,.slice none 0 0] 152)
 have X2:=rb2 (rb2 X0 b1) b2
 have HB2:=hid ((HB0.out.trans (b1.mono HB0.out.size)).trans (b2.mono (HB0.out.trans (b1.mono HB0.out.size)).size))
 rw [show (w.alloc (.cells #[.slice none 0 0,.int .i64 0] 31)).heap.size=w.heap.size+1 by simp] at hrow
 rw [show ((w.alloc (.cells #[.slice none 0 0,.int .i64 0] 31)).alloc (.cells (List.replicate m (Value.int .i64 0)).toArray 3)).heap.size=w.heap.size+1+1 by simp] at hst
 have hrow2:Blk (((w.alloc (.cells #[.slice none 0 0,.int .i64 0] 31)).alloc (.cells (List.replicate m (Value.int .i64 0)).toArray 3)).alloc (.cells #[.slice A m c,.slice (some ⟨w.heap.size+1,0,none⟩) m m,.slice none 0 0] 152)) (w.heap.size+1) m (fun i=>.int .i64 (((fun _=>0:Nat→Nat) i:Nat):Int)):=by
  have h:Blk (((w.alloc (.cells #[.slice none 0 0,.int .i64 0] 31)).alloc (.cells (List.replicate m (Value.int .i64 0)).toArray 3)).alloc (.cells #[.slice A m c,.slice (some ⟨w.heap.size+1,0,none⟩) m m,.slice none 0 0] 152)) (w.heap.size+1) m _:=fun i hi=>hrow.below (by omega) b2 i hi
  refine h.congr (fun i hi=>?_)
  simp only [List.getD_eq_getElem?_getD,List.getElem?_replicate,hi,if_true,Option.getD_some]
  rfl
 have hq:Vw (((w.alloc (.cells #[.slice none 0 0,.int .i64 0] 31)).alloc (.cells (List.replicate m (Value.int .i64 0)).toArray 3)).alloc (.cells #[.slice A m c,.slice (some ⟨w.heap.size+1,0,none⟩) m m,.slice none 0 0] 152)) (w.heap.size+1) (w.heap.size+1+1) (w.heap.size+1) A m c m (fun _=>0) [] (.slice none 0 0) :=
  ⟨(hst 0 (by simp)).1,(hst 1 (by simp)).1,(hst 2 (by simp)).1,(hst 2 (by simp)).2,hrow2,own_nil _ _ _ _,by simp [Value.ownBlock],by simp [Value.ownBlock],by omega,by omega,by omega⟩
 have hv:=vis_any (w.heap.size+1) (w.heap.size+1+1) (w.heap.size+1) m c m A N hN.out hNl.out hm (n+1) n [] (fun _=>0) (.slice none 0 0) _ (by omega) hn (by simp) hq (vi_nil N) ((hrd.out.below HB2.out).mono (by omega))
 have HV:=hid hv
 have HDP:=hid (den_dep64 hN.out.ord (n:=n) (by rw [hNl.out];omega))
 clear hrow hst b1 b2 hrow2 hq hv
 rw [madeCells_N]
 refine HV.out.mono ?_
 rintro e w5 ⟨rfl,num5,v5,q5,_,_,c5,_⟩
 have hH:¬ (w.heap.size=w.heap.size+1+1∨w.heap.size=w.heap.size+1∨(Value.slice none 0 0).ownBlock=some w.heap.size):=by
  rintro (e | e | e)
  ·omega
  ·omega
  ·simp [Value.ownBlock] at e
 have hlt:w.heap.size<(((w.alloc (.cells #[.slice none 0 0,.int .i64 0] 31)).alloc (.cells (List.replicate m (Value.int .i64 0)).toArray 3)).alloc (.cells #[.slice A m c,.slice (some ⟨w.heap.size+1,0,none⟩) m m,.slice none 0 0] 152)).heap.size:=by simp;omega
 have X5:Hid (B2 w5 w.heap.size (.slice none 0 0) (.int .i64 0)):=fun i hi=>⟨(c5.cell (p:=⟨w.heap.size,i,none⟩) hlt hH).trans (X2.out i hi).1,(c5.frozen (p:=⟨w.heap.size,i,none⟩) hlt hH).trans (X2.out i hi).2⟩
 have HB5:Hid (Below w.heap.size w w5):=hid (HB2.out.trans (c5.below (by omega) (fun k hk e=>by
  rcases e with e | e | e
  ·omega
  ·omega
  ·simp [Value.ownBlock] at e)))
 have hown:=q5.own
 have hx2:=q5.c2
 have hg5:w.heap.size+1+1<w5.heap.size:=block_lt_of_cell hx2
 obtain ⟨A5,cc5,he5,hcap,hrd5⟩:=own_rd hown
 rw [he5] at hx2 hown
 have HF:=hid (own_fr hown)
 have HRD5:=hid hrd5
 have HCAP:=hid hcap
 have hcn:put 64 (Den N n) []=cn (Den N n):=rfl
 rw [hcn] at hx2 HRD5 HCAP ⊢
 have HSZ:=hid hsz.out
 clear q5 c5 hH hlt hown hrd5 hcap he5 hsz HV hcn
 generalize hR:cn (Den N n)=R at *
 obtain ⟨MR,rr⟩:=R
 have HR:=hid hR
 clear hR
 obtain ⟨p0,q0,n0⟩:=xb2 X5
 obtain ⟨_,z0⟩:=X5.out 0 (by omega)
 obtain ⟨_,z1⟩:=X5.out 1 (by omega)
 simp only at hx2
 go_wp2
 refine bodyPost_ret (v:=.agg #[.slice A5 MR.length cc5,.int .i64 (rr:Int)]) ?_ rfl ⟨⟨A5,MR.length,cc5,rr,rfl,?_,HF.out.mono (by omega)⟩,?_⟩
 ·rw [results_cell1 rfl]
  go_simp
 ·refine Dn.put (H:=w.heap.size) ⟨?_,by rw [HR.out],by rw [HR.out],HCAP.out,HSZ.out,HDP.out⟩ HF.out _ _
  rw [HR.out]
  exact HRD5.out
 ·exact (HB5.out.setCell (Nat.le_refl _) _).setCell (Nat.le_refl _) _
structure OpT (op T:Nat) (bop:Bool→Bool→Bool):Prop where
 op2:op≤2
 tab:∀ p q,tt T p q false=bop p q
 con:∀ x y,x<2→y<2→rcon op x y=(tt T (decide (x=1)) (decide (y=1)) false).toNat
theorem con_all (op T:Nat) (h00:rcon op 0 0=(tt T false false false).toNat) (h01:rcon op 0 1=(tt T false true false).toNat) (h10:rcon op 1 0=(tt T true false false).toNat) (h11:rcon op 1 1=(tt T true true false).toNat):∀ x y,x<2→y<2→rcon op x y=(tt T (decide (x=1)) (decide (y=1)) false).toNat:=by
 intro x y hx hy
 obtain rfl | rfl:x=0∨x=1:=by omega
 all_goals
  obtain rfl | rfl:y=0∨y=1:=by omega
 ·exact h00
 ·exact h01
 ·exact h10
 ·exact h11
theorem opt_and:OpT 0 136 (fun p q=>p&&q):=⟨by omega,fun p q=>tt_and p q false,con_all 0 136 (by decide) (by decide) (by decide) (by decide)⟩
theorem opt_or:OpT 1 238 (fun p q=>p||q):=⟨by omega,fun p q=>tt_or p q false,con_all 1 238 (by decide) (by decide) (by decide) (by decide)⟩
theorem opt_xor:OpT 2 102 (fun p q=>p != q):=⟨by omega,fun p q=>tt_xor p q false,con_all 2 102 (by decide) (by decide) (by decide) (by decide)⟩
theorem rcombine_ok (op T m0 c0 r0 m1 c1 r1:Nat) (bop:Bool→Bool→Bool) (A0 A1:Option Addr) (fa fb:Cfg→Bool) (w:World) (hop:Hid (OpT op T bop)) (h0:Hid (Dn w A0 m0 c0 r0 fa)) (h1:Hid (Dn w A1 m1 c1 r1 fb)) (hpr:Hid ((m0+2)*(m1+2)≤1000000)) (hsz:Hid ((cn (fun x=>bop (fa x) (fb x))).1.length≤4096)) :
  Calls Tryz.prog 99 #[.agg #[.slice A0 m0 c0,.int .i64 (r0:Int)],.agg #[.slice A1 m1 c1,.int .i64 (r1:Int)],.int .i64 (op:Int)] w fun e w'=>DiaOk w w' (fun x=>bop (fa x) (fb x)) e:=by
 have hd:D64 (fun x=>bop (fa x) (fb x)):=d64_bin bop h0.out.d h1.out.d
 have rdA:=h0.out.rd
 have rdB:=h1.out.rd
 have lenA:=h0.out.len
 have lenB:=h1.out.len
 have ordA:=h0.out.valid.good.ord
 have ordB:=h1.out.valid.good.ord
 have denA:=h0.out.den
 have denB:=h1.out.den
 have ltA:=h0.out.lt
 have ltB:=h1.out.lt
 have lmA:=h0.out.lm
 have lmB:=h1.out.lm
 generalize (cn fa).1=NA at rdA lenA ordA denA
 generalize (cn fb).1=NB at rdB lenB ordB denB
 obtain ⟨P,hP⟩:∃ P:Ac,P=⟨A0,m0,c0,r0,A1,m1,c1,r1,op,NA,NB,T⟩:=⟨_,rfl⟩
 have hf2:f2 P.T P.A P.B r0 r1=fun x=>bop (fa x) (fb x):=by
  subst hP
  funext x
  show tt T (Den NA r0 x) (Den NB r1 x) (Den [] 0 x)=_
  rw [denA,denB,Den_zero,hop.out.tab]
 have hPlt:r0<P.m0+2∧r1<P.m1+2:=by subst hP;exact ⟨ltA,ltB⟩
 have hPOK:∀ w':World,Below w.heap.size w w'→∀ base,w.heap.size≤base→P.Ok w' base:=fun w' hb base hle=>by
  subst hP
  exact ⟨ordA,ordB,lenA,lenB,lmA,lmB,(rdA.below hb).mono hle,(rdB.below hb).mono hle,hop.out.op2,hop.out.con⟩
 have HPOK:=hid hPOK
 have HPL:=hid hPlt
 have HP:=hid hP
 have HF2:=hid hf2
 have HD:=hid hd
 clear rdA rdB lenA lenB ordA ordB denA denB ltA ltB lmA lmB hPOK hPlt hf2 hd
 have b1:=ab2 w (.cells #[.slice A0 m0 c0,.int .i64 (r0:Int)] 31)
 have b2:=ab2 (w.alloc (.cells #[.slice A0 m0 c0,.int .i64 (r0:Int)] 31)) (.cells #[.slice A1 m1 c1,.int .i64 (r1:Int)] 31)
 have b3:=ab2 ((w.alloc (.cells #[.slice A0 m0 c0,.int .i64 (r0:Int)] 31)).alloc (.cells #[.slice A1 m1 c1,.int .i64 (r1:Int)] 31)) (.cells #[.slice none 0 0,.int .i64 0] 31)
 have X3:=nb2 ((w.alloc (.cells #[.slice A0 m0 c0,.int .i64 (r0:Int)] 31)).alloc (.cells #[.slice A1 m1 c1,.int .i64 (r1:Int)] 31)) (.slice none 0 0) (.int .i64 0) 31
 have B03:=b1.trans ((b2.trans (b3.mono b2.size)).mono b1.size)
 have hs3:(((w.alloc (.cells #[.slice A0 m0 c0,.int .i64 (r0:Int)] 31)).alloc (.cells #[.slice A1 m1 c1,.int .i64 (r1:Int)] 31)).alloc (.cells #[.slice none 0 0,.int .i64 0] 31)).heap.size=w.heap.size+1+1+1:=by simp
 rw [show ((w.alloc (.cells #[.slice A0 m0 c0,.int .i64 (r0:Int)] 31)).alloc (.cells #[.slice A1 m1 c1,.int .i64 (r1:Int)] 31)).heap.size=w.heap.size+1+1 by simp] at X3
 have HB3:=hid B03
 clear b1 b2 b3 B03
 go_enter Tryz.func99,Tryz.ntmps99
 go_wp2_with fail
 generalize (((w.alloc (.cells #[.slice A0 m0 c0,.int .i64 (r0:Int)] 31)).alloc (.cells #[.slice A1 m1 c1,.int .i64 (r1:Int)] 31)).alloc (.cells #[.slice none 0 0,.int .i64 0] 31))=w3 at *
 have hst:=Blk.new (w:=w3) hs3 [.slice A0 m0 c0,.int .i64 (r0:Int),.slice A1 m1 c1,.int .i64 (r1:Int),.int .i64 (op:Int),.slice none 0 0,.slice none 0 0] 146
 have b4:=ab2 w3 (.cells #[.slice A0 m0 c0,.int .i64 (r0:Int),.slice A1 m1 c1,.int .i64 (r1:Int),.int .i64 (op:Int),.slice none 0 0,.slice none 0 0] 146)
 have HB4:=btr HB3 b4 HB3.out.size
 have X4:=rb2 X3 b4
 have hrs:Rs (w3.alloc (.cells #[.slice A0 m0 c0,.int .i64 (r0:Int),.slice A1 m1 c1,.int .i64 (r1:Int),.int .i64 (op:Int),.slice none 0 0,.slice none 0 0] 146)) (w.heap.size+1+1+1) (w.heap.size+1+1+1) P [] [] (.slice none 0 0) (.slice none 0 0):=by
  subst hP
  exact ⟨(hst 0 (by simp)).1,(hst 1 (by simp)).1,(hst 2 (by simp)).1,(hst 3 (by simp)).1,(hst 4 (by simp)).1,(hst 5 (by simp)).1,(hst 6 (by simp)).1,(hst 5 (by simp)).2,(hst 6 (by simp)).2,own_nil _ _ _ _,own_nil _ _ _ _,by simp [Value.ownBlock],by simp [Value.ownBlock],by simp [Value.ownBlock],Nat.le_refl _⟩
 have hat:=at_any (w.heap.size+1+1+1) (w.heap.size+1+1+1) P (r0+r1+1) r0 r1 [] [] _ _ _ (by omega) HPL.out.1 HPL.out.2 (HPOK.out _ HB4.out _ (by omega)) hrs (sn_nil _ _ _ _ _) good_nil
 rw [HF2.out] at hat
 have HAT:=hid hat
 have hpo:=put_ok64 HD.out good_nil
 have HPO:=hid hpo
 clear hrs hat hst b4 hpo hs3
 with_reducible refine HAT.out.mono ?_
 clear HAT
 generalize put 64 (fun x=>bop (fa x) (fb x)) []=R5 at *
 obtain ⟨M5,rr⟩:=R5
 rintro e w5 ⟨rfl,S5,v5,s5,rs5,sn5,_,bl5⟩
 have hx5:=rs5.cn
 obtain ⟨A5,cc5,he5,_,hrd5⟩:=own_rd rs5.own
 rw [he5] at hx5
 have HRD5:=hid hrd5
 have X5:Hid (B2 w5 (w.heap.size+1+1) (.slice none 0 0) (.int .i64 0)):=fun i hi=>⟨(bl5.cell (p:=⟨w.heap.size+1+1,i,none⟩) (by show w.heap.size+1+1<w.heap.size+1+1+1;omega)).trans (X4.out i hi).1,(bl5.frozen (p:=⟨w.heap.size+1+1,i,none⟩) (by show w.heap.size+1+1<w.heap.size+1+1+1;omega)).trans (X4.out i hi).2⟩
 have HB5:Hid (Below w.heap.size w w5):=hid (HB4.out.trans (bl5.mono (by omega)))
 have hg5:w.heap.size+1+1+1<w5.heap.size:=block_lt_of_cell hx5
 have hlen5:M5.length≤1000000:=by
  have h1:=sn5.lenM
  have h2:=sn5.len
  have h3:(P.m0+2)*(P.m1+2)≤1000000:=by rw [HP.out];exact hpr.out
  exact Nat.le_trans h1 (Nat.le_trans h2 h3)
 have hden:Den M5 rr=fun x=>bop (fa x) (fb x):=HPO.out.den
 have HN5:=hid (numbered_ok M5.length cc5 rr A5 M5 w5 (hid HPO.out.good) (hid rfl) hlen5 HPO.out.lt (hid hrd5) (hid (by rw [hden];exact hsz.out)))
 have HDEN:=hid hden
 clear rs5 sn5 bl5 hrd5 he5 hlen5 hden hP
 simp only at hx5
 go_wp2_with fail
 with_reducible refine HN5.out.mono ?_
 rintro e w6 ⟨⟨A9,m9,c9,r9,rfl,d9,f9⟩,b9⟩
 have X6:=rb2 X5 b9
 have D9:=hid (d9.congr HDEN.out)
 have F9:=hid (f9.mono (show w.heap.size+1+1+1≤_ by omega))
 have HB6:=btr HB5 b9 HB5.out.size
 clear d9 f9 b9 hx5
 obtain ⟨p0,q0,n0⟩:=xb2 X6
 obtain ⟨_,z0⟩:=X6.out 0 (by omega)
 obtain ⟨_,z1⟩:=X6.out 1 (by omega)
 go_wp2
 refine bodyPost_ret (v:=.agg #[.slice A9 m9 c9,.int .i64 (r9:Int)]) ?_ rfl ⟨⟨A9,m9,c9,r9,rfl,D9.out.put F9.out _ _,F9.out.mono (by omega)⟩,?_⟩
 ·rw [results_cell1 rfl]
  go_simp
 ·exact (HB6.out.setCell (by simp;omega) _).setCell (by simp;omega) _
theorem inter_ok (m0 c0 r0 m1 c1 r1:Nat) (A0 A1:Option Addr) (fa fb:Cfg→Bool) (w:World) (h0:Hid (Dn w A0 m0 c0 r0 fa)) (h1:Hid (Dn w A1 m1 c1 r1 fb)) (hpr:Hid ((m0+2)*(m1+2)≤1000000)) (hsz:Hid ((cn (fun x=>and (fa x) (fb x))).1.length≤4096)) :
  Calls Tryz.prog 69 #[.agg #[.slice A0 m0 c0,.int .i64 (r0:Int)],.agg #[.slice A1 m1 c1,.int .i64 (r1:Int)]] w fun e w'=>DiaOk w w' (fun x=>and (fa x) (fb x)) e:=by
 have b1:=ab2 w (.cells #[.slice A0 m0 c0,.int .i64 (r0:Int)] 31)
 have b2:=ab2 (w.alloc (.cells #[.slice A0 m0 c0,.int .i64 (r0:Int)] 31)) (.cells #[.slice A1 m1 c1,.int .i64 (r1:Int)] 31)
 have b3:=ab2 ((w.alloc (.cells #[.slice A0 m0 c0,.int .i64 (r0:Int)] 31)).alloc (.cells #[.slice A1 m1 c1,.int .i64 (r1:Int)] 31)) (.cells #[.slice none 0 0,.int .i64 0] 31)
 have X3:=nb2 ((w.alloc (.cells #[.slice A0 m0 c0,.int .i64 (r0:Int)] 31)).alloc (.cells #[.slice A1 m1 c1,.int .i64 (r1:Int)] 31)) (.slice none 0 0) (.int .i64 0) 31
 rw [show ((w.alloc (.cells #[.slice A0 m0 c0,.int .i64 (r0:Int)] 31)).alloc (.cells #[.slice A1 m1 c1,.int .i64 (r1:Int)] 31)).heap.size=w.heap.size+1+1 by simp] at X3
 have HB3:=hid (b1.trans ((b2.trans (b3.mono b2.size)).mono b1.size))
 clear b1 b2 b3
 have hc:∀ w3,Below w.heap.size w w3→Calls Tryz.prog 99 #[.agg #[.slice A0 m0 c0,.int .i64 (r0:Int)],.agg #[.slice A1 m1 c1,.int .i64 (r1:Int)],.int .i64 0] w3 fun e w'=>DiaOk w3 w' (fun x=>and (fa x) (fb x)) e :=
  fun w3 hb=>rcombine_ok 0 136 m0 c0 r0 m1 c1 r1 _ A0 A1 fa fb w3 (hid opt_and) (rdn h0 hb) (rdn h1 hb) hpr hsz
 have HC:=hid hc
 clear hc
 go_enter Tryz.func69,Tryz.ntmps69
 go_wp2_with fail
 generalize (((w.alloc (.cells #[.slice A0 m0 c0,.int .i64 (r0:Int)] 31)).alloc (.cells #[.slice A1 m1 c1,.int .i64 (r1:Int)] 31)).alloc (.cells #[.slice none 0 0,.int .i64 0] 31))=w3 at *
 with_reducible refine (HC.out w3 HB3.out).mono ?_
 rintro e w6 ⟨⟨A9,m9,c9,r9,rfl,d9,f9⟩,b9⟩
 have X6:=rb2 X3 b9
 have hs3:=X3.out.lt (by omega)
 have D9:=hid d9
 have F9:=hid (f9.mono (show w.heap.size+1+1+1≤_ by omega))
 have HB6:=btr HB3 b9 HB3.out.size
 clear d9 f9 b9 hs3
 obtain ⟨p0,q0,n0⟩:=xb2 X6
 obtain ⟨_,z0⟩:=X6.out 0 (by omega)
 obtain ⟨_,z1⟩:=X6.out 1 (by omega)
 go_wp2
 refine bodyPost_ret (v:=.agg #[.slice A9 m9 c9,.int .i64 (r9:Int)]) ?_ rfl ⟨⟨A9,m9,c9,r9,rfl,D9.out.put F9.out _ _,F9.out.mono (by omega)⟩,?_⟩
 ·rw [results_cell1 rfl]
  go_simp
 ·exact (HB6.out.setCell (by simp;omega) _).setCell (by simp;omega) _
theorem union_ok (m0 c0 r0 m1 c1 r1:Nat) (A0 A1:Option Addr) (fa fb:Cfg→Bool) (w:World) (h0:Hid (Dn w A0 m0 c0 r0 fa)) (h1:Hid (Dn w A1 m1 c1 r1 fb)) (hpr:Hid ((m0+2)*(m1+2)≤1000000)) (hsz:Hid ((cn (fun x=>or (fa x) (fb x))).1.length≤4096)) :
  Calls Tryz.prog 68 #[.agg #[.slice A0 m0 c0,.int .i64 (r0:Int)],.agg #[.slice A1 m1 c1,.int .i64 (r1:Int)]] w fun e w'=>DiaOk w w' (fun x=>or (fa x) (fb x)) e:=by
 have b1:=ab2 w (.cells #[.slice A0 m0 c0,.int .i64 (r0:Int)] 31)
 have b2:=ab2 (w.alloc (.cells #[.slice A0 m0 c0,.int .i64 (r0:Int)] 31)) (.cells #[.slice A1 m1 c1,.int .i64 (r1:Int)] 31)
 have b3:=ab2 ((w.alloc (.cells #[.slice A0 m0 c0,.int .i64 (r0:Int)] 31)).alloc (.cells #[.slice A1 m1 c1,.int .i64 (r1:Int)] 31)) (.cells #[.slice none 0 0,.int .i64 0] 31)
 have X3:=nb2 ((w.alloc (.cells #[.slice A0 m0 c0,.int .i64 (r0:Int)] 31)).alloc (.cells #[.slice A1 m1 c1,.int .i64 (r1:Int)] 31)) (.slice none 0 0) (.int .i64 0) 31
 rw [show ((w.alloc (.cells #[.slice A0 m0 c0,.int .i64 (r0:Int)] 31)).alloc (.cells #[.slice A1 m1 c1,.int .i64 (r1:Int)] 31)).heap.size=w.heap.size+1+1 by simp] at X3
 have HB3:=hid (b1.trans ((b2.trans (b3.mono b2.size)).mono b1.size))
 clear b1 b2 b3
 have hc:∀ w3,Below w.heap.size w w3→Calls Tryz.prog 99 #[.agg #[.slice A0 m0 c0,.int .i64 (r0:Int)],.agg #[.slice A1 m1 c1,.int .i64 (r1:Int)],.int .i64 1] w3 fun e w'=>DiaOk w3 w' (fun x=>or (fa x) (fb x)) e :=
  fun w3 hb=>rcombine_ok 1 238 m0 c0 r0 m1 c1 r1 _ A0 A1 fa fb w3 (hid opt_or) (rdn h0 hb) (rdn h1 hb) hpr hsz
 have HC:=hid hc
 clear hc
 go_enter Tryz.func68,Tryz.ntmps68
 go_wp2_with fail
 generalize (((w.alloc (.cells #[.slice A0 m0 c0,.int .i64 (r0:Int)] 31)).alloc (.cells #[.slice A1 m1 c1,.int .i64 (r1:Int)] 31)).alloc (.cells #[.slice none 0 0,.int .i64 0] 31))=w3 at *
 with_reducible refine (HC.out w3 HB3.out).mono ?_
 rintro e w6 ⟨⟨A9,m9,c9,r9,rfl,d9,f9⟩,b9⟩
 have X6:=rb2 X3 b9
 have hs3:=X3.out.lt (by omega)
 have D9:=hid d9
 have F9:=hid (f9.mono (show w.heap.size+1+1+1≤_ by omega))
 have HB6:=btr HB3 b9 HB3.out.size
 clear d9 f9 b9 hs3
 obtain ⟨p0,q0,n0⟩:=xb2 X6
 obtain ⟨_,z0⟩:=X6.out 0 (by omega)
 obtain ⟨_,z1⟩:=X6.out 1 (by omega)
 go_wp2
 refine bodyPost_ret (v:=.agg #[.slice A9 m9 c9,.int .i64 (r9:Int)]) ?_ rfl ⟨⟨A9,m9,c9,r9,rfl,D9.out.put F9.out _ _,F9.out.mono (by omega)⟩,?_⟩
 ·rw [results_cell1 rfl]
  go_simp
 ·exact (HB6.out.setCell (by simp;omega) _).setCell (by simp;omega) _
theorem DiaOk.drew {w w':World} {f:Cfg→Bool} {e:Ending} (h:DiaOk w w' f e):DiaOk w w'.drew f e:=by
 obtain ⟨⟨A,m,c,r,he,hd,hf⟩,hb⟩:=h
 exact ⟨⟨A,m,c,r,he,hd.below (Below.refl _ _).drew,hf⟩,hb.drew⟩
theorem rconstant_one (w:World):Calls Tryz.prog 34 #[.bool true] w fun e w'=>e=.returned (.agg #[.slice none 0 0,.int .i64 1])∧Below w.heap.size w w':=rconstant_any true w
theorem xor_true (f:Cfg→Bool):(fun x:Cfg=>(f x != (fun _:Cfg=>true) x))=fun x=>!f x:=by funext x;cases f x <;> rfl
theorem dn_true' (w:World):Dn w none 0 0 1 (fun _=>true):=⟨by rw [cn_const];exact Rd.nil,by rw [cn_const];rfl,by rw [cn_const];rfl,Nat.le_refl _,by omega,d64_const _⟩
theorem compl_ok (m c r:Nat) (A:Option Addr) (f:Cfg→Bool) (w:World) (h0:Hid (Dn w A m c r f)) (hsz:Hid ((cn (fun x=>!f x)).1.length≤4096)) :
  Calls Tryz.prog 67 #[.agg #[.slice A m c,.int .i64 (r:Int)]] w fun e w'=>DiaOk w w' (fun x=>!f x) e:=by
 have b1:=ab2 w (.cells #[.slice A m c,.int .i64 (r:Int)] 31)
 have b2:=ab2 (w.alloc (.cells #[.slice A m c,.int .i64 (r:Int)] 31)) (.cells #[.slice none 0 0,.int .i64 0] 31)
 have X1:=rb2 (nb2 w (.slice A m c) (.int .i64 (r:Int)) 31) b2
 have X2:=nb2 (w.alloc (.cells #[.slice A m c,.int .i64 (r:Int)] 31)) (.slice none 0 0) (.int .i64 0) 31
 rw [show (w.alloc (.cells #[.slice A m c,.int .i64 (r:Int)] 31)).heap.size=w.heap.size+1 by simp] at X2
 have HB2:=hid (b1.trans (b2.mono b1.size))
 have hlm:=h0.out.lm
 have HPR:Hid ((m+2)*(0+2)≤1000000):=hid (by omega)
 have hc:∀ w3,Below w.heap.size w w3→Calls Tryz.prog 99 #[.agg #[.slice A m c,.int .i64 (r:Int)],.agg #[.slice none 0 0,.int .i64 1],.int .i64 2] w3 fun e w'=>DiaOk w3 w' (fun x=>!f x) e :=
  fun w3 hb=>(rcombine_ok 2 102 m c r 0 0 1 _ A none f (fun _=>true) w3 (hid opt_xor) (rdn h0 hb) (hid (dn_true' w3)) HPR (hid (by rw [xor_true];exact hsz.out))).mono (fun _ _ h=>h.congr (xor_true f))
 have HC:=hid hc
 obtain ⟨x0,x1,xn⟩:=xb2 X1
 clear b1 b2 hc hlm
 go_enter Tryz.func67,Tryz.ntmps67
 go_wp2
 generalize (w.alloc (.cells #[.slice A m c,.int .i64 (r:Int)] 31)).alloc (.cells #[.slice none 0 0,.int .i64 0] 31)=w2 at *
 go_region_law ((first
  | (go_simp;go_at_call 34;(with_reducible refine (rconstant_one w2.drew).mono ?_);rintro e w4 ⟨rfl,b4'⟩;have b4:Below w2.heap.size w2 w4:=(Below.refl w2.heap.size w2).drew.trans b4';have X4:=rb2 X1 b4;have Y4:=rb2 X2 b4;have HB4:=btr HB2 b4 HB2.out.size;obtain ⟨y0,y1,yn⟩:=xb2 X4;clear b4 b4')
  | (go_simp;go_at_call 99;(with_reducible refine (HC.out w4 HB4.out).mono ?_);rintro e w6 ⟨⟨A9,m9,c9,r9,rfl,d9,f9⟩,b9⟩;have Y6:=rb2 Y4 b9;have D9:=lid' d9;have F9:=lid' (f9.mono (Y4.out.lt (by omega)));have HB6:=btr HB4 b9 HB4.out.size;obtain ⟨p0,q0,n0⟩:=xb2 Y6;obtain ⟨_,z0⟩:=Y6.out 0 (by omega);obtain ⟨_,z1⟩:=Y6.out 1 (by omega);clear d9 f9 b9)))
 all_goals
  go_wp2
  refine bodyPost_ret (v:=.agg #[.slice A9 m9 c9,.int .i64 (r9:Int)]) ?_ rfl ?_
  ·rw [results_cell1 rfl]
   go_simp
  ·have hd:DiaOk w ((w6.setCell ⟨w.heap.size+1,0,none⟩ (.slice A9 m9 c9)).setCell ⟨w.heap.size+1,1,none⟩ (.int .i64 (r9:Int))) (fun x=>!f x) (.returned (.agg #[.slice A9 m9 c9,.int .i64 (r9:Int)])) :=
    ⟨⟨A9,m9,c9,r9,rfl,D9.out.put F9.out _ _,F9.out.mono (by omega)⟩,(HB6.out.setCell (by simp) _).setCell (by simp) _⟩
   first | exact hd | exact hd.drew
theorem minus_ok (m0 c0 r0 m1 c1 r1:Nat) (A0 A1:Option Addr) (fa fb:Cfg→Bool) (w:World) (h0:Hid (Dn w A0 m0 c0 r0 fa)) (h1:Hid (Dn w A1 m1 c1 r1 fb)) (hpr:Hid ((m0+2)*((cn (fun x=>!fb x)).1.length+2)≤1000000)) (hsn:Hid ((cn (fun x=>!fb x)).1.length≤4096)) (hsz:Hid ((cn (fun x=>and (fa x) (!fb x))).1.length≤4096)) :
  Calls Tryz.prog 70 #[.agg #[.slice A0 m0 c0,.int .i64 (r0:Int)],.agg #[.slice A1 m1 c1,.int .i64 (r1:Int)]] w fun e w'=>DiaOk w w' (fun x=>and (fa x) (!fb x)) e:=by
 have b1:=ab2 w (.cells #[.slice A0 m0 c0,.int .i64 (r0:Int)] 31)
 have b2:=ab2 (w.alloc (.cells #[.slice A0 m0 c0,.int .i64 (r0:Int)] 31)) (.cells #[.slice A1 m1 c1,.int .i64 (r1:Int)] 31)
 have b3:=ab2 ((w.alloc (.cells #[.slice A0 m0 c0,.int .i64 (r0:Int)] 31)).alloc (.cells #[.slice A1 m1 c1,.int .i64 (r1:Int)] 31)) (.cells #[.slice none 0 0,.int .i64 0] 31)
 have X0:=rb2 (rb2 (nb2 w (.slice A0 m0 c0) (.int .i64 (r0:Int)) 31) b2) b3
 have X1:=rb2 (nb2 (w.alloc (.cells #[.slice A0 m0 c0,.int .i64 (r0:Int)] 31)) (.slice A1 m1 c1) (.int .i64 (r1:Int)) 31) b3
 have X3:=nb2 ((w.alloc (.cells #[.slice A0 m0 c0,.int .i64 (r0:Int)] 31)).alloc (.cells #[.slice A1 m1 c1,.int .i64 (r1:Int)] 31)) (.slice none 0 0) (.int .i64 0) 31
 rw [show ((w.alloc (.cells #[.slice A0 m0 c0,.int .i64 (r0:Int)] 31)).alloc (.cells #[.slice A1 m1 c1,.int .i64 (r1:Int)] 31)).heap.size=w.heap.size+1+1 by simp] at X3
 rw [show (w.alloc (.cells #[.slice A0 m0 c0,.int .i64 (r0:Int)] 31)).heap.size=w.heap.size+1 by simp] at X1
 have HB3:=hid (b1.trans ((b2.trans (b3.mono b2.size)).mono b1.size))
 clear b1 b2 b3
 have hc1:∀ w3,Below w.heap.size w w3→Calls Tryz.prog 67 #[.agg #[.slice A1 m1 c1,.int .i64 (r1:Int)]] w3 fun e w'=>DiaOk w3 w' (fun x=>!fb x) e :=
  fun w3 hb=>compl_ok m1 c1 r1 A1 fb w3 (rdn h1 hb) hsn
 have hc2:∀ w3 A c m r,Below w.heap.size w w3→Dn w3 A m c r (fun x=>!fb x)→Calls Tryz.prog 69 #[.agg #[.slice A0 m0 c0,.int .i64 (r0:Int)],.agg #[.slice A m c,.int .i64 (r:Int)]] w3 fun e w'=>DiaOk w3 w' (fun x=>and (fa x) (!fb x)) e :=
  fun w3 A c m r hb hd=>inter_ok m0 c0 r0 m c r A0 A fa (fun x=>!fb x) w3 (rdn h0 hb) (hid hd) (hid (by rw [← hd.len];exact hpr.out)) hsz
 have HC1:=hid hc1
 have HC2:=hid hc2
 obtain ⟨x0,x1,xn⟩:=xb2 X0
 obtain ⟨u0,u1,un⟩:=xb2 X1
 clear hc1 hc2
 go_enter Tryz.func70,Tryz.ntmps70
 go_wp2
 generalize (((w.alloc (.cells #[.slice A0 m0 c0,.int .i64 (r0:Int)] 31)).alloc (.cells #[.slice A1 m1 c1,.int .i64 (r1:Int)] 31)).alloc (.cells #[.slice none 0 0,.int .i64 0] 31))=w3 at *
 go_region_law ((first
  | (go_simp;go_at_call 67;(with_reducible refine (HC1.out w3.drew HB3.out.drew).mono ?_);rintro e w4 ⟨⟨A5,m5,c5,r5,rfl,d5,_⟩,b4'⟩;have b4:Below w3.heap.size w3 w4:=(Below.refl w3.heap.size w3).drew.trans b4';have X4:=rb2 X0 b4;have Y4:=rb2 X3 b4;have HB4:=btr HB3 b4 HB3.out.size;have D5:=lid' d5;obtain ⟨y0,y1,yn⟩:=xb2 X4;clear b4 b4' d5)
  | (go_simp;go_at_call 69;(with_reducible refine (HC2.out w4 A5 c5 m5 r5 HB4.out D5.out).mono ?_);rintro e w6 ⟨⟨A9,m9,c9,r9,rfl,d9,f9⟩,b9⟩;have Y6:=rb2 Y4 b9;have D9:=lid' d9;have F9:=lid' (f9.mono (Y4.out.lt (by omega)));have HB6:=btr HB4 b9 HB4.out.size;obtain ⟨p0,q0,n0⟩:=xb2 Y6;obtain ⟨_,z0⟩:=Y6.out 0 (by omega);obtain ⟨_,z1⟩:=Y6.out 1 (by omega);clear d9 f9 b9)))
 all_goals
  go_wp2
  refine bodyPost_ret (v:=.agg #[.slice A9 m9 c9,.int .i64 (r9:Int)]) ?_ rfl ?_
  ·rw [results_cell1 rfl]
   go_simp
  ·have hd:DiaOk w ((w6.setCell ⟨w.heap.size+1+1,0,none⟩ (.slice A9 m9 c9)).setCell ⟨w.heap.size+1+1,1,none⟩ (.int .i64 (r9:Int))) (fun x=>and (fa x) (!fb x)) (.returned (.agg #[.slice A9 m9 c9,.int .i64 (r9:Int)])) :=
    ⟨⟨A9,m9,c9,r9,rfl,D9.out.put F9.out _ _,F9.out.mono (by omega)⟩,(HB6.out.setCell (by simp;omega) _).setCell (by simp;omega) _⟩
   first | exact hd | exact hd.drew
end Go.Proofs.YtpaednfinlaioaaGreatDoor
namespace Go.Proofs.YtpaednfinlaioaaGreatDoor
open Go.Lib (hid)
open Go.RowKit Dg St
theorem bit_u8 {B r:Nat} (hB:B<256):(bits .and .u8 ((B:Int) / 2 ^ r) 1 == 1)=B.testBit r:=by
 have e:((B:Int) / 2 ^ r)=((B / 2 ^ r:Nat):Int):=by simp
 have hlt:B / 2 ^ r<256:=Nat.lt_of_le_of_lt (Nat.div_le_self _ _) hB
 rw [e,Nat.testBit_eq_decide_div_mod_eq]
 generalize B / 2 ^ r=y at *
 rw [show (1:Int)=((1:Nat):Int) from rfl,u8_and_nat y 1 hlt (by omega),Nat.and_one_is_mod,Bool.eq_iff_iff,beq_iff_eq,decide_eq_true_iff]
 omega
theorem tset_zero (l:List Nat) (v k:Nat):tset l 0 v k=fun _=>tbit l k:=rfl
theorem dia_const (w w':World) (b:Bool) (hb:Below w.heap.size w w') (R:Int) (hR:R=if b then 1 else 0):DiaOk w w' (fun _=>b) (.returned (.agg #[.slice none 0 0,.int .i64 R])):=by
 subst hR
 refine ⟨⟨none,0,0,if b then 1 else 0,by cases b <;> rfl,?_,fun b o e=>by cases e⟩,hb⟩
 cases b
 ·exact ⟨by rw [cn_const];exact Rd.nil,by rw [cn_const];rfl,by rw [cn_const];rfl,Nat.le_refl _,by omega,d64_const _⟩
 ·exact ⟨by rw [cn_const];exact Rd.nil,by rw [cn_const];rfl,by rw [cn_const];rfl,Nat.le_refl _,by omega,d64_const _⟩
theorem rconstant_zero (w:World):Calls Tryz.prog 34 #[.bool false] w fun e w'=>e=.returned (.agg #[.slice none 0 0,.int .i64 0])∧Below w.heap.size w w':=rconstant_any false w
theorem table_leaf (n k nn cc:Nat) (A8:Option Addr) (l:List Nat) (w:World) (h8:Hid (R8 w A8 nn l)) (_hn6:n≤6) (hk:k<64) (hnn:nn≤9223372036854775807) :
  Calls Tryz.prog 38 #[.slice A8 nn cc,.int .i64 (n:Int),.int .i64 (n:Int),.int .i64 (k:Int)] w fun e w'=>DiaOk w w' (tset l 0 n k) e:=by
 rw [tset_zero]
 have X0:=nb2 w (.slice none 0 0) (.int .i64 0) 31
 have HB0:=hid (ab2 w (.cells #[.slice none 0 0,.int .i64 0] 31))
 have i0:(0:Int)≤(k:Int):=by omega
 have e1:((n:Int) == (n:Int))=true:=by simp
 obtain ⟨q,hq⟩:∃ q,q=k / 8:=⟨_,rfl⟩
 obtain ⟨r,hr⟩:∃ r,r=k % 8:=⟨_,rfl⟩
 have hq1:(k:Int) / 8=(q:Int):=by omega
 have hr1:(k:Int) % 8=(r:Int):=by omega
 have hq2:(k:Int).tdiv 8=(q:Int):=by rw [Int.tdiv_eq_ediv_of_nonneg i0,hq1]
 have hr2:(k:Int).tmod 8=(r:Int):=by rw [Int.tmod_eq_emod_of_nonneg i0,hr1]
 have hr8:r<8:=by omega
 have htb:tbit l k=(decide (q<l.length)&&(l.getD q 0).testBit r):=by unfold tbit;rw [hq,hr]
 have HTB:=hid htb
 clear htb hq hr
 by_cases hlt:q<nn
 ·obtain ⟨b,o,e,hb,hc⟩:=h8.out.rd (by omega)
  subst e
  have d0:=hc q hlt
  have h256:l.getD q 0<256:=h8.out.lt _ (by rw [List.getD_eq_getElem?_getD,List.getElem?_eq_getElem (by rw [h8.out.len];exact hlt)];exact List.getElem_mem _)
  have hbit:=bit_u8 (r:=r) h256
  have i1:(0:Int)≤(q:Int):=by omega
  have i2:(q:Int)<(nn:Int):=by omega
  have i3:(0:Int)≤(r:Int):=by omega
  have HT2:Hid (tbit l k=(l.getD q 0).testBit r):=show _=_ by rw [HTB.out,h8.out.len,decide_eq_true hlt];rfl
  clear hc HTB
  generalize l.getD q 0=B at *
  have hbn:b<w.heap.size:=hb
  rcases hv:B.testBit r with _ | _
  all_goals
   rw [hv] at hbit HT2
   clear hv
   go_enter Tryz.func38,Tryz.ntmps38
   go_wp2_with fail
   first | with_reducible refine (rconstant_zero _).mono ?_ | with_reducible refine (rconstant_one _).mono ?_
   rintro e w5 ⟨rfl,b5⟩
   have X5:=rb2 X0 b5
   have HB5:=btr HB0 b5 HB0.out.size
   clear b5
   obtain ⟨p0,q0,n0⟩:=xb2 X5
   obtain ⟨_,z0⟩:=X5.out 0 (by omega)
   obtain ⟨_,z1⟩:=X5.out 1 (by omega)
   go_wp2
   rw [HT2.out]
   first
    | refine bodyPost_ret (v:=.agg #[.slice none 0 0,.int .i64 0]) ?_ rfl (dia_const w _ false ?_ 0 rfl)
    | refine bodyPost_ret (v:=.agg #[.slice none 0 0,.int .i64 1]) ?_ rfl (dia_const w _ true ?_ 1 rfl)
   ·rw [results_cell1 rfl]
    go_simp
   ·exact (HB5.out.setCell (Nat.le_refl _) _).setCell (Nat.le_refl _) _
 ·have HT2:Hid (tbit l k=false):=show _=_ by rw [HTB.out,h8.out.len,decide_eq_false hlt];rfl
  clear HTB
  go_enter Tryz.func38,Tryz.ntmps38
  go_wp2_with fail
  with_reducible refine (rconstant_zero _).mono ?_
  rintro e w5 ⟨rfl,b5⟩
  have X5:=rb2 X0 b5
  have HB5:=btr HB0 b5 HB0.out.size
  clear b5
  obtain ⟨p0,q0,n0⟩:=xb2 X5
  obtain ⟨_,z0⟩:=X5.out 0 (by omega)
  obtain ⟨_,z1⟩:=X5.out 1 (by omega)
  go_wp2
  rw [HT2.out]
  refine bodyPost_ret (v:=.agg #[.slice none 0 0,.int .i64 0]) ?_ rfl (dia_const w _ false ?_ 0 rfl)
  ·rw [results_cell1 rfl]
   go_simp
  ·exact (HB5.out.setCell (Nat.le_refl _) _).setCell (Nat.le_refl _) _
theorem pr33 {a b:Nat} (ha:a≤33) (hb:b≤33):(a+2)*(b+2)≤1000000:=Nat.le_trans (Nat.mul_le_mul (show a+2≤35 by omega) (show b+2≤35 by omega)) (by omega)
theorem Dn.m33 {w:World} {A:Option Addr} {m c r:Nat} {f:Cfg→Bool} (h:Dn w A m c r f) (hl:Low 6 f):m≤33:=by rw [← h.len];exact hl.size33
theorem table_node (n d v k nn cc:Nat) (A8:Option Addr) (l:List Nat) (w:World) (h8:Hid (R8 w A8 nn l)) (hn6:n≤6) (hvd:v+(d+1)=n) (hk:k<2 ^ v)
  (hrec:Hid (∀ (k':Nat) (w':World),k'<2 ^ (v+1)→R8 w' A8 nn l→Calls Tryz.prog 38 #[.slice A8 nn cc,.int .i64 (n:Int),.int .i64 ((v:Int)+1),.int .i64 (k':Int)] w' fun e w''=>DiaOk w' w'' (tset l d (v+1) k') e)) :
  Calls Tryz.prog 38 #[.slice A8 nn cc,.int .i64 (n:Int),.int .i64 (v:Int),.int .i64 (k:Int)] w fun e w'=>DiaOk w w' (tset l (d+1) v k) e:=by
 have X0:=nb2 w (.slice none 0 0) (.int .i64 0) 31
 have HB0:=hid (ab2 w (.cells #[.slice none 0 0,.int .i64 0] 31))
 have hv6:v<6:=by omega
 obtain ⟨p,hp⟩:∃ p,p=2 ^ v:=⟨_,rfl⟩
 have hp64:p≤32:=by rw [hp];exact Nat.pow_le_pow_right (by omega) (show v≤5 by omega)
 have hkp:k<p:=by rw [hp];exact hk
 have hk2:k+p<2 ^ (v+1):=by rw [Nat.pow_succ,← hp];omega
 have hk1:k<2 ^ (v+1):=by rw [Nat.pow_succ,← hp];omega
 have hsh:(2:Int) ^ v=(p:Int):=by rw [hp];push_cast;rfl
 have hsh2:IntKind.i64.wrap ((2:Int) ^ v)=(p:Int):=by rw [hsh,IntKind.wrap_i64];omega
 have e1:((v:Int) == (n:Int))=false:=beq_eq_false_iff_ne.2 (by omega)
 have hts:=tset_step l d v k
 rw [← hp] at hts
 have L1:Hid (Low 6 (tset l d (v+1) (k+p))):=tset_low l d (v+1) _ 6 (by omega)
 have L0:Hid (Low 6 (tset l d (v+1) k)):=tset_low l d (v+1) _ 6 (by omega)
 have LX:Hid (Low 6 (fun c:Cfg=>c v)):=Low.var hv6
 have h1:∀ w',R8 w' A8 nn l→Calls Tryz.prog 38 #[.slice A8 nn cc,.int .i64 (n:Int),.int .i64 ((v:Int)+1),.int .i64 ((k:Int)+(p:Int))] w' fun e w''=>DiaOk w' w'' (tset l d (v+1) (k+p)) e:=fun w' h=>hrec.out (k+p) w' hk2 h
 have h2:∀ w',R8 w' A8 nn l→Calls Tryz.prog 38 #[.slice A8 nn cc,.int .i64 (n:Int),.int .i64 ((v:Int)+1),.int .i64 (k:Int)] w' fun e w''=>DiaOk w' w'' (tset l d (v+1) k) e:=fun w' h=>hrec.out k w' hk1 h
 generalize tset l d (v+1) (k+p)=f1 at *
 generalize tset l d (v+1) k=f0 at *
 have H1:=hid h1
 have H2:=hid h2
 have LA:Hid (Low 6 (fun c:Cfg=>and (c v) (f1 c))):=Low.bin and LX.out L1.out
 have LN:Hid (Low 6 (fun c:Cfg=>!c v)):=LX.out.not
 have LM:Hid (Low 6 (fun c:Cfg=>and (f0 c) (!c v))):=Low.bin and L0.out LN.out
 have LU:Hid (Low 6 (fun c:Cfg=>or (and (c v) (f1 c)) (and (f0 c) (!c v)))):=Low.bin or LA.out LM.out
 have HTS:=hid hts
 clear hts h1 h2 hp hk hk1 hk2 hrec
 have hvar:=fun w'=>rvar_ok v w' (by omega)
 have HVAR:=hid hvar
 have hcx:=cn_var (v:=v) (by omega)
 have HCX:=hid hcx
 clear hvar hcx
 have hi:∀ (AX A4:Option Addr) (m4 c4 r4:Nat) (w4:World),Dn w4 AX 1 1 2 (fun c:Cfg=>c v)→Dn w4 A4 m4 c4 r4 f1→Calls Tryz.prog 69 #[.agg #[.slice AX 1 1,.int .i64 2],.agg #[.slice A4 m4 c4,.int .i64 (r4:Int)]] w4 fun e w'=>DiaOk w4 w' (fun c=>and (c v) (f1 c)) e :=
  fun AX A4 m4 c4 r4 w4 hx h4=>inter_ok 1 1 2 m4 c4 r4 AX A4 _ _ w4 (lid' hx) (lid' h4) (lid' (pr33 (by omega) (h4.m33 L1.out))) (lid' (Nat.le_trans LA.out.size33 (by omega)))
 have hm:∀ (AX A6:Option Addr) (m6 c6 r6:Nat) (w6:World),Dn w6 AX 1 1 2 (fun c:Cfg=>c v)→Dn w6 A6 m6 c6 r6 f0→Calls Tryz.prog 70 #[.agg #[.slice A6 m6 c6,.int .i64 (r6:Int)],.agg #[.slice AX 1 1,.int .i64 2]] w6 fun e w'=>DiaOk w6 w' (fun c=>and (f0 c) (!c v)) e :=
  fun AX A6 m6 c6 r6 w6 hx h6=>minus_ok m6 c6 r6 1 1 2 A6 AX _ _ w6 (lid' h6) (lid' hx) (lid' (pr33 (h6.m33 L0.out) LN.out.size33)) (lid' (Nat.le_trans LN.out.size33 (by omega))) (lid' (Nat.le_trans LM.out.size33 (by omega)))
 have hu:∀ (A5 A7:Option Addr) (m5 c5 r5 m7 c7 r7:Nat) (w7:World),Dn w7 A5 m5 c5 r5 (fun c:Cfg=>and (c v) (f1 c))→Dn w7 A7 m7 c7 r7 (fun c:Cfg=>and (f0 c) (!c v))→Calls Tryz.prog 68 #[.agg #[.slice A5 m5 c5,.int .i64 (r5:Int)],.agg #[.slice A7 m7 c7,.int .i64 (r7:Int)]] w7 fun e w'=>DiaOk w7 w' (tset l (d+1) v k) e :=
  fun A5 A7 m5 c5 r5 m7 c7 r7 w7 h5 h7=>by
   rw [HTS.out]
   exact union_ok m5 c5 r5 m7 c7 r7 A5 A7 _ _ w7 (lid' h5) (lid' h7) (lid' (pr33 (h5.m33 LA.out) (h7.m33 LM.out))) (lid' (Nat.le_trans LU.out.size33 (by omega)))
 have HI:=hid hi
 have HM:=hid hm
 have HU:=hid hu
 clear hi hm hu HTS L1 L0 LX LA LN LM LU
 generalize tset l (d+1) v k=ff at *
 go_enter Tryz.func38,Tryz.ntmps38
 go_wp2_with fail
 with_reducible refine (HVAR.out _).mono ?_
 rintro e w2 ⟨AX,rfl,rx,b2⟩
 have DX2:Hid (Dn w2 AX 1 1 2 (fun c:Cfg=>c v)):=hid ⟨by rw [HCX.out];exact rx,by rw [HCX.out];rfl,by rw [HCX.out],Nat.le_refl _,by omega,d64_var (by omega)⟩
 have X2:=rb2 X0 b2
 have HB2:=btr HB0 b2 HB0.out.size
 clear rx b2
 have n0:w.heap.size<w2.heap.size:=X2.out.lt (by omega)
 have b3:=ab2 w2 (.cells #[.slice AX 1 1,.int .i64 2] 31)
 have Y3:=nb2 w2 (.slice AX 1 1) (.int .i64 2) 31
 have X3:=rb2 X2 b3
 have DX3:=rdn DX2 b3
 have HB3:=btr HB2 b3 HB2.out.size
 clear b3 X2 DX2
 obtain ⟨x0,x1,xn⟩:=xb2 Y3
 have hw1:IntKind.i64.wrap ((v:Int)+1)=(v:Int)+1:=by rw [IntKind.wrap_i64];omega
 have hw2:IntKind.u64.wrap (v:Int)=(v:Int):=by rw [IntKind.wrap_u64];omega
 have hw3:min v 64=v:=by omega
 have hw4:IntKind.i64.wrap (p:Int)=(p:Int):=by rw [IntKind.wrap_i64];omega
 have hw5:IntKind.i64.wrap ((k:Int)+(p:Int))=(k:Int)+(p:Int):=by rw [IntKind.wrap_i64];omega
 go_wp2
 generalize w2.alloc (.cells #[.slice AX 1 1,.int .i64 2] 31)=w3 at *
 generalize hHG:w2.heap.size=G at *
 have hGH:w.heap.size<G:=n0
 have hGH2:¬ w.heap.size=G:=by omega
 have hGH3:¬ G=w.heap.size:=by omega
 go_region_held3 (fun w'=>w'.cell? ⟨G,0,none⟩=some (.slice AX 1 1)∧w'.cell? ⟨G,1,none⟩=some (.int .i64 2)) (first | (refine ⟨?_,?_⟩ <;> (with_reducible assumption)) | go_keep) ((first
  | (have _kq:=D5;go_at_call 38;(with_reducible refine (H2.out w5 (h8.out.below HB5.out)).mono ?_);rintro e w6 ⟨⟨A6,m6,c6,r6,rfl,d6,_⟩,b6⟩;have X6:=rb2 X5 b6;have Y6:=rb2 Y5 b6;have DX6:=rdn DX5 b6;have DI6:=rdn D5 b6;have HB6:=btr HB5 b6 HB5.out.size;have D6:=lid' d6;obtain ⟨j0,j1,jn⟩:=xb2 Y6;clear b6 d6)
  | (go_at_call 38;(with_reducible refine (H1.out w3.drew (h8.out.below HB3.out.drew)).mono ?_);rintro e w4 ⟨⟨A4,m4,c4,r4,rfl,d4,_⟩,b4'⟩;have b4:Below w3.heap.size w3 w4:=(Below.refl w3.heap.size w3).drew.trans b4';have X4:=rb2 X3 b4;have Y4:=rb2 Y3 b4;have DX4:=rdn DX3 b4;have HB4:=btr HB3 b4 HB3.out.size;have D4:=lid' d4;obtain ⟨y0,y1,yn⟩:=xb2 Y4;clear b4 b4' d4)
  | (go_at_call 69;(with_reducible refine (HI.out AX A4 m4 c4 r4 w4 DX4.out D4.out).mono ?_);rintro e w5 ⟨⟨A5,m5,c5,r5,rfl,d5,_⟩,b5⟩;have X5:=rb2 X4 b5;have Y5:=rb2 Y4 b5;have DX5:=rdn DX4 b5;have HB5:=btr HB4 b5 HB4.out.size;have D5:=lid' d5;obtain ⟨k0,k1,kn⟩:=xb2 Y5;clear b5 d5)
  | (go_at_call 70;(with_reducible refine (HM.out AX A6 m6 c6 r6 w6 DX6.out D6.out).mono ?_);rintro e w7 ⟨⟨A7,m7,c7,r7,rfl,d7,_⟩,b7⟩;have X7:=rb2 X6 b7;have Y7:=rb2 Y6 b7;obtain ⟨i0,i1,_⟩:=xb2 Y7;have DI7:=rdn DI6 b7;have HB7:=btr HB6 b7 HB6.out.size;have D7:=lid' d7;clear b7 d7)
  | (go_at_call 68;(with_reducible refine (HU.out A5 A7 m5 c5 r5 m7 c7 r7 w7 DI7.out D7.out).mono ?_);rintro e w8 ⟨⟨A8',m8,c8,r8,rfl,d8,f8⟩,b8⟩;have X8:=rb2 X7 b8;have Y8:=rb2 Y7 b8;obtain ⟨g0,g1,_⟩:=xb2 Y8;have D8:=lid' d8;have F8:=lid' (f8.mono (X7.out.lt (by omega)));have HB8:=btr HB7 b8 HB7.out.size;obtain ⟨p0,q0,pn⟩:=xb2 X8;obtain ⟨_,z0⟩:=X8.out 0 (by omega);obtain ⟨_,z1⟩:=X8.out 1 (by omega);clear d8 f8 b8)))
 all_goals
  go_wp2
  refine bodyPost_ret (v:=.agg #[.slice A8' m8 c8,.int .i64 (r8:Int)]) ?_ rfl ?_
  ·rw [results_cell1 rfl]
   go_simp
  ·have hd:DiaOk w ((w8.setCell ⟨w.heap.size,0,none⟩ (.slice A8' m8 c8)).setCell ⟨w.heap.size,1,none⟩ (.int .i64 (r8:Int))) ff (.returned (.agg #[.slice A8' m8 c8,.int .i64 (r8:Int)])) :=
    ⟨⟨A8',m8,c8,r8,rfl,D8.out.put F8.out _ _,F8.out.mono (by omega)⟩,(HB8.out.setCell (Nat.le_refl _) _).setCell (Nat.le_refl _) _⟩
   first | exact hd | exact hd.drew
theorem table_any (n nn cc:Nat) (A8:Option Addr) (l:List Nat) (hn6:n≤6) (hnn:nn≤9223372036854775807) :
  ∀ (d v k:Nat) (w:World),v+d=n→k<2 ^ v→R8 w A8 nn l →
    Calls Tryz.prog 38 #[.slice A8 nn cc,.int .i64 (n:Int),.int .i64 (v:Int),.int .i64 (k:Int)] w fun e w'=>DiaOk w w' (tset l d v k) e:=by
 intro d
 induction d with
 | zero =>
   intro v k w hv hk h8
   obtain rfl:v=n:=by omega
   have:2 ^ v≤2 ^ 6:=Nat.pow_le_pow_right (by omega) hn6
   exact table_leaf v k nn cc A8 l w (hid h8) hn6 (by omega) hnn
 | succ d ih =>
   intro v k w hv hk h8
   exact table_node n d v k nn cc A8 l w (hid h8) hn6 hv hk (hid (fun k' w' hk' h=>ih (v+1) k' w' (by omega) hk' h))
theorem rmade_ok (n nn cc:Nat) (A8:Option Addr) (l:List Nat) (w:World) (h8:Hid (R8 w A8 nn l)) (hn6:n≤6) (hnn:nn≤9223372036854775807) :
  Calls Tryz.prog 11 #[.slice A8 nn cc,.int .i64 (n:Int)] w fun e w'=>DiaOk w w' (tset l n 0 0) e:=by
 have X0:=nb2 w (.slice none 0 0) (.int .i64 0) 31
 have HB0:=hid (ab2 w (.cells #[.slice none 0 0,.int .i64 0] 31))
 have ht:∀ w',Below w.heap.size w w'→Calls Tryz.prog 38 #[.slice A8 nn cc,.int .i64 (n:Int),.int .i64 0,.int .i64 0] w' fun e w''=>DiaOk w' w'' (tset l n 0 0) e :=
  fun w' hb=>table_any n nn cc A8 l hn6 hnn n 0 0 w' (by omega) (by omega) (h8.out.below hb)
 rcases Nat.eq_zero_or_pos n with e | hpos
 ·subst e
  have HT:Hid (∀ w',Below w.heap.size w w'→Calls Tryz.prog 38 #[.slice A8 nn cc,.int .i64 0,.int .i64 0,.int .i64 0] w' fun e w''=>DiaOk w' w'' (tset l 0 0 0) e):=hid ht
  clear ht
  generalize tset l 0 0 0=f at *
  show Calls Tryz.prog 11 #[.slice A8 nn cc,.int .i64 0] w fun e w'=>DiaOk w w' f e
  go_enter Tryz.func11,Tryz.ntmps11
  go_wp2_with fail
  with_reducible refine (HT.out _ HB0.out).mono ?_
  rintro e w5 ⟨⟨A5,m5,c5,r5,rfl,d5,f5⟩,b5⟩
  have X5:=rb2 X0 b5
  have D5:=lid' d5
  have F5:=lid' (f5.mono (show w.heap.size+1≤_ by simp))
  have HB5:=btr HB0 b5 HB0.out.size
  clear d5 f5 b5
  obtain ⟨p0,q0,n0⟩:=xb2 X5
  obtain ⟨_,z0⟩:=X5.out 0 (by omega)
  obtain ⟨_,z1⟩:=X5.out 1 (by omega)
  go_wp2
  refine bodyPost_ret (v:=.agg #[.slice A5 m5 c5,.int .i64 (r5:Int)]) ?_ rfl ⟨⟨A5,m5,c5,r5,rfl,D5.out.put F5.out _ _,F5.out.mono (by omega)⟩,?_⟩
  ·rw [results_cell1 rfl]
   go_simp
  ·exact (HB5.out.setCell (Nat.le_refl _) _).setCell (Nat.le_refl _) _
 ·have HT:=hid ht
  have hp:(0:Int)<(n:Int):=by omega
  have h6:(n:Int)≤6:=by omega
  clear ht
  generalize tset l n 0 0=f at *
  go_enter Tryz.func11,Tryz.ntmps11
  go_wp2_with fail
  all_goals try (exfalso;omega)
  with_reducible refine (HT.out _ HB0.out).mono ?_
  rintro e w5 ⟨⟨A5,m5,c5,r5,rfl,d5,f5⟩,b5⟩
  have X5:=rb2 X0 b5
  have D5:=lid' d5
  have F5:=lid' (f5.mono (show w.heap.size+1≤_ by simp))
  have HB5:=btr HB0 b5 HB0.out.size
  clear d5 f5 b5
  obtain ⟨p0,q0,n0⟩:=xb2 X5
  obtain ⟨_,z0⟩:=X5.out 0 (by omega)
  obtain ⟨_,z1⟩:=X5.out 1 (by omega)
  go_wp2
  refine bodyPost_ret (v:=.agg #[.slice A5 m5 c5,.int .i64 (r5:Int)]) ?_ rfl ⟨⟨A5,m5,c5,r5,rfl,D5.out.put F5.out _ _,F5.out.mono (by omega)⟩,?_⟩
  ·rw [results_cell1 rfl]
   go_simp
  ·exact (HB5.out.setCell (Nat.le_refl _) _).setCell (Nat.le_refl _) _
end Go.Proofs.YtpaednfinlaioaaGreatDoor
