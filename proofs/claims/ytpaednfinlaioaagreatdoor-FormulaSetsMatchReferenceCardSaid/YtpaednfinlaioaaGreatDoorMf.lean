/-
  Plain mathematics and contracts of package diagram, several texts in one: DNumB, DNumC, DNumD, DComb, DLim.
-/
import Derived.Test.YtpaednfinlaioaaGreatDoorMe
import Derived.Test.YtpaednfinlaioaaGreatDoorMa
import Derived.Test.YtpaednfinlaioaaGreatDoorMc
set_option maxHeartbeats 2000000
set_option maxRecDepth 100000
namespace Go.Proofs.YtpaednfinlaioaaGreatDoor
open Go.Lib (hid)
open Go.RowKit Dg St
def NumIH (P:Pr) (base g s:Nat):Prop:=∀ (i j k mb:Nat) (M:List Br) (E:Nat→Nat) (v:Value) (gi:Option Nat) (w:World),i+j+k<s→i<P.s0→j<P.s1→k<P.s2→PI w base g P M E v gi mb →
    Calls Tryz.prog 124 #[.pointer (some ⟨g,0,none⟩),.agg #[.int .i64 (i:Int),.int .i64 (j:Int),.int .i64 (k:Int)]] w (fun e w'=>Out w w' base g P i j k M v gi mb e)
theorem split_let (g i j k m0 c0 m1 c1 m2 c2 V L0 L1 L2 U0 U1 U2:Nat) (A0 A1 A2:Option Addr) (A B C:List Br) (w:World) (h0:Hid (Arg w g 0 A0 m0 c0 A)) (h1:Hid (Arg w g 1 A1 m1 c1 B)) (h2:Hid (Arg w g 2 A2 m2 c2 C)) (hi:i<m0+2) (hj:j<m1+2) (hk:k<m2+2)
  (hV:mv A B C i j k=V) (l0:sd A V i false=L0) (l1:sd B V j false=L1) (l2:sd C V k false=L2) (u0:sd A V i true=U0) (u1:sd B V j true=U1) (u2:sd C V k true=U2) :
  Calls Tryz.prog 132 #[.pointer (some ⟨g,0,none⟩),.agg #[.int .i64 (i:Int),.int .i64 (j:Int),.int .i64 (k:Int)]] w fun e w' =>
   e=.returned (.tuple #[.int .i64 (V:Int),.agg #[.int .i64 (L0:Int),.int .i64 (L1:Int),.int .i64 (L2:Int)],.agg #[.int .i64 (U0:Int),.int .i64 (U1:Int),.int .i64 (U2:Int)]])∧Below w.heap.size w w':=by
 have:=split_any g i j k m0 c0 m1 c1 m2 c2 A0 A1 A2 A B C w h0 h1 h2 hi hj hk
 rw [hV,l0,l1,l2,u0,u1,u2] at this
 exact this
structure Lc (wr:World) (K L0 L1 L2 U0 U1 U2 V a b:Nat):Prop where
 l:C3 wr K L0 L1 L2
 u:C3 wr (K+1) U0 U1 U2
 b:C3 wr (K+2) V a b
theorem Lc.keep {w w':World} {K L0 L1 L2 U0 U1 U2 V a b:Nat} (h:Lc w K L0 L1 L2 U0 U1 U2 V a b) {S:Nat→Prop} (hc:Chg S w w') (hs:∀ q,S q→q<K∨K+2<q):Lc w' K L0 L1 L2 U0 U1 U2 V a b :=
 ⟨h.l.keep (hc.block _ h.l.lt (fun e=>by have:=hs _ e;omega)),h.u.keep (hc.block _ h.u.lt (fun e=>by have:=hs _ e;omega)),h.b.keep (hc.block _ h.b.lt (fun e=>by have:=hs _ e;omega))⟩
theorem Lc.set1 {w:World} {K L0 L1 L2 U0 U1 U2 V a b:Nat} (h:Lc w K L0 L1 L2 U0 U1 U2 V a b) (r:Nat):Lc (w.setCell ⟨K+2,1,none⟩ (.int .i64 (r:Int))) K L0 L1 L2 U0 U1 U2 V r b :=
 ⟨h.l.other (by simp) _,h.u.other (by simp) _,h.b.set1 r⟩
theorem Lc.set2 {w:World} {K L0 L1 L2 U0 U1 U2 V a b:Nat} (h:Lc w K L0 L1 L2 U0 U1 U2 V a b) (r:Nat):Lc (w.setCell ⟨K+2,2,none⟩ (.int .i64 (r:Int))) K L0 L1 L2 U0 U1 U2 V a r :=
 ⟨h.l.other (by simp) _,h.u.other (by simp) _,h.b.set2 r⟩
theorem lc_new (w6:World) (L0 L1 L2 U0 U1 U2 V:Nat):Lc (((w6.alloc (.cells #[.int .i64 (L0:Int),.int .i64 (L1:Int),.int .i64 (L2:Int)] 167)).alloc (.cells #[.int .i64 (U0:Int),.int .i64 (U1:Int),.int .i64 (U2:Int)] 167)).alloc (.cells #[.int .i64 (V:Int),.int .i64 0,.int .i64 0] 80)) w6.heap.size L0 L1 L2 U0 U1 U2 V 0 0 ∧
  w6.heap.size+2<(((w6.alloc (.cells #[.int .i64 (L0:Int),.int .i64 (L1:Int),.int .i64 (L2:Int)] 167)).alloc (.cells #[.int .i64 (U0:Int),.int .i64 (U1:Int),.int .i64 (U2:Int)] 167)).alloc (.cells #[.int .i64 (V:Int),.int .i64 0,.int .i64 0] 80)).heap.size ∧
  Below w6.heap.size w6 (((w6.alloc (.cells #[.int .i64 (L0:Int),.int .i64 (L1:Int),.int .i64 (L2:Int)] 167)).alloc (.cells #[.int .i64 (U0:Int),.int .i64 (U1:Int),.int .i64 (U2:Int)] 167)).alloc (.cells #[.int .i64 (V:Int),.int .i64 0,.int .i64 0] 80)):=by
 refine ⟨⟨?_,?_,?_⟩,by simp,(((Below.refl _ _).alloc (Nat.le_refl _) _).alloc (by simp) _).alloc (by simp;omega) _⟩
 ·exact ((C3.new (w:=w6) rfl L0 L1 L2 _).alloc _).alloc _
 ·exact (C3.new (w:=w6.alloc _) (by simp) U0 U1 U2 _).alloc _
 ·exact C3.new (w:=(w6.alloc _).alloc _) (by simp) V 0 0 _
theorem Chg.setNew {S:Nat→Prop} {a b:World} (h:Chg S a b) {q:Nat} (hq:a.heap.size≤q) (n:Nat) (u:Value):Chg S a (b.setCell ⟨q,n,none⟩ u) :=
 h.trans (T:=fun k=>k=q) ⟨rfl,rfl,rfl,by simp [World.setCell],fun k _ hk=>Below.heap_setCell _ _ _ _ (fun e=>hk e)⟩ (fun j hj e=>by omega)
theorem PI.setNew {w:World} {base g:Nat} {P:Pr} {M:List Br} {E:Nat→Nat} {v:Value} {gi:Option Nat} {mb:Nat} (h:PI w base g P M E v gi mb) {q:Nat} (hq:¬ Pv g v gi mb q) (hb:base≤q) (n:Nat) (u:Value):PI (w.setCell ⟨q,n,none⟩ u) base g P M E v gi mb :=
 h.keep (S:=fun k=>k=q) ⟨rfl,rfl,rfl,by simp [World.setCell],fun k _ hk=>Below.heap_setCell _ _ _ _ (fun e=>hk e)⟩ (fun k hk e=>hq (e ▸ hk)) (fun k hk e=>by omega)
theorem _root_.Go.Proofs.YtpaednfinlaioaaGreatDoor.St.Miss.len {T s0 s1 s2:Nat} {A B C:List Br} {x y z V L0 L1 L2 U0 U1 U2:Nat} {M M1 M2:List Br} {r1 r2:Nat} (h:Miss T s0 s1 s2 A B C x y z V L0 L1 L2 U0 U1 U2 M M1 M2 r1 r2):M1.length≤M2.length∧M2.length≤(put 64 (fx T A B C x y z) M).1.length:=by
 refine ⟨?_,?_⟩
 ·obtain ⟨X,e⟩:=h.p2
  rw [e,List.length_append];omega
 ·rw [h.whole]
  split
  ·exact Nat.le_refl _
  ·unfold ins
   split
   ·exact Nat.le_refl _
   ·show _≤(M2++[_]).length
    rw [List.length_append];omega
theorem good_sm {M:List Br} (h:Dg.Good M) (hl:M.length≤5000):∀ b∈M,Sm b:=by
 intro b hb
 obtain ⟨k,hk,e⟩:=List.getElem_of_mem hb
 rw [br_at hk] at e
 subst e
 obtain ⟨h1,h2,h3,_,_⟩:=h.ord k hk
 exact ⟨by show bv M k<1000000;omega,by show bl M k<1000000;omega,by show bh M k<1000000;omega⟩
theorem PI.put {w w':World} {base g:Nat} {P:Pr} {M:List Br} {E E':Nat→Nat} {v:Value} {gi:Option Nat} {mb b':Nat} (h:PI w base g P M E v gi mb) (hm:Mm w' base g 10 (P.s0*P.s1*P.s2) b' E') (hb:b'=mb∨w.heap.size≤b') (hc:Chg (fun k=>k=mb∨k=g) w w')
  (hk:∀ i,i<10→w'.cell? ⟨g,i,none⟩=w.cell? ⟨g,i,none⟩∧w'.frozen? ⟨g,i,none⟩=w.frozen? ⟨g,i,none⟩) (hmo:Mo P.T P.s0 P.s1 P.s2 P.A P.B P.C M E'):PI w' base g P M E' v gi b':=by
 have hbase:∀ k,k<base→w'.heap[k]? = w.heap[k]?:=fun k hk=>hc.block k (Nat.lt_of_lt_of_le hk h.bs) (fun e=>by
  rcases e with e | e
  ·have:=h.ge (q:=k) (.inr (.inr (.inr e)));omega
  ·have:=h.ge (q:=k) (.inl e);omega)
 have hv:∀ k,v.ownBlock=some k→w'.heap[k]? = w.heap[k]?:=fun k e=>hc.block k (h.lt (.inr (.inl e))) (fun e2=>by
  rcases e2 with e2 | e2
  ·exact h.d1 (by rw [e,e2])
  ·exact h.tb.vg (by rw [e,e2]))
 have hi:∀ k,gi=some k→w'.heap[k]? = w.heap[k]?:=fun k e=>hc.block k (h.lt (.inr (.inr (.inl e)))) (fun e2=>by
  rcases e2 with e2 | e2
  ·exact h.d2 (by rw [e,e2])
  ·subst e;exact h.tb.idx.2.1 e2)
 have hown:w'.ownsRow base 80 3 v M.length (flat M):=by
  rcases h.tb.own.2 with ⟨rfl,h0⟩ | ⟨g',cap,cur,rfl,h1,h2,h3,h4⟩
  ·exact ⟨h.tb.own.1,.inl ⟨rfl,h0⟩⟩
  ·exact ⟨h.tb.own.1,.inr ⟨g',cap,cur,rfl,h1,(hv g' rfl).trans h2,h3,h4⟩⟩
 have htb:Tb w' base g 8 M v gi:=by
  refine ⟨(hk 8 (by omega)).1.trans h.tb.cn,(hk 9 (by omega)).1.trans h.tb.ci,(hk 8 (by omega)).2.trans h.tb.fn,(hk 9 (by omega)).2.trans h.tb.fi,hown,?_,h.tb.vg,h.tb.gb⟩
  have hix:=h.tb.idx
  rcases gi with _ | b
  ·exact hix
  ·exact ⟨hix.1,hix.2.1,hix.2.2.keep (hi b rfl)⟩
 have ag:∀ t A m c N,t<10→Ag w base g t A m c N→Ag w' base g t A m c N:=fun t A m c N ht ha=>⟨(hk t ht).1.trans ha.cell,ha.rd.keep hbase,ha.len,ha.lm,ha.ord⟩
 exact ⟨ag 0 _ _ _ _ (by omega) h.a0,ag 1 _ _ _ _ (by omega) h.a1,ag 2 _ _ _ _ (by omega) h.a2,(hk 3 (by omega)).1.trans h.s0,(hk 4 (by omega)).1.trans h.s1,(hk 5 (by omega)).1.trans h.s2,(hk 6 (by omega)).1.trans h.tr,(hk 7 (by omega)).1.trans h.li,htb,hm,h.ins.keep (hbase 0 h.b0),h.b0,Nat.le_trans h.bs hc.size,
  fun e=>by
   rcases hb with hb | hb
   ·exact h.d1 (by rw [e,hb])
   ·have:=h.lt (.inr (.inl e));omega,
  fun e=>by
   rcases hb with hb | hb
   ·exact h.d2 (by rw [e,hb])
   ·have:=h.lt (.inr (.inr (.inl e)));omega,
  h.good,hmo,h.len⟩
theorem PI.num {w w':World} {base g:Nat} {P:Pr} {M M3:List Br} {E:Nat→Nat} {v:Value} {gi:Option Nat} {mb:Nat} (h:PI w base g P M E v gi mb) (hn:Numd w w' base g 8 v gi M3) (hpre:∃ X,M3=M++X) (hg:Dg.Good M3) (hl:M3.length≤P.lim) :
  ∃ v' gi',PI w' base g P M3 E v' gi' mb∧∀ q,Pv g v' gi' mb q→Pv g v gi mb q∨w.heap.size≤q:=by
 obtain ⟨v',gi',htb,hc,hcell,hfr,hv',hg'⟩:=hn
 have hcl:=fun j (h1:j≠8) (h2:j≠9)=>hcell j h1 h2
 have hbase:∀ k,k<base→w'.heap[k]? = w.heap[k]?:=fun k hk=>hc.block k (Nat.lt_of_lt_of_le hk h.bs) (fun e=>by
  rcases e with e | e | e
  ·have:=h.ge (q:=k) (.inl e);omega
  ·have:=h.ge (q:=k) (.inr (.inl e));omega
  ·have:=h.ge (q:=k) (.inr (.inr (.inl e)));omega)
 have hmb:w'.heap[mb]? = w.heap[mb]?:=hc.block mb (h.lt (.inr (.inr (.inr rfl)))) (fun e=>by
  rcases e with e | e | e
  ·exact h.mm.ne e
  ·exact h.d1 e
  ·exact h.d2 e)
 have hmm:Mm w' base g 10 (P.s0*P.s1*P.s2) mb E:=by
  exact h.mm.keepC (hcl 10 (by omega) (by omega)) (hcl 11 (by omega) (by omega)) (hcl 12 (by omega) (by omega)) (hfr 11) (hfr 12) hmb
 have ag:∀ t A m c N,t<8→Ag w base g t A m c N→Ag w' base g t A m c N:=fun t A m c N ht ha=>⟨(hcl t (by omega) (by omega)).trans ha.cell,ha.rd.keep hbase,ha.len,ha.lm,ha.ord⟩
 have hmbl:=h.lt (.inr (.inr (.inr rfl)))
 obtain ⟨X,hX⟩:=hpre
 refine ⟨v',gi',⟨ag 0 _ _ _ _ (by omega) h.a0,ag 1 _ _ _ _ (by omega) h.a1,ag 2 _ _ _ _ (by omega) h.a2,(hcl 3 (by omega) (by omega)).trans h.s0,(hcl 4 (by omega) (by omega)).trans h.s1,(hcl 5 (by omega) (by omega)).trans h.s2,(hcl 6 (by omega) (by omega)).trans h.tr,(hcl 7 (by omega) (by omega)).trans h.li,htb,hmm,h.ins.keep (hbase 0 h.b0),h.b0,Nat.le_trans h.bs hc.size,
  fun e=>by
   rcases hv' mb e with e2 | e2
   ·exact h.d1 e2
   ·omega,
  fun e=>by
   rcases hg' mb e with e2 | e2
   ·exact h.d2 e2
   ·omega,
  hg,by rw [hX];exact h.mo.grow h.good.ord,hl⟩,fun q hq=>?_⟩
 rcases hq with e | e | e | e
 ·exact .inl (.inl e)
 ·rcases hv' q e with e2 | e2
  ·exact .inl (.inr (.inl e2))
  ·exact .inr e2
 ·rcases hg' q e with e2 | e2
  ·exact .inl (.inr (.inr (.inl e2)))
  ·exact .inr e2
 ·exact .inl (.inr (.inr (.inr e)))
theorem num_low (P:Pr) (hP:Hid P.Ok) (base g i j k x y z mb:Nat) (M:List Br) (E:Nat→Nat) (v:Value) (gi:Option Nat) (w:World) (hpi:Hid (PI w base g P M E v gi mb)) (hi:i<P.s0) (hj:j<P.s1) (hk:k<P.s2)
  (hc:Hid (code P.T (cls i) (cls j) (cls k) (decide (j=k))=2))
  (hx:Hid (zap (z0 P.T (cls i) (cls j) (cls k) (decide (j=k))) i=x)) (hy:Hid (zap (z1 P.T (cls i) (cls j) (cls k) (decide (j=k))) j=y)) (hz:Hid (zap (z2 P.T (cls i) (cls j) (cls k) (decide (j=k))) k=z))
  (hE:Hid (E (ci P.s1 P.s2 x y z)=0)) (ih:Hid (NumIH P base g (i+j+k)))
  (V L0 L1 L2 U0 U1 U2 r1 r2:Nat) (M1 M2:List Br) (hm:Hid (Miss P.T P.s0 P.s1 P.s2 P.A P.B P.C x y z V L0 L1 L2 U0 U1 U2 M M1 M2 r1 r2)) (hlow:Hid (P.lim<M1.length)) :
  Calls Tryz.prog 124 #[.pointer (some ⟨g,0,none⟩),.agg #[.int .i64 (i:Int),.int .i64 (j:Int),.int .i64 (k:Int)]] w (fun e w'=>Out w w' base g P i j k M v gi mb e):=by
 have lx:x<P.s0∧x≤i:=by have:=hx.out;have:=zap_le (z0 P.T (cls i) (cls j) (cls k) (decide (j=k))) i;omega
 have ly:y<P.s1∧y≤j:=by have:=hy.out;have:=zap_le (z1 P.T (cls i) (cls j) (cls k) (decide (j=k))) j;omega
 have lz:z<P.s2∧z≤k:=by have:=hz.out;have:=zap_le (z2 P.T (cls i) (cls j) (cls k) (decide (j=k))) k;omega
 have hput:Hid (put 64 (fx P.T P.A P.B P.C i j k) M=put 64 (fx P.T P.A P.B P.C x y z) M):=by
  show _=_
  rw [fx_open hP.out.tab (fun e=>by subst e;exact hP.out.same j hj hk) hc.out,hx.out,hy.out,hz.out]
 obtain ⟨p,q,u,cc,hcell⟩:=CellOf.mk_ x y z P.s1 P.s2
 obtain ⟨bp,bq,bu,bc,hlt⟩:=hcell.small lx.1 ly.1 lz.1 hP.out.b0 hP.out.b1 hP.out.b2
 have hcc:=hcell.ci
 rw [← hcc] at hE
 have HCC:=hid hcc
 have HPT:=tab_lt hP.out.tab
 have HLT:=hid hlt
 have wr1:IntKind.i64.wrap ((x:Int)*(P.s1:Int))=(p:Int):=by
  rw [← Int.natCast_mul,hcell.h1];exact wrap_small _ (by omega) (by omega)
 have wr2:IntKind.i64.wrap ((p:Int)+(y:Int))=(q:Int):=by
  rw [← Int.natCast_add,hcell.h2];exact wrap_small _ (by omega) (by omega)
 have wr3:IntKind.i64.wrap ((q:Int)*(P.s2:Int))=(u:Int):=by
  rw [← Int.natCast_mul,hcell.h3];exact wrap_small _ (by omega) (by omega)
 have wr4:IntKind.i64.wrap ((u:Int)+(z:Int))=(cc:Int):=by
  rw [← Int.natCast_add,hcell.h4];exact wrap_small _ (by omega) (by omega)
 have b1:=(Below.refl w.heap.size w).alloc (Nat.le_refl _) (.cells #[.int .i64 (i:Int),.int .i64 (j:Int),.int .i64 (k:Int)] 167)
 have hp1:=hid (hpi.out.below b1)
 have hx1:=hid (C3.new (w:=w) rfl i j k 167)
 have HB1:=hid b1
 have hl0:=hP.out.l0
 have hl1:=hP.out.l1
 have hl2:=hP.out.l2
 have hxm:x<P.m0+2:=by omega
 have hym:y<P.m1+2:=by omega
 have hzm:z<P.m2+2:=by omega
 have hs1:L0+L1+L2<i+j+k:=by have:=hm.out.ml;omega
 have hs2:U0+U1+U2<i+j+k:=by have:=hm.out.mu;omega
 have HS1:=hid hs1
 have HS2:=hid hs2
 have HXM:=hid hxm
 have HYM:=hid hym
 have HZM:=hid hzm
 clear b1 hcell hcc hlt lx ly lz hs1 hs2 hl0 hl1 hl2 hxm hym hzm bp bq bu bc
 go_enter Tryz.func124,Tryz.ntmps124
 go_wp2_with (go_at_call 130;refine (settle_open g i j k P.T x y z _ HPT hp1.out.tr (hid hp1.out.ins) hc hx hy hz).mono ?_;rintro e w2 ⟨rfl,hb2⟩;have HC2:=hid (hx1.out.below hb2);obtain ⟨xa0,xa1,xa2,xf0,xf1,xf2⟩:=HC2.out;have HB2:=hid (HB1.out.trans (hb2.mono HB1.out.size));clear hb2)
 have HC3:=hid (HC2.out.all x y z)
 have HB3:=hid (below_all HB2.out (Nat.le_refl _) (.int .i64 (x:Int)) (.int .i64 (y:Int)) (.int .i64 (z:Int)))
 clear xa0 xa1 xa2 xf0 xf1 xf2
 generalize ((w2.setCell ⟨w.heap.size,0,none⟩ (.int .i64 (x:Int))).setCell ⟨w.heap.size,1,none⟩ (.int .i64 (y:Int))).setCell ⟨w.heap.size,2,none⟩ (.int .i64 (z:Int))=W3 at *
 have HP3:=hid (hpi.out.below HB3.out)
 obtain ⟨xa0,xa1,xa2,_,_,_⟩:=HC3.out
 have ps1:=HP3.out.s1
 have ps2:=HP3.out.s2
 go_quiet (fail)
 have HB4:=hid (below_drewN HB3.out nq)
 have HP4:=hid (hpi.out.below HB4.out)
 have HC4:=hid (HC3.out.drewN nq)
 have hdt:decide (E cc≠0)=false:=by rw [hE.out];rfl
 clear wr1 wr2 wr3 wr4 xa0 xa1 xa2 ps1 ps2
 go_wp2_with (first
  | (go_at_call 131;refine (get_mm base g 10 (P.s0*P.s1*P.s2) mb cc E _ (hid HP4.out.mm) HLT.out).mono ?_;rintro e w5 ⟨⟨r,_,rfl⟩,hb5⟩;have HB5:=hid (HB4.out.trans (hb5.mono HB4.out.size));have HC5:=hid (HC4.out.below hb5);have HP5:=hid (hpi.out.below HB5.out);obtain ⟨xa0,xa1,xa2,_,_,_⟩:=HC5.out;clear hb5)
  | (go_at_call 132;refine (split_let g x y z P.m0 P.c0 P.m1 P.c1 P.m2 P.c2 V L0 L1 L2 U0 U1 U2 P.A0 P.A1 P.A2 P.A P.B P.C _ (hid (HP5.out.a0.arg HP5.out.bs)) (hid (HP5.out.a1.arg HP5.out.bs)) (hid (HP5.out.a2.arg HP5.out.bs)) HXM.out HYM.out HZM.out hm.out.hV hm.out.l0 hm.out.l1 hm.out.l2 hm.out.u0 hm.out.u1 hm.out.u2).mono ?_;rintro e w6 ⟨rfl,hb6⟩;have HB6:=hid (HB5.out.trans (hb6.mono HB5.out.size));clear hb6 xa0 xa1 xa2))
 have HLC:=hid (lc_new w6 L0 L1 L2 U0 U1 U2 V)
 generalize (((w6.alloc (.cells #[.int .i64 (L0:Int),.int .i64 (L1:Int),.int .i64 (L2:Int)] 167)).alloc (.cells #[.int .i64 (U0:Int),.int .i64 (U1:Int),.int .i64 (U2:Int)] 167)).alloc (.cells #[.int .i64 (V:Int),.int .i64 0,.int .i64 0] 80))=w7 at *
 have HB7:=hid (HB6.out.trans (HLC.out.2.2.mono HB6.out.size))
 have HP7:=hid (hpi.out.below HB7.out)
 have HKW:=hid HB6.out.size
 have HKS:=hid HLC.out.2.1
 have HL7:=hid HLC.out.1
 clear HLC HB6 HB5 HB4 HB3 HB2 HB1
 generalize w6.heap.size=K at *
 rw [show K+1+1=K+2 from rfl]
 refine (ih.out L0 L1 L2 mb M E v gi w7 HS1.out hm.out.bl0 hm.out.bl1 hm.out.bl2 HP7.out).mono ?_
 rintro e w8 ⟨hchg,hcase⟩
 rw [hm.out.e0] at hcase
 have HCH:=hid hchg
 have HL8:=hid (HL7.out.keep hchg (fun q hq=>.inl (Nat.lt_of_lt_of_le (hpi.out.lt hq) HKW.out)))
 obtain ⟨_,_,⟨ba0,ba1,ba2,bf0,bf1,bf2⟩⟩:=HL8.out
 have HC8:=hid ((Chg.of_below HB7.out).trans hchg (fun _ _ e=>e))
 clear hchg
 have hcase2:e=.returned (.int .i64 (-2)):=by
  rcases hcase with ⟨h1,_⟩ | ⟨_,h2⟩
  ·exact absurd hlow.out (Nat.not_lt.2 h1)
  ·exact h2
 clear hcase
 subst hcase2
 go_wp2
 go_ret
 unfold Out
 refine ⟨HC8.out.setNew (by have:=HKW.out;omega) _ _,.inr ⟨?_,rfl⟩⟩
 rw [hput.out]
 have h1:=hm.out.len
 have h2:=hlow.out
 omega
theorem num_high (P:Pr) (hP:Hid P.Ok) (base g i j k x y z mb:Nat) (M:List Br) (E:Nat→Nat) (v:Value) (gi:Option Nat) (w:World) (hpi:Hid (PI w base g P M E v gi mb)) (hi:i<P.s0) (hj:j<P.s1) (hk:k<P.s2)
  (hc:Hid (code P.T (cls i) (cls j) (cls k) (decide (j=k))=2))
  (hx:Hid (zap (z0 P.T (cls i) (cls j) (cls k) (decide (j=k))) i=x)) (hy:Hid (zap (z1 P.T (cls i) (cls j) (cls k) (decide (j=k))) j=y)) (hz:Hid (zap (z2 P.T (cls i) (cls j) (cls k) (decide (j=k))) k=z))
  (hE:Hid (E (ci P.s1 P.s2 x y z)=0)) (ih:Hid (NumIH P base g (i+j+k)))
  (V L0 L1 L2 U0 U1 U2 r1 r2:Nat) (M1 M2:List Br) (hm:Hid (Miss P.T P.s0 P.s1 P.s2 P.A P.B P.C x y z V L0 L1 L2 U0 U1 U2 M M1 M2 r1 r2)) (hok1:Hid (M1.length≤P.lim)) (hlow:Hid (P.lim<M2.length)) :
  Calls Tryz.prog 124 #[.pointer (some ⟨g,0,none⟩),.agg #[.int .i64 (i:Int),.int .i64 (j:Int),.int .i64 (k:Int)]] w (fun e w'=>Out w w' base g P i j k M v gi mb e):=by
 have lx:x<P.s0∧x≤i:=by have:=hx.out;have:=zap_le (z0 P.T (cls i) (cls j) (cls k) (decide (j=k))) i;omega
 have ly:y<P.s1∧y≤j:=by have:=hy.out;have:=zap_le (z1 P.T (cls i) (cls j) (cls k) (decide (j=k))) j;omega
 have lz:z<P.s2∧z≤k:=by have:=hz.out;have:=zap_le (z2 P.T (cls i) (cls j) (cls k) (decide (j=k))) k;omega
 have hput:Hid (put 64 (fx P.T P.A P.B P.C i j k) M=put 64 (fx P.T P.A P.B P.C x y z) M):=by
  show _=_
  rw [fx_open hP.out.tab (fun e=>by subst e;exact hP.out.same j hj hk) hc.out,hx.out,hy.out,hz.out]
 obtain ⟨p,q,u,cc,hcell⟩:=CellOf.mk_ x y z P.s1 P.s2
 obtain ⟨bp,bq,bu,bc,hlt⟩:=hcell.small lx.1 ly.1 lz.1 hP.out.b0 hP.out.b1 hP.out.b2
 have hcc:=hcell.ci
 rw [← hcc] at hE
 have HCC:=hid hcc
 have HPT:=tab_lt hP.out.tab
 have HLT:=hid hlt
 have wr1:IntKind.i64.wrap ((x:Int)*(P.s1:Int))=(p:Int):=by
  rw [← Int.natCast_mul,hcell.h1];exact wrap_small _ (by omega) (by omega)
 have wr2:IntKind.i64.wrap ((p:Int)+(y:Int))=(q:Int):=by
  rw [← Int.natCast_add,hcell.h2];exact wrap_small _ (by omega) (by omega)
 have wr3:IntKind.i64.wrap ((q:Int)*(P.s2:Int))=(u:Int):=by
  rw [← Int.natCast_mul,hcell.h3];exact wrap_small _ (by omega) (by omega)
 have wr4:IntKind.i64.wrap ((u:Int)+(z:Int))=(cc:Int):=by
  rw [← Int.natCast_add,hcell.h4];exact wrap_small _ (by omega) (by omega)
 have b1:=(Below.refl w.heap.size w).alloc (Nat.le_refl _) (.cells #[.int .i64 (i:Int),.int .i64 (j:Int),.int .i64 (k:Int)] 167)
 have hp1:=hid (hpi.out.below b1)
 have hx1:=hid (C3.new (w:=w) rfl i j k 167)
 have HB1:=hid b1
 have hl0:=hP.out.l0
 have hl1:=hP.out.l1
 have hl2:=hP.out.l2
 have hxm:x<P.m0+2:=by omega
 have hym:y<P.m1+2:=by omega
 have hzm:z<P.m2+2:=by omega
 have hs1:L0+L1+L2<i+j+k:=by have:=hm.out.ml;omega
 have hs2:U0+U1+U2<i+j+k:=by have:=hm.out.mu;omega
 have HS1:=hid hs1
 have HS2:=hid hs2
 have HXM:=hid hxm
 have HYM:=hid hym
 have HZM:=hid hzm
 clear b1 hcell hcc hlt lx ly lz hs1 hs2 hl0 hl1 hl2 hxm hym hzm bp bq bu bc
 go_enter Tryz.func124,Tryz.ntmps124
 go_wp2_with (go_at_call 130;refine (settle_open g i j k P.T x y z _ HPT hp1.out.tr (hid hp1.out.ins) hc hx hy hz).mono ?_;rintro e w2 ⟨rfl,hb2⟩;have HC2:=hid (hx1.out.below hb2);obtain ⟨xa0,xa1,xa2,xf0,xf1,xf2⟩:=HC2.out;have HB2:=hid (HB1.out.trans (hb2.mono HB1.out.size));clear hb2)
 have HC3:=hid (HC2.out.all x y z)
 have HB3:=hid (below_all HB2.out (Nat.le_refl _) (.int .i64 (x:Int)) (.int .i64 (y:Int)) (.int .i64 (z:Int)))
 clear xa0 xa1 xa2 xf0 xf1 xf2
 generalize ((w2.setCell ⟨w.heap.size,0,none⟩ (.int .i64 (x:Int))).setCell ⟨w.heap.size,1,none⟩ (.int .i64 (y:Int))).setCell ⟨w.heap.size,2,none⟩ (.int .i64 (z:Int))=W3 at *
 have HP3:=hid (hpi.out.below HB3.out)
 obtain ⟨xa0,xa1,xa2,_,_,_⟩:=HC3.out
 have ps1:=HP3.out.s1
 have ps2:=HP3.out.s2
 go_quiet (fail)
 have HB4:=hid (below_drewN HB3.out nq)
 have HP4:=hid (hpi.out.below HB4.out)
 have HC4:=hid (HC3.out.drewN nq)
 have hdt:decide (E cc≠0)=false:=by rw [hE.out];rfl
 clear wr1 wr2 wr3 wr4 xa0 xa1 xa2 ps1 ps2
 go_wp2_with (first
  | (go_at_call 131;refine (get_mm base g 10 (P.s0*P.s1*P.s2) mb cc E _ (hid HP4.out.mm) HLT.out).mono ?_;rintro e w5 ⟨⟨r,_,rfl⟩,hb5⟩;have HB5:=hid (HB4.out.trans (hb5.mono HB4.out.size));have HC5:=hid (HC4.out.below hb5);have HP5:=hid (hpi.out.below HB5.out);obtain ⟨xa0,xa1,xa2,_,_,_⟩:=HC5.out;clear hb5)
  | (go_at_call 132;refine (split_let g x y z P.m0 P.c0 P.m1 P.c1 P.m2 P.c2 V L0 L1 L2 U0 U1 U2 P.A0 P.A1 P.A2 P.A P.B P.C _ (hid (HP5.out.a0.arg HP5.out.bs)) (hid (HP5.out.a1.arg HP5.out.bs)) (hid (HP5.out.a2.arg HP5.out.bs)) HXM.out HYM.out HZM.out hm.out.hV hm.out.l0 hm.out.l1 hm.out.l2 hm.out.u0 hm.out.u1 hm.out.u2).mono ?_;rintro e w6 ⟨rfl,hb6⟩;have HB6:=hid (HB5.out.trans (hb6.mono HB5.out.size));clear hb6 xa0 xa1 xa2))
 have HLC:=hid (lc_new w6 L0 L1 L2 U0 U1 U2 V)
 generalize (((w6.alloc (.cells #[.int .i64 (L0:Int),.int .i64 (L1:Int),.int .i64 (L2:Int)] 167)).alloc (.cells #[.int .i64 (U0:Int),.int .i64 (U1:Int),.int .i64 (U2:Int)] 167)).alloc (.cells #[.int .i64 (V:Int),.int .i64 0,.int .i64 0] 80))=w7 at *
 have HB7:=hid (HB6.out.trans (HLC.out.2.2.mono HB6.out.size))
 have HP7:=hid (hpi.out.below HB7.out)
 have HKW:=hid HB6.out.size
 have HKS:=hid HLC.out.2.1
 have HL7:=hid HLC.out.1
 clear HLC HB6 HB5 HB4 HB3 HB2 HB1
 generalize w6.heap.size=K at *
 rw [show K+1+1=K+2 from rfl]
 refine (ih.out L0 L1 L2 mb M E v gi w7 HS1.out hm.out.bl0 hm.out.bl1 hm.out.bl2 HP7.out).mono ?_
 rintro e w8 ⟨hchg,hcase⟩
 rw [hm.out.e0] at hcase
 have HCH:=hid hchg
 have HL8:=hid (HL7.out.keep hchg (fun q hq=>.inl (Nat.lt_of_lt_of_le (hpi.out.lt hq) HKW.out)))
 obtain ⟨_,_,⟨ba0,ba1,ba2,bf0,bf1,bf2⟩⟩:=HL8.out
 have HC8:=hid ((Chg.of_below HB7.out).trans hchg (fun _ _ e=>e))
 clear hchg
 have hcase2:=(hcase.resolve_right (fun h=>absurd hok1.out (Nat.not_le.2 h.1))).2
 clear hcase
 obtain ⟨rfl,E1,v1,gi1,mb1,hp8,hnew1⟩:=hcase2
 have hnp1:¬ Pv g v1 gi1 mb1 (K+2):=fun h=>by
  have h1:=HKW.out
  have h2:=HKS.out
  rcases hnew1 _ h with h3 | h3
  ·have:=hpi.out.lt h3;omega
  ·omega
 have hbK:base≤K+2:=by have h1:=hpi.out.bs;have h2:=HKW.out;omega
 have HP9:=hid (hp8.setNew hnp1 hbK 1 (.int .i64 (r1:Int)))
 have HL9:=hid (HL8.out.set1 r1)
 have HNW1:=hid hnew1
 have hne1:((r1:Int) == -2)=false:=beq_eq_false_iff_ne.2 (by omega)
 have HC9:=hid (HC8.out.setNew (q:=K+2) (by have:=HKW.out;omega) 1 (.int .i64 (r1:Int)))
 have HSZ9:Hid (w7.heap.size≤(w8.setCell ⟨K+2,1,none⟩ (.int .i64 (r1:Int))).heap.size):=by
  have:=HCH.out.size
  show _≤_
  simpa [World.setCell] using this
 obtain ⟨_,⟨ua0,ua1,ua2,_,_,_⟩,_⟩:=HL8.out
 clear hp8 hnew1 hnp1 hbK
 go_wp2_with (fail)
 generalize w8.setCell ⟨K+2,1,none⟩ (.int .i64 (r1:Int))=w9 at *
 clear ba0 ba1 ba2 bf0 bf1 bf2 ua0 ua1 ua2 hne1
 refine (ih.out U0 U1 U2 mb1 M1 E1 v1 gi1 w9 HS2.out hm.out.bu0 hm.out.bu1 hm.out.bu2 HP9.out).mono ?_
 rintro e w10 ⟨hchg,hcase⟩
 rw [hm.out.e1] at hcase
 have hfar:∀ q,Pv g v1 gi1 mb1 q→q<K∨K+2<q:=fun q hq=>by
  have h1:=HKW.out
  have h2:=HKS.out
  rcases HNW1.out _ hq with h3 | h3
  ·have:=hpi.out.lt h3;omega
  ·omega
 have hold:∀ q,q<w.heap.size→Pv g v1 gi1 mb1 q→Pv g v gi mb q:=fun q hq hp=>by
  rcases HNW1.out _ hp with h3 | h3
  ·exact h3
  ·have h1:=HKW.out
   have h2:=HKS.out
   omega
 have HL10:=hid (HL9.out.keep hchg hfar)
 have HC10:=hid (HC9.out.trans hchg hold)
 have HS10:=hid hchg.size
 obtain ⟨_,_,⟨ba0,ba1,ba2,bf0,bf1,bf2⟩⟩:=HL10.out
 have HNE1:Hid (((r1:Int) == -2)=false):=beq_eq_false_iff_ne.2 (by omega)
 clear hchg hfar hold
 have hcase2:e=.returned (.int .i64 (-2)):=by
  rcases hcase with ⟨h1,_⟩ | ⟨_,h2⟩
  ·exact absurd hlow.out (Nat.not_lt.2 h1)
  ·exact h2
 clear hcase
 subst hcase2
 go_wp2
 go_ret
 unfold Out
 refine ⟨HC10.out.setNew (by have:=HKW.out;omega) _ _,.inr ⟨?_,rfl⟩⟩
 rw [hput.out]
 have h1:=hm.out.len
 have h2:=hlow.out
 omega
theorem num_eq (P:Pr) (hP:Hid P.Ok) (base g i j k x y z mb:Nat) (M:List Br) (E:Nat→Nat) (v:Value) (gi:Option Nat) (w:World) (hpi:Hid (PI w base g P M E v gi mb)) (hi:i<P.s0) (hj:j<P.s1) (hk:k<P.s2)
  (hc:Hid (code P.T (cls i) (cls j) (cls k) (decide (j=k))=2))
  (hx:Hid (zap (z0 P.T (cls i) (cls j) (cls k) (decide (j=k))) i=x)) (hy:Hid (zap (z1 P.T (cls i) (cls j) (cls k) (decide (j=k))) j=y)) (hz:Hid (zap (z2 P.T (cls i) (cls j) (cls k) (decide (j=k))) k=z))
  (hE:Hid (E (ci P.s1 P.s2 x y z)=0)) (ih:Hid (NumIH P base g (i+j+k)))
  (V L0 L1 L2 U0 U1 U2 r1 r2:Nat) (M1 M2:List Br) (hm:Hid (Miss P.T P.s0 P.s1 P.s2 P.A P.B P.C x y z V L0 L1 L2 U0 U1 U2 M M1 M2 r1 r2)) (hok1:Hid (M1.length≤P.lim)) (hok2:Hid (M2.length≤P.lim)) (heq:Hid (r1=r2)) :
  Calls Tryz.prog 124 #[.pointer (some ⟨g,0,none⟩),.agg #[.int .i64 (i:Int),.int .i64 (j:Int),.int .i64 (k:Int)]] w (fun e w'=>Out w w' base g P i j k M v gi mb e):=by
 have lx:x<P.s0∧x≤i:=by have:=hx.out;have:=zap_le (z0 P.T (cls i) (cls j) (cls k) (decide (j=k))) i;omega
 have ly:y<P.s1∧y≤j:=by have:=hy.out;have:=zap_le (z1 P.T (cls i) (cls j) (cls k) (decide (j=k))) j;omega
 have lz:z<P.s2∧z≤k:=by have:=hz.out;have:=zap_le (z2 P.T (cls i) (cls j) (cls k) (decide (j=k))) k;omega
 have hput:Hid (put 64 (fx P.T P.A P.B P.C i j k) M=put 64 (fx P.T P.A P.B P.C x y z) M):=by
  show _=_
  rw [fx_open hP.out.tab (fun e=>by subst e;exact hP.out.same j hj hk) hc.out,hx.out,hy.out,hz.out]
 obtain ⟨p,q,u,cc,hcell⟩:=CellOf.mk_ x y z P.s1 P.s2
 obtain ⟨bp,bq,bu,bc,hlt⟩:=hcell.small lx.1 ly.1 lz.1 hP.out.b0 hP.out.b1 hP.out.b2
 have hcc:=hcell.ci
 rw [← hcc] at hE
 have HCC:=hid hcc
 have HPT:=tab_lt hP.out.tab
 have HLT:=hid hlt
 have wr1:IntKind.i64.wrap ((x:Int)*(P.s1:Int))=(p:Int):=by
  rw [← Int.natCast_mul,hcell.h1];exact wrap_small _ (by omega) (by omega)
 have wr2:IntKind.i64.wrap ((p:Int)+(y:Int))=(q:Int):=by
  rw [← Int.natCast_add,hcell.h2];exact wrap_small _ (by omega) (by omega)
 have wr3:IntKind.i64.wrap ((q:Int)*(P.s2:Int))=(u:Int):=by
  rw [← Int.natCast_mul,hcell.h3];exact wrap_small _ (by omega) (by omega)
 have wr4:IntKind.i64.wrap ((u:Int)+(z:Int))=(cc:Int):=by
  rw [← Int.natCast_add,hcell.h4];exact wrap_small _ (by omega) (by omega)
 have b1:=(Below.refl w.heap.size w).alloc (Nat.le_refl _) (.cells #[.int .i64 (i:Int),.int .i64 (j:Int),.int .i64 (k:Int)] 167)
 have hp1:=hid (hpi.out.below b1)
 have hx1:=hid (C3.new (w:=w) rfl i j k 167)
 have HB1:=hid b1
 have hl0:=hP.out.l0
 have hl1:=hP.out.l1
 have hl2:=hP.out.l2
 have hxm:x<P.m0+2:=by omega
 have hym:y<P.m1+2:=by omega
 have hzm:z<P.m2+2:=by omega
 have hs1:L0+L1+L2<i+j+k:=by have:=hm.out.ml;omega
 have hs2:U0+U1+U2<i+j+k:=by have:=hm.out.mu;omega
 have HS1:=hid hs1
 have HS2:=hid hs2
 have HXM:=hid hxm
 have HYM:=hid hym
 have HZM:=hid hzm
 clear b1 hcell hcc hlt lx ly lz hs1 hs2 hl0 hl1 hl2 hxm hym hzm bp bq bu bc
 go_enter Tryz.func124,Tryz.ntmps124
 go_wp2_with (go_at_call 130;refine (settle_open g i j k P.T x y z _ HPT hp1.out.tr (hid hp1.out.ins) hc hx hy hz).mono ?_;rintro e w2 ⟨rfl,hb2⟩;have HC2:=hid (hx1.out.below hb2);obtain ⟨xa0,xa1,xa2,xf0,xf1,xf2⟩:=HC2.out;have HB2:=hid (HB1.out.trans (hb2.mono HB1.out.size));clear hb2)
 have HC3:=hid (HC2.out.all x y z)
 have HB3:=hid (below_all HB2.out (Nat.le_refl _) (.int .i64 (x:Int)) (.int .i64 (y:Int)) (.int .i64 (z:Int)))
 clear xa0 xa1 xa2 xf0 xf1 xf2
 generalize ((w2.setCell ⟨w.heap.size,0,none⟩ (.int .i64 (x:Int))).setCell ⟨w.heap.size,1,none⟩ (.int .i64 (y:Int))).setCell ⟨w.heap.size,2,none⟩ (.int .i64 (z:Int))=W3 at *
 have HP3:=hid (hpi.out.below HB3.out)
 obtain ⟨xa0,xa1,xa2,_,_,_⟩:=HC3.out
 have ps1:=HP3.out.s1
 have ps2:=HP3.out.s2
 go_quiet (fail)
 have HB4:=hid (below_drewN HB3.out nq)
 have HP4:=hid (hpi.out.below HB4.out)
 have HC4:=hid (HC3.out.drewN nq)
 have hdt:decide (E cc≠0)=false:=by rw [hE.out];rfl
 clear wr1 wr2 wr3 wr4 xa0 xa1 xa2 ps1 ps2
 go_wp2_with (first
  | (go_at_call 131;refine (get_mm base g 10 (P.s0*P.s1*P.s2) mb cc E _ (hid HP4.out.mm) HLT.out).mono ?_;rintro e w5 ⟨⟨r,_,rfl⟩,hb5⟩;have HB5:=hid (HB4.out.trans (hb5.mono HB4.out.size));have HC5:=hid (HC4.out.below hb5);have HP5:=hid (hpi.out.below HB5.out);obtain ⟨xa0,xa1,xa2,_,_,_⟩:=HC5.out;clear hb5)
  | (go_at_call 132;refine (split_let g x y z P.m0 P.c0 P.m1 P.c1 P.m2 P.c2 V L0 L1 L2 U0 U1 U2 P.A0 P.A1 P.A2 P.A P.B P.C _ (hid (HP5.out.a0.arg HP5.out.bs)) (hid (HP5.out.a1.arg HP5.out.bs)) (hid (HP5.out.a2.arg HP5.out.bs)) HXM.out HYM.out HZM.out hm.out.hV hm.out.l0 hm.out.l1 hm.out.l2 hm.out.u0 hm.out.u1 hm.out.u2).mono ?_;rintro e w6 ⟨rfl,hb6⟩;have HB6:=hid (HB5.out.trans (hb6.mono HB5.out.size));clear hb6 xa0 xa1 xa2))
 have HLC:=hid (lc_new w6 L0 L1 L2 U0 U1 U2 V)
 generalize (((w6.alloc (.cells #[.int .i64 (L0:Int),.int .i64 (L1:Int),.int .i64 (L2:Int)] 167)).alloc (.cells #[.int .i64 (U0:Int),.int .i64 (U1:Int),.int .i64 (U2:Int)] 167)).alloc (.cells #[.int .i64 (V:Int),.int .i64 0,.int .i64 0] 80))=w7 at *
 have HB7:=hid (HB6.out.trans (HLC.out.2.2.mono HB6.out.size))
 have HP7:=hid (hpi.out.below HB7.out)
 have HKW:=hid HB6.out.size
 have HKS:=hid HLC.out.2.1
 have HL7:=hid HLC.out.1
 clear HLC HB6 HB5 HB4 HB3 HB2 HB1
 generalize w6.heap.size=K at *
 rw [show K+1+1=K+2 from rfl]
 refine (ih.out L0 L1 L2 mb M E v gi w7 HS1.out hm.out.bl0 hm.out.bl1 hm.out.bl2 HP7.out).mono ?_
 rintro e w8 ⟨hchg,hcase⟩
 rw [hm.out.e0] at hcase
 have HCH:=hid hchg
 have HL8:=hid (HL7.out.keep hchg (fun q hq=>.inl (Nat.lt_of_lt_of_le (hpi.out.lt hq) HKW.out)))
 obtain ⟨_,_,⟨ba0,ba1,ba2,bf0,bf1,bf2⟩⟩:=HL8.out
 have HC8:=hid ((Chg.of_below HB7.out).trans hchg (fun _ _ e=>e))
 clear hchg
 have hcase2:=(hcase.resolve_right (fun h=>absurd hok1.out (Nat.not_le.2 h.1))).2
 clear hcase
 obtain ⟨rfl,E1,v1,gi1,mb1,hp8,hnew1⟩:=hcase2
 have hnp1:¬ Pv g v1 gi1 mb1 (K+2):=fun h=>by
  have h1:=HKW.out
  have h2:=HKS.out
  rcases hnew1 _ h with h3 | h3
  ·have:=hpi.out.lt h3;omega
  ·omega
 have hbK:base≤K+2:=by have h1:=hpi.out.bs;have h2:=HKW.out;omega
 have HP9:=hid (hp8.setNew hnp1 hbK 1 (.int .i64 (r1:Int)))
 have HL9:=hid (HL8.out.set1 r1)
 have HNW1:=hid hnew1
 have hne1:((r1:Int) == -2)=false:=beq_eq_false_iff_ne.2 (by omega)
 have HC9:=hid (HC8.out.setNew (q:=K+2) (by have:=HKW.out;omega) 1 (.int .i64 (r1:Int)))
 have HSZ9:Hid (w7.heap.size≤(w8.setCell ⟨K+2,1,none⟩ (.int .i64 (r1:Int))).heap.size):=by
  have:=HCH.out.size
  show _≤_
  simpa [World.setCell] using this
 obtain ⟨_,⟨ua0,ua1,ua2,_,_,_⟩,_⟩:=HL8.out
 clear hp8 hnew1 hnp1 hbK
 go_wp2_with (fail)
 generalize w8.setCell ⟨K+2,1,none⟩ (.int .i64 (r1:Int))=w9 at *
 clear ba0 ba1 ba2 bf0 bf1 bf2 ua0 ua1 ua2 hne1
 refine (ih.out U0 U1 U2 mb1 M1 E1 v1 gi1 w9 HS2.out hm.out.bu0 hm.out.bu1 hm.out.bu2 HP9.out).mono ?_
 rintro e w10 ⟨hchg,hcase⟩
 rw [hm.out.e1] at hcase
 have hfar:∀ q,Pv g v1 gi1 mb1 q→q<K∨K+2<q:=fun q hq=>by
  have h1:=HKW.out
  have h2:=HKS.out
  rcases HNW1.out _ hq with h3 | h3
  ·have:=hpi.out.lt h3;omega
  ·omega
 have hold:∀ q,q<w.heap.size→Pv g v1 gi1 mb1 q→Pv g v gi mb q:=fun q hq hp=>by
  rcases HNW1.out _ hp with h3 | h3
  ·exact h3
  ·have h1:=HKW.out
   have h2:=HKS.out
   omega
 have HL10:=hid (HL9.out.keep hchg hfar)
 have HC10:=hid (HC9.out.trans hchg hold)
 have HS10:=hid hchg.size
 obtain ⟨_,_,⟨ba0,ba1,ba2,bf0,bf1,bf2⟩⟩:=HL10.out
 have HNE1:Hid (((r1:Int) == -2)=false):=beq_eq_false_iff_ne.2 (by omega)
 clear hchg hfar hold
 have hcase2:=(hcase.resolve_right (fun h=>absurd hok2.out (Nat.not_le.2 h.1))).2
 clear hcase
 obtain ⟨rfl,E2,v2,gi2,mb2,hp10,hnew2⟩:=hcase2
 have hnew:∀ q,Pv g v2 gi2 mb2 q→(Pv g v gi mb q∨w.heap.size≤q)∧(q<K∨K+2<q):=fun q hq=>by
  have h1:=HKW.out
  have h2:=HKS.out
  have h3:=HSZ9.out
  rcases hnew2 _ hq with h4 | h4
  ·rcases HNW1.out _ h4 with h5 | h5
   ·exact ⟨.inl h5,.inl (Nat.lt_of_lt_of_le (hpi.out.lt h5) h1)⟩
   ·exact ⟨.inr (by omega),.inr (by omega)⟩
  ·exact ⟨.inr (by omega),.inr (by omega)⟩
 have hnp2:¬ Pv g v2 gi2 mb2 (K+2):=fun h=>by have:=(hnew _ h).2;omega
 have hbK:base≤K+2:=by have h1:=hpi.out.bs;have h2:=HKW.out;omega
 have HP11:=hid (hp10.setNew hnp2 hbK 2 (.int .i64 (r2:Int)))
 have HL11:=hid (HL10.out.set2 r2)
 have HNW:=hid (fun q hq=>(hnew q hq).1)
 have HC11:=hid (HC10.out.setNew (q:=K+2) (by have:=HKW.out;omega) 2 (.int .i64 (r2:Int)))
 have hne2:((r2:Int) == -2)=false:=beq_eq_false_iff_ne.2 (by omega)
 clear hp10 hnew2 hnp2 hbK hnew
 have hre:((r1:Int) == (r2:Int))=true:=by rw [heq.out];exact beq_self_eq_true _
 have hre2:((r1:Int) != (r2:Int))=false:=by rw [bne,hre];rfl
 go_wp2
 generalize w10.setCell ⟨K+2,2,none⟩ (.int .i64 (r2:Int))=w11 at *
 clear ba0 ba1 ba2 bf0 bf1 bf2 hre hre2 hne2
 have hwhole:Hid (put 64 (fx P.T P.A P.B P.C x y z) M=(M2,r1)):=by
  show _=_
  rw [hm.out.whole,if_pos heq.out]
 have cn:=HP11.out.tb.cn
 have cl:=HP11.out.li
 obtain ⟨AA,ca,hv2,hca,_⟩:=own_rd HP11.out.tb.own
 have HV2:=hid hv2
 rw [hv2] at cn
 clear hv2 hca
 generalize hn2:M2.length=n2 at cn
 have HN2:=hid hn2
 have hgt:decide ((P.lim:Int)<(n2:Int))=false:=decide_eq_false (by have:=hok2.out;omega)
 have hgt2:decide (P.lim<n2)=false:=decide_eq_false (by have:=hok2.out;omega)
 have b11:=below_drewN (Below.refl w11.heap.size w11)
 have HB11:=hid b11
 clear hn2 b11
 go_quiet (fail)
 have HP12:=hid (HP11.out.below (HB11.out nq))
 have HC12:=hid (HC11.out.trans (Chg.of_below (S:=fun _=>False) (HB11.out nq)) (fun _ _ h=>h.elim))
 have HR1:Hid (r1<999999):=by
  have h1:=hm.out.rl1
  have h2:=hok1.out
  have h3:=hP.out.lim
  show _<_
  omega
 clear cn cl hgt hgt2
 go_wp2_with (go_at_call 134;refine (put_mm base g 10 (P.s0*P.s1*P.s2) mb2 cc r1 E2 _ (hid HP12.out.mm) HLT.out HR1.out).mono ?_;rintro e w13 ⟨rfl,hmm,hch,hkk⟩;have HMM:=hid hmm;have HCHG:=hid hch;have HKK:=hid hkk;clear hmm hch hkk)
 go_ret
 obtain ⟨b',hmm,hb'⟩:=HMM.out
 have hok:=hm.out.ok
 rw [hwhole.out] at hok
 have hmo:Mo P.T P.s0 P.s1 P.s2 P.A P.B P.C M2 (upd E2 cc (r1+1)):=by
  rw [HCC.out]
  exact HP12.out.mo.set (by have:=hy.out;have:=zap_le (z1 P.T (cls i) (cls j) (cls k) (decide (j=k))) j;omega) (by have:=hz.out;have:=zap_le (z2 P.T (cls i) (cls j) (cls k) (decide (j=k))) k;omega) hok.lt hok.den
 have hp13:=HP12.out.put hmm hb' HCHG.out HKK.out hmo
 have hs12:=HC12.out.size
 unfold Out
 rw [hput.out,hwhole.out]
 refine ⟨HC12.out.trans HCHG.out (fun q hq e=>?_),.inl ⟨hok2.out,rfl,_,v2,gi2,b',hp13,fun q hq=>?_⟩⟩
 ·have hq2:Pv g v2 gi2 mb2 q:=by
   rcases e with e | e
   ·exact .inr (.inr (.inr e))
   ·exact .inl e
  rcases HNW.out q hq2 with h | h
  ·exact h
  ·omega
 ·rcases hq with e | e | e | e
  ·exact HNW.out q (.inl e)
  ·exact HNW.out q (.inr (.inl e))
  ·exact HNW.out q (.inr (.inr (.inl e)))
  ·subst e
   rcases hb' with e | e
   ·exact HNW.out q (.inr (.inr (.inr e)))
   ·exact .inr (by omega)
theorem num_over (P:Pr) (hP:Hid P.Ok) (base g i j k x y z mb:Nat) (M:List Br) (E:Nat→Nat) (v:Value) (gi:Option Nat) (w:World) (hpi:Hid (PI w base g P M E v gi mb)) (hi:i<P.s0) (hj:j<P.s1) (hk:k<P.s2)
  (hc:Hid (code P.T (cls i) (cls j) (cls k) (decide (j=k))=2))
  (hx:Hid (zap (z0 P.T (cls i) (cls j) (cls k) (decide (j=k))) i=x)) (hy:Hid (zap (z1 P.T (cls i) (cls j) (cls k) (decide (j=k))) j=y)) (hz:Hid (zap (z2 P.T (cls i) (cls j) (cls k) (decide (j=k))) k=z))
  (hE:Hid (E (ci P.s1 P.s2 x y z)=0)) (ih:Hid (NumIH P base g (i+j+k)))
  (V L0 L1 L2 U0 U1 U2 r1 r2:Nat) (M1 M2:List Br) (hm:Hid (Miss P.T P.s0 P.s1 P.s2 P.A P.B P.C x y z V L0 L1 L2 U0 U1 U2 M M1 M2 r1 r2)) (hok1:Hid (M1.length≤P.lim)) (hok2:Hid (M2.length≤P.lim)) (hne:Hid (r1≠r2)) (hlow:Hid (P.lim<(ins M2 (V,r1,r2)).1.length)) :
  Calls Tryz.prog 124 #[.pointer (some ⟨g,0,none⟩),.agg #[.int .i64 (i:Int),.int .i64 (j:Int),.int .i64 (k:Int)]] w (fun e w'=>Out w w' base g P i j k M v gi mb e):=by
 have lx:x<P.s0∧x≤i:=by have:=hx.out;have:=zap_le (z0 P.T (cls i) (cls j) (cls k) (decide (j=k))) i;omega
 have ly:y<P.s1∧y≤j:=by have:=hy.out;have:=zap_le (z1 P.T (cls i) (cls j) (cls k) (decide (j=k))) j;omega
 have lz:z<P.s2∧z≤k:=by have:=hz.out;have:=zap_le (z2 P.T (cls i) (cls j) (cls k) (decide (j=k))) k;omega
 have hput:Hid (put 64 (fx P.T P.A P.B P.C i j k) M=put 64 (fx P.T P.A P.B P.C x y z) M):=by
  show _=_
  rw [fx_open hP.out.tab (fun e=>by subst e;exact hP.out.same j hj hk) hc.out,hx.out,hy.out,hz.out]
 obtain ⟨p,q,u,cc,hcell⟩:=CellOf.mk_ x y z P.s1 P.s2
 obtain ⟨bp,bq,bu,bc,hlt⟩:=hcell.small lx.1 ly.1 lz.1 hP.out.b0 hP.out.b1 hP.out.b2
 have hcc:=hcell.ci
 rw [← hcc] at hE
 have HCC:=hid hcc
 have HPT:=tab_lt hP.out.tab
 have HLT:=hid hlt
 have wr1:IntKind.i64.wrap ((x:Int)*(P.s1:Int))=(p:Int):=by
  rw [← Int.natCast_mul,hcell.h1];exact wrap_small _ (by omega) (by omega)
 have wr2:IntKind.i64.wrap ((p:Int)+(y:Int))=(q:Int):=by
  rw [← Int.natCast_add,hcell.h2];exact wrap_small _ (by omega) (by omega)
 have wr3:IntKind.i64.wrap ((q:Int)*(P.s2:Int))=(u:Int):=by
  rw [← Int.natCast_mul,hcell.h3];exact wrap_small _ (by omega) (by omega)
 have wr4:IntKind.i64.wrap ((u:Int)+(z:Int))=(cc:Int):=by
  rw [← Int.natCast_add,hcell.h4];exact wrap_small _ (by omega) (by omega)
 have b1:=(Below.refl w.heap.size w).alloc (Nat.le_refl _) (.cells #[.int .i64 (i:Int),.int .i64 (j:Int),.int .i64 (k:Int)] 167)
 have hp1:=hid (hpi.out.below b1)
 have hx1:=hid (C3.new (w:=w) rfl i j k 167)
 have HB1:=hid b1
 have hl0:=hP.out.l0
 have hl1:=hP.out.l1
 have hl2:=hP.out.l2
 have hxm:x<P.m0+2:=by omega
 have hym:y<P.m1+2:=by omega
 have hzm:z<P.m2+2:=by omega
 have hs1:L0+L1+L2<i+j+k:=by have:=hm.out.ml;omega
 have hs2:U0+U1+U2<i+j+k:=by have:=hm.out.mu;omega
 have HS1:=hid hs1
 have HS2:=hid hs2
 have HXM:=hid hxm
 have HYM:=hid hym
 have HZM:=hid hzm
 clear b1 hcell hcc hlt lx ly lz hs1 hs2 hl0 hl1 hl2 hxm hym hzm bp bq bu bc
 go_enter Tryz.func124,Tryz.ntmps124
 go_wp2_with (go_at_call 130;refine (settle_open g i j k P.T x y z _ HPT hp1.out.tr (hid hp1.out.ins) hc hx hy hz).mono ?_;rintro e w2 ⟨rfl,hb2⟩;have HC2:=hid (hx1.out.below hb2);obtain ⟨xa0,xa1,xa2,xf0,xf1,xf2⟩:=HC2.out;have HB2:=hid (HB1.out.trans (hb2.mono HB1.out.size));clear hb2)
 have HC3:=hid (HC2.out.all x y z)
 have HB3:=hid (below_all HB2.out (Nat.le_refl _) (.int .i64 (x:Int)) (.int .i64 (y:Int)) (.int .i64 (z:Int)))
 clear xa0 xa1 xa2 xf0 xf1 xf2
 generalize ((w2.setCell ⟨w.heap.size,0,none⟩ (.int .i64 (x:Int))).setCell ⟨w.heap.size,1,none⟩ (.int .i64 (y:Int))).setCell ⟨w.heap.size,2,none⟩ (.int .i64 (z:Int))=W3 at *
 have HP3:=hid (hpi.out.below HB3.out)
 obtain ⟨xa0,xa1,xa2,_,_,_⟩:=HC3.out
 have ps1:=HP3.out.s1
 have ps2:=HP3.out.s2
 go_quiet (fail)
 have HB4:=hid (below_drewN HB3.out nq)
 have HP4:=hid (hpi.out.below HB4.out)
 have HC4:=hid (HC3.out.drewN nq)
 have hdt:decide (E cc≠0)=false:=by rw [hE.out];rfl
 clear wr1 wr2 wr3 wr4 xa0 xa1 xa2 ps1 ps2
 go_wp2_with (first
  | (go_at_call 131;refine (get_mm base g 10 (P.s0*P.s1*P.s2) mb cc E _ (hid HP4.out.mm) HLT.out).mono ?_;rintro e w5 ⟨⟨r,_,rfl⟩,hb5⟩;have HB5:=hid (HB4.out.trans (hb5.mono HB4.out.size));have HC5:=hid (HC4.out.below hb5);have HP5:=hid (hpi.out.below HB5.out);obtain ⟨xa0,xa1,xa2,_,_,_⟩:=HC5.out;clear hb5)
  | (go_at_call 132;refine (split_let g x y z P.m0 P.c0 P.m1 P.c1 P.m2 P.c2 V L0 L1 L2 U0 U1 U2 P.A0 P.A1 P.A2 P.A P.B P.C _ (hid (HP5.out.a0.arg HP5.out.bs)) (hid (HP5.out.a1.arg HP5.out.bs)) (hid (HP5.out.a2.arg HP5.out.bs)) HXM.out HYM.out HZM.out hm.out.hV hm.out.l0 hm.out.l1 hm.out.l2 hm.out.u0 hm.out.u1 hm.out.u2).mono ?_;rintro e w6 ⟨rfl,hb6⟩;have HB6:=hid (HB5.out.trans (hb6.mono HB5.out.size));clear hb6 xa0 xa1 xa2))
 have HLC:=hid (lc_new w6 L0 L1 L2 U0 U1 U2 V)
 generalize (((w6.alloc (.cells #[.int .i64 (L0:Int),.int .i64 (L1:Int),.int .i64 (L2:Int)] 167)).alloc (.cells #[.int .i64 (U0:Int),.int .i64 (U1:Int),.int .i64 (U2:Int)] 167)).alloc (.cells #[.int .i64 (V:Int),.int .i64 0,.int .i64 0] 80))=w7 at *
 have HB7:=hid (HB6.out.trans (HLC.out.2.2.mono HB6.out.size))
 have HP7:=hid (hpi.out.below HB7.out)
 have HKW:=hid HB6.out.size
 have HKS:=hid HLC.out.2.1
 have HL7:=hid HLC.out.1
 clear HLC HB6 HB5 HB4 HB3 HB2 HB1
 generalize w6.heap.size=K at *
 rw [show K+1+1=K+2 from rfl]
 refine (ih.out L0 L1 L2 mb M E v gi w7 HS1.out hm.out.bl0 hm.out.bl1 hm.out.bl2 HP7.out).mono ?_
 rintro e w8 ⟨hchg,hcase⟩
 rw [hm.out.e0] at hcase
 have HCH:=hid hchg
 have HL8:=hid (HL7.out.keep hchg (fun q hq=>.inl (Nat.lt_of_lt_of_le (hpi.out.lt hq) HKW.out)))
 obtain ⟨_,_,⟨ba0,ba1,ba2,bf0,bf1,bf2⟩⟩:=HL8.out
 have HC8:=hid ((Chg.of_below HB7.out).trans hchg (fun _ _ e=>e))
 clear hchg
 have hcase2:=(hcase.resolve_right (fun h=>absurd hok1.out (Nat.not_le.2 h.1))).2
 clear hcase
 obtain ⟨rfl,E1,v1,gi1,mb1,hp8,hnew1⟩:=hcase2
 have hnp1:¬ Pv g v1 gi1 mb1 (K+2):=fun h=>by
  have h1:=HKW.out
  have h2:=HKS.out
  rcases hnew1 _ h with h3 | h3
  ·have:=hpi.out.lt h3;omega
  ·omega
 have hbK:base≤K+2:=by have h1:=hpi.out.bs;have h2:=HKW.out;omega
 have HP9:=hid (hp8.setNew hnp1 hbK 1 (.int .i64 (r1:Int)))
 have HL9:=hid (HL8.out.set1 r1)
 have HNW1:=hid hnew1
 have hne1:((r1:Int) == -2)=false:=beq_eq_false_iff_ne.2 (by omega)
 have HC9:=hid (HC8.out.setNew (q:=K+2) (by have:=HKW.out;omega) 1 (.int .i64 (r1:Int)))
 have HSZ9:Hid (w7.heap.size≤(w8.setCell ⟨K+2,1,none⟩ (.int .i64 (r1:Int))).heap.size):=by
  have:=HCH.out.size
  show _≤_
  simpa [World.setCell] using this
 obtain ⟨_,⟨ua0,ua1,ua2,_,_,_⟩,_⟩:=HL8.out
 clear hp8 hnew1 hnp1 hbK
 go_wp2_with (fail)
 generalize w8.setCell ⟨K+2,1,none⟩ (.int .i64 (r1:Int))=w9 at *
 clear ba0 ba1 ba2 bf0 bf1 bf2 ua0 ua1 ua2 hne1
 refine (ih.out U0 U1 U2 mb1 M1 E1 v1 gi1 w9 HS2.out hm.out.bu0 hm.out.bu1 hm.out.bu2 HP9.out).mono ?_
 rintro e w10 ⟨hchg,hcase⟩
 rw [hm.out.e1] at hcase
 have hfar:∀ q,Pv g v1 gi1 mb1 q→q<K∨K+2<q:=fun q hq=>by
  have h1:=HKW.out
  have h2:=HKS.out
  rcases HNW1.out _ hq with h3 | h3
  ·have:=hpi.out.lt h3;omega
  ·omega
 have hold:∀ q,q<w.heap.size→Pv g v1 gi1 mb1 q→Pv g v gi mb q:=fun q hq hp=>by
  rcases HNW1.out _ hp with h3 | h3
  ·exact h3
  ·have h1:=HKW.out
   have h2:=HKS.out
   omega
 have HL10:=hid (HL9.out.keep hchg hfar)
 have HC10:=hid (HC9.out.trans hchg hold)
 have HS10:=hid hchg.size
 obtain ⟨_,_,⟨ba0,ba1,ba2,bf0,bf1,bf2⟩⟩:=HL10.out
 have HNE1:Hid (((r1:Int) == -2)=false):=beq_eq_false_iff_ne.2 (by omega)
 clear hchg hfar hold
 have hcase2:=(hcase.resolve_right (fun h=>absurd hok2.out (Nat.not_le.2 h.1))).2
 clear hcase
 obtain ⟨rfl,E2,v2,gi2,mb2,hp10,hnew2⟩:=hcase2
 have hnew:∀ q,Pv g v2 gi2 mb2 q→(Pv g v gi mb q∨w.heap.size≤q)∧(q<K∨K+2<q):=fun q hq=>by
  have h1:=HKW.out
  have h2:=HKS.out
  have h3:=HSZ9.out
  rcases hnew2 _ hq with h4 | h4
  ·rcases HNW1.out _ h4 with h5 | h5
   ·exact ⟨.inl h5,.inl (Nat.lt_of_lt_of_le (hpi.out.lt h5) h1)⟩
   ·exact ⟨.inr (by omega),.inr (by omega)⟩
  ·exact ⟨.inr (by omega),.inr (by omega)⟩
 have hnp2:¬ Pv g v2 gi2 mb2 (K+2):=fun h=>by have:=(hnew _ h).2;omega
 have hbK:base≤K+2:=by have h1:=hpi.out.bs;have h2:=HKW.out;omega
 have HP11:=hid (hp10.setNew hnp2 hbK 2 (.int .i64 (r2:Int)))
 have HL11:=hid (HL10.out.set2 r2)
 have HNW:=hid (fun q hq=>(hnew q hq).1)
 have HC11:=hid (HC10.out.setNew (q:=K+2) (by have:=HKW.out;omega) 2 (.int .i64 (r2:Int)))
 have hne2:((r2:Int) == -2)=false:=beq_eq_false_iff_ne.2 (by omega)
 clear hp10 hnew2 hnp2 hbK hnew
 have hre:((r1:Int) == (r2:Int))=false:=beq_eq_false_iff_ne.2 (fun e=>hne.out (by omega))
 have hre2:((r1:Int) != (r2:Int))=true:=by rw [bne,hre];rfl
 go_wp2
 generalize w10.setCell ⟨K+2,2,none⟩ (.int .i64 (r2:Int))=w11 at *
 clear ba0 ba1 ba2 bf0 bf1 bf2 hre hre2 hne2
 obtain ⟨_,_,⟨ba0,ba1,ba2,_,_,_⟩⟩:=HL11.out
 have hwhole:Hid (put 64 (fx P.T P.A P.B P.C x y z) M=ins M2 (V,r1,r2)):=by
  show _=_
  rw [hm.out.whole,if_neg hne.out]
 have hsm:Hid (Sm (V,r1,r2)):=by
  have h1:=hm.out.rl1
  have h2:=hok1.out
  have h3:=hP.out.lim
  have h4:=hm.out.rl2
  have h5:=hok2.out
  have h6:=hm.out.v64
  exact ⟨by show V<1000000;omega,by show r1<1000000;omega,by show r2<1000000;omega⟩
 have hsl:Hid (M2.length<1000000):=by have h3:=hP.out.lim;have h5:=hok2.out;show _<_;omega
 have hall:Hid (∀ b∈M2,Sm b):=good_sm hm.out.g2 (by have h3:=hP.out.lim;have h5:=hok2.out;omega)
 have HB11:=hid (below_drewN (Below.refl w11.heap.size w11) 1)
 have HP12:Hid (PI w11.drew base g P M2 E2 v2 gi2 mb2):=HP11.out.below HB11.out
 refine still_tail 4 (by kernel_rfl) (by kernel_rfl) ?_
 simp only [List.take_succ_cons,List.take_zero,List.drop_succ_cons,List.drop_zero]
 repeat still_step
 refine wpStill_nil ?_
 go_wp2_with (go_at_call 133;refine (number_any base g 8 M2 v2 gi2 V r1 r2 _ (hid HP12.out.tb) HP12.out.bs hsm (hid hm.out.g2.nodup) hall hsl.out).mono ?_;rintro e w13 ⟨rfl,hnd⟩;have HND:=hid hnd;clear hnd)
 have hok:=hm.out.ok
 rw [hwhole.out] at hok
 have HOK:=hid hok
 obtain ⟨v3,gi3,htb3,hc13,hcell13,_⟩:=HND.out
 have HC12:=hid (HC11.out.trans (Chg.of_below (S:=fun _=>False) HB11.out) (fun _ _ h=>h.elim))
 have HC13:=hid (HC12.out.trans hc13 (fun q hq e=>by
  have hs:=HC12.out.size
  have hq2:Pv g v2 gi2 mb2 q:=by
   rcases e with e | e | e
   ·exact .inl e
   ·exact .inr (.inl e)
   ·exact .inr (.inr (.inl e))
  rcases HNW.out q hq2 with h | h
  ·exact h
  ·omega))
 have cl:=(hcell13 7 (by omega) (by omega)).trans HP12.out.li
 have cn:=htb3.cn
 obtain ⟨AA,ca,hv3,hca,_⟩:=own_rd htb3.own
 rw [hv3] at cn
 clear hv3 hca htb3 hc13 hcell13 hok ba0 ba1 ba2
 generalize hr3:(ins M2 (V,r1,r2)).2=r3 at *
 generalize hM3:(ins M2 (V,r1,r2)).1=M3 at *
 generalize hn3:M3.length=n3 at cn
 have HR3:=hid hr3
 have HM3:=hid hM3
 have HN3:=hid hn3
 clear hr3 hM3
 have hgt:decide ((P.lim:Int)<(n3:Int))=true:=decide_eq_true (by have h1:=hlow.out;omega)
 have hgt2:decide (P.lim<n3)=true:=decide_eq_true (by have h1:=hlow.out;omega)
 have b13:=below_drewN (Below.refl w13.heap.size w13)
 have HB13:=hid b13
 clear hn3 b13
 go_wp2
 go_quiet (fail)
 go_wp2
 go_ret
 unfold Out
 refine ⟨HC13.out.trans (Chg.of_below (S:=fun _=>False) (HB13.out nq)) (fun _ _ h=>h.elim),.inr ⟨?_,rfl⟩⟩
 have hl:=hlow.out
 rw [← HM3.out] at hl
 rw [hput.out,hwhole.out]
 exact hl
theorem num_fit (P:Pr) (hP:Hid P.Ok) (base g i j k x y z mb:Nat) (M:List Br) (E:Nat→Nat) (v:Value) (gi:Option Nat) (w:World) (hpi:Hid (PI w base g P M E v gi mb)) (hi:i<P.s0) (hj:j<P.s1) (hk:k<P.s2)
  (hc:Hid (code P.T (cls i) (cls j) (cls k) (decide (j=k))=2))
  (hx:Hid (zap (z0 P.T (cls i) (cls j) (cls k) (decide (j=k))) i=x)) (hy:Hid (zap (z1 P.T (cls i) (cls j) (cls k) (decide (j=k))) j=y)) (hz:Hid (zap (z2 P.T (cls i) (cls j) (cls k) (decide (j=k))) k=z))
  (hE:Hid (E (ci P.s1 P.s2 x y z)=0)) (ih:Hid (NumIH P base g (i+j+k)))
  (V L0 L1 L2 U0 U1 U2 r1 r2:Nat) (M1 M2:List Br) (hm:Hid (Miss P.T P.s0 P.s1 P.s2 P.A P.B P.C x y z V L0 L1 L2 U0 U1 U2 M M1 M2 r1 r2)) (hok1:Hid (M1.length≤P.lim)) (hok2:Hid (M2.length≤P.lim)) (hne:Hid (r1≠r2)) (hfit:Hid ((ins M2 (V,r1,r2)).1.length≤P.lim)) :
  Calls Tryz.prog 124 #[.pointer (some ⟨g,0,none⟩),.agg #[.int .i64 (i:Int),.int .i64 (j:Int),.int .i64 (k:Int)]] w (fun e w'=>Out w w' base g P i j k M v gi mb e):=by
 have lx:x<P.s0∧x≤i:=by have:=hx.out;have:=zap_le (z0 P.T (cls i) (cls j) (cls k) (decide (j=k))) i;omega
 have ly:y<P.s1∧y≤j:=by have:=hy.out;have:=zap_le (z1 P.T (cls i) (cls j) (cls k) (decide (j=k))) j;omega
 have lz:z<P.s2∧z≤k:=by have:=hz.out;have:=zap_le (z2 P.T (cls i) (cls j) (cls k) (decide (j=k))) k;omega
 have hput:Hid (put 64 (fx P.T P.A P.B P.C i j k) M=put 64 (fx P.T P.A P.B P.C x y z) M):=by
  show _=_
  rw [fx_open hP.out.tab (fun e=>by subst e;exact hP.out.same j hj hk) hc.out,hx.out,hy.out,hz.out]
 obtain ⟨p,q,u,cc,hcell⟩:=CellOf.mk_ x y z P.s1 P.s2
 obtain ⟨bp,bq,bu,bc,hlt⟩:=hcell.small lx.1 ly.1 lz.1 hP.out.b0 hP.out.b1 hP.out.b2
 have hcc:=hcell.ci
 rw [← hcc] at hE
 have HCC:=hid hcc
 have HPT:=tab_lt hP.out.tab
 have HLT:=hid hlt
 have wr1:IntKind.i64.wrap ((x:Int)*(P.s1:Int))=(p:Int):=by
  rw [← Int.natCast_mul,hcell.h1];exact wrap_small _ (by omega) (by omega)
 have wr2:IntKind.i64.wrap ((p:Int)+(y:Int))=(q:Int):=by
  rw [← Int.natCast_add,hcell.h2];exact wrap_small _ (by omega) (by omega)
 have wr3:IntKind.i64.wrap ((q:Int)*(P.s2:Int))=(u:Int):=by
  rw [← Int.natCast_mul,hcell.h3];exact wrap_small _ (by omega) (by omega)
 have wr4:IntKind.i64.wrap ((u:Int)+(z:Int))=(cc:Int):=by
  rw [← Int.natCast_add,hcell.h4];exact wrap_small _ (by omega) (by omega)
 have b1:=(Below.refl w.heap.size w).alloc (Nat.le_refl _) (.cells #[.int .i64 (i:Int),.int .i64 (j:Int),.int .i64 (k:Int)] 167)
 have hp1:=hid (hpi.out.below b1)
 have hx1:=hid (C3.new (w:=w) rfl i j k 167)
 have HB1:=hid b1
 have hl0:=hP.out.l0
 have hl1:=hP.out.l1
 have hl2:=hP.out.l2
 have hxm:x<P.m0+2:=by omega
 have hym:y<P.m1+2:=by omega
 have hzm:z<P.m2+2:=by omega
 have hs1:L0+L1+L2<i+j+k:=by have:=hm.out.ml;omega
 have hs2:U0+U1+U2<i+j+k:=by have:=hm.out.mu;omega
 have HS1:=hid hs1
 have HS2:=hid hs2
 have HXM:=hid hxm
 have HYM:=hid hym
 have HZM:=hid hzm
 clear b1 hcell hcc hlt lx ly lz hs1 hs2 hl0 hl1 hl2 hxm hym hzm bp bq bu bc
 go_enter Tryz.func124,Tryz.ntmps124
 go_wp2_with (go_at_call 130;refine (settle_open g i j k P.T x y z _ HPT hp1.out.tr (hid hp1.out.ins) hc hx hy hz).mono ?_;rintro e w2 ⟨rfl,hb2⟩;have HC2:=hid (hx1.out.below hb2);obtain ⟨xa0,xa1,xa2,xf0,xf1,xf2⟩:=HC2.out;have HB2:=hid (HB1.out.trans (hb2.mono HB1.out.size));clear hb2)
 have HC3:=hid (HC2.out.all x y z)
 have HB3:=hid (below_all HB2.out (Nat.le_refl _) (.int .i64 (x:Int)) (.int .i64 (y:Int)) (.int .i64 (z:Int)))
 clear xa0 xa1 xa2 xf0 xf1 xf2
 generalize ((w2.setCell ⟨w.heap.size,0,none⟩ (.int .i64 (x:Int))).setCell ⟨w.heap.size,1,none⟩ (.int .i64 (y:Int))).setCell ⟨w.heap.size,2,none⟩ (.int .i64 (z:Int))=W3 at *
 have HP3:=hid (hpi.out.below HB3.out)
 obtain ⟨xa0,xa1,xa2,_,_,_⟩:=HC3.out
 have ps1:=HP3.out.s1
 have ps2:=HP3.out.s2
 go_quiet (fail)
 have HB4:=hid (below_drewN HB3.out nq)
 have HP4:=hid (hpi.out.below HB4.out)
 have HC4:=hid (HC3.out.drewN nq)
 have hdt:decide (E cc≠0)=false:=by rw [hE.out];rfl
 clear wr1 wr2 wr3 wr4 xa0 xa1 xa2 ps1 ps2
 go_wp2_with (first
  | (go_at_call 131;refine (get_mm base g 10 (P.s0*P.s1*P.s2) mb cc E _ (hid HP4.out.mm) HLT.out).mono ?_;rintro e w5 ⟨⟨r,_,rfl⟩,hb5⟩;have HB5:=hid (HB4.out.trans (hb5.mono HB4.out.size));have HC5:=hid (HC4.out.below hb5);have HP5:=hid (hpi.out.below HB5.out);obtain ⟨xa0,xa1,xa2,_,_,_⟩:=HC5.out;clear hb5)
  | (go_at_call 132;refine (split_let g x y z P.m0 P.c0 P.m1 P.c1 P.m2 P.c2 V L0 L1 L2 U0 U1 U2 P.A0 P.A1 P.A2 P.A P.B P.C _ (hid (HP5.out.a0.arg HP5.out.bs)) (hid (HP5.out.a1.arg HP5.out.bs)) (hid (HP5.out.a2.arg HP5.out.bs)) HXM.out HYM.out HZM.out hm.out.hV hm.out.l0 hm.out.l1 hm.out.l2 hm.out.u0 hm.out.u1 hm.out.u2).mono ?_;rintro e w6 ⟨rfl,hb6⟩;have HB6:=hid (HB5.out.trans (hb6.mono HB5.out.size));clear hb6 xa0 xa1 xa2))
 have HLC:=hid (lc_new w6 L0 L1 L2 U0 U1 U2 V)
 generalize (((w6.alloc (.cells #[.int .i64 (L0:Int),.int .i64 (L1:Int),.int .i64 (L2:Int)] 167)).alloc (.cells #[.int .i64 (U0:Int),.int .i64 (U1:Int),.int .i64 (U2:Int)] 167)).alloc (.cells #[.int .i64 (V:Int),.int .i64 0,.int .i64 0] 80))=w7 at *
 have HB7:=hid (HB6.out.trans (HLC.out.2.2.mono HB6.out.size))
 have HP7:=hid (hpi.out.below HB7.out)
 have HKW:=hid HB6.out.size
 have HKS:=hid HLC.out.2.1
 have HL7:=hid HLC.out.1
 clear HLC HB6 HB5 HB4 HB3 HB2 HB1
 generalize w6.heap.size=K at *
 rw [show K+1+1=K+2 from rfl]
 refine (ih.out L0 L1 L2 mb M E v gi w7 HS1.out hm.out.bl0 hm.out.bl1 hm.out.bl2 HP7.out).mono ?_
 rintro e w8 ⟨hchg,hcase⟩
 rw [hm.out.e0] at hcase
 have HCH:=hid hchg
 have HL8:=hid (HL7.out.keep hchg (fun q hq=>.inl (Nat.lt_of_lt_of_le (hpi.out.lt hq) HKW.out)))
 obtain ⟨_,_,⟨ba0,ba1,ba2,bf0,bf1,bf2⟩⟩:=HL8.out
 have HC8:=hid ((Chg.of_below HB7.out).trans hchg (fun _ _ e=>e))
 clear hchg
 have hcase2:=(hcase.resolve_right (fun h=>absurd hok1.out (Nat.not_le.2 h.1))).2
 clear hcase
 obtain ⟨rfl,E1,v1,gi1,mb1,hp8,hnew1⟩:=hcase2
 have hnp1:¬ Pv g v1 gi1 mb1 (K+2):=fun h=>by
  have h1:=HKW.out
  have h2:=HKS.out
  rcases hnew1 _ h with h3 | h3
  ·have:=hpi.out.lt h3;omega
  ·omega
 have hbK:base≤K+2:=by have h1:=hpi.out.bs;have h2:=HKW.out;omega
 have HP9:=hid (hp8.setNew hnp1 hbK 1 (.int .i64 (r1:Int)))
 have HL9:=hid (HL8.out.set1 r1)
 have HNW1:=hid hnew1
 have hne1:((r1:Int) == -2)=false:=beq_eq_false_iff_ne.2 (by omega)
 have HC9:=hid (HC8.out.setNew (q:=K+2) (by have:=HKW.out;omega) 1 (.int .i64 (r1:Int)))
 have HSZ9:Hid (w7.heap.size≤(w8.setCell ⟨K+2,1,none⟩ (.int .i64 (r1:Int))).heap.size):=by
  have:=HCH.out.size
  show _≤_
  simpa [World.setCell] using this
 obtain ⟨_,⟨ua0,ua1,ua2,_,_,_⟩,_⟩:=HL8.out
 clear hp8 hnew1 hnp1 hbK
 go_wp2_with (fail)
 generalize w8.setCell ⟨K+2,1,none⟩ (.int .i64 (r1:Int))=w9 at *
 clear ba0 ba1 ba2 bf0 bf1 bf2 ua0 ua1 ua2 hne1
 refine (ih.out U0 U1 U2 mb1 M1 E1 v1 gi1 w9 HS2.out hm.out.bu0 hm.out.bu1 hm.out.bu2 HP9.out).mono ?_
 rintro e w10 ⟨hchg,hcase⟩
 rw [hm.out.e1] at hcase
 have hfar:∀ q,Pv g v1 gi1 mb1 q→q<K∨K+2<q:=fun q hq=>by
  have h1:=HKW.out
  have h2:=HKS.out
  rcases HNW1.out _ hq with h3 | h3
  ·have:=hpi.out.lt h3;omega
  ·omega
 have hold:∀ q,q<w.heap.size→Pv g v1 gi1 mb1 q→Pv g v gi mb q:=fun q hq hp=>by
  rcases HNW1.out _ hp with h3 | h3
  ·exact h3
  ·have h1:=HKW.out
   have h2:=HKS.out
   omega
 have HL10:=hid (HL9.out.keep hchg hfar)
 have HC10:=hid (HC9.out.trans hchg hold)
 have HS10:=hid hchg.size
 obtain ⟨_,_,⟨ba0,ba1,ba2,bf0,bf1,bf2⟩⟩:=HL10.out
 have HNE1:Hid (((r1:Int) == -2)=false):=beq_eq_false_iff_ne.2 (by omega)
 clear hchg hfar hold
 have hcase2:=(hcase.resolve_right (fun h=>absurd hok2.out (Nat.not_le.2 h.1))).2
 clear hcase
 obtain ⟨rfl,E2,v2,gi2,mb2,hp10,hnew2⟩:=hcase2
 have hnew:∀ q,Pv g v2 gi2 mb2 q→(Pv g v gi mb q∨w.heap.size≤q)∧(q<K∨K+2<q):=fun q hq=>by
  have h1:=HKW.out
  have h2:=HKS.out
  have h3:=HSZ9.out
  rcases hnew2 _ hq with h4 | h4
  ·rcases HNW1.out _ h4 with h5 | h5
   ·exact ⟨.inl h5,.inl (Nat.lt_of_lt_of_le (hpi.out.lt h5) h1)⟩
   ·exact ⟨.inr (by omega),.inr (by omega)⟩
  ·exact ⟨.inr (by omega),.inr (by omega)⟩
 have hnp2:¬ Pv g v2 gi2 mb2 (K+2):=fun h=>by have:=(hnew _ h).2;omega
 have hbK:base≤K+2:=by have h1:=hpi.out.bs;have h2:=HKW.out;omega
 have HP11:=hid (hp10.setNew hnp2 hbK 2 (.int .i64 (r2:Int)))
 have HL11:=hid (HL10.out.set2 r2)
 have HNW:=hid (fun q hq=>(hnew q hq).1)
 have HC11:=hid (HC10.out.setNew (q:=K+2) (by have:=HKW.out;omega) 2 (.int .i64 (r2:Int)))
 have hne2:((r2:Int) == -2)=false:=beq_eq_false_iff_ne.2 (by omega)
 clear hp10 hnew2 hnp2 hbK hnew
 have hre:((r1:Int) == (r2:Int))=false:=beq_eq_false_iff_ne.2 (fun e=>hne.out (by omega))
 have hre2:((r1:Int) != (r2:Int))=true:=by rw [bne,hre];rfl
 go_wp2
 generalize w10.setCell ⟨K+2,2,none⟩ (.int .i64 (r2:Int))=w11 at *
 clear ba0 ba1 ba2 bf0 bf1 bf2 hre hre2 hne2
 obtain ⟨_,_,⟨ba0,ba1,ba2,_,_,_⟩⟩:=HL11.out
 have hwhole:Hid (put 64 (fx P.T P.A P.B P.C x y z) M=ins M2 (V,r1,r2)):=by
  show _=_
  rw [hm.out.whole,if_neg hne.out]
 have hsm:Hid (Sm (V,r1,r2)):=by
  have h1:=hm.out.rl1
  have h2:=hok1.out
  have h3:=hP.out.lim
  have h4:=hm.out.rl2
  have h5:=hok2.out
  have h6:=hm.out.v64
  exact ⟨by show V<1000000;omega,by show r1<1000000;omega,by show r2<1000000;omega⟩
 have hsl:Hid (M2.length<1000000):=by have h3:=hP.out.lim;have h5:=hok2.out;show _<_;omega
 have hall:Hid (∀ b∈M2,Sm b):=good_sm hm.out.g2 (by have h3:=hP.out.lim;have h5:=hok2.out;omega)
 have HB11:=hid (below_drewN (Below.refl w11.heap.size w11) 1)
 have HP12:Hid (PI w11.drew base g P M2 E2 v2 gi2 mb2):=HP11.out.below HB11.out
 refine still_tail 4 (by kernel_rfl) (by kernel_rfl) ?_
 simp only [List.take_succ_cons,List.take_zero,List.drop_succ_cons,List.drop_zero]
 repeat still_step
 refine wpStill_nil ?_
 go_wp2_with (go_at_call 133;refine (number_any base g 8 M2 v2 gi2 V r1 r2 _ (hid HP12.out.tb) HP12.out.bs hsm (hid hm.out.g2.nodup) hall hsl.out).mono ?_;rintro e w13 ⟨rfl,hnd⟩;have HND:=hid hnd;clear hnd)
 have hok:=hm.out.ok
 rw [hwhole.out] at hok
 have HOK:=hid hok
 obtain ⟨v3,gi3,htb3,hc13,hcell13,_⟩:=HND.out
 have HC12:=hid (HC11.out.trans (Chg.of_below (S:=fun _=>False) HB11.out) (fun _ _ h=>h.elim))
 have HC13:=hid (HC12.out.trans hc13 (fun q hq e=>by
  have hs:=HC12.out.size
  have hq2:Pv g v2 gi2 mb2 q:=by
   rcases e with e | e | e
   ·exact .inl e
   ·exact .inr (.inl e)
   ·exact .inr (.inr (.inl e))
  rcases HNW.out q hq2 with h | h
  ·exact h
  ·omega))
 have cl:=(hcell13 7 (by omega) (by omega)).trans HP12.out.li
 have cn:=htb3.cn
 obtain ⟨AA,ca,hv3,hca,_⟩:=own_rd htb3.own
 rw [hv3] at cn
 clear hv3 hca htb3 hc13 hcell13 hok ba0 ba1 ba2
 generalize hr3:(ins M2 (V,r1,r2)).2=r3 at *
 generalize hM3:(ins M2 (V,r1,r2)).1=M3 at *
 generalize hn3:M3.length=n3 at cn
 have HR3:=hid hr3
 have HM3:=hid hM3
 have HN3:=hid hn3
 clear hr3 hM3
 have hgt:decide ((P.lim:Int)<(n3:Int))=false:=decide_eq_false (by have h1:=hfit.out;omega)
 have hgt2:decide (P.lim<n3)=false:=decide_eq_false (by have h1:=hfit.out;omega)
 have hpre:∃ X,M3=M2++X:=by
  rw [← HM3.out]
  unfold ins
  split
  ·exact ⟨[],by simp⟩
  ·exact ⟨_,rfl⟩
 obtain ⟨v4,gi4,hp13,hnew4⟩:=HP12.out.num HND.out hpre HOK.out.good hfit.out
 have HP13:=hid hp13
 have HN4:=hid hnew4
 have b13:=below_drewN (Below.refl w13.heap.size w13)
 have HB13:=hid b13
 have HR4:Hid (r3<999999):=by
  have h1:=HOK.out.lt
  have h2:=hfit.out
  have h3:=hP.out.lim
  show _<_
  omega
 clear hn3 b13 hp13 hnew4 hpre
 go_wp2
 go_quiet (fail)
 have HP14:=hid (HP13.out.below (HB13.out nq))
 have HC14:=hid (HC13.out.trans (Chg.of_below (S:=fun _=>False) (HB13.out nq)) (fun _ _ h=>h.elim))
 clear cn cl hgt hgt2
 go_wp2_with (go_at_call 134;refine (put_mm base g 10 (P.s0*P.s1*P.s2) mb2 cc r3 E2 _ (hid HP14.out.mm) HLT.out HR4.out).mono ?_;rintro e w15 ⟨rfl,hmm,hch,hkk⟩;have HMM:=hid hmm;have HCHG:=hid hch;have HKK:=hid hkk;clear hmm hch hkk)
 go_ret
 obtain ⟨b',hmm,hb'⟩:=HMM.out
 have hmo:Mo P.T P.s0 P.s1 P.s2 P.A P.B P.C M3 (upd E2 cc (r3+1)):=by
  rw [HCC.out]
  exact HP14.out.mo.set (by have:=hy.out;have:=zap_le (z1 P.T (cls i) (cls j) (cls k) (decide (j=k))) j;omega) (by have:=hz.out;have:=zap_le (z2 P.T (cls i) (cls j) (cls k) (decide (j=k))) k;omega) HOK.out.lt HOK.out.den
 have hp15:=HP14.out.put hmm hb' HCHG.out HKK.out hmo
 have hs12:w.heap.size≤w11.heap.size:=HC11.out.size
 have hs14:=HC14.out.size
 have hres:ins M2 (V,r1,r2)=(M3,r3):=Prod.ext HM3.out HR3.out
 have hnw4:∀ q,Pv g v4 gi4 mb2 q→Pv g v gi mb q∨w.heap.size≤q:=fun q hq=>by
  rcases HN4.out q hq with h | h
  ·exact HNW.out q h
  ·have h':w11.heap.size≤q:=h
   exact .inr (by omega)
 unfold Out
 rw [hput.out,hwhole.out,hres]
 refine ⟨HC14.out.trans HCHG.out (fun q hq e=>?_),.inl ⟨hfit.out,rfl,_,v4,gi4,b',hp15,fun q hq=>?_⟩⟩
 ·have hq2:Pv g v4 gi4 mb2 q:=by
   rcases e with e | e
   ·exact .inr (.inr (.inr e))
   ·exact .inl e
  rcases hnw4 q hq2 with h | h
  ·exact h
  ·omega
 ·rcases hq with e | e | e | e
  ·exact hnw4 q (.inl e)
  ·exact hnw4 q (.inr (.inl e))
  ·exact hnw4 q (.inr (.inr (.inl e)))
  ·subst e
   rcases hb' with e | e
   ·exact hnw4 q (.inr (.inr (.inr e)))
   ·exact .inr (by omega)
theorem code_three (T a b c:Nat) (e:Bool):code T a b c e<2∨code T a b c e=2:=by
 unfold code
 split
 ·exact .inl (by omega)
 ·split
  ·exact .inl (by omega)
  ·exact .inr rfl
theorem num_all (P:Pr) (hP:P.Ok) (base g:Nat):∀ s,NumIH P base g s:=by
 intro s
 induction s with
 | zero=>intro i j k mb M E v gi w h;omega
 | succ s ih =>
   intro i j k mb M E v gi w hs hi hj hk hpi
   rcases code_three P.T (cls i) (cls j) (cls k) (decide (j=k)) with hc | hc
   ·exact num_const P hP base g i j k _ mb M E v gi w hpi hj hk rfl hc
   ·have hle0:=zap_le (z0 P.T (cls i) (cls j) (cls k) (decide (j=k))) i
    have hle1:=zap_le (z1 P.T (cls i) (cls j) (cls k) (decide (j=k))) j
    have hle2:=zap_le (z2 P.T (cls i) (cls j) (cls k) (decide (j=k))) k
    have hop:=fx_kept (i:=i) (j:=j) (k:=k) hP.tab hc
    have ih2:NumIH P base g (i+j+k):=fun i' j' k' mb' M' E' v' gi' w' h=>ih i' j' k' mb' M' E' v' gi' w' (by omega)
    by_cases hE:E (ci P.s1 P.s2 (zap (z0 P.T (cls i) (cls j) (cls k) (decide (j=k))) i) (zap (z1 P.T (cls i) (cls j) (cls k) (decide (j=k))) j) (zap (z2 P.T (cls i) (cls j) (cls k) (decide (j=k))) k))=0
    ·obtain ⟨V,L0,L1,L2,U0,U1,U2,M1,M2,r1,r2,hm⟩:=miss_of (T:=P.T) (s0:=P.s0) (s1:=P.s1) (s2:=P.s2) hpi.a0.ord hpi.a1.ord hpi.a2.ord
      (by have:=hpi.a0.len;have:=hP.l0;omega) (by have:=hpi.a1.len;have:=hP.l1;omega) (by have:=hpi.a2.len;have:=hP.l2;omega) (Nat.lt_of_le_of_lt hle0 hi) (Nat.lt_of_le_of_lt hle1 hj) (Nat.lt_of_le_of_lt hle2 hk) hpi.good hop
     by_cases h1:M1.length≤P.lim
     ·by_cases h2:M2.length≤P.lim
      ·by_cases he:r1=r2
       ·exact num_eq P hP base g i j k _ _ _ mb M E v gi w hpi hi hj hk hc rfl rfl rfl hE ih2 V L0 L1 L2 U0 U1 U2 r1 r2 M1 M2 hm h1 h2 he
       ·by_cases h3:(ins M2 (V,r1,r2)).1.length≤P.lim
        ·exact num_fit P hP base g i j k _ _ _ mb M E v gi w hpi hi hj hk hc rfl rfl rfl hE ih2 V L0 L1 L2 U0 U1 U2 r1 r2 M1 M2 hm h1 h2 he h3
        ·exact num_over P hP base g i j k _ _ _ mb M E v gi w hpi hi hj hk hc rfl rfl rfl hE ih2 V L0 L1 L2 U0 U1 U2 r1 r2 M1 M2 hm h1 h2 he (Nat.lt_of_not_le h3)
      ·exact num_high P hP base g i j k _ _ _ mb M E v gi w hpi hi hj hk hc rfl rfl rfl hE ih2 V L0 L1 L2 U0 U1 U2 r1 r2 M1 M2 hm h1 (Nat.lt_of_not_le h2)
     ·exact num_low P hP base g i j k _ _ _ mb M E v gi w hpi hi hj hk hc rfl rfl rfl hE ih2 V L0 L1 L2 U0 U1 U2 r1 r2 M1 M2 hm (Nat.lt_of_not_le h1)
    ·exact num_hit P hP base g i j k _ _ _ mb M E v gi w hpi hi hj hk hc rfl rfl rfl hE
theorem wrap64_of {n m:Int} (h:IntKind.i64.wrap n=m):wrap64 n=m:=by
 rw [← h,IntKind.wrap_i64]
 first | rfl | (unfold wrap64;rfl) | (simp [wrap64];done)
structure Ca where
 A:Nat→Option Addr
 m:Nat→Nat
 c:Nat→Nat
 r:Nat→Nat
 N:Nat→List Br
structure Ca.Ok (D:Ca) (n:Nat) (w:World):Prop where
 rd:∀ t,t<n→Rd w w.heap.size (D.A t) (up (D.N t))
 ln:∀ t,(D.N t).length=D.m t
 lm:∀ t,D.m t≤4096
 ord:∀ t,Ord (D.N t)
 rt:∀ t,D.r t<D.m t+2
 no:∀ t,n≤t→D.A t=none∧D.m t=0∧D.c t=0∧D.r t=0
def Ca.pr (D:Ca):Nat→Nat
 | 0=>1
 | k+1=>D.pr k*(D.r k+1)
def Ca.cell (D:Ca) (T lim k:Nat):Nat→Value
 | 0=>if 0<k then .slice (D.A 0) (D.m 0) (D.c 0) else .slice none 0 0
 | 1=>if 1<k then .slice (D.A 1) (D.m 1) (D.c 1) else .slice none 0 0
 | 2=>if 2<k then .slice (D.A 2) (D.m 2) (D.c 2) else .slice none 0 0
 | 3=>if 0<k then .int .i64 ((D.r 0:Int)+1) else .int .i64 1
 | 4=>if 1<k then .int .i64 ((D.r 1:Int)+1) else .int .i64 1
 | 5=>if 2<k then .int .i64 ((D.r 2:Int)+1) else .int .i64 1
 | 6=>.int .u8 (T:Int)
 | 7=>.int .i64 (lim:Int)
 | 8=>.slice none 0 0
 | 9=>.map none
 | 10=>.int .i64 0
 | 11=>.map none
 | _=>.slice none 0 0
def Ca.tup (D:Ca) (k:Nat):Nat→Value
 | 0=>if 0<k then .int .i64 (D.r 0:Int) else .int .i64 0
 | 1=>if 1<k then .int .i64 (D.r 1:Int) else .int .i64 0
 | _=>if 2<k then .int .i64 (D.r 2:Int) else .int .i64 0
def zc:Nat→Value
 | 0=>.slice none 0 0
 | _=>.int .i64 0
structure Cs (w wr:World) (H:Nat) (D:Ca) (T lim k:Nat):Prop where
 hH:w.heap.size=H
 sz:H+2<wr.heap.size
 bel:Below H w wr
 res:Blk wr H 2 zc
 pro:Blk wr (H+1) 13 (D.cell T lim k)
 tup:Blk wr (H+2) 3 (D.tup k)
theorem cell_step (D:Ca) (T lim k:Nat) (hk:k<3):∀ i,i<13→fup (fup (D.cell T lim k) k (.slice (D.A k) (D.m k) (D.c k))) (3+k) (.int .i64 ((D.r k:Int)+1)) i=D.cell T lim (k+1) i:=by
 intro i hi
 obtain rfl | rfl | rfl:k=0∨k=1∨k=2:=by omega
 all_goals
  obtain rfl | rfl | rfl | rfl | rfl | rfl | rfl | rfl | rfl | rfl | rfl | rfl | rfl:i=0∨i=1∨i=2∨i=3∨i=4∨i=5∨i=6∨i=7∨i=8∨i=9∨i=10∨i=11∨i=12:=by omega
  all_goals rfl
theorem tup_step (D:Ca) (k:Nat) (hk:k<3):∀ i,i<3→fup (D.tup k) k (.int .i64 (D.r k:Int)) i=D.tup (k+1) i:=by
 intro i hi
 obtain rfl | rfl | rfl:k=0∨k=1∨k=2:=by omega
 all_goals
  obtain rfl | rfl | rfl:i=0∨i=1∨i=2:=by omega
  all_goals rfl
theorem Cs.step {w wr:World} {H:Nat} {D:Ca} {T lim k:Nat} (h:Cs w wr H D T lim k) (hk:k<3) (o:Obj) :
  Cs w ((((wr.setCell ⟨H+1,k,none⟩ (.slice (D.A k) (D.m k) (D.c k))).setCell ⟨H+2,k,none⟩ (.int .i64 (D.r k:Int))).setCell ⟨H+1,3+k,none⟩ (.int .i64 ((D.r k:Int)+1))).alloc o) H D T lim (k+1):=by
 have hs:H+2<(((wr.setCell ⟨H+1,k,none⟩ (.slice (D.A k) (D.m k) (D.c k))).setCell ⟨H+2,k,none⟩ (.int .i64 (D.r k:Int))).setCell ⟨H+1,3+k,none⟩ (.int .i64 ((D.r k:Int)+1))).heap.size:=by
  have:=h.sz
  simpa [World.setCell] using this
 have b0:Below H w (((wr.setCell ⟨H+1,k,none⟩ (.slice (D.A k) (D.m k) (D.c k))).setCell ⟨H+2,k,none⟩ (.int .i64 (D.r k:Int))).setCell ⟨H+1,3+k,none⟩ (.int .i64 ((D.r k:Int)+1))):=((h.bel.setCell (by simp) _).setCell (by simp) _).setCell (by simp) _
 refine ⟨h.hH,Nat.lt_of_lt_of_le hs ((Below.refl _ _).alloc (Nat.le_refl _) o).size,b0.alloc (by omega) o,?_,?_,?_⟩
 ·exact (((h.res.other (by simp) _).other (by simp) _).other (by simp) _).alloc (by omega) o
 ·exact ((((h.pro.set (i:=k) (by omega) _).other (by simp) _).set (i:=3+k) (by omega) _).congr (cell_step D T lim k hk)).alloc (by omega) o
 ·exact ((((h.tup.other (by simp) _).set (i:=k) (by omega) _).other (by simp) _).congr (tup_step D k hk)).alloc (by omega) o
theorem Cs.below {w wr w':World} {H:Nat} {D:Ca} {T lim k:Nat} (h:Cs w wr H D T lim k) (hb:Below wr.heap.size wr w'):Cs w w' H D T lim k :=
 ⟨h.hH,Nat.lt_of_lt_of_le h.sz hb.size,h.bel.trans (hb.mono (by have:=h.sz;omega)),h.res.below (by omega) hb,h.pro.below (by omega) hb,h.tup.below (by omega) hb⟩
theorem Ca.Ok.pr_fin {D:Ca} {n:Nat} {w:World} (h:D.Ok n w) (hn:n≤3):D.pr n=D.pr 3:=by
 have z:=fun t ht=>(h.no t ht).2.2.2
 obtain rfl | rfl | rfl | rfl:n=0∨n=1∨n=2∨n=3:=by omega
 ·show _=D.pr 0*(D.r 0+1)*(D.r 1+1)*(D.r 2+1)
  rw [z 0 (by omega),z 1 (by omega),z 2 (by omega)];simp
 ·show _=D.pr 1*(D.r 1+1)*(D.r 2+1)
  rw [z 1 (by omega),z 2 (by omega)];simp
 ·show _=D.pr 2*(D.r 2+1)
  rw [z 2 (by omega)];simp
 ·rfl
theorem Cs.fin {w wr:World} {H:Nat} {D:Ca} {T lim n:Nat} (h:Cs w wr H D T lim n) (hD:D.Ok n w) (hn:n≤3):Cs w wr H D T lim 3:=by
 have z0:=hD.no 0
 have z1:=hD.no 1
 have z2:=hD.no 2
 refine ⟨h.hH,h.sz,h.bel,h.res,h.pro.congr (fun i hi=>?_),h.tup.congr (fun i hi=>?_)⟩
 ·obtain rfl | rfl | rfl | rfl:n=0∨n=1∨n=2∨n=3:=by omega
  all_goals
   obtain rfl | rfl | rfl | rfl | rfl | rfl | rfl | rfl | rfl | rfl | rfl | rfl | rfl:i=0∨i=1∨i=2∨i=3∨i=4∨i=5∨i=6∨i=7∨i=8∨i=9∨i=10∨i=11∨i=12:=by omega
   all_goals first | rfl | (simp [Ca.cell];done) | (simp [Ca.cell,z0,z1,z2])
 ·obtain rfl | rfl | rfl | rfl:n=0∨n=1∨n=2∨n=3:=by omega
  all_goals
   obtain rfl | rfl | rfl:i=0∨i=1∨i=2:=by omega
   all_goals first | rfl | (simp [Ca.tup];done) | (simp [Ca.tup,z0,z1,z2])
def Ca.prod (D:Ca) (T lim:Nat):Pr:=⟨D.A 0,D.A 1,D.A 2,D.m 0,D.m 1,D.m 2,D.c 0,D.c 1,D.c 2,D.N 0,D.N 1,D.N 2,D.r 0+1,D.r 1+1,D.r 2+1,T,lim⟩
theorem pr_three (D:Ca):D.pr 3=(D.r 0+1)*(D.r 1+1)*(D.r 2+1):=by
 show 1*(D.r 0+1)*(D.r 1+1)*(D.r 2+1)=_
 rw [Nat.one_mul]
def NMem (w':World) (n L:Nat) (mv lv:Value):Prop:=(mv=.map none∧lv=.slice (some ⟨L,0,none⟩) n n∧Ck w' L (List.replicate n 0))∨(mv=.map (some L)∧lv=.slice none 0 0∧w'.ownsMap Tryz.prog 3 (plainElem (H:=Unit) Tryz.prog 21) L 0 (.map []))
theorem pi_init {w w4:World} {H L T lim n:Nat} {D:Ca} {mv lv:Value} (h:Cs w w4 H D T lim 3) (hD:D.Ok n w)
  (hnm:NMem w4 (D.pr 3) L mv lv) (hpr:D.pr 3≤1000000000000) (hL:H+2<L) (hin:Ins w 0) :
  PI (((w4.setCell ⟨H+1,10,none⟩ (.int .i64 ((D.pr 3:Nat):Int))).setCell ⟨H+1,11,none⟩ mv).setCell ⟨H+1,12,none⟩ lv) H (H+1) (D.prod T lim) [] (fun _=>0) (.slice none 0 0) none L:=by
 have hblk:=((h.pro.set (i:=10) (by omega) (.int .i64 ((D.pr 3:Nat):Int))).set (i:=11) (by omega) mv).set (i:=12) (by omega) lv
 have hbel:Below H w (((w4.setCell ⟨H+1,10,none⟩ (.int .i64 ((D.pr 3:Nat):Int))).setCell ⟨H+1,11,none⟩ mv).setCell ⟨H+1,12,none⟩ lv):=((h.bel.setCell (by simp) _).setCell (by simp) _).setCell (by simp) _
 have hkL:(((w4.setCell ⟨H+1,10,none⟩ (.int .i64 ((D.pr 3:Nat):Int))).setCell ⟨H+1,11,none⟩ mv).setCell ⟨H+1,12,none⟩ lv).heap[L]? = w4.heap[L]?:=by
  rw [Below.heap_setCell _ _ _ _ (by simp;omega),Below.heap_setCell _ _ _ _ (by simp;omega),Below.heap_setCell _ _ _ _ (by simp;omega)]
 have hsz:H+2<(((w4.setCell ⟨H+1,10,none⟩ (.int .i64 ((D.pr 3:Nat):Int))).setCell ⟨H+1,11,none⟩ mv).setCell ⟨H+1,12,none⟩ lv).heap.size:=by
  have:=h.sz
  simpa [World.setCell] using this
 generalize ((w4.setCell ⟨H+1,10,none⟩ (.int .i64 ((D.pr 3:Nat):Int))).setCell ⟨H+1,11,none⟩ mv).setCell ⟨H+1,12,none⟩ lv=W at *
 have hH:=h.hH
 have rd:∀ t,Rd W H (D.A t) (up (D.N t)):=fun t=>by
  by_cases ht:t<n
  ·have:=hD.rd t ht
   rw [hH] at this
   exact this.below hbel
  ·have h0:=(hD.no t (by omega)).2.1
   have h1:=hD.ln t
   rw [h0] at h1
   rw [List.eq_nil_of_length_eq_zero h1]
   exact Rd.nil
 have hins:Ins W 0:=by
  have:=hin.below (w':=W) (by rw [hH];exact hbel)
  exact this
 have h0H:0<H:=by rw [← hH];exact block_lt_of_cell hin.c0
 have c:=fun i hi=>(hblk i hi).1
 have hmm:Mm W H (H+1) 10 (D.pr 3) L (fun _=>0):=by
  refine ⟨hpr,?_⟩
  rcases hnm with ⟨e1,e2,hck⟩ | ⟨e1,e2,es,clock,hh,hr⟩
  ·have k10:W.cell? ⟨H+1,10,none⟩=some (.int .i64 ((D.pr 3:Nat):Int)):=c 10 (by omega)
   have k12:W.cell? ⟨H+1,12,none⟩=some lv:=c 12 (by omega)
   rw [e2] at k12
   refine .inl ⟨List.replicate (D.pr 3) 0,⟨k10,k12,hkL.trans hck,by rw [List.length_replicate],fun e he=>by rw [(List.mem_replicate.1 he).2];omega,by omega,by omega⟩,fun j _=>?_⟩
   rw [List.getD_eq_getElem?_getD,List.getElem?_replicate]
   split <;> rfl
  ·have k10:W.cell? ⟨H+1,10,none⟩=some (.int .i64 ((D.pr 3:Nat):Int)):=c 10 (by omega)
   have k11:W.cell? ⟨H+1,11,none⟩=some mv:=c 11 (by omega)
   have k12:W.cell? ⟨H+1,12,none⟩=some lv:=c 12 (by omega)
   rw [e1] at k11
   rw [e2] at k12
   refine .inr ⟨.map [],⟨k10,k11,k12,(hblk 11 (by omega)).2,(hblk 12 (by omega)).2,⟨es,clock,hkL.trans hh,hr⟩,⟨fun j _=>?_,fun j _ hne=>absurd rfl hne,fun kl hk=>?_,fun j _=>by omega⟩,by omega,by omega⟩⟩
   ·simp [Maps.has_eq]
   ·simp [Maps.has_eq] at hk
 exact { a0:=⟨c 0 (by omega),rd 0,hD.ln 0,by have:=hD.lm 0;show D.m 0≤_;omega,hD.ord 0⟩
         a1:=⟨c 1 (by omega),rd 1,hD.ln 1,by have:=hD.lm 1;show D.m 1≤_;omega,hD.ord 1⟩
         a2:=⟨c 2 (by omega),rd 2,hD.ln 2,by have:=hD.lm 2;show D.m 2≤_;omega,hD.ord 2⟩
         s0:=c 3 (by omega),s1:=c 4 (by omega),s2:=c 5 (by omega),tr:=c 6 (by omega),li:=c 7 (by omega)
         tb:=⟨c 8 (by omega),c 9 (by omega),(hblk 8 (by omega)).2,(hblk 9 (by omega)).2,⟨rfl,.inl ⟨rfl,rfl⟩⟩,by simp,by simp [Value.ownBlock],by omega⟩
         mm:=by rw [show (D.prod T lim).s0*(D.prod T lim).s1*(D.prod T lim).s2=D.pr 3 from (pr_three D).symm];exact hmm
         ins:=hins,b0:=h0H,bs:=by omega,d1:=by simp [Value.ownBlock],d2:=by simp,good:=good_nil,mo:=fun i j k _ _ _ hne=>absurd rfl hne,len:=Nat.zero_le _ }
theorem Ca.Ok.prod {D:Ca} {n T lim:Nat} {w:World} (hD:D.Ok n w) (hT:T∈tabs) (hl:lim≤4096) (hsame:∀ x,x<D.r 1+1→x<D.r 2+1→Den (D.N 1) x=Den (D.N 2) x):(D.prod T lim).Ok :=
 ⟨hT,hsame,by have:=hD.rt 0;show D.r 0+1≤D.m 0+2;omega,by have:=hD.rt 1;show D.r 1+1≤D.m 1+2;omega,by have:=hD.rt 2;show D.r 2+1≤D.m 2+2;omega,
  by have:=hD.rt 0;have:=hD.lm 0;show D.r 0+1≤5000;omega,by have:=hD.rt 1;have:=hD.lm 1;show D.r 1+1≤5000;omega,by have:=hD.rt 2;have:=hD.lm 2;show D.r 2+1≤5000;omega,hl⟩
def Fr (A:Option Addr) (B:Nat):Prop:=∀ b o,A=some ⟨b,o,none⟩→B≤b
theorem Fr.mono {A:Option Addr} {B B':Nat} (h:Fr A B) (hb:B'≤B):Fr A B':=fun b o e=>Nat.le_trans hb (h b o e)
theorem Rd.keepA {w w':World} {B:Nat} {A:Option Addr} {l:List Bi} (h:Rd w B A l) (hk:∀ b o,A=some ⟨b,o,none⟩→w'.heap[b]? = w.heap[b]?):Rd w' B A l:=fun h0=>by
 obtain ⟨b,o,e,hb,hc⟩:=h h0
 refine ⟨b,o,e,hb,fun j hj=>?_⟩
 obtain ⟨h1,h2,h3⟩:=hc j hj
 have hk':=hk b o e
 exact ⟨(World.cell?_of_block (w:=w) hk').trans h1,(World.cell?_of_block (w:=w) hk').trans h2,(World.cell?_of_block (w:=w) hk').trans h3⟩
theorem Rd.setF {w:World} {B H n:Nat} {A:Option Addr} {l:List Bi} (h:Rd w B A l) (hf:Fr A (H+1)) (v:Value):Rd (w.setCell ⟨H,n,none⟩ v) B A l :=
 h.keepA (fun b o e=>Below.heap_setCell _ _ _ _ (by have:=hf b o e;show b≠H;omega))
def CombOk (w w':World) (M:List Br) (r:Nat) (e:Ending):Prop:=(∃ A c,e=.returned (.tuple #[.agg #[.slice A M.length c,.int .i64 (r:Int)],.bool true])∧M.length≤c∧Rd w' w'.heap.size A (up M)∧Fr A w.heap.size)∧Below w.heap.size w w'
theorem combine_ok (b cp lim f T n:Nat) (D:Ca) (w:World) (hn:n≤3) (hb:b<w.heap.size) (hT:Hid (T<256)) (hTt:Hid (T∈tabs)) (hlim:lim≤4096) (hin:Hid (Ins w 0)) (hsame:Hid (∀ x,x<D.r 1+1→x<D.r 2+1→Den (D.N 1) x=Den (D.N 2) x))
  (M:List Br) (r:Nat) (hres:Hid (put 64 (fx T (D.N 0) (D.N 1) (D.N 2) (D.r 0) (D.r 1) (D.r 2)) []=(M,r))) (hlen:Hid (M.length≤lim)) (hf:Hid (Op3 f T)) (hD:Hid (D.Ok n w)) (hargs:Hid (∀ t,t<n→w.cell? ⟨b,2*t,none⟩=some (.slice (D.A t) (D.m t) (D.c t))∧w.cell? ⟨b,2*t+1,none⟩=some (.int .i64 (D.r t:Int)))) (hprod:Hid (∀ k,k≤3→D.pr k≤1000000000000)) :
  Calls Tryz.prog 112 #[.int .i64 (lim:Int),.func (.func f) #[] #[],.slice (some ⟨b,0,none⟩) n cp] w (fun e w'=>CombOk w w' M r e):=by
 have hw0:Hid (Cs w (((w.alloc (.cells #[.slice none 0 0,.int .i64 0] 31)).alloc (.cells #[.slice none 0 0,.slice none 0 0,.slice none 0 0,.int .i64 1,.int .i64 1,.int .i64 1,.int .u8 (T:Int),.int .i64 (lim:Int),.slice none 0 0,.map none,.int .i64 0,.map none,.slice none 0 0] 166)).alloc (.cells #[.int .i64 0,.int .i64 0,.int .i64 0] 167)) w.heap.size D T lim 0):=by
  refine ⟨rfl,by simp,(((Below.refl _ _).alloc (Nat.le_refl _) _).alloc (by simp) _).alloc (by simp;omega) _,?_,?_,?_⟩
  ·exact (((Blk.new (w:=w) rfl [.slice none 0 0,.int .i64 0] _).alloc (by simp) _).alloc (by simp) _).congr (fun i hi=>by
    obtain rfl | rfl:i=0∨i=1:=by simp at hi;omega
    all_goals rfl)
  ·exact ((Blk.new (w:=w.alloc _) (by simp) [.slice none 0 0,.slice none 0 0,.slice none 0 0,.int .i64 1,.int .i64 1,.int .i64 1,.int .u8 (T:Int),.int .i64 (lim:Int),.slice none 0 0,.map none,.int .i64 0,.map none,.slice none 0 0] _).alloc (by simp) _).congr (fun i hi=>by
    obtain rfl | rfl | rfl | rfl | rfl | rfl | rfl | rfl | rfl | rfl | rfl | rfl | rfl:i=0∨i=1∨i=2∨i=3∨i=4∨i=5∨i=6∨i=7∨i=8∨i=9∨i=10∨i=11∨i=12:=by simp at hi;omega
    all_goals rfl)
  ·exact (Blk.new (w:=(w.alloc _).alloc _) (by simp) [.int .i64 0,.int .i64 0,.int .i64 0] _).congr (fun i hi=>by
    obtain rfl | rfl | rfl:i=0∨i=1∨i=2:=by simp at hi;omega
    all_goals rfl)
 go_enter Tryz.func112,Tryz.ntmps112
 go_wp2_with (go_at_call 122;refine (truth_any f T hT hf _).mono ?_;rintro e w2 ⟨rfl,rfl⟩)
 generalize (((w.alloc (.cells #[.slice none 0 0,.int .i64 0] 31)).alloc (.cells #[.slice none 0 0,.slice none 0 0,.slice none 0 0,.int .i64 1,.int .i64 1,.int .i64 1,.int .u8 (T:Int),.int .i64 (lim:Int),.slice none 0 0,.map none,.int .i64 0,.map none,.slice none 0 0] 166)).alloc (.cells #[.int .i64 0,.int .i64 0,.int .i64 0] 167))=w3 at *
 generalize hHH:w.heap.size=H at *
 rw [show H+1+1=H+2 from rfl]
 go_loopw [10,22] (fun s i wr=>∃ k:Nat,k≤n∧i=.int .i64 (k:Int)∧s=.int .i64 ((D.pr k:Nat):Int)∧Hid (Cs w wr H D T lim k)) (fun _ i _=>n - (intOf i).toNat)
 case atStart=>exact ⟨0,Nat.zero_le _,rfl,rfl,hw0.out⟩
 case round =>
  obtain ⟨k,hk,rfl,rfl,hst⟩:=hrel
  by_cases hlt:k<n
  ·rcases k with _ | _ | _ | k
   ·have ha:=hargs.out 0 hlt
    have a0:=(hst.out.bel.cell (p:=⟨b,0,none⟩) hb).trans ha.1
    have a1:=(hst.out.bel.cell (p:=⟨b,1,none⟩) hb).trans ha.2
    obtain ⟨p0,f0⟩:=hst.out.pro 0 (by omega)
    obtain ⟨p1,f1⟩:=hst.out.pro 3 (by omega)
    obtain ⟨p2,f2⟩:=hst.out.tup 0 (by omega)
    have sz:=hst.out.sz
    have hbH:b<H:=hb
    have hbw:¬ b=wr.heap.size:=by omega
    have hbw2:b<wr.heap.size:=by omega
    have s1:¬ H+1=wr.heap.size:=by omega
    have s2:¬ H+2=wr.heap.size:=by omega
    have s3:H+1<wr.heap.size:=by omega
    have hr:=hD.out.rt 0
    have hlm:=hD.out.lm 0
    have hpr:=hprod.out 0 (by omega)
    have hw1:IntKind.i64.wrap (((D.pr 0:Nat):Int)*((D.r 0:Int)+1))=((D.pr 1:Nat):Int):=by
     have e:((D.pr 0:Nat):Int)*((D.r 0:Int)+1)=((D.pr 1:Nat):Int):=by
      show _=((D.pr 0*(D.r 0+1):Nat):Int)
      push_cast
      rfl
     rw [e]
     exact wrap_small _ (by omega) (by have:=hprod.out 1 (by omega);omega)
    have HW1:=hid (wrap64_of hw1)
    have i1:(0:Int)<(n:Int):=by omega
    have HN:=hid (hst.out.step (by omega) (.cells #[.slice (D.A 0) (D.m 0) (D.c 0),.int .i64 (D.r 0:Int)] 31))
    clear hpr ha hw1
    generalize hp:D.pr 0=p at *
    clear hp
    generalize D.r 0=rr at *
    generalize D.A 0=AA at *
    generalize D.m 0=mm at *
    generalize D.c 0=cc at *
    go_wp2
    go_roundw
    case rel=>exact ⟨1,by omega,by go_num,by rw [HW1.out],HN.out⟩
    case measure=>simp [intOf];omega
   ·have ha:=hargs.out 1 hlt
    have a0:=(hst.out.bel.cell (p:=⟨b,2,none⟩) hb).trans ha.1
    have a1:=(hst.out.bel.cell (p:=⟨b,3,none⟩) hb).trans ha.2
    obtain ⟨p0,f0⟩:=hst.out.pro 1 (by omega)
    obtain ⟨p1,f1⟩:=hst.out.pro 4 (by omega)
    obtain ⟨p2,f2⟩:=hst.out.tup 1 (by omega)
    have sz:=hst.out.sz
    have hbH:b<H:=hb
    have hbw:¬ b=wr.heap.size:=by omega
    have hbw2:b<wr.heap.size:=by omega
    have s1:¬ H+1=wr.heap.size:=by omega
    have s2:¬ H+2=wr.heap.size:=by omega
    have s3:H+1<wr.heap.size:=by omega
    have hr:=hD.out.rt 1
    have hlm:=hD.out.lm 1
    have hpr:=hprod.out 1 (by omega)
    have hw1:IntKind.i64.wrap (((D.pr 1:Nat):Int)*((D.r 1:Int)+1))=((D.pr 2:Nat):Int):=by
     have e:((D.pr 1:Nat):Int)*((D.r 1:Int)+1)=((D.pr 2:Nat):Int):=by
      show _=((D.pr 1*(D.r 1+1):Nat):Int)
      push_cast
      rfl
     rw [e]
     exact wrap_small _ (by omega) (by have:=hprod.out 2 (by omega);omega)
    have HW1:=hid (wrap64_of hw1)
    have i1:(1:Int)<(n:Int):=by omega
    have HN:=hid (hst.out.step (by omega) (.cells #[.slice (D.A 1) (D.m 1) (D.c 1),.int .i64 (D.r 1:Int)] 31))
    clear hpr ha hw1
    generalize hp:D.pr 1=p at *
    clear hp
    generalize D.r 1=rr at *
    generalize D.A 1=AA at *
    generalize D.m 1=mm at *
    generalize D.c 1=cc at *
    go_wp2
    go_roundw
    case rel=>exact ⟨2,by omega,by go_num,by rw [HW1.out],HN.out⟩
    case measure=>simp [intOf];omega
   ·have ha:=hargs.out 2 hlt
    have a0:=(hst.out.bel.cell (p:=⟨b,4,none⟩) hb).trans ha.1
    have a1:=(hst.out.bel.cell (p:=⟨b,5,none⟩) hb).trans ha.2
    obtain ⟨p0,f0⟩:=hst.out.pro 2 (by omega)
    obtain ⟨p1,f1⟩:=hst.out.pro 5 (by omega)
    obtain ⟨p2,f2⟩:=hst.out.tup 2 (by omega)
    have sz:=hst.out.sz
    have hbH:b<H:=hb
    have hbw:¬ b=wr.heap.size:=by omega
    have hbw2:b<wr.heap.size:=by omega
    have s1:¬ H+1=wr.heap.size:=by omega
    have s2:¬ H+2=wr.heap.size:=by omega
    have s3:H+1<wr.heap.size:=by omega
    have hr:=hD.out.rt 2
    have hlm:=hD.out.lm 2
    have hpr:=hprod.out 2 (by omega)
    have hw1:IntKind.i64.wrap (((D.pr 2:Nat):Int)*((D.r 2:Int)+1))=((D.pr 3:Nat):Int):=by
     have e:((D.pr 2:Nat):Int)*((D.r 2:Int)+1)=((D.pr 3:Nat):Int):=by
      show _=((D.pr 2*(D.r 2+1):Nat):Int)
      push_cast
      rfl
     rw [e]
     exact wrap_small _ (by omega) (by have:=hprod.out 3 (by omega);omega)
    have HW1:=hid (wrap64_of hw1)
    have i1:(2:Int)<(n:Int):=by omega
    have HN:=hid (hst.out.step (by omega) (.cells #[.slice (D.A 2) (D.m 2) (D.c 2),.int .i64 (D.r 2:Int)] 31))
    clear hpr ha hw1
    generalize hp:D.pr 2=p at *
    clear hp
    generalize D.r 2=rr at *
    generalize D.A 2=AA at *
    generalize D.m 2=mm at *
    generalize D.c 2=cc at *
    go_wp2
    go_roundw
    case rel=>exact ⟨3,by omega,by go_num,by rw [HW1.out],HN.out⟩
    case measure=>simp [intOf];omega
   ·omega
  ·obtain rfl:k=n:=by omega
   have HP3:Hid (D.pr k=D.pr 3):=hD.out.pr_fin hn
   have hst3:=hid (hst.out.fin hD.out hn)
   have h43:=hprod.out 3 (Nat.le_refl _)
   clear hst hlt
   rw [HP3.out]
   generalize hpp:D.pr 3=pp at *
   have HPP:=hid hpp
   have g10:=hst3.out.pro 10 (by omega)
   have g11:=hst3.out.pro 11 (by omega)
   have g12:=hst3.out.pro 12 (by omega)
   have hszr:=hst3.out.sz
   go_wp2_with fail
   refine (new_any pp _ h43).mono ?_
   rintro e w4 ⟨⟨L,mv,lv,rfl,hL,hnm⟩,hb4⟩
   have HST4:=hid (hst3.out.below hb4)
   obtain ⟨p10,f10⟩:=HST4.out.pro 10 (by omega)
   obtain ⟨p11,f11⟩:=HST4.out.pro 11 (by omega)
   obtain ⟨p12,f12⟩:=HST4.out.pro 12 (by omega)
   obtain ⟨q0,_⟩:=HST4.out.tup 0 (by omega)
   obtain ⟨q1,_⟩:=HST4.out.tup 1 (by omega)
   obtain ⟨q2,_⟩:=HST4.out.tup 2 (by omega)
   have HB4:=hid hb4
   have HNM:Hid (NMem w4 pp L mv lv):=hid hnm
   have HL4:=hid hL
   clear hb4 hL
   rcases hnm with ⟨e1,e2,_⟩ | ⟨e1,e2,_⟩
   ·subst e1
    subst e2
    go_wp2_with fail
    have HPI:=hid (pi_init HST4.out hD.out (by rw [hpp];exact HNM.out) (by rw [hpp];exact h43) (by have:=HL4.out;omega) (by exact hin.out))
    rw [HPP.out] at HPI
    have HB9:Hid (Below H w (((w4.setCell ⟨H+1,10,none⟩ (.int .i64 (pp:Int))).setCell ⟨H+1,11,none⟩ (.map none)).setCell ⟨H+1,12,none⟩ (.slice (some ⟨L,0,none⟩) pp pp))):=((HST4.out.bel.setCell (by simp) _).setCell (by simp) _).setCell (by simp) _
    have HR9:Hid (Blk (((w4.setCell ⟨H+1,10,none⟩ (.int .i64 (pp:Int))).setCell ⟨H+1,11,none⟩ (.map none)).setCell ⟨H+1,12,none⟩ (.slice (some ⟨L,0,none⟩) pp pp)) H 2 zc):=((HST4.out.res.other (by simp) _).other (by simp) _).other (by simp) _
    clear p10 f10 p11 f11 p12 f12 g10 g11 g12
    generalize ((w4.setCell ⟨H+1,10,none⟩ (.int .i64 (pp:Int))).setCell ⟨H+1,11,none⟩ (.map none)).setCell ⟨H+1,12,none⟩ (.slice (some ⟨L,0,none⟩) pp pp)=w9 at *
    have HPO:=hD.out.prod hTt.out hlim hsame.out
    have HI:=num_all (D.prod T lim) HPO H (H+1) (D.r 0+D.r 1+D.r 2+1) (D.r 0) (D.r 1) (D.r 2) L [] (fun _=>0) (.slice none 0 0) none w9 (by omega) (Nat.lt_succ_self _) (Nat.lt_succ_self _) (Nat.lt_succ_self _) HPI.out
    refine HI.mono ?_
    rintro e w10 ⟨hchg,hcase⟩
    have hrr:put 64 (fx (D.prod T lim).T (D.prod T lim).A (D.prod T lim).B (D.prod T lim).C (D.r 0) (D.r 1) (D.r 2)) []=(M,r):=hres.out
    rw [hrr] at hcase
    have hpvH:∀ q,Pv (H+1) (.slice none 0 0) none L q→H<q:=fun q hq=>by
     have:=HL4.out
     rcases hq with e | e | e | e
     ·omega
     ·simp [Value.ownBlock] at e
     ·simp at e
     ·omega
    have HR10:=hid (HR9.out.keep (w':=w10) (hchg.block H (by have:=HR9.out.lt (by omega);exact this) (fun h=>absurd (hpvH H h) (Nat.lt_irrefl _))))
    have HST9:Hid (H<w9.heap.size):=HR9.out.lt (by omega)
    have HB10:=hid (HB9.out.trans (hchg.below (by have:=HR9.out.lt (by omega);omega) (fun q hq h=>by have:=hpvH q h;omega)))
    obtain ⟨z0c,z0f⟩:=HR10.out 0 (by omega)
    obtain ⟨z1c,z1f⟩:=HR10.out 1 (by omega)
    clear HI hrr HPI HR9 HB9
    have hcase2:=(hcase.resolve_right (fun h=>absurd hlen.out (Nat.not_le.2 h.1))).2
    clear hcase
    obtain ⟨rfl,E',v',gi',mb',hp10,hnew⟩:=hcase2
    have hvH:v'.ownBlock≠some H:=fun e=>by
     rcases hnew H (.inr (.inl e)) with h | h
     ·exact absurd (hpvH H h) (Nat.lt_irrefl _)
     ·have h2:=hchg.size
      have h3:=HR10.out.lt (by omega)
      have h4:=hszr
      have h5:=HST9.out
      omega
    have cn:=hp10.tb.cn
    have hown:=hp10.tb.own
    obtain ⟨AA,ca,hv,hca,_⟩:=own_rd hown
    subst hv
    have HFR:Hid (Fr AA w.heap.size):=fun b0 o0 e0=>by
     rw [hHH]
     rcases hown.2 with ⟨e2,_⟩ | ⟨g2,cap2,cur2,e2,h2,_⟩
     ·injection e2 with e3;rw [e3] at e0;cases e0
     ·injection e2 with e3
      rw [e3] at e0
      injection e0 with e4
      injection e4 with e5
      omega
    have HFIN:Hid (M.length≤ca∧Rd ((w10.setCell ⟨H,0,none⟩ (.slice AA M.length ca)).setCell ⟨H,1,none⟩ (.int .i64 (r:Int))) ((w10.setCell ⟨H,0,none⟩ (.slice AA M.length ca)).setCell ⟨H,1,none⟩ (.int .i64 (r:Int))).heap.size AA (up M)):=by
     have ho:=(hown.kept (grown_set w10 H 0 (.slice AA M.length ca)) (.inr hvH)).kept (grown_set _ H 1 (.int .i64 (r:Int))) (.inr hvH)
     obtain ⟨A2,c2,e2,hc2,hr2⟩:=own_rd ho
     injection e2 with e3 e4 e5
     subst e3
     subst e5
     exact ⟨hc2,hr2⟩
    have HBF:Hid (Below w.heap.size w ((w10.setCell ⟨H,0,none⟩ (.slice AA M.length ca)).setCell ⟨H,1,none⟩ (.int .i64 (r:Int)))):=by
     rw [hHH]
     exact (HB10.out.setCell (by simp) _).setCell (by simp) _
    have hne:((r:Int) == -2)=false:=beq_eq_false_iff_ne.2 (by omega)
    clear hp10 hnew hvH hown hca
    go_wp2
    refine bodyPost_ret (v:=.tuple #[.agg #[.slice AA M.length ca,.int .i64 (r:Int)],.bool true]) ?_ rfl ⟨⟨AA,ca,rfl,HFIN.out.1,HFIN.out.2,HFR.out⟩,HBF.out⟩
    rw [results_cell_tmp rfl]
    go_simp
   ·subst e1
    subst e2
    go_wp2_with fail
    have HPI:=hid (pi_init HST4.out hD.out (by rw [hpp];exact HNM.out) (by rw [hpp];exact h43) (by have:=HL4.out;omega) (by exact hin.out))
    rw [HPP.out] at HPI
    have HB9:Hid (Below H w (((w4.setCell ⟨H+1,10,none⟩ (.int .i64 (pp:Int))).setCell ⟨H+1,11,none⟩ (.map (some L))).setCell ⟨H+1,12,none⟩ (.slice none 0 0))):=((HST4.out.bel.setCell (by simp) _).setCell (by simp) _).setCell (by simp) _
    have HR9:Hid (Blk (((w4.setCell ⟨H+1,10,none⟩ (.int .i64 (pp:Int))).setCell ⟨H+1,11,none⟩ (.map (some L))).setCell ⟨H+1,12,none⟩ (.slice none 0 0)) H 2 zc):=((HST4.out.res.other (by simp) _).other (by simp) _).other (by simp) _
    clear p10 f10 p11 f11 p12 f12 g10 g11 g12
    generalize ((w4.setCell ⟨H+1,10,none⟩ (.int .i64 (pp:Int))).setCell ⟨H+1,11,none⟩ (.map (some L))).setCell ⟨H+1,12,none⟩ (.slice none 0 0)=w9 at *
    have HPO:=hD.out.prod hTt.out hlim hsame.out
    have HI:=num_all (D.prod T lim) HPO H (H+1) (D.r 0+D.r 1+D.r 2+1) (D.r 0) (D.r 1) (D.r 2) L [] (fun _=>0) (.slice none 0 0) none w9 (by omega) (Nat.lt_succ_self _) (Nat.lt_succ_self _) (Nat.lt_succ_self _) HPI.out
    refine HI.mono ?_
    rintro e w10 ⟨hchg,hcase⟩
    have hrr:put 64 (fx (D.prod T lim).T (D.prod T lim).A (D.prod T lim).B (D.prod T lim).C (D.r 0) (D.r 1) (D.r 2)) []=(M,r):=hres.out
    rw [hrr] at hcase
    have hpvH:∀ q,Pv (H+1) (.slice none 0 0) none L q→H<q:=fun q hq=>by
     have:=HL4.out
     rcases hq with e | e | e | e
     ·omega
     ·simp [Value.ownBlock] at e
     ·simp at e
     ·omega
    have HR10:=hid (HR9.out.keep (w':=w10) (hchg.block H (by have:=HR9.out.lt (by omega);exact this) (fun h=>absurd (hpvH H h) (Nat.lt_irrefl _))))
    have HST9:Hid (H<w9.heap.size):=HR9.out.lt (by omega)
    have HB10:=hid (HB9.out.trans (hchg.below (by have:=HR9.out.lt (by omega);omega) (fun q hq h=>by have:=hpvH q h;omega)))
    obtain ⟨z0c,z0f⟩:=HR10.out 0 (by omega)
    obtain ⟨z1c,z1f⟩:=HR10.out 1 (by omega)
    clear HI hrr HPI HR9 HB9
    have hcase2:=(hcase.resolve_right (fun h=>absurd hlen.out (Nat.not_le.2 h.1))).2
    clear hcase
    obtain ⟨rfl,E',v',gi',mb',hp10,hnew⟩:=hcase2
    have hvH:v'.ownBlock≠some H:=fun e=>by
     rcases hnew H (.inr (.inl e)) with h | h
     ·exact absurd (hpvH H h) (Nat.lt_irrefl _)
     ·have h2:=hchg.size
      have h3:=HR10.out.lt (by omega)
      have h4:=hszr
      have h5:=HST9.out
      omega
    have cn:=hp10.tb.cn
    have hown:=hp10.tb.own
    obtain ⟨AA,ca,hv,hca,_⟩:=own_rd hown
    subst hv
    have HFR:Hid (Fr AA w.heap.size):=fun b0 o0 e0=>by
     rw [hHH]
     rcases hown.2 with ⟨e2,_⟩ | ⟨g2,cap2,cur2,e2,h2,_⟩
     ·injection e2 with e3;rw [e3] at e0;cases e0
     ·injection e2 with e3
      rw [e3] at e0
      injection e0 with e4
      injection e4 with e5
      omega
    have HFIN:Hid (M.length≤ca∧Rd ((w10.setCell ⟨H,0,none⟩ (.slice AA M.length ca)).setCell ⟨H,1,none⟩ (.int .i64 (r:Int))) ((w10.setCell ⟨H,0,none⟩ (.slice AA M.length ca)).setCell ⟨H,1,none⟩ (.int .i64 (r:Int))).heap.size AA (up M)):=by
     have ho:=(hown.kept (grown_set w10 H 0 (.slice AA M.length ca)) (.inr hvH)).kept (grown_set _ H 1 (.int .i64 (r:Int))) (.inr hvH)
     obtain ⟨A2,c2,e2,hc2,hr2⟩:=own_rd ho
     injection e2 with e3 e4 e5
     subst e3
     subst e5
     exact ⟨hc2,hr2⟩
    have HBF:Hid (Below w.heap.size w ((w10.setCell ⟨H,0,none⟩ (.slice AA M.length ca)).setCell ⟨H,1,none⟩ (.int .i64 (r:Int)))):=by
     rw [hHH]
     exact (HB10.out.setCell (by simp) _).setCell (by simp) _
    have hne:((r:Int) == -2)=false:=beq_eq_false_iff_ne.2 (by omega)
    clear hp10 hnew hvH hown hca
    go_wp2
    refine bodyPost_ret (v:=.tuple #[.agg #[.slice AA M.length ca,.int .i64 (r:Int)],.bool true]) ?_ rfl ⟨⟨AA,ca,rfl,HFIN.out.1,HFIN.out.2,HFR.out⟩,HBF.out⟩
    rw [results_cell_tmp rfl]
    go_simp
theorem Ca.Ok.below {D:Ca} {n:Nat} {w w':World} (h:D.Ok n w) (hb:Below w.heap.size w w'):D.Ok n w':=⟨fun t ht=>((h.rd t ht).below hb).mono hb.size,h.ln,h.lm,h.ord,h.rt,h.no⟩
def CArgs (w:World) (b n:Nat) (D:Ca):Prop:=∀ t,t<n→w.cell? ⟨b,2*t,none⟩=some (.slice (D.A t) (D.m t) (D.c t))∧w.cell? ⟨b,2*t+1,none⟩=some (.int .i64 (D.r t:Int))
theorem CArgs.below {w w':World} {b n:Nat} {D:Ca} (h:CArgs w b n D) (hb:b<w.heap.size) (hbl:Below w.heap.size w w'):CArgs w' b n D:=fun t ht =>
 ⟨(hbl.cell (p:=⟨b,2*t,none⟩) hb).trans (h t ht).1,(hbl.cell (p:=⟨b,2*t+1,none⟩) hb).trans (h t ht).2⟩
def OpOk (w w':World) (M:List Br) (r:Nat) (e:Ending):Prop:=(∃ A c,e=.returned (.tuple #[.agg #[.slice A M.length c,.int .i64 (r:Int)],.int .i64 0])∧M.length≤c∧Rd w' w'.heap.size A (up M)∧Fr A w.heap.size)∧Below w.heap.size w w'
theorem fin_res {w w2:World} {H n c:Nat} {A:Option Addr} {M:List Br} {r:Int} (hH:w.heap.size=H) (hb:Below H w w2) (hr:Rd w2 w2.heap.size A (up M)) (hf:Fr A (H+1)) :
  Below w.heap.size w ((w2.setCell ⟨H,0,none⟩ (.slice A n c)).setCell ⟨H,1,none⟩ (.int .i64 r))∧Rd ((w2.setCell ⟨H,0,none⟩ (.slice A n c)).setCell ⟨H,1,none⟩ (.int .i64 r)) ((w2.setCell ⟨H,0,none⟩ (.slice A n c)).setCell ⟨H,1,none⟩ (.int .i64 r)).heap.size A (up M):=by
 subst hH
 refine ⟨(hb.setCell (by simp) _).setCell (by simp) _,?_⟩
 have h1:=(hr.setF (n:=0) hf (.slice A n c)).setF (n:=1) hf (.int .i64 r)
 simpa [World.setCell] using h1
theorem limited_ok (b cp f T n:Nat) (D:Ca) (w:World) (hn:n≤3) (hb:b<w.heap.size) (hT:Hid (T<256)) (hTt:Hid (T∈tabs)) (hin:Hid (Ins w 0)) (hsame:Hid (∀ x,x<D.r 1+1→x<D.r 2+1→Den (D.N 1) x=Den (D.N 2) x))
  (M:List Br) (r:Nat) (hres:Hid (put 64 (fx T (D.N 0) (D.N 1) (D.N 2) (D.r 0) (D.r 1) (D.r 2)) []=(M,r))) (hlen:Hid (M.length≤4096)) (hf:Hid (Op3 f T)) (hD:Hid (D.Ok n w)) (hargs:Hid (CArgs w b n D)) (hprod:Hid (∀ k,k≤3→D.pr k≤1000000000000)) :
  Calls Tryz.prog 95 #[.func (.func f) #[] #[],.slice (some ⟨b,0,none⟩) n cp] w (fun e w'=>OpOk w w' M r e):=by
 have b1:=(Below.refl w.heap.size w).alloc (Nat.le_refl _) (.cells #[.slice none 0 0,.int .i64 0] 31)
 have hb1:b<(w.alloc (.cells #[.slice none 0 0,.int .i64 0] 31)).heap.size:=by simp;omega
 have hin1:=hid (hin.out.below b1)
 have hD1:=hid (hD.out.below b1)
 have ha1:Hid (CArgs (w.alloc (.cells #[.slice none 0 0,.int .i64 0] 31)) b n D):=hargs.out.below hb b1
 have hres0:=hid (Blk.new (w:=w) rfl [.slice none 0 0,.int .i64 0] 31)
 have HB1:=hid b1
 have HLT1:=hid hb1
 clear b1 hb1
 go_enter Tryz.func95,Tryz.ntmps95
 go_wp2_with (go_at_call 112;refine (combine_ok b cp 4096 f T n D _ hn HLT1.out hT hTt (by omega) hin1 hsame M r hres hlen hf hD1 ha1 hprod).mono ?_;rintro e w2 ⟨⟨A,c,rfl,hc,hrd,hfr⟩,hb2⟩;have HRB:=hid (hres0.out.below (by simp) hb2);obtain ⟨y0,z0⟩:=HRB.out 0 (by simp);obtain ⟨y1,z1⟩:=HRB.out 1 (by simp);have HRD:=hid hrd;have HFR:=hid hfr;have HC:=hid hc;have HB2:=hid (HB1.out.trans (hb2.mono HB1.out.size));have hs2:w.heap.size<w2.heap.size:=(by have:=hb2.size;simp at this;omega);have hs3:¬ w.heap.size=w2.heap.size:=(by omega);clear hrd hfr hc hb2)
 have hfr:Fr A (w.heap.size+1):=HFR.out.mono (by simp)
 obtain ⟨q1,q2⟩:=fin_res (n:=M.length) (c:=c) (r:=(r:Int)) rfl HB2.out HRD.out hfr
 have hs4:w2.heap.size=((w2.setCell ⟨w.heap.size,0,none⟩ (.slice A M.length c)).setCell ⟨w.heap.size,1,none⟩ (.int .i64 (r:Int))).heap.size:=by simp [World.setCell]
 have b5:=(Below.refl _ ((w2.setCell ⟨w.heap.size,0,none⟩ (.slice A M.length c)).setCell ⟨w.heap.size,1,none⟩ (.int .i64 (r:Int)))).alloc (Nat.le_refl _) (.cells #[.slice A M.length c,.int .i64 (r:Int)] 31)
 have hbk:=((HRB.out.set (i:=0) (by simp) (.slice A M.length c)).set (i:=1) (by simp) (.int .i64 (r:Int))).alloc (by simp) (.cells #[.slice A M.length c,.int .i64 (r:Int)] 31)
 have HQ:=hid ((q2.below b5).mono b5.size)
 have HQ1:=hid (q1.trans (b5.mono (by rw [← hs4];omega)))
 have HFF:=hid (hfr.mono (show w.heap.size≤w.heap.size+1 by omega))
 clear q1 q2 hs4 b5 y0 z0 y1 z1 hfr
 generalize ((w2.setCell ⟨w.heap.size,0,none⟩ (.slice A M.length c)).setCell ⟨w.heap.size,1,none⟩ (.int .i64 (r:Int))).alloc (.cells #[.slice A M.length c,.int .i64 (r:Int)] 31)=wf at *
 have y0:wf.cell? ⟨w.heap.size,0,none⟩=some (.slice A M.length c):=(hbk 0 (by simp)).1
 have y1:wf.cell? ⟨w.heap.size,1,none⟩=some (.int .i64 (r:Int)):=(hbk 1 (by simp)).1
 clear hbk
 refine bodyPost_ret (v:=.tuple #[.agg #[.slice A M.length c,.int .i64 (r:Int)],.int .i64 0]) ?_ rfl ⟨⟨A,c,rfl,HC.out,HQ.out,HFF.out⟩,HQ1.out⟩
 rw [results_cell_tmp rfl]
 go_simp
theorem checked_ok (b cp f T n:Nat) (D:Ca) (ds:List DA) (w:World) (hn:n≤3) (hb:b<w.heap.size) (hT:Hid (T<256)) (hTt:Hid (T∈tabs)) (hin:Hid (Ins w 0)) (hsame:Hid (∀ x,x<D.r 1+1→x<D.r 2+1→Den (D.N 1) x=Den (D.N 2) x))
  (M:List Br) (r:Nat) (hres:Hid (put 64 (fx T (D.N 0) (D.N 1) (D.N 2) (D.r 0) (D.r 1) (D.r 2)) []=(M,r))) (hlen:Hid (M.length≤4096)) (hf:Hid (Op3 f T)) (hD:Hid (D.Ok n w)) (hargs:Hid (CArgs w b n D)) (hprod:Hid (∀ k,k≤3→D.pr k≤1000000000000))
  (hds:Hid (ds.length=n)) (hdo:Hid (∀ d∈ds,DOk w d)) (hdc:Hid (∀ k (hk:k<ds.length),w.cell? ⟨b,k*2,none⟩=some (.slice ds[k].A ds[k].m ds[k].c)∧w.cell? ⟨b,k*2+1,none⟩=some (.int .i64 ds[k].r))) (hck:Hid (chkAll ds=0)) :
  Calls Tryz.prog 54 #[.func (.func f) #[] #[],.slice (some ⟨b,0,none⟩) n cp] w (fun e w'=>OpOk w w' M r e):=by
 have b1:=(Below.refl w.heap.size w).alloc (Nat.le_refl _) (.cells #[.slice none 0 0,.int .i64 0] 31)
 have hb1:b<(w.alloc (.cells #[.slice none 0 0,.int .i64 0] 31)).heap.size:=by simp;omega
 have hdo1:Hid (∀ d∈ds,DOk (w.alloc (.cells #[.slice none 0 0,.int .i64 0] 31)) d):=fun d hd=>(hdo.out d hd).below b1
 have hdc1:Hid (∀ k (hk:k<ds.length),(w.alloc (.cells #[.slice none 0 0,.int .i64 0] 31)).cell? ⟨b,k*2,none⟩=some (.slice ds[k].A ds[k].m ds[k].c)∧(w.alloc (.cells #[.slice none 0 0,.int .i64 0] 31)).cell? ⟨b,k*2+1,none⟩=some (.int .i64 ds[k].r)) :=
  fun k hk=>⟨(b1.cell (p:=⟨b,k*2,none⟩) hb).trans (hdc.out k hk).1,(b1.cell (p:=⟨b,k*2+1,none⟩) hb).trans (hdc.out k hk).2⟩
 have hres0:=hid (Blk.new (w:=w) rfl [.slice none 0 0,.int .i64 0] 31)
 have HB1:=hid b1
 have HLT1:=hid hb1
 have hn2:n≤1000:=by omega
 clear b1 hb1
 go_enter Tryz.func54,Tryz.ntmps54
 go_wp2_with (first
  | (go_at_call 94;refine (checkAll_any b n cp ds _ hds hn2 HLT1.out hdo1 hdc1).mono ?_;rintro e w2 ⟨rfl,hb2⟩;have hck0:=hck.out;rw [hck0];have HB2:=hid (HB1.out.trans (hb2.mono HB1.out.size));have HRB:=hid (hres0.out.below (by simp) hb2);have hl2:w.heap.size+1≤w2.heap.size:=(by have:=hb2.size;simp at this;omega);have HL2:=hid hl2;clear hb2 hck0 hl2)
  | (go_at_call 95;refine (limited_ok b cp f T n D _ hn (by have:=HL2.out;omega) hT hTt (hid (hin.out.below HB2.out)) hsame M r hres hlen hf (hid (hD.out.below HB2.out)) (hid (hargs.out.below hb HB2.out)) hprod).mono ?_;rintro e w3 ⟨⟨A,c,rfl,hc,hrd,hfr⟩,hb3⟩;have HRB3:=hid (HRB.out.below (by simp) hb3);obtain ⟨y0,z0⟩:=HRB3.out 0 (by simp);obtain ⟨y1,z1⟩:=HRB3.out 1 (by simp);have HRD:=hid hrd;have HFR:=hid hfr;have HC:=hid hc;have HB3:=hid (HB2.out.trans (hb3.mono (by have:=HL2.out;omega)));clear hrd hfr hc hb3))
 have hfr:Fr A (w.heap.size+1):=HFR.out.mono HL2.out
 obtain ⟨q1,q2⟩:=fin_res (n:=M.length) (c:=c) (r:=(r:Int)) rfl HB3.out HRD.out hfr
 refine bodyPost_ret (v:=.tuple #[.agg #[.slice A M.length c,.int .i64 (r:Int)],.int .i64 0]) ?_ rfl ⟨⟨A,c,rfl,HC.out,q2,hfr.mono (by omega)⟩,q1⟩
 rw [results_cell_tmp rfl]
 go_simp
end Go.Proofs.YtpaednfinlaioaaGreatDoor
