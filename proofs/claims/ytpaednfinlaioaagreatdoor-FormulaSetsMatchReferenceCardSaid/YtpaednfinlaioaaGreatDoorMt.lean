/-
  Plain mathematics and contracts of package diagram, several texts in one: DLoad, DSha, DCho.
-/
import Derived.Test.YtpaednfinlaioaaGreatDoorMp
import Derived.Test.YtpaednfinlaioaaGreatDoorMe
import Derived.Test.YtpaednfinlaioaaGreatDoorMc
import Derived.Test.YtpaednfinlaioaaGreatDoorMh
import Derived.Deep.RegionHeld3
import Derived.Deep.DeepCutAuto
namespace Go.Proofs.YtpaednfinlaioaaGreatDoor
open Go.RowKit Dg St Go.Maps
def Sv (g:Nat) (v:Value) (gi:Option Nat) (k:Nat):Prop:=k=g∨v.ownBlock=some k∨gi=some k
theorem Tb.gl {w:World} {base g o:Nat} {M:List Br} {v:Value} {gi:Option Nat} (h:Tb w base g o M v gi) {k:Nat} (hk:Sv g v gi k):base≤k∧k<w.heap.size:=by
 rcases hk with e | e | e
 ·subst e;exact ⟨h.gb,block_lt_of_cell h.cn⟩
 ·exact World.ownsRow.lt h.own k e
 ·subst e
  have hi:=h.idx
  exact ⟨hi.1,hi.2.2.lt⟩
structure Lo (w wr:World) (base g H m k:Nat) (A:Option Addr) (c r:Nat) (v:Value) (gi:Option Nat) (M N N':List Br) (num:Nat→Nat) (v':Value) (gi':Option Nat):Prop where
 hH:w.heap.size=H
 chg:Chg (Sv g v gi) w wr
 tb:Tb wr base g 0 N' v' gi'
 oth:∀ j,j≠0→j≠1→wr.cell? ⟨g,j,none⟩=w.cell? ⟨g,j,none⟩
 fro:∀ j,wr.frozen? ⟨g,j,none⟩=w.frozen? ⟨g,j,none⟩
 vo:∀ k,v'.ownBlock=some k→v.ownBlock=some k∨H+2≤k
 io:∀ k,gi'=some k→gi=some k∨H+2≤k
 x:Blk wr H 2 (fun i=>[Value.slice A m c,.int .i64 (r:Int)].getD i undef)
 row:Blk wr (H+1) (m+2) (fun i=>.int .i64 ((num i:Nat):Int))
 ld:Ld M N N' num k
theorem Lo.off {w wr:World} {base g H m k:Nat} {A:Option Addr} {c r:Nat} {v:Value} {gi:Option Nat} {M N N':List Br} {num:Nat→Nat} {v':Value} {gi':Option Nat} (h:Lo w wr base g H m k A c r v gi M N N' num v' gi') (_h0:∀ q,Sv g v gi q→q<H) {q:Nat} (hq:Sv g v' gi' q):Sv g v gi q∨H+2≤q:=by
 rcases hq with e | e | e
 ·exact .inl (.inl e)
 ·rcases h.vo q e with e | e
  ·exact .inl (.inr (.inl e))
  ·exact .inr e
 ·rcases h.io q e with e | e
  ·exact .inl (.inr (.inr e))
  ·exact .inr e
theorem Lo.step {w wr w4 w5:World} {base g H m k:Nat} {A:Option Addr} {c r:Nat} {v:Value} {gi:Option Nat} {M N N' N2:List Br} {num:Nat→Nat} {v':Value} {gi':Option Nat} {q:Nat} (h:Lo w wr base g H m k A c r v gi M N N' num v' gi') (h0:∀ q,Sv g v gi q→q<H)
  (hb:Below wr.heap.size wr w4) (hn:Numd w4 w5 base g 0 v' gi' N2) (hl:Ld M N N2 (nup num (k+2) q) (k+1)) (hk:k<m) :
  ∃ v2 gi2,Lo w (w5.setCell ⟨H+1,k+2,none⟩ (.int .i64 (q:Int))) base g H m (k+1) A c r v gi M N N2 (nup num (k+2) q) v2 gi2:=by
 obtain ⟨v2,gi2,htb,hc,ho,hf,hv,hi⟩:=hn
 have hgl:=h0 g (.inl rfl)
 have hs1:=h.row.lt (by omega)
 have hsz:=hb.size
 have hs5:=hc.size
 have hx4:=h.x.below (by omega) hb
 have hr4:=h.row.below (by omega) hb
 have hno:∀ j,j=H∨j=H+1→¬ Sv g v' gi' j:=fun j hj hs=>by
  rcases h.off h0 hs with e | e
  ·have:=h0 j e;omega
  ·omega
 have hx5:Blk w5 H 2 _:=hx4.keep (hc.block H (by omega) (hno H (.inl rfl)))
 have hr5:Blk w5 (H+1) (m+2) _:=hr4.keep (hc.block (H+1) (by omega) (hno (H+1) (.inr rfl)))
 have hoff:∀ j,Sv g v2 gi2 j→Sv g v gi j∨H+2≤j:=fun j hj=>by
  rcases hj with e | e | e
  ·exact .inl (.inl e)
  ·rcases hv j e with e | e
   ·exact h.off h0 (.inr (.inl e))
   ·exact .inr (by omega)
  ·rcases hi j e with e | e
   ·exact h.off h0 (.inr (.inr e))
   ·exact .inr (by omega)
 have hne:∀ j,Sv g v2 gi2 j→j≠H+1:=fun j hj e=>by
  rcases hoff j hj with h1 | h1
  ·have:=h0 j h1;omega
  ·omega
 have hkeep:∀ j,Sv g v2 gi2 j→(w5.setCell ⟨H+1,k+2,none⟩ (.int .i64 (q:Int))).heap[j]? = w5.heap[j]?:=fun j hj=>Below.heap_setCell _ _ _ _ (hne j hj)
 refine ⟨v2,gi2,h.hH,?_,htb.keepAt (hkeep g (.inl rfl)) (fun j e=>hkeep j (.inr (.inl e))) (fun j e=>hkeep j (.inr (.inr e))),?_,?_,?_,?_,hx5.other (by simp) _,(hr5.set (i:=k+2) (by omega) _).congr (fun i hi2=>?_),hl⟩
 ·have c1:Chg (Sv g v gi) w w4:=h.chg.trans (Chg.of_below (S:=fun _=>False) hb) (fun _ _ e=>e.elim)
  have c2:Chg (Sv g v gi) w w5:=c1.trans hc (fun j hj e=>by
   rcases h.off h0 e with e | e
   ·exact e
   ·have:=h.hH;omega)
  exact c2.trans ((Chg.refl (fun j=>j=H+1) w5).set rfl _) (fun j hj e=>by have:=h.hH;omega)
 ·intro j j0 j1
  rw [World.cell?_of_block (hkeep g (.inl rfl)),ho j j0 j1,hb.cell (p:=⟨g,j,none⟩) (by show g<_;omega)]
  exact h.oth j j0 j1
 ·intro j
  rw [World.frozen?_of_block (hkeep g (.inl rfl)),hf j,hb.frozen (p:=⟨g,j,none⟩) (by show g<_;omega)]
  exact h.fro j
 ·intro j e
  rcases hoff j (.inr (.inl e)) with _ | h1
  ·rcases hv j e with e | e
   ·exact h.vo j e
   ·exact .inr (by omega)
  ·exact .inr h1
 ·intro j e
  rcases hoff j (.inr (.inr e)) with _ | h1
  ·rcases hi j e with e | e
   ·exact h.io j e
   ·exact .inr (by omega)
  ·exact .inr h1
 ·unfold fup nup
  split
  ·rfl
  ·rfl
end Go.Proofs.YtpaednfinlaioaaGreatDoor
namespace Go.Proofs.YtpaednfinlaioaaGreatDoor
open Go.RowKit Dg St Go.Maps
attribute [local go_sem ↓] Go.wp_at_zero Go.wp_at_succ
structure Sd (w wx:World) (H m0 c0 m1 c1:Nat) (A0 A1:Option Addr) (N:List Br) (q0 q1:Nat) (v:Value) (gi:Option Nat):Prop where
 bel:Below H w wx
 sz:H+1+1+1+1<wx.heap.size
 tb:Tb wx (H+1+1+1+1) (H+1+1+1+1) 0 N v gi
 y0:B2 wx H (.slice A0 m0 c0) (.int .i64 (q0:Int))
 y1:B2 wx (H+1) (.slice A1 m1 c1) (.int .i64 (q1:Int))
 z2:B2 wx (H+1+1) (.slice none 0 0) (.int .i64 0)
 z3:B2 wx (H+1+1+1) (.slice none 0 0) (.int .i64 0)
theorem Sd.move {w wx wy:World} {H m0 c0 m1 c1:Nat} {A0 A1:Option Addr} {N N':List Br} {q0 q1:Nat} {v v':Value} {gi gi':Option Nat} (h:Sd w wx H m0 c0 m1 c1 A0 A1 N q0 q1 v gi) (hb:Below (H+1+1+1+1) wx wy) (ht:Tb wy (H+1+1+1+1) (H+1+1+1+1) 0 N' v' gi'):Sd w wy H m0 c0 m1 c1 A0 A1 N' q0 q1 v' gi' :=
 ⟨h.bel.trans (hb.mono (by omega)),Nat.lt_of_lt_of_le h.sz hb.size,ht,h.y0.keep (hb.block _ (by omega)),h.y1.keep (hb.block _ (by omega)),h.z2.keep (hb.block _ (by omega)),h.z3.keep (hb.block _ (by omega))⟩
theorem Sd.drew {w wx:World} {H m0 c0 m1 c1:Nat} {A0 A1:Option Addr} {N:List Br} {q0 q1:Nat} {v:Value} {gi:Option Nat} (h:Sd w wx H m0 c0 m1 c1 A0 A1 N q0 q1 v gi):Sd w wx.drew H m0 c0 m1 c1 A0 A1 N q0 q1 v gi :=
 h.move ((Below.refl (H+1+1+1+1) wx).drew) (h.tb.keep ((Below.refl wx.heap.size wx).drew))
theorem Tb.low {w:World} {base g o:Nat} {M:List Br} {v:Value} {gi:Option Nat} (h:Tb w base g o M v gi) {q:Nat} (hq:q<base) (j:Nat) (u:Value):Tb (w.setCell ⟨q,j,none⟩ u) base g o M v gi :=
 h.keepAt (Below.heap_setCell _ _ _ _ (by have:=(h.gl (.inl rfl)).1;show g≠q;omega)) (fun k e=>Below.heap_setCell _ _ _ _ (by have:=(h.gl (.inr (.inl e))).1;show k≠q;omega)) (fun k e=>Below.heap_setCell _ _ _ _ (by have:=(h.gl (.inr (.inr e))).1;show k≠q;omega))
structure Sn (N:List Br) (m q0 q1:Nat) (fa fb:Cfg→Bool):Prop where
 good:Dg.Good N
 len:N.length≤m
 l0:q0<N.length+2
 l1:q1<N.length+2
 d0:Den N q0=fa
 d1:Den N q1=fb
end Go.Proofs.YtpaednfinlaioaaGreatDoor
namespace Go.Proofs.YtpaednfinlaioaaGreatDoor
open Go.RowKit Dg St
attribute [local go_sem ↓] Go.wp_at_zero Go.wp_at_succ
end Go.Proofs.YtpaednfinlaioaaGreatDoor
