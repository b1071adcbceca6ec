/-
  Plain mathematics and contracts of package diagram, several texts in one: FChk, FRCk.
-/
import Derived.Test.YtpaednfinlaioaaGreatDoorFb
import Derived.Test.YtpaednfinlaioaaGreatDoorMc
import Derived.Deep.DeepCutAuto
set_option maxHeartbeats 8000000
set_option maxRecDepth 100000
namespace Go.Proofs.YtpaednfinlaioaaGreatDoor
open Go.Lib (hid)
open Go.RowKit Dg St
set_option linter.unusedVariables false
set_option linter.unusedSimpArgs false
attribute [local go_sem ↓] Go.wp_at_zero Go.wp_at_succ
instance (l:List Fi) (i:Nat):Decidable (okN l i):=by unfold okN;infer_instance
instance (l:List Fi):Decidable (okF l):=by unfold okF;infer_instance
theorem us_succ (l:List Fi) (k n:Nat):us l k (n+1)=us l k n+(if 1≤ar (fo l n)∧fa l n=(k:Int) then 1 else 0)+(if ar (fo l n)=2∧fb l n=(k:Int) then 1 else 0):=rfl
theorem dup_a {l:List Fi} {k j:Nat} (hk:k<l.length) (h1:1≤ar (fo l k)) (ha:fa l k=(j:Int)) (hj:j<k) (hu:us l j k=1):¬ okF l :=
 okF_no l (k:=j) (n:=k+1) (by omega) (by omega) (by rw [us_succ,if_pos ⟨h1,ha⟩];omega)
theorem dup_b {l:List Fi} {k j:Nat} (hk:k<l.length) (h1:ar (fo l k)=2) (hb:fb l k=(j:Int)) (hj:j<k) (hu:us l j k=1∨fa l k=(j:Int)):¬ okF l :=
 okF_no l (k:=j) (n:=k+1) (by omega) (by omega) (by
  have e1:(if ar (fo l k)=2∧fb l k=(j:Int) then 1 else 0)=1:=if_pos ⟨h1,hb⟩
  rw [us_succ,e1]
  rcases hu with hu | hu
  ·omega
  ·rw [if_pos ⟨by omega,hu⟩];omega)
theorem not_pl {l:List Fi} {k:Nat} (hk:k<l.length) (h:plN (fo l k) (fv l k) (fa l k) (fb l k)=false):¬ okF l:=okF_node l hk (fun q=>by have:=q.1;rw [h] at this;exact absurd this (by decide))
theorem not_a {l:List Fi} {k:Nat} (hk:k<l.length) (h1:1≤ar (fo l k)) (h:fa l k<0∨(k:Int)≤fa l k):¬ okF l:=okF_node l hk (fun q=>by have:=opN_a q.2 h1;omega)
theorem not_b {l:List Fi} {k:Nat} (hk:k<l.length) (h1:ar (fo l k)=2) (h:fb l k<0∨(k:Int)≤fb l k):¬ okF l:=okF_node l hk (fun q=>by have:=opN_b q.2 h1;omega)
def usd (l:List Fi) (k j:Nat):Value:=.bool (decide (us l j k=1))
structure VaI (w wr:World) (l:List Fi) (k:Nat):Prop where
 blk:Blk wr w.heap.size 512 (usd l k)
 nod:∀ i,i<k→okN l i
 use:∀ j,us l j k≤1
 bel:Below w.heap.size w wr
theorem VaI.next0 {w wr w':World} {l:List Fi} {k:Nat} (h:VaI w wr l k) (h0:ar (fo l k)=0) (hp:plN (fo l k) (fv l k) (fa l k) (fb l k)=true) (hb:Blk w' w.heap.size 512 (usd l k)) (hw:Below w.heap.size w w'):VaI w w' l (k+1):=by
 have e:∀ j,us l j (k+1)=us l j k:=fun j=>by rw [us_succ,if_neg (by omega),if_neg (by omega)];rfl
 refine ⟨hb.congr fun i _=>by unfold usd;rw [e],fun i hi=>?_,fun j=>by rw [e];exact h.use j,hw⟩
 by_cases hik:i=k
 ·subst hik
  exact ⟨hp,by simp [opN,h0]⟩
 ·exact h.nod i (by omega)
theorem VaI.next1 {w wr w':World} {l:List Fi} {k a:Nat} (h:VaI w wr l k) (h1:ar (fo l k)=1) (hp:plN (fo l k) (fv l k) (fa l k) (fb l k)=true) (ha:fa l k=(a:Int)) (hak:a<k) (hu:¬ us l a k=1) (hb:Blk w' w.heap.size 512 (fup (usd l k) a (.bool true))) (hw:Below w.heap.size w w'):VaI w w' l (k+1):=by
 have e:∀ j,us l j (k+1)=us l j k+if j=a then 1 else 0:=fun j=>by
  rw [us_succ,if_neg (show ¬ (ar (fo l k)=2∧fb l k=(j:Int)) by omega)]
  by_cases q:j=a
  ·rw [if_pos ⟨by omega,by rw [ha,q]⟩,if_pos q]
  ·rw [if_neg (by omega),if_neg q]
 have hua:=h.use a
 refine ⟨hb.congr fun i _=>?_,fun i hi=>?_,fun j=>?_,hw⟩
 ·unfold usd fup
  rw [e]
  by_cases q:i=a
  ·subst q
   rw [if_pos rfl,if_pos rfl,decide_eq_true (by omega)]
  ·rw [if_neg q,if_neg q];rfl
 ·by_cases hik:i=k
  ·subst hik
   exact ⟨hp,by simp [opN,h1,ha,hak]⟩
  ·exact h.nod i (by omega)
 ·rw [e]
  have:=h.use j
  split
  ·rename_i q;subst q;omega
  ·omega
theorem VaI.next2 {w wr w':World} {l:List Fi} {k a b:Nat} (h:VaI w wr l k) (h1:ar (fo l k)=2) (hp:plN (fo l k) (fv l k) (fa l k) (fb l k)=true) (ha:fa l k=(a:Int)) (hak:a<k) (hu:¬ us l a k=1) (hb':fb l k=(b:Int)) (hbk:b<k) (hv:¬ us l b k=1) (hab:¬ b=a)
  (hb:Blk w' w.heap.size 512 (fup (fup (usd l k) a (.bool true)) b (.bool true))) (hw:Below w.heap.size w w'):VaI w w' l (k+1):=by
 have e:∀ j,us l j (k+1)=us l j k+(if j=a then 1 else 0)+if j=b then 1 else 0:=fun j=>by
  rw [us_succ]
  congr 1
  ·congr 1
   by_cases q:j=a
   ·rw [if_pos ⟨by omega,by rw [ha,q]⟩,if_pos q]
   ·rw [if_neg (by omega),if_neg q]
  ·by_cases q:j=b
   ·rw [if_pos ⟨h1,by rw [hb',q]⟩,if_pos q]
   ·rw [if_neg (by omega),if_neg q]
 have hua:=h.use a
 have hub:=h.use b
 refine ⟨hb.congr fun i _=>?_,fun i hi=>?_,fun j=>?_,hw⟩
 ·unfold usd fup
  rw [e]
  by_cases q:i=b
  ·subst q
   rw [if_pos rfl,if_neg hab,if_pos rfl,decide_eq_true (by omega)]
  ·rw [if_neg q,if_neg q]
   by_cases q2:i=a
   ·subst q2
    rw [if_pos rfl,if_pos rfl,decide_eq_true (by omega)]
   ·rw [if_neg q2,if_neg q2];rfl
 ·by_cases hik:i=k
  ·subst hik
   exact ⟨hp,by simp [opN,h1,ha,hak,hb',hbk]⟩
  ·exact h.nod i (by omega)
 ·rw [e]
  have:=h.use j
  by_cases q:j=a
  ·subst q
   rw [if_pos rfl,if_neg (fun e=>hab e.symm)];omega
  ·rw [if_neg q]
   by_cases q2:j=b
   ·subst q2
    rw [if_pos rfl];omega
   ·rw [if_neg q2];omega
theorem valid_len (A:Option Addr) (m c:Nat) (w:World) (h:m=0∨512<m):Calls Tryz.prog 48 #[.slice A m c] w fun e w'=>e=.returned (.bool false)∧Below w.heap.size w w':=by
 have hb:=Below.refl w.heap.size w
 rcases h with rfl | h
 ·go_enter Tryz.func48,Tryz.ntmps48
  go_wp2
  go_ret
  exact ⟨rfl,hb⟩
 ·have h1:¬ (m:Int)=0:=by omega
  have h2:(512:Int)<(m:Int):=by omega
  have h3:((m:Int) == 0)=false:=beq_eq_false_iff_ne.2 h1
  go_enter Tryz.func48,Tryz.ntmps48
  go_wp2
  go_ret
  exact ⟨rfl,hb⟩
theorem zero72:Tryz.zeroCells82=(List.replicate 512 (Value.bool false)).toArray:=by kernel_rfl
theorem used_new (w:World) (l:List Fi):Blk (w.alloc (.cells Tryz.zeroCells82 82)) w.heap.size 512 (usd l 0):=by
 rw [zero72]
 have h:=Blk.new (w:=w) rfl (List.replicate 512 (Value.bool false)) 82
 rw [List.length_replicate] at h
 exact h.congr fun i hi=>by
  rw [List.getD_eq_getElem?_getD,List.getElem?_replicate,if_pos hi]
  rfl
theorem fkeep {w w':World} {g n:Nat} {F:Nat→Value} (h:Hid (Blk w g (n+1) F)) (b:Below w.heap.size w w'):Hid (Blk w' g (n+1) F):=hid (h.out.below (by omega) b)
theorem ftr {B:Nat} {a w w':World} (h:Hid (Below B a w)) (b:Below w.heap.size w w') (hB:B≤w.heap.size):Hid (Below B a w'):=hid (h.out.trans (b.mono hB))
theorem valid_some (A:Option Addr) (m c:Nat) (l:List Fi) (w:World) (hl:Hid (l.length=m)) (h1:1≤m) (h2:m≤512) (hr:Hid (Rf w w.heap.size A l)) :
  Calls Tryz.prog 48 #[.slice A m c] w fun e w'=>e=.returned (.bool (decide (okF l)))∧Below w.heap.size w w':=by
 have h3:((m:Int) == 0)=false:=beq_eq_false_iff_ne.2 (by omega)
 have h4:¬ (512:Int)<(m:Int):=by omega
 have V0:Hid (VaI w (w.alloc (.cells Tryz.zeroCells82 82)) l 0):=hid ⟨used_new w l,fun i hi=>by omega,fun j=>Nat.zero_le _,(Below.refl _ _).alloc (Nat.le_refl _) _⟩
 go_enter Tryz.func48,Tryz.ntmps48
 go_wp2_with fail
 generalize w.alloc (.cells Tryz.zeroCells82 82)=w0 at *
 go_loopw [4,20] (fun u i wr=>∃ k:Nat,k≤m∧i=.int .i64 (k:Int)∧u=.int .i64 ((tot l k:Nat):Int)∧Hid (VaI w wr l k)) (fun _ i _=>m - (intOf i).toNat)
 case atStart=>exact ⟨0,Nat.zero_le _,rfl,rfl,V0⟩
 case round =>
  obtain ⟨k,hk,rfl,rfl,hst⟩:=hrel
  clear V0
  by_cases hlt':k<m
  ·have hkl:k<l.length:=by rw [hl.out];exact hlt'
   obtain ⟨b,o,e,hb,hc⟩:=(hr.out.below hst.out.bel) (by omega)
   subst e
   obtain ⟨d0,d1,d2,d3⟩:=hc k hkl
   have i1:(0:Int)≤(k:Int):=by omega
   have i2:(k:Int)<(m:Int):=by omega
   have htot:=tot_le l k
   have HPL:Hid (∀ W:World,Calls Tryz.prog 89 #[.agg #[.int .i64 (fo l k),.int .i64 (fv l k),.int .i64 (fa l k),.int .i64 (fb l k)]] W fun e w'=>e=.returned (.bool (plN (fo l k) (fv l k) (fa l k) (fb l k)))∧Below W.heap.size W w'):=fun W=>plaus_any _ _ _ _ W
   have HAR:Hid (∀ W:World,Calls Tryz.prog 90 #[.int .i64 (fo l k)] W fun e w'=>e=.returned (.int .i64 ((ar (fo l k):Nat):Int))∧W=w'):=fun W=>arity_any _ W
   have XN:Hid (Blk (wr.alloc (.cells #[.int .i64 (fo l k),.int .i64 (fv l k),.int .i64 (fa l k),.int .i64 (fb l k)] 58)) wr.heap.size (3+1) (fun i=>([.int .i64 (fo l k),.int .i64 (fv l k),.int .i64 (fa l k),.int .i64 (fb l k)]:List Value).getD i undef)):=hid (Blk.new rfl [.int .i64 (fo l k),.int .i64 (fv l k),.int .i64 (fa l k),.int .i64 (fb l k)] 58)
   have ab:=(Below.refl wr.heap.size wr).alloc (Nat.le_refl _) (.cells #[.int .i64 (fo l k),.int .i64 (fv l k),.int .i64 (fa l k),.int .i64 (fb l k)] 58)
   have XU:Hid (Blk (wr.alloc (.cells #[.int .i64 (fo l k),.int .i64 (fv l k),.int .i64 (fa l k),.int .i64 (fb l k)] 58)) w.heap.size (511+1) (usd l k)):=fkeep (hid hst.out.blk) ab
   have HB:=ftr (hid hst.out.bel) ab hst.out.bel.size
   have hwn:Hid (w.heap.size<wr.heap.size):=hid (hst.out.blk.lt (by omega))
   clear ab hc
   go_upto_region 8 with fail
   generalize (wr.alloc (.cells #[.int .i64 (fo l k),.int .i64 (fv l k),.int .i64 (fa l k),.int .i64 (fb l k)] 58))=w1 at *
   obtain ⟨x0,_⟩:=XN.out 0 (by omega)
   obtain ⟨x1,_⟩:=XN.out 1 (by omega)
   obtain ⟨x2,_⟩:=XN.out 2 (by omega)
   obtain ⟨x3,_⟩:=XN.out 3 (by omega)
   by_cases hp:plN (fo l k) (fv l k) (fa l k) (fb l k)=true
   rotate_left
   ·have hp':plN (fo l k) (fv l k) (fa l k) (fb l k)=false:=by simpa using hp
    have hno:=not_pl hkl hp'
    rw [hp'] at HPL
    have HNO:=hid hno
    clear hno hp hp'
    go_wp2_with (first | (go_at_call 89;refine (HPL.out _).mono ?_;rintro e w2 ⟨rfl,b2⟩;replace HB:=ftr HB b2 HB.out.size;clear b2))
    go_ret
    exact ⟨ret_bool (decide_eq_false HNO.out).symm,HB.out⟩
   ·rw [hp] at HPL
    have HP:=hid hp
    clear hp
    go_upto_region 10 with (first | (go_at_call 89;refine (HPL.out _).mono ?_;rintro e w2 ⟨rfl,b2⟩;replace HB:=ftr HB b2 HB.out.size;replace XN:=fkeep XN b2;replace XU:=fkeep XU b2;clear b2))
    clear x0 x1 x2 x3 d0 d1 d2 d3
    obtain ⟨x0,_⟩:=XN.out 0 (by omega)
    obtain ⟨x2,_⟩:=XN.out 2 (by omega)
    obtain ⟨x3,_⟩:=XN.out 3 (by omega)
    have hw2:=hid (XN.out.lt (by omega))
    have ab:=(Below.refl w2.heap.size w2).alloc (Nat.le_refl _) (.cells #[.int .i64 (fa l k),.int .i64 (fb l k)] 119)
    have XO:Hid (Blk (w2.alloc (.cells #[.int .i64 (fa l k),.int .i64 (fb l k)] 119)) w2.heap.size (1+1) (fun i=>([.int .i64 (fa l k),.int .i64 (fb l k)]:List Value).getD i undef)):=hid (Blk.new rfl [.int .i64 (fa l k),.int .i64 (fb l k)] 119)
    go_upto_region 11 with fail
    clear x0 x2 x3
    replace HB:=ftr HB ab HB.out.size
    replace XN:=fkeep XN ab
    replace XU:=fkeep XU ab
    clear ab
    obtain ⟨g2,hg2⟩:∃ g,w2.heap.size=g:=⟨_,rfl⟩
    rw [hg2] at XO hw2
    obtain ⟨w3,hw3⟩:∃ W,w2.alloc (.cells #[.int .i64 (fa l k),.int .i64 (fb l k)] 119)=W:=⟨_,rfl⟩
    rw [hw3] at XO XN XU HB
    simp only [hw3,hg2]
    clear hw3 hg2
    obtain ⟨x0,_⟩:=XN.out 0 (by omega)
    obtain ⟨y0,_⟩:=XO.out 0 (by omega)
    obtain ⟨y1,_⟩:=XO.out 1 (by omega)
    have hwne:Hid (¬ g2=w.heap.size):=hid (by have:=hw2.out;have:=hwn.out;omega)
    have hsz:=HB.out.size
    have h3a:=ar_le (fo l k)
    rcases (show ar (fo l k)=0∨ar (fo l k)=1∨ar (fo l k)=2 by omega) with har | har | har
    ·skip
     rw [har] at HAR
     have HR:=hid har
     clear har h3a
     go_wp2_with (first | (go_at_call 90;refine (HAR.out _).mono ?_;rintro e w4 ⟨rfl,rfl⟩))
     refine wp_loop_rounds 1 ?_
     rw [rounds_succ]
     go_wp2
     go_roundw
     case rel=>exact ⟨k+1,by omega,by go_num,by rw [show tot l (k+1)=tot l k from by show tot l k+ar (fo l k)=_;rw [HR.out];rfl],hid (hst.out.next0 HR.out HP.out XU.out HB.out)⟩
     case measure=>simp [intOf];omega
    ·skip
     rw [har] at HAR
     have HR:=hid har
     clear har h3a
     by_cases ha0:fa l k<0
     ·have HNO:=hid (not_a hkl (by rw [HR.out];decide) (.inl ha0))
      go_wp2_with (first | (go_at_call 90;refine (HAR.out _).mono ?_;rintro e w4 ⟨rfl,rfl⟩))
      refine wp_loop_rounds 2 ?_
      rw [rounds_succ]
      go_wp2
      go_ret
      exact ⟨ret_bool (decide_eq_false HNO.out).symm,HB.out⟩
     by_cases ha1:(k:Int)≤fa l k
     ·have HNO:=hid (not_a hkl (by rw [HR.out];decide) (.inr ha1))
      go_wp2_with (first | (go_at_call 90;refine (HAR.out _).mono ?_;rintro e w4 ⟨rfl,rfl⟩))
      refine wp_loop_rounds 2 ?_
      rw [rounds_succ]
      go_wp2
      go_ret
      exact ⟨ret_bool (decide_eq_false HNO.out).symm,HB.out⟩
     obtain ⟨a,ha⟩:∃ a:Nat,fa l k=(a:Int):=⟨(fa l k).toNat,by omega⟩
     have hak:a<k:=by omega
     clear ha0 ha1
     have HA:=hid ha
     replace y0:w3.cell? ⟨g2,0,none⟩=some (.int .i64 (a:Int)):=by rw [← ha];exact y0
     obtain ⟨z0,f0⟩:=XU.out a (by omega)
     unfold usd at z0
     have i3:(0:Int)≤(a:Int):=by omega
     have i4:(a:Int)<(k:Int):=by omega
     have i5:(a:Int)<512:=by omega
     clear ha
     by_cases hu:us l a k=1
     ·rw [decide_eq_true hu] at z0
      have HNO:=hid (dup_a hkl (by rw [HR.out];decide) HA.out hak hu)
      clear hu
      go_wp2_with (first | (go_at_call 90;refine (HAR.out _).mono ?_;rintro e w4 ⟨rfl,rfl⟩))
      refine wp_loop_rounds 2 ?_
      rw [rounds_succ]
      go_wp2
      go_ret
      exact ⟨ret_bool (decide_eq_false HNO.out).symm,HB.out⟩
     rw [decide_eq_false hu] at z0
     have HU:=hid hu
     clear hu
     have XU1:=hid (XU.out.set (i:=a) (by omega) (.bool true))
     have HB1:Hid (Below w.heap.size w (w3.setCell ⟨w.heap.size,a,none⟩ (.bool true))):=hid (HB.out.setCell (Nat.le_refl _) _)
     go_wp2_with (first | (go_at_call 90;refine (HAR.out _).mono ?_;rintro e w4 ⟨rfl,rfl⟩))
     refine wp_loop_rounds 2 ?_
     rw [rounds_succ]
     go_wp2
     rw [rounds_succ]
     go_wp2
     go_roundw
     case rel=>exact ⟨k+1,by omega,by go_num,by rw [show tot l (k+1)=tot l k+1 from by show tot l k+ar (fo l k)=_;rw [HR.out]];go_num,hid (hst.out.next1 HR.out HP.out HA.out hak HU.out XU1.out HB1.out)⟩
     case measure=>simp [intOf];omega
    ·skip
     rw [har] at HAR
     have HR:=hid har
     clear har h3a
     by_cases ha0:fa l k<0
     ·have HNO:=hid (not_a hkl (by rw [HR.out];decide) (.inl ha0))
      go_wp2_with (first | (go_at_call 90;refine (HAR.out _).mono ?_;rintro e w4 ⟨rfl,rfl⟩))
      refine wp_loop_rounds 3 ?_
      rw [rounds_succ]
      go_wp2
      go_ret
      exact ⟨ret_bool (decide_eq_false HNO.out).symm,HB.out⟩
     by_cases ha1:(k:Int)≤fa l k
     ·have HNO:=hid (not_a hkl (by rw [HR.out];decide) (.inr ha1))
      go_wp2_with (first | (go_at_call 90;refine (HAR.out _).mono ?_;rintro e w4 ⟨rfl,rfl⟩))
      refine wp_loop_rounds 3 ?_
      rw [rounds_succ]
      go_wp2
      go_ret
      exact ⟨ret_bool (decide_eq_false HNO.out).symm,HB.out⟩
     obtain ⟨a,ha⟩:∃ a:Nat,fa l k=(a:Int):=⟨(fa l k).toNat,by omega⟩
     have hak:a<k:=by omega
     clear ha0 ha1
     have HA:=hid ha
     replace y0:w3.cell? ⟨g2,0,none⟩=some (.int .i64 (a:Int)):=by rw [← ha];exact y0
     obtain ⟨z0,f0⟩:=XU.out a (by omega)
     unfold usd at z0
     have i3:(0:Int)≤(a:Int):=by omega
     have i4:(a:Int)<(k:Int):=by omega
     have i5:(a:Int)<512:=by omega
     clear ha
     by_cases hu:us l a k=1
     ·rw [decide_eq_true hu] at z0
      have HNO:=hid (dup_a hkl (by rw [HR.out];decide) HA.out hak hu)
      clear hu
      go_wp2_with (first | (go_at_call 90;refine (HAR.out _).mono ?_;rintro e w4 ⟨rfl,rfl⟩))
      refine wp_loop_rounds 3 ?_
      rw [rounds_succ]
      go_wp2
      go_ret
      exact ⟨ret_bool (decide_eq_false HNO.out).symm,HB.out⟩
     rw [decide_eq_false hu] at z0
     have HU:=hid hu
     clear hu
     have XU1:=hid (XU.out.set (i:=a) (by omega) (.bool true))
     have HB1:Hid (Below w.heap.size w (w3.setCell ⟨w.heap.size,a,none⟩ (.bool true))):=hid (HB.out.setCell (Nat.le_refl _) _)
     have XO1:=hid (XO.out.other (p:=⟨w.heap.size,a,none⟩) (fun e=>hwne.out e.symm) (.bool true))
     clear y1
     obtain ⟨y1,_⟩:=XO1.out 1 (by omega)
     by_cases hb0:fb l k<0
     ·have HNO:=hid (not_b hkl HR.out (.inl hb0))
      go_wp2_with (first | (go_at_call 90;refine (HAR.out _).mono ?_;rintro e w4 ⟨rfl,rfl⟩))
      refine wp_loop_rounds 3 ?_
      rw [rounds_succ]
      go_wp2
      rw [rounds_succ]
      go_wp2
      go_ret
      exact ⟨ret_bool (decide_eq_false HNO.out).symm,HB1.out⟩
     by_cases hb1:(k:Int)≤fb l k
     ·have HNO:=hid (not_b hkl HR.out (.inr hb1))
      go_wp2_with (first | (go_at_call 90;refine (HAR.out _).mono ?_;rintro e w4 ⟨rfl,rfl⟩))
      refine wp_loop_rounds 3 ?_
      rw [rounds_succ]
      go_wp2
      rw [rounds_succ]
      go_wp2
      go_ret
      exact ⟨ret_bool (decide_eq_false HNO.out).symm,HB1.out⟩
     obtain ⟨q,hq⟩:∃ q:Nat,fb l k=(q:Int):=⟨(fb l k).toNat,by omega⟩
     have hqk:q<k:=by omega
     clear hb0 hb1
     have HQ:=hid hq
     replace y1:(w3.setCell ⟨w.heap.size,a,none⟩ (.bool true)).cell? ⟨g2,1,none⟩=some (.int .i64 (q:Int)):=by rw [← hq];exact y1
     clear hq
     obtain ⟨z1,f1⟩:=XU1.out q (by omega)
     have j3:(0:Int)≤(q:Int):=by omega
     have j4:(q:Int)<(k:Int):=by omega
     have j5:(q:Int)<512:=by omega
     by_cases hqa:q=a
     ·subst hqa
      rw [fup_same] at z1
      have HNO:=hid (dup_b hkl HR.out HQ.out hqk (.inr HA.out))
      go_wp2_with (first | (go_at_call 90;refine (HAR.out _).mono ?_;rintro e w4 ⟨rfl,rfl⟩))
      refine wp_loop_rounds 3 ?_
      rw [rounds_succ]
      go_wp2
      rw [rounds_succ]
      go_wp2
      go_ret
      exact ⟨ret_bool (decide_eq_false HNO.out).symm,HB1.out⟩
     rw [fup_ne _ _ hqa] at z1
     unfold usd at z1
     by_cases hv:us l q k=1
     ·rw [decide_eq_true hv] at z1
      have HNO:=hid (dup_b hkl HR.out HQ.out hqk (.inl hv))
      clear hv
      go_wp2_with (first | (go_at_call 90;refine (HAR.out _).mono ?_;rintro e w4 ⟨rfl,rfl⟩))
      refine wp_loop_rounds 3 ?_
      rw [rounds_succ]
      go_wp2
      rw [rounds_succ]
      go_wp2
      go_ret
      exact ⟨ret_bool (decide_eq_false HNO.out).symm,HB1.out⟩
     rw [decide_eq_false hv] at z1
     have HV:=hid hv
     clear hv
     have XU2:=hid (XU1.out.set (i:=q) (by omega) (.bool true))
     have HB2:Hid (Below w.heap.size w ((w3.setCell ⟨w.heap.size,a,none⟩ (.bool true)).setCell ⟨w.heap.size,q,none⟩ (.bool true))):=hid (HB1.out.setCell (Nat.le_refl _) _)
     go_wp2_with (first | (go_at_call 90;refine (HAR.out _).mono ?_;rintro e w4 ⟨rfl,rfl⟩))
     refine wp_loop_rounds 3 ?_
     rw [rounds_succ]
     go_wp2
     rw [rounds_succ]
     go_wp2
     rw [rounds_succ]
     go_wp2
     go_roundw
     case rel=>exact ⟨k+1,by omega,by go_num,by rw [show tot l (k+1)=tot l k+2 from by show tot l k+ar (fo l k)=_;rw [HR.out]];go_num,hid (hst.out.next2 HR.out HP.out HA.out hak HU.out HQ.out hqk HV.out hqa XU2.out HB2.out)⟩
     case measure=>simp [intOf];omega
  ·obtain rfl:k=m:=by omega
   have hq:=okF_iff l (by rw [hl.out];exact h1) (by rw [hl.out];exact h2) (by rw [hl.out];exact hst.out.nod) (by rw [hl.out];exact hst.out.use)
   rw [hl.out] at hq
   have HQ:=hid hq
   have htot:=tot_le l k
   clear hq
   have hdec:(((tot l k:Nat):Int) == (k:Int) - 1)=decide (okF l):=by
    by_cases q:okF l
    ·rw [decide_eq_true q]
     have:=HQ.out.1 q
     exact beq_iff_eq.2 (by omega)
    ·rw [decide_eq_false q]
     exact beq_eq_false_iff_ne.2 (fun e=>q (HQ.out.2 (by omega)))
   go_wp2
   go_ret
   exact ⟨rfl,hst.out.bel⟩
theorem valid_any (A:Option Addr) (m c:Nat) (l:List Fi) (w:World) (hl:Hid (l.length=m)) (hr:Hid (Rf w w.heap.size A l)) :
  Calls Tryz.prog 48 #[.slice A m c] w fun e w'=>e=.returned (.bool (decide (okF l)))∧Below w.heap.size w w':=by
 by_cases h:m=0∨512<m
 ·have hno:¬ okF l:=fun q=>by have a:=q.1;have b:=q.2.1;rw [hl.out] at a b;omega
  rw [decide_eq_false hno]
  exact valid_len A m c w h
 ·exact valid_some A m c l w hl (by omega) (by omega) hr
def chF (l:List Fi):Int:=if okF l then 0 else 30
theorem fcheck_any (A:Option Addr) (m c:Nat) (l:List Fi) (w:World) (hl:Hid (l.length=m)) (hr:Hid (Rf w w.heap.size A l)) :
  Calls Tryz.prog 31 #[.slice A m c] w fun e w'=>e=.returned (.int .i64 (chF l))∧Below w.heap.size w w':=by
 have HV:=hid (valid_any A m c l w hl hr)
 clear hr
 by_cases h:okF l
 ·rw [decide_eq_true h] at HV
  rw [show chF l=0 from if_pos h]
  clear h
  go_enter Tryz.func31,Tryz.ntmps31
  go_wp2_with (first | (go_at_call 48;refine HV.out.mono ?_;rintro e w4 ⟨rfl,b4⟩))
  go_ret
  exact ⟨rfl,b4⟩
 ·rw [decide_eq_false h] at HV
  rw [show chF l=30 from if_neg h]
  clear h
  go_enter Tryz.func31,Tryz.ntmps31
  go_wp2_with (first | (go_at_call 48;refine HV.out.mono ?_;rintro e w4 ⟨rfl,b4⟩))
  go_ret
  exact ⟨rfl,b4⟩
set_option linter.unusedVariables false
set_option linter.unusedSimpArgs false
attribute [local go_sem ↓] Go.wp_at_zero Go.wp_at_succ
theorem us_le (l:List Fi) (j n:Nat):us l j n≤2*n:=by
 induction n with
 | zero=>exact Nat.le_refl _
 | succ n ih =>
   rw [us_succ]
   split <;> split <;> omega
def uc (l:List Fi) (k j:Nat):Value:=.int .i64 ((us l j k:Nat):Int)
structure RcF (w wr:World) (l:List Fi) (m k:Nat):Prop where
 blk:Blk wr w.heap.size m (uc l k)
 nod:∀ i,i<k→okN l i
 bel:Below w.heap.size w wr
theorem uc_next {l:List Fi} {k a b j:Nat} (ha:1≤ar (fo l k)→fa l k=(a:Int)) (hb:ar (fo l k)=2→fb l k=(b:Int)):us l j (k+1)=us l j k+(if 1≤ar (fo l k)∧j=a then 1 else 0)+(if ar (fo l k)=2∧j=b then 1 else 0):=by
 rw [us_succ]
 congr 1
 ·congr 1
  by_cases h:1≤ar (fo l k)
  ·by_cases q:j=a
   ·rw [if_pos ⟨h,by rw [ha h,q]⟩,if_pos ⟨h,q⟩]
   ·rw [if_neg (fun e=>q (by have:=e.2;rw [ha h] at this;omega)),if_neg (fun e=>q e.2)]
  ·rw [if_neg (fun e=>h e.1),if_neg (fun e=>h e.1)]
 ·by_cases h:ar (fo l k)=2
  ·by_cases q:j=b
   ·rw [if_pos ⟨h,by rw [hb h,q]⟩,if_pos ⟨h,q⟩]
   ·rw [if_neg (fun e=>q (by have:=e.2;rw [hb h] at this;omega)),if_neg (fun e=>q e.2)]
  ·rw [if_neg (fun e=>h e.1),if_neg (fun e=>h e.1)]
theorem RcF.next {w wr w':World} {l:List Fi} {m k a b:Nat} (h:RcF w wr l m k) (hp:ndB (fo l k) (fv l k) (fa l k) (fb l k) k=true) (ha:1≤ar (fo l k)→fa l k=(a:Int)) (hb:ar (fo l k)=2→fb l k=(b:Int))
  {F:Nat→Value} (hB:Blk w' w.heap.size m F) (hF:∀ j,F j=.int .i64 ((us l j k+(if 1≤ar (fo l k)∧j=a then 1 else 0)+(if ar (fo l k)=2∧j=b then 1 else 0):Nat):Int)) (hw:Below w.heap.size w w'):RcF w w' l m (k+1):=by
 refine ⟨hB.congr fun i _=>?_,fun i hi=>?_,hw⟩
 ·rw [hF]
  unfold uc
  rw [uc_next ha hb]
 ·by_cases hik:i=k
  ·subst hik
   simp only [ndB,Bool.and_eq_true] at hp
   exact hp
  ·exact h.nod i (by omega)
theorem nd_no {l:List Fi} {k:Nat} (hk:k<l.length) (h:ndB (fo l k) (fv l k) (fa l k) (fb l k) k=false):¬ okF l:=okF_node l hk (fun q=>by
 unfold ndB at h
 rw [q.1,q.2] at h
 exact absurd h (by decide))
theorem nd_op {o v a b:Int} {i:Nat} (h:ndB o v a b i=true):(0≤o∧o≤5)∧(1≤ar o→0≤a∧a<(i:Int))∧(ar o=2→0≤b∧b<(i:Int)):=by
 simp only [ndB,Bool.and_eq_true] at h
 refine ⟨?_,opN_a h.2,opN_b h.2⟩
 have:=h.1
 simp only [plN,Bool.and_eq_true,decide_eq_true_eq] at this
 omega
theorem rcheck_len (A:Option Addr) (m c:Nat) (w:World) (h:m=0∨512<m):Calls Tryz.prog 33 #[.slice A m c] w fun e w'=>e=.returned (.int .i64 30)∧Below w.heap.size w w':=by
 have hb:=Below.refl w.heap.size w
 rcases h with rfl | h
 ·go_enter Tryz.func33,Tryz.ntmps33
  go_wp2
  go_ret
  exact ⟨rfl,hb⟩
 ·have h1:¬ (m:Int)<1:=by omega
  have h2:(512:Int)<(m:Int):=by omega
  go_enter Tryz.func33,Tryz.ntmps33
  go_wp2
  go_ret
  exact ⟨rfl,hb⟩
theorem finfoI:(Tryz.prog.info? 3).map (fun i=>(i.zero,i.size,i.bytes))=some (some (.int .i64 0),1,8):=by kernel_rfl
theorem blk_made (w:World) (n:Nat):Blk (w.alloc (.cells (madeCells #[Value.int .i64 0] n) 3)) w.heap.size n (fun _=>.int .i64 0):=by
 have e:madeCells #[Value.int .i64 0] n=(List.replicate n (Value.int .i64 0)).toArray:=by
  apply Array.ext'
  rw [toList_madeCells_one]
 rw [e]
 have h:=Blk.new (w:=w) rfl (List.replicate n (Value.int .i64 0)) 3
 rw [List.length_replicate] at h
 exact h.congr fun i hi=>by rw [List.getD_eq_getElem?_getD,List.getElem?_replicate,if_pos hi];rfl
theorem rcheck_some (A:Option Addr) (m c:Nat) (l:List Fi) (w:World) (hl:Hid (l.length=m)) (h1:1≤m) (h2:m≤512) (hr:Hid (Rf w w.heap.size A l)) :
  Calls Tryz.prog 33 #[.slice A m c] w fun e w'=>e=.returned (.int .i64 (chF l))∧Below w.heap.size w w':=by
 obtain ⟨i0,hi,hz0,hz1,hz2⟩:=info_parts finfoI
 have h3:¬ (m:Int)<1:=by omega
 have h4:¬ (512:Int)<(m:Int):=by omega
 have R0:Hid (RcF w (w.alloc (.cells (madeCells #[Value.int .i64 0] m) 3)) l m 0):=hid ⟨blk_made w m,fun i hi=>by omega,(Below.refl _ _).alloc (Nat.le_refl _) _⟩
 go_enter Tryz.func33,Tryz.ntmps33
 go_wp2_with (first | (at_make;refine wpList_make_row _ rfl _ _ 61 rfl 3 i0 _ Tryz.underlying61 hi hz0 hz1 rfl _ _ m rfl rfl (by rw [hz2];omega) (by omega) ?_))
 generalize w.alloc (.cells (madeCells #[Value.int .i64 0] m) 3)=w0 at *
 go_loopw [4] (fun i wr=>∃ k:Nat,k≤m∧i=.int .i64 (k:Int)∧Hid (RcF w wr l m k)) (fun i _=>m - (intOf i).toNat)
 case atStart=>exact ⟨0,Nat.zero_le _,rfl,R0⟩
 case round =>
  obtain ⟨k,hk,rfl,hst⟩:=hrel
  clear R0
  by_cases hlt':k<m
  ·have hkl:k<l.length:=by rw [hl.out];exact hlt'
   obtain ⟨b,o,e,hb,hc⟩:=(hr.out.below hst.out.bel) (by omega)
   subst e
   obtain ⟨d0,d1,d2,d3⟩:=hc k hkl
   clear hc
   have i1:(0:Int)≤(k:Int):=by omega
   have i2:(k:Int)<(m:Int):=by omega
   have hbl:=hst.out.bel.size
   have HND:Hid (∀ W:World,Calls Tryz.prog 64 #[.agg #[.int .i64 (fo l k),.int .i64 (fv l k),.int .i64 (fa l k),.int .i64 (fb l k)],.int .i64 (k:Int)] W fun e w'=>e=.returned (.bool (ndB (fo l k) (fv l k) (fa l k) (fb l k) k))∧Below W.heap.size W w'):=fun W=>node_any _ _ _ _ k W
   by_cases hp:ndB (fo l k) (fv l k) (fa l k) (fb l k) k=true
   rotate_left
   ·have hp':ndB (fo l k) (fv l k) (fa l k) (fb l k) k=false:=by simpa using hp
    have hno:=nd_no hkl hp'
    rw [hp'] at HND
    have HCH:Hid (chF l=30):=hid (if_neg hno)
    clear hno hp hp'
    go_wp2_with (first | (go_at_call 64;refine (HND.out _).mono ?_;rintro e w2 ⟨rfl,b2⟩;have HB:=ftr (hid hst.out.bel) b2 hst.out.bel.size;clear b2))
    go_ret
    rw [HCH.out]
    exact ⟨rfl,HB.out⟩
   obtain ⟨ho,ha,hb2⟩:=nd_op hp
   have h3a:=ar_le (fo l k)
   have HP:=hid hp
   rw [hp] at HND
   have HOP:Hid (∀ W:World,Calls Tryz.prog 65 #[.int .i64 (fo l k)] W fun e w'=>e=.returned (.int .i64 ((ar (fo l k):Nat):Int))∧W=w'):=fun W=>by
    have q:=operands_any (fo l k) W
    rw [show arI (fo l k)=((ar (fo l k):Nat):Int) from if_pos ho] at q
    exact q
   clear hp ho
   rcases (show ar (fo l k)=0∨ar (fo l k)=1∨ar (fo l k)=2 by omega) with har | har | har
   ·rw [har] at HOP
    have HR:=hid har
    clear har h3a ha hb2
    go_upto_region 9 with (first | (go_at_call 64;refine (HND.out _).mono ?_;rintro e w2 ⟨rfl,b2⟩;have XU:=hid (hst.out.blk.below (by omega) b2);have HB:=ftr (hid hst.out.bel) b2 hst.out.bel.size;obtain ⟨b',o',e',_,hc⟩:=(hr.out.below HB.out) (by omega);injection e' with e';injection e' with e1 e2;subst e1;subst e2;clear d0 d1 d2 d3;obtain ⟨d0,d1,d2,d3⟩:=hc k hkl;have hsz:=HB.out.size;clear hc b2 ))
    go_wp2_with (first | (go_at_call 65;refine (HOP.out _).mono ?_;rintro e w4 ⟨rfl,rfl⟩))
    go_roundw
    case rel=>exact ⟨k+1,by omega,by go_num,hid (hst.out.next (a:=0) (b:=0) HP.out (fun e=>by rw [HR.out] at e;omega) (fun e=>by rw [HR.out] at e;omega) XU.out (fun j=>by rw [HR.out,if_neg (by omega),if_neg (by omega)];rfl) HB.out)⟩
    case measure=>simp [intOf];omega
   ·rw [har] at HOP
    have HR:=hid har
    obtain ⟨a,hae⟩:∃ a:Nat,fa l k=(a:Int):=⟨(fa l k).toNat,by have:=ha (by omega);omega⟩
    have hak:a<k:=by have:=ha (by omega);omega
    have HA:=hid hae
    clear har h3a ha hb2 hae
    have u1:=us_le l a k
    have i3:(0:Int)≤(a:Int):=by omega
    have i4:(a:Int)<(m:Int):=by omega
    go_upto_region 9 with (first | (go_at_call 64;refine (HND.out _).mono ?_;rintro e w2 ⟨rfl,b2⟩;have XU:=hid (hst.out.blk.below (by omega) b2);have HB:=ftr (hid hst.out.bel) b2 hst.out.bel.size;obtain ⟨b',o',e',_,hc⟩:=(hr.out.below HB.out) (by omega);injection e' with e';injection e' with e1 e2;subst e1;subst e2;clear d0 d1 d2 d3;obtain ⟨d0,d1,d2,d3⟩:=hc k hkl;have hsz:=HB.out.size;clear hc b2 ))
    rw [HA.out] at d2
    obtain ⟨z0,f0⟩:=XU.out a (by omega)
    unfold uc at z0
    have XU1:=hid (XU.out.set (i:=a) (by omega) (.int .i64 ((us l a k:Int)+1)))
    have HB1:Hid (Below w.heap.size w (w2.setCell ⟨w.heap.size,a,none⟩ (.int .i64 ((us l a k:Int)+1)))):=hid (HB.out.setCell (Nat.le_refl _) _)
    have hne:¬ w.heap.size=b:=by omega
    have hne':¬ b=w.heap.size:=by omega
    go_wp2_with (first | (go_at_call 65;refine (HOP.out _).mono ?_;rintro e w4 ⟨rfl,rfl⟩))
    go_roundw
    case rel=>exact ⟨k+1,by omega,by go_num,hid (hst.out.next (a:=a) (b:=0) HP.out (fun _=>HA.out) (fun e=>by rw [HR.out] at e;omega) XU1.out (fun j=>by
     rw [HR.out]
     by_cases e:j=a
     ·subst e
      rw [fup_same,if_pos ⟨by omega,rfl⟩,if_neg (by omega)];push_cast;rfl
     ·rw [fup_ne _ _ e,if_neg (fun h=>e h.2),if_neg (by omega)];rfl) HB1.out)⟩
    case measure=>simp [intOf];omega
   ·rw [har] at HOP
    have HR:=hid har
    obtain ⟨a,hae⟩:∃ a:Nat,fa l k=(a:Int):=⟨(fa l k).toNat,by have:=ha (by omega);omega⟩
    have hak:a<k:=by have:=ha (by omega);omega
    have HA:=hid hae
    obtain ⟨q,hqe⟩:∃ q:Nat,fb l k=(q:Int):=⟨(fb l k).toNat,by have:=hb2 har;omega⟩
    have hqk:q<k:=by have:=hb2 har;omega
    have HQ:=hid hqe
    clear har h3a ha hb2 hae hqe
    have u1:=us_le l a k
    have i3:(0:Int)≤(a:Int):=by omega
    have i4:(a:Int)<(m:Int):=by omega
    have u2:=us_le l q k
    have i5:(0:Int)≤(q:Int):=by omega
    have i6:(q:Int)<(m:Int):=by omega
    go_upto_region 9 with (first | (go_at_call 64;refine (HND.out _).mono ?_;rintro e w2 ⟨rfl,b2⟩;have XU:=hid (hst.out.blk.below (by omega) b2);have HB:=ftr (hid hst.out.bel) b2 hst.out.bel.size;obtain ⟨b',o',e',_,hc⟩:=(hr.out.below HB.out) (by omega);injection e' with e';injection e' with e1 e2;subst e1;subst e2;clear d0 d1 d2 d3;obtain ⟨d0,d1,d2,d3⟩:=hc k hkl;have hsz:=HB.out.size;clear hc b2 ))
    rw [HA.out] at d2
    obtain ⟨z0,f0⟩:=XU.out a (by omega)
    unfold uc at z0
    have XU1:=hid (XU.out.set (i:=a) (by omega) (.int .i64 ((us l a k:Int)+1)))
    have HB1:Hid (Below w.heap.size w (w2.setCell ⟨w.heap.size,a,none⟩ (.int .i64 ((us l a k:Int)+1)))):=hid (HB.out.setCell (Nat.le_refl _) _)
    rw [HQ.out] at d3
    obtain ⟨z1,f1⟩:=XU1.out q (by omega)
    obtain ⟨X,hX⟩:∃ X:Nat,fup (uc l k) a (.int .i64 ((us l a k:Int)+1)) q=.int .i64 (X:Int)∧X=us l q k+(if q=a then 1 else 0):=by
     by_cases e:q=a
     ·subst e
      exact ⟨us l q k+1,by rw [fup_same];push_cast;rfl,by rw [if_pos rfl]⟩
     ·exact ⟨us l q k,by rw [fup_ne _ _ e];rfl,by rw [if_neg e];rfl⟩
    rw [hX.1] at z1
    have HX:=hid hX.2
    have hXl:X≤2*k+1:=by have:=hX.2;split at this <;> omega
    clear hX
    have XU2:=hid (XU1.out.set (i:=q) (by omega) (.int .i64 ((X:Int)+1)))
    have HB2:Hid (Below w.heap.size w ((w2.setCell ⟨w.heap.size,a,none⟩ (.int .i64 ((us l a k:Int)+1))).setCell ⟨w.heap.size,q,none⟩ (.int .i64 ((X:Int)+1)))):=hid (HB1.out.setCell (Nat.le_refl _) _)
    have hne:¬ w.heap.size=b:=by omega
    have hne':¬ b=w.heap.size:=by omega
    go_wp2_with (first | (go_at_call 65;refine (HOP.out _).mono ?_;rintro e w4 ⟨rfl,rfl⟩))
    go_roundw
    case rel=>exact ⟨k+1,by omega,by go_num,hid (hst.out.next (a:=a) (b:=q) HP.out (fun _=>HA.out) (fun _=>HQ.out) XU2.out (fun j=>by
     rw [HR.out]
     simp only [show (1:Nat)≤2 from by decide,true_and]
     by_cases e:j=q
     ·subst e
      rw [fup_same,HX.out]
      by_cases e2:j=a
      ·rw [if_pos e2,if_pos rfl];push_cast;rfl
      ·rw [if_neg e2,if_pos rfl];push_cast;rfl
     ·rw [fup_ne _ _ e]
      by_cases e2:j=a
      ·subst e2
       rw [fup_same,if_pos rfl,if_neg e];push_cast;rfl
      ·rw [fup_ne _ _ e2,if_neg e2,if_neg e];rfl) HB2.out)⟩
    case measure=>simp [intOf];omega
  ·obtain rfl:k=m:=by omega
   go_wp2_with fail
   have HU:=hid hst.out.blk
   have HB:=hid hst.out.bel
   have HN:=hid hst.out.nod
   clear hst
   go_loopw [6] (fun i wq=>∃ j:Nat,j≤k∧i=.int .i64 (j:Int)∧wq=wr∧Hid (∀ i,i<j→i<k - 1→us l i k=1)) (fun i _=>k - (intOf i).toNat)
   case atStart=>exact ⟨0,Nat.zero_le _,rfl,rfl,hid (fun i hi=>by omega)⟩
   case round =>
    obtain ⟨j,hj,rfl,rfl,hok⟩:=hrel
    by_cases hjk:j<k
    ·have i1:(0:Int)≤(j:Int):=by omega
     have i2:(j:Int)<(k:Int):=by omega
     by_cases hl1:j<k - 1
     ·have i3:(j:Int)<(k:Int) - 1:=by omega
      obtain ⟨z0,f0⟩:=HU.out j hjk
      unfold uc at z0
      by_cases hu:us l j k=1
      ·rw [hu] at z0
       have HU1:=hid hu
       clear hu
       go_wp2
       go_roundw
       case rel=>exact ⟨j+1,by omega,by go_num,by first | rfl | trivial,hid (fun i hi hi'=>by
        by_cases e:i=j
        ·subst e;exact HU1.out
        ·exact hok.out i (by omega) hi')⟩
       case measure=>simp [intOf];omega
      ·have hno:¬ okF l:=fun q=>hu (by have:=q.2.2.2 j (by rw [hl.out];exact hl1);rwa [hl.out] at this)
       have HCH:Hid (chF l=30):=hid (if_neg hno)
       have p1:(((us l j k:Nat):Int) != 1)=true:=bne_iff_ne.2 (by omega)
       clear hno hu
       go_wp2
       go_ret
       rw [HCH.out]
       exact ⟨rfl,HB.out⟩
     ·have i3:¬ (j:Int)<(k:Int) - 1:=by omega
      go_wp2
      go_roundw
      case rel=>exact ⟨j+1,by omega,by go_num,by first | rfl | trivial,hid (fun i hi hi'=>hok.out i (by omega) hi')⟩
      case measure=>simp [intOf];omega
    ·obtain rfl:j=k:=by omega
     have hyes:okF l:=⟨by rw [hl.out];exact h1,by rw [hl.out];exact h2,by rw [hl.out];exact HN.out,by rw [hl.out];exact fun i hi=>hok.out i (by omega) hi⟩
     have HCH:Hid (chF l=0):=hid (if_pos hyes)
     clear hyes
     go_wp2
     go_ret
     rw [HCH.out]
     exact ⟨rfl,HB.out⟩
theorem qcheck_any (A:Option Addr) (m c:Nat) (l:List Fi) (w:World) (hl:Hid (l.length=m)) (hr:Hid (Rf w w.heap.size A l)) :
  Calls Tryz.prog 33 #[.slice A m c] w fun e w'=>e=.returned (.int .i64 (chF l))∧Below w.heap.size w w':=by
 by_cases h:m=0∨512<m
 ·have hno:¬ okF l:=fun q=>by have a:=q.1;have b:=q.2.1;rw [hl.out] at a b;omega
  rw [show chF l=30 from if_neg hno]
  exact rcheck_len A m c w h
 ·exact rcheck_some A m c l w hl (by omega) (by omega) hr
end Go.Proofs.YtpaednfinlaioaaGreatDoor
