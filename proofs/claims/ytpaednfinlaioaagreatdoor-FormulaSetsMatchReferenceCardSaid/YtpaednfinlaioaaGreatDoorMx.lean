/-
  Plain mathematics and contracts of package diagram, several texts in one: DRChkP, DRBr, DRVal.
-/
import Derived.Test.YtpaednfinlaioaaGreatDoorMg
import Derived.Test.YtpaednfinlaioaaGreatDoorMa
import Derived.Test.YtpaednfinlaioaaGreatDoorMk
import Derived.Deep.RegionHeld3
import Derived.Deep.DeepCutAuto
set_option maxHeartbeats 40000000
set_option maxRecDepth 100000
namespace Go.Proofs.YtpaednfinlaioaaGreatDoor
open Go.Lib (hid)
open Go.RowKit Dg St
set_option linter.unusedVariables false
set_option linter.unusedSimpArgs false
def levI (l:List Bi) (n:Int):Int:=if n<2 then 64 else iv l (n - 2).toNat
def BrP (l:List Bi) (k:Nat):Prop:=(0≤iv l k∧iv l k≤63)∧(0≤il l k∧il l k<(k:Int)+2)∧(0≤ih l k∧ih l k<(k:Int)+2)∧il l k≠ih l k∧iv l k<levI l (il l k)∧iv l k<levI l (ih l k)∧(iv l k,il l k,ih l k)∉l.take k
instance (l:List Bi) (k:Nat):Decidable (BrP l k):=by unfold BrP;infer_instance
theorem fol_iff {l:List Bi} {k:Nat} {v n:Int} (hk:k≤l.length) (hv:v≤63):folB (l.take k) v n=true↔0≤n∧n<(k:Int)+2∧v<levI l n:=by
 unfold folB levI
 by_cases h:n<2
 ·rw [if_pos h,if_pos h,Bool.or_eq_true,beq_iff_eq,beq_iff_eq];omega
 ·rw [if_neg h,if_neg h]
  have e:((l.take k).length:Int)=k:=by rw [List.length_take];omega
  rw [e]
  by_cases h2:n - 2<(k:Int)
  ·rw [if_pos h2,iv_take (by omega),decide_eq_true_eq];omega
  ·rw [if_neg h2]
   constructor
   ·intro h;cases h
   ·intro h;omega
theorem brp_iff {l:List Bi} {k:Nat} (hk:k<l.length):BrP l k↔(conB (iv l k)&&!(il l k == ih l k)&&folB (l.take k) (iv l k) (il l k)&&folB (l.take k) (iv l k) (ih l k))=true∧(iv l k,il l k,ih l k)∉l.take k:=by
 unfold BrP
 constructor
 ·rintro ⟨⟨a,b⟩,c,d,e,f,g,h⟩
  refine ⟨?_,h⟩
  rw [Bool.and_eq_true,Bool.and_eq_true,Bool.and_eq_true,fol_iff (by omega) b,fol_iff (by omega) b]
  exact ⟨⟨⟨by unfold conB;rw [decide_eq_true a,decide_eq_true (by omega)];rfl,by rw [beq_eq_false_iff_ne.2 e];rfl⟩,c.1,c.2,f⟩,d.1,d.2,g⟩
 ·rintro ⟨h,hn⟩
  rw [Bool.and_eq_true,Bool.and_eq_true,Bool.and_eq_true] at h
  obtain ⟨⟨⟨h1,h2⟩,h3⟩,h4⟩:=h
  have hv:0≤iv l k∧iv l k<64:=by unfold conB at h1;rw [Bool.and_eq_true,decide_eq_true_eq,decide_eq_true_eq] at h1;exact h1
  rw [fol_iff (by omega) (by omega)] at h3 h4
  have hne:il l k≠ih l k:=by
   intro e
   rw [e] at h2
   simp at h2
  exact ⟨⟨hv.1,by omega⟩,⟨h3.1,h3.2.1⟩,⟨h4.1,h4.2.1⟩,hne,h3.2.2,h4.2.2,hn⟩
theorem brs_iff {l:List Bi}:∀ n,n≤l.length→((∀ k,k<n→BrP l k)↔ordB l n=true∧(l.take n).Nodup)
 | 0,_=>⟨fun _=>⟨rfl,by simp⟩,fun _ k hk=>absurd hk (by omega)⟩
 | n+1,hn=>by
   have ih:=brs_iff (l:=l) n (by omega)
   have e:(∀ k,k<n+1→BrP l k)↔(∀ k,k<n→BrP l k)∧BrP l n:=⟨fun h=>⟨fun k hk=>h k (by omega),h n (by omega)⟩,fun h k hk=>by
    rcases Nat.lt_or_ge k n with h1 | h1
    ·exact h.1 k h1
    ·obtain rfl:k=n:=by omega
     exact h.2⟩
   rw [e,ih,nodup_step (l:=l) (k:=n) (by omega),brp_iff (l:=l) (k:=n) (by omega)]
   show _↔(ordB l n&&_)=true∧_
   rw [Bool.and_eq_true (ordB l n)]
   constructor
   ·rintro ⟨⟨a,b⟩,c,d⟩;exact ⟨⟨a,c⟩,b,d⟩
   ·rintro ⟨⟨a,c⟩,b,d⟩;exact ⟨⟨a,b⟩,c,d⟩
theorem good_of {l:List Bi} (h:∀ k,k<l.length→BrP l k):l=up (dn l)∧Dg.Good (dn l):=by
 obtain ⟨h1,h2⟩:=(brs_iff l.length (Nat.le_refl _)).1 h
 rw [List.take_length] at h2
 have e:=ordB_up h1
 rw [e] at h1 h2
 rw [up_len] at h1
 obtain ⟨o1,o2⟩:=ordB_ord h1
 exact ⟨e,o1,o2,nodup_up.1 h2⟩
def dset (l:List Bi) (r:Int):Cfg→Bool:=Den (dn l) r.toNat
theorem chk_self {l:List Bi} {r:Int} (hl:l.length≤4096):chk l r=0↔(0≤r∧r<(l.length:Int)+2)∧(∀ k,k<l.length→BrP l k)∧r=((cn (dset l r)).2:Int)∧l=up (cn (dset l r)).1:=by
 unfold dset
 constructor
 ·intro h
  obtain ⟨M,n,rfl,rfl,hv,_⟩:=chk_ok.1 h
  have hO:=ord_ordB hv.good.ord hv.good.red M.length (Nat.le_refl _)
  have hN:=nodup_up.2 hv.good.nodup
  have hlt:=hv.lt
  rw [dn_up,show ((n:Int)).toNat=n by omega,cn_of hv]
  refine ⟨⟨by omega,by rw [up_len];omega⟩,(brs_iff (up M).length (Nat.le_refl _)).2 ⟨by rw [up_len];exact hO,by rw [List.take_length];exact hN⟩,rfl,rfl⟩
 ·rintro ⟨⟨r0,r1⟩,hb,er,el⟩
  obtain ⟨e,g⟩:=good_of hb
  have hlt:r.toNat<(dn l).length+2:=by rw [dn_len];omega
  have hself:cn (Den (dn l) r.toNat)=(dn l,r.toNat):=by
   refine Prod.ext ?_ ?_
   ·exact up_inj (el.symm.trans e)
   ·show (cn (Den (dn l) r.toNat)).2=r.toNat
    omega
  exact chk_ok.2 ⟨dn l,r.toNat,e,by omega,cn_self g hlt hself,by rw [dn_len];exact hl⟩
theorem chk_or {l:List Bi} {r:Int} (hl:l.length≤4096):chk l r=0∨chk l r=20:=by
 unfold chk
 rw [if_neg (by omega)]
 split
 ·exact .inl rfl
 ·exact .inr rfl
theorem dkh {w w':World} {d:DA} (h:Hid (DOk w d)) (hb:Below w.heap.size w w'):Hid (DOk w' d):=hid (h.out.below hb)
theorem dn_dset {w:World} {A:Option Addr} {m c:Nat} {l:List Bi} {r:Int} (h:DOk w ⟨A,m,c,l,r⟩) (hc:chk l r=0):Dn w A m c r.toNat (dset l r):=by
 obtain ⟨M,n,rfl,rfl,hv,h4⟩:=chk_ok.1 hc
 have hl:M.length=m:=by have:=h.len;rw [up_len] at this;exact this
 unfold dset
 rw [dn_up,show ((n:Int)).toNat=n by omega]
 exact ⟨by rw [cn_of hv];exact h.rd,by rw [cn_of hv];exact hl,by rw [cn_of hv],h.mc,by omega,den_dep64 hv.good.ord hv.lt⟩
set_option linter.unusedVariables false
set_option linter.unusedSimpArgs false
attribute [local go_sem ↓] Go.wp_at_zero Go.wp_at_succ
theorem hTake {P:Program} {md:Region.Mode} {ops:Array Oper} {Q:Exit→Act→World→Prop} {S:World→Prop} {i:Nat} {oi:Oper} {v:Value} {fuel:Nat} {listed:Array Bool} {a:Act} {w:World} (slot:Nat) (hi:ops[i]? = some oi) (hd:oi.dst=some slot)
  (hs:Region.noSelect ops=true) (hf:Region.free md ops listed i=true) (hr:(Region.ready md ops listed).contains i=true)
  (hQ:∀ c a w,Q (.panic c) (a.put oi.dst v) w→Q (.panic c) a w) (hy:YieldsIf P ops S oi v a) (hS:S w)
  (h:wpAnyH P md ops Q S fuel (listed.setIfInBounds i true) (a.put (some slot) v) w):wpAnyH P md ops Q S (fuel+1) listed a w :=
 wpAnyH_take hi hs hf hr hQ hy hS (by rw [hd];exact h)
theorem notin_take {l:List Bi} {x:Bi} {k:Nat} (h:NotIn l x k) (hk:k≤l.length):x∉l.take k:=by
 intro hin
 obtain ⟨j,hj,e⟩:=List.getElem_of_mem hin
 rw [List.length_take] at hj
 rw [List.getElem_take,bi_at (by omega)] at e
 exact h j (by omega) ⟨by rw [← e],by rw [← e],by rw [← e]⟩
theorem in_take {l:List Bi} {x:Bi} {j k:Nat} (hj:j<k) (hk:k≤l.length) (h1:x.1=iv l j) (h2:x.2.1=il l j) (h3:x.2.2=ih l j):x∈l.take k:=by
 have e:x=l[j]:=by rw [bi_at (by omega)];exact Prod.ext h1 (Prod.ext h2 h3)
 rw [e,List.mem_take_iff_getElem]
 exact ⟨j,by omega,rfl⟩
abbrev B3 (w:World) (g:Nat) (a b c:Value):Prop:=Blk w g 3 (fun i=>[a,b,c].getD i undef)
theorem rb3 {w w':World} {g:Nat} {a b c:Value} (h:Hid (B3 w g a b c)) (k:Below w.heap.size w w'):Hid (B3 w' g a b c):=hid (h.out.below (by omega) k)
theorem xb3 {w:World} {g:Nat} {a b c:Value} (h:Hid (B3 w g a b c)):w.cell? ⟨g,0,none⟩=some a∧w.cell? ⟨g,1,none⟩=some b∧w.cell? ⟨g,2,none⟩=some c:=⟨(h.out 0 (by omega)).1,(h.out 1 (by omega)).1,(h.out 2 (by omega)).1⟩
theorem rlevel_any (l:List Bi) (r n:Int) (m c:Nat) (A:Option Addr) (w:World) (hrd:Hid (Rd w w.heap.size A l)) (hl:Hid (l.length=m)) (hm:m≤1000000) (h0:0≤n) (hn:n<(m:Int)+2) :
  Calls Tryz.prog 119 #[.agg #[.slice A m c,.int .i64 r],.int .i64 n] w fun e w'=>e=.returned (.int .i64 (levI l n))∧Below w.heap.size w w':=by
 have b1:=ab2 w (.cells #[.slice A m c,.int .i64 r] 31)
 have HB1:=hid b1
 by_cases h2:n<2
 ·have HL:Hid (levI l n=64):=hid (if_pos h2)
  clear b1
  go_enter Tryz.func119,Tryz.ntmps119
  go_wp2
  go_ret
  exact ⟨ret_i (by rw [HL.out]),HB1.out⟩
 ·obtain ⟨k,rfl⟩:∃ k:Nat,n=(k:Int)+2:=⟨(n - 2).toNat,by omega⟩
  have hkm:k<m:=by omega
  have HL:Hid (levI l ((k:Int)+2)=iv l k):=hid (by unfold levI;rw [if_neg h2];congr 1;omega)
  obtain ⟨b,o,e,hb,hc⟩:=hrd.out (by rw [hl.out];omega)
  subst e
  obtain ⟨d0,_,_⟩:=hc k (by rw [hl.out];exact hkm)
  have hbn:¬ b=w.heap.size:=by omega
  have i0:(k:Int)+2 - 2=(k:Int):=by omega
  have i1:(0:Int)≤(k:Int):=by omega
  have i2:(k:Int)<(m:Int):=by omega
  clear b1 hc
  generalize hV:iv l k=V at *
  have HV:=hid hV
  clear hV
  go_enter Tryz.func119,Tryz.ntmps119
  go_wp2
  go_ret
  exact ⟨ret_i (by rw [HL.out]),HB1.out⟩
theorem rbranch_any (l:List Bi) (r:Int) (m c k:Nat) (A:Option Addr) (w:World) (hd:Hid (DOk w ⟨A,m,c,l,r⟩)) (hm:m≤4096) (hk:k<m) :
  Calls Tryz.prog 104 #[.agg #[.slice A m c,.int .i64 r],.int .i64 (k:Int)] w fun e w'=>e=.returned (.bool (decide (BrP l k)))∧Below w.heap.size w w':=by
 have hrd:Rd w w.heap.size A l:=hd.out.rd
 have hlen:l.length=m:=hd.out.len
 have HLEN:=hid hlen
 obtain ⟨b,o,e,hb,hc⟩:=hrd (by omega)
 subst e
 obtain ⟨c1,c2,c3⟩:=hc k (by omega)
 have HRD:=hid hrd
 have b1:=ab2 w (.cells #[.slice (some ⟨b,o,none⟩) m c,.int .i64 r] 31)
 have X1:=nb2 w (.slice (some ⟨b,o,none⟩) m c) (.int .i64 r) 31
 have b2:=ab2 (w.alloc (.cells #[.slice (some ⟨b,o,none⟩) m c,.int .i64 r] 31)) (.cells #[.int .i64 (iv l k),.int .i64 (il l k),.int .i64 (ih l k)] 80)
 have X2:=rb2 X1 b2
 have XB:Hid (B3 ((w.alloc (.cells #[.slice (some ⟨b,o,none⟩) m c,.int .i64 r] 31)).alloc (.cells #[.int .i64 (iv l k),.int .i64 (il l k),.int .i64 (ih l k)] 80)) (w.heap.size+1) (.int .i64 (iv l k)) (.int .i64 (il l k)) (.int .i64 (ih l k))) :=
  hid (Blk.new (w:=w.alloc (.cells #[.slice (some ⟨b,o,none⟩) m c,.int .i64 r] 31)) (H:=w.heap.size+1) (by simp) [.int .i64 (iv l k),.int .i64 (il l k),.int .i64 (ih l k)] 80)
 have HB2:=hid (b1.trans (b2.mono b1.size))
 have HBR:Hid (BrP l k↔(0≤iv l k∧iv l k≤63)∧(0≤il l k∧il l k<(k:Int)+2)∧(0≤ih l k∧ih l k<(k:Int)+2)∧il l k≠ih l k∧iv l k<levI l (il l k)∧iv l k<levI l (ih l k)∧(iv l k,il l k,ih l k)∉l.take k):=hid Iff.rfl
 have hlev:∀ n:Int,0≤n→n<(k:Int)+2→∀ W,Below w.heap.size w W→Calls Tryz.prog 119 #[.agg #[.slice (some ⟨b,o,none⟩) m c,.int .i64 r],.int .i64 n] W fun e w'=>e=.returned (.int .i64 (levI l n))∧Below W.heap.size W w' :=
  fun n h0 h1 W hW=>rlevel_any l r n m c _ W (hid ((HRD.out.below hW).mono hW.size)) HLEN (by omega) h0 (by omega)
 have HCL:=hid (hlev (il l k))
 have HCH:=hid (hlev (ih l k))
 have i1:(0:Int)≤(k:Int):=by omega
 have i2:(k:Int)<(m:Int):=by omega
 have hbn:¬ b=w.heap.size:=by omega
 clear hlev b1 X1 b2 hrd hc hlen
 generalize levI l (il l k)=P at *
 generalize levI l (ih l k)=Q at *
 generalize iv l k=V at *
 generalize il l k=L at *
 generalize ih l k=H at *
 go_enter Tryz.func104,Tryz.ntmps104
 go_upto_region 2 with fail
 generalize ((w.alloc (.cells #[.slice (some ⟨b,o,none⟩) m c,.int .i64 r] 31)).alloc (.cells #[.int .i64 V,.int .i64 L,.int .i64 H] 80))=w2 at *
 obtain ⟨x0,x1,xn⟩:=xb2 X2
 obtain ⟨y0,y1,y2⟩:=xb3 XB
 by_cases q0:V<0
 ·have HF:Hid (decide (BrP l k)=false):=hid (decide_eq_false (fun h=>by obtain ⟨h1,h2,h3,h4,_,_,_⟩:=HBR.out.1 h;omega))
  go_wp2_with fail
  go_ret
  exact ⟨ret_bool HF.out.symm,HB2.out⟩
 by_cases q1:V > 63
 ·have HF:Hid (decide (BrP l k)=false):=hid (decide_eq_false (fun h=>by obtain ⟨h1,h2,h3,h4,_,_,_⟩:=HBR.out.1 h;omega))
  go_wp2_with fail
  go_ret
  exact ⟨ret_bool HF.out.symm,HB2.out⟩
 by_cases q2:L<0
 ·have HF:Hid (decide (BrP l k)=false):=hid (decide_eq_false (fun h=>by obtain ⟨h1,h2,h3,h4,_,_,_⟩:=HBR.out.1 h;omega))
  go_wp2_with fail
  go_ret
  exact ⟨ret_bool HF.out.symm,HB2.out⟩
 by_cases q3:H<0
 ·have HF:Hid (decide (BrP l k)=false):=hid (decide_eq_false (fun h=>by obtain ⟨h1,h2,h3,h4,_,_,_⟩:=HBR.out.1 h;omega))
  go_wp2_with fail
  go_ret
  exact ⟨ret_bool HF.out.symm,HB2.out⟩
 by_cases q4:L≥(k:Int)+2
 ·have HF:Hid (decide (BrP l k)=false):=hid (decide_eq_false (fun h=>by obtain ⟨h1,h2,h3,h4,_,_,_⟩:=HBR.out.1 h;omega))
  go_wp2_with fail
  go_ret
  exact ⟨ret_bool HF.out.symm,HB2.out⟩
 by_cases q5:H≥(k:Int)+2
 ·have HF:Hid (decide (BrP l k)=false):=hid (decide_eq_false (fun h=>by obtain ⟨h1,h2,h3,h4,_,_,_⟩:=HBR.out.1 h;omega))
  go_wp2_with fail
  go_ret
  exact ⟨ret_bool HF.out.symm,HB2.out⟩
 by_cases q6:L=H
 ·have HF:Hid (decide (BrP l k)=false):=hid (decide_eq_false (fun h=>by obtain ⟨h1,h2,h3,h4,_,_,_⟩:=HBR.out.1 h;exact h4 q6))
  have q6b:(L == H)=true:=by rw [q6];simp
  go_wp2_with fail
  go_ret
  exact ⟨ret_bool HF.out.symm,HB2.out⟩
 have q6b:(L == H)=false:=beq_eq_false_iff_ne.2 q6
 go_upto_region 4 with fail
 go_cut [66] (fun s66 wx=>s66=.bool (decide (P≤V∨Q≤V))∧Below w2.heap.size w2 wx)
 case first =>
  have HL:=hid (HCL.out (by omega) (by omega))
  have HH:=hid (HCH.out (by omega) (by omega))
  have hbr2:Below w.heap.size w w2.drew:=HB2.out.drew
  have HBD:=hid hbr2
  clear HCL HCH hbr2
  have HB23:Hid (∀ w3,Below w2.heap.size w2 w3→Below w.heap.size w w3):=hid (fun w3 h=>HB2.out.trans (h.mono HB2.out.size))
  have HW2:Hid (Below w2.heap.size w2 w2.drew):=hid (Below.refl _ _).drew
  obtain ⟨x0d,x1d,_⟩:=xb2 (rb2 X2 HW2.out)
  obtain ⟨y0d,y1d,y2d⟩:=xb3 (rb3 XB HW2.out)
  clear HBD x0 x1 xn y0 y1 y2 HBR
  by_cases p1:P≤V
  ·have d1:decide (P≤V)=true:=decide_eq_true p1
   have d3:Hid (decide (P≤V∨Q≤V)=true):=hid (decide_eq_true (.inl p1))
   clear p1
   refine wp_region_held_drew (S:=(fun w'=>w'.cell? ⟨w.heap.size,0,none⟩=some (.slice (some ⟨b,o,none⟩) m c)∧w'.cell? ⟨w.heap.size,1,none⟩=some (.int .i64 r)∧w'.cell? ⟨w.heap.size+1,0,none⟩=some (.int .i64 V)∧w'.cell? ⟨w.heap.size+1,1,none⟩=some (.int .i64 L)∧w'.cell? ⟨w.heap.size+1,2,none⟩=some (.int .i64 H))) (by kernel_rfl) ?_ (fun hHeld=>?_)
   ·(try dsimp only);first | (refine ⟨?_,?_,?_,?_,?_⟩ <;> (with_reducible assumption)) | go_keep
   refine hTake (i:=0) (v:=.agg #[.slice (some ⟨b,o,none⟩) m c,.int .i64 r]) 51 rfl rfl (by kernel_rfl) (by kernel_rfl) (by kernel_rfl) (fun _ _ _ h=>h) (Or.inl ⟨by rfl,?_⟩) hHeld ?_
   ·(intro wS hSw;(try dsimp only at hSw);go_simp)
   simp only [Act.put,List.setIfInBounds_toArray,List.set_cons_zero,List.set_cons_succ]
   refine hTake (i:=1) (v:=.pointer (some ⟨w.heap.size+1,1,none⟩)) 52 rfl rfl (by kernel_rfl) (by kernel_rfl) (by kernel_rfl) (fun _ _ _ h=>h) (Or.inl ⟨by rfl,?_⟩) hHeld ?_
   ·(intro wS hSw;(try dsimp only at hSw);go_simp)
   simp only [Act.put,List.setIfInBounds_toArray,List.set_cons_zero,List.set_cons_succ]
   refine hTake (i:=4) (v:=.pointer (some ⟨w.heap.size+1,0,none⟩)) 55 rfl rfl (by kernel_rfl) (by kernel_rfl) (by kernel_rfl) (fun _ _ _ h=>h) (Or.inl ⟨by rfl,?_⟩) hHeld ?_
   ·(intro wS hSw;(try dsimp only at hSw);go_simp)
   simp only [Act.put,List.setIfInBounds_toArray,List.set_cons_zero,List.set_cons_succ]
   refine hTake (i:=2) (v:=.int .i64 L) 53 rfl rfl (by kernel_rfl) (by kernel_rfl) (by kernel_rfl) (fun _ _ _ h=>h) (Or.inl ⟨by rfl,?_⟩) hHeld ?_
   ·(intro wS hSw;(try dsimp only at hSw);go_simp)
   simp only [Act.put,List.setIfInBounds_toArray,List.set_cons_zero,List.set_cons_succ]
   refine hTake (i:=5) (v:=.int .i64 V) 56 rfl rfl (by kernel_rfl) (by kernel_rfl) (by kernel_rfl) (fun _ _ _ h=>h) (Or.inl ⟨by rfl,?_⟩) hHeld ?_
   ·(intro wS hSw;(try dsimp only at hSw);go_simp)
   simp only [Act.put,List.setIfInBounds_toArray,List.set_cons_zero,List.set_cons_succ]
   refine wpAnyH_ready (rs:=[3]) (by kernel_rfl) (by simp) ?_
   refine AllReadyH.cons (o := { dst := some 54, op := Op.call { callee := Callee.value (Operand.func 119), args := #[Operand.tmp 51, Operand.tmp 53], argTypes := #[31, 3] }, type := 3, pos := "ref.go:20", after := #[⟨0, .data⟩, ⟨2, .data⟩], guard := none }) rfl (fun K hK => ?_) AllReadyH.nil
   go_simp
   go_at_call 119
   with_reducible refine (HL.out w2.drew (HB23.out _ HW2.out)).mono ?_
   rintro e w3 ⟨rfl,b9⟩
   have HB3:=btr HW2 b9 HW2.out.size
   obtain ⟨x0w3,x1w3,_⟩:=xb2 (rb2 X2 HB3.out)
   obtain ⟨y0w3,y1w3,y2w3⟩:=xb3 (rb3 XB HB3.out)
   clear b9
   go_wp2_with fail
   refine hK.out _ _ ?_ (fun hHeld=>?_)
   ·(try dsimp only);first | (refine ⟨?_,?_,?_,?_,?_⟩ <;> (with_reducible assumption)) | go_keep
   clear hK K
   try simp only [Act.put,List.setIfInBounds_toArray,List.set_cons_zero,List.set_cons_succ]
   refine hTake (i:=6) (v:=.bool true) 57 rfl rfl (by kernel_rfl) (by kernel_rfl) (by kernel_rfl) (fun _ _ _ h=>h) (Or.inl ⟨by rfl,?_⟩) hHeld ?_
   ·(intro wS hSw;(try dsimp only at hSw);go_simp)
   simp only [Act.put,List.setIfInBounds_toArray,List.set_cons_zero,List.set_cons_succ]
   refine hTake (i:=7) (v:=.bool true) 58 rfl rfl (by kernel_rfl) (by kernel_rfl) (by kernel_rfl) (fun _ _ _ h=>h) (Or.inl ⟨by rfl,?_⟩) hHeld ?_
   ·(intro wS hSw;(try dsimp only at hSw);go_simp)
   simp only [Act.put,List.setIfInBounds_toArray,List.set_cons_zero,List.set_cons_succ]
   refine hTake (i:=8) (v:=undef) 59 rfl rfl (by kernel_rfl) (by kernel_rfl) (by kernel_rfl) (fun _ _ _ h=>h) (Or.inr ⟨by rfl,rfl⟩) hHeld ?_
   simp only [Act.put,List.setIfInBounds_toArray,List.set_cons_zero,List.set_cons_succ]
   refine hTake (i:=9) (v:=undef) 60 rfl rfl (by kernel_rfl) (by kernel_rfl) (by kernel_rfl) (fun _ _ _ h=>h) (Or.inr ⟨by rfl,rfl⟩) hHeld ?_
   simp only [Act.put,List.setIfInBounds_toArray,List.set_cons_zero,List.set_cons_succ]
   refine hTake (i:=10) (v:=undef) 61 rfl rfl (by kernel_rfl) (by kernel_rfl) (by kernel_rfl) (fun _ _ _ h=>h) (Or.inr ⟨by rfl,rfl⟩) hHeld ?_
   simp only [Act.put,List.setIfInBounds_toArray,List.set_cons_zero,List.set_cons_succ]
   refine hTake (i:=11) (v:=undef) 62 rfl rfl (by kernel_rfl) (by kernel_rfl) (by kernel_rfl) (fun _ _ _ h=>h) (Or.inr ⟨by rfl,rfl⟩) hHeld ?_
   simp only [Act.put,List.setIfInBounds_toArray,List.set_cons_zero,List.set_cons_succ]
   refine hTake (i:=12) (v:=undef) 63 rfl rfl (by kernel_rfl) (by kernel_rfl) (by kernel_rfl) (fun _ _ _ h=>h) (Or.inr ⟨by rfl,rfl⟩) hHeld ?_
   simp only [Act.put,List.setIfInBounds_toArray,List.set_cons_zero,List.set_cons_succ]
   refine hTake (i:=13) (v:=undef) 64 rfl rfl (by kernel_rfl) (by kernel_rfl) (by kernel_rfl) (fun _ _ _ h=>h) (Or.inr ⟨by rfl,rfl⟩) hHeld ?_
   simp only [Act.put,List.setIfInBounds_toArray,List.set_cons_zero,List.set_cons_succ]
   refine hTake (i:=14) (v:=undef) 65 rfl rfl (by kernel_rfl) (by kernel_rfl) (by kernel_rfl) (fun _ _ _ h=>h) (Or.inr ⟨by rfl,rfl⟩) hHeld ?_
   simp only [Act.put,List.setIfInBounds_toArray,List.set_cons_zero,List.set_cons_succ]
   refine hTake (i:=15) (v:=.bool true) 66 rfl rfl (by kernel_rfl) (by kernel_rfl) (by kernel_rfl) (fun _ _ _ h=>h) (Or.inl ⟨by rfl,?_⟩) hHeld ?_
   ·(intro wS hSw;(try dsimp only at hSw);go_simp)
   simp only [Act.put,List.setIfInBounds_toArray,List.set_cons_zero,List.set_cons_succ]
   refine wpAnyH_done (by kernel_rfl) ?_ _
   go_wp2_with fail
   go_meet
   exact ⟨by rw [d3.out],HB3.out⟩
  ·have d1:decide (P≤V)=false:=decide_eq_false p1
   by_cases p2:Q≤V
   ·have d2:decide (Q≤V)=true:=decide_eq_true p2
    have d3:Hid (decide (P≤V∨Q≤V)=true):=hid (decide_eq_true (.inr p2))
    clear p1 p2
    refine wp_region_held_drew (S:=(fun w'=>w'.cell? ⟨w.heap.size,0,none⟩=some (.slice (some ⟨b,o,none⟩) m c)∧w'.cell? ⟨w.heap.size,1,none⟩=some (.int .i64 r)∧w'.cell? ⟨w.heap.size+1,0,none⟩=some (.int .i64 V)∧w'.cell? ⟨w.heap.size+1,1,none⟩=some (.int .i64 L)∧w'.cell? ⟨w.heap.size+1,2,none⟩=some (.int .i64 H))) (by kernel_rfl) ?_ (fun hHeld=>?_)
    ·(try dsimp only);first | (refine ⟨?_,?_,?_,?_,?_⟩ <;> (with_reducible assumption)) | go_keep
    refine hTake (i:=0) (v:=.agg #[.slice (some ⟨b,o,none⟩) m c,.int .i64 r]) 51 rfl rfl (by kernel_rfl) (by kernel_rfl) (by kernel_rfl) (fun _ _ _ h=>h) (Or.inl ⟨by rfl,?_⟩) hHeld ?_
    ·(intro wS hSw;(try dsimp only at hSw);go_simp)
    simp only [Act.put,List.setIfInBounds_toArray,List.set_cons_zero,List.set_cons_succ]
    refine hTake (i:=1) (v:=.pointer (some ⟨w.heap.size+1,1,none⟩)) 52 rfl rfl (by kernel_rfl) (by kernel_rfl) (by kernel_rfl) (fun _ _ _ h=>h) (Or.inl ⟨by rfl,?_⟩) hHeld ?_
    ·(intro wS hSw;(try dsimp only at hSw);go_simp)
    simp only [Act.put,List.setIfInBounds_toArray,List.set_cons_zero,List.set_cons_succ]
    refine hTake (i:=4) (v:=.pointer (some ⟨w.heap.size+1,0,none⟩)) 55 rfl rfl (by kernel_rfl) (by kernel_rfl) (by kernel_rfl) (fun _ _ _ h=>h) (Or.inl ⟨by rfl,?_⟩) hHeld ?_
    ·(intro wS hSw;(try dsimp only at hSw);go_simp)
    simp only [Act.put,List.setIfInBounds_toArray,List.set_cons_zero,List.set_cons_succ]
    refine hTake (i:=2) (v:=.int .i64 L) 53 rfl rfl (by kernel_rfl) (by kernel_rfl) (by kernel_rfl) (fun _ _ _ h=>h) (Or.inl ⟨by rfl,?_⟩) hHeld ?_
    ·(intro wS hSw;(try dsimp only at hSw);go_simp)
    simp only [Act.put,List.setIfInBounds_toArray,List.set_cons_zero,List.set_cons_succ]
    refine hTake (i:=5) (v:=.int .i64 V) 56 rfl rfl (by kernel_rfl) (by kernel_rfl) (by kernel_rfl) (fun _ _ _ h=>h) (Or.inl ⟨by rfl,?_⟩) hHeld ?_
    ·(intro wS hSw;(try dsimp only at hSw);go_simp)
    simp only [Act.put,List.setIfInBounds_toArray,List.set_cons_zero,List.set_cons_succ]
    refine wpAnyH_ready (rs:=[3]) (by kernel_rfl) (by simp) ?_
    refine AllReadyH.cons (o := { dst := some 54, op := Op.call { callee := Callee.value (Operand.func 119), args := #[Operand.tmp 51, Operand.tmp 53], argTypes := #[31, 3] }, type := 3, pos := "ref.go:20", after := #[⟨0, .data⟩, ⟨2, .data⟩], guard := none }) rfl (fun K hK => ?_) AllReadyH.nil
    go_simp
    go_at_call 119
    with_reducible refine (HL.out w2.drew (HB23.out _ HW2.out)).mono ?_
    rintro e w3 ⟨rfl,b9⟩
    have HB3:=btr HW2 b9 HW2.out.size
    obtain ⟨x0w3,x1w3,_⟩:=xb2 (rb2 X2 HB3.out)
    obtain ⟨y0w3,y1w3,y2w3⟩:=xb3 (rb3 XB HB3.out)
    clear b9
    go_wp2_with fail
    refine hK.out _ _ ?_ (fun hHeld=>?_)
    ·(try dsimp only);first | (refine ⟨?_,?_,?_,?_,?_⟩ <;> (with_reducible assumption)) | go_keep
    clear hK K
    try simp only [Act.put,List.setIfInBounds_toArray,List.set_cons_zero,List.set_cons_succ]
    refine hTake (i:=6) (v:=.bool false) 57 rfl rfl (by kernel_rfl) (by kernel_rfl) (by kernel_rfl) (fun _ _ _ h=>h) (Or.inl ⟨by rfl,?_⟩) hHeld ?_
    ·(intro wS hSw;(try dsimp only at hSw);go_simp)
    simp only [Act.put,List.setIfInBounds_toArray,List.set_cons_zero,List.set_cons_succ]
    refine hTake (i:=7) (v:=.bool false) 58 rfl rfl (by kernel_rfl) (by kernel_rfl) (by kernel_rfl) (fun _ _ _ h=>h) (Or.inl ⟨by rfl,?_⟩) hHeld ?_
    ·(intro wS hSw;(try dsimp only at hSw);go_simp)
    simp only [Act.put,List.setIfInBounds_toArray,List.set_cons_zero,List.set_cons_succ]
    refine hTake (i:=8) (v:=.agg #[.slice (some ⟨b,o,none⟩) m c,.int .i64 r]) 59 rfl rfl (by kernel_rfl) (by kernel_rfl) (by kernel_rfl) (fun _ _ _ h=>h) (Or.inl ⟨by rfl,?_⟩) hHeld ?_
    ·(intro wS hSw;(try dsimp only at hSw);go_simp)
    simp only [Act.put,List.setIfInBounds_toArray,List.set_cons_zero,List.set_cons_succ]
    refine hTake (i:=9) (v:=.pointer (some ⟨w.heap.size+1,2,none⟩)) 60 rfl rfl (by kernel_rfl) (by kernel_rfl) (by kernel_rfl) (fun _ _ _ h=>h) (Or.inl ⟨by rfl,?_⟩) hHeld ?_
    ·(intro wS hSw;(try dsimp only at hSw);go_simp)
    simp only [Act.put,List.setIfInBounds_toArray,List.set_cons_zero,List.set_cons_succ]
    refine hTake (i:=12) (v:=.pointer (some ⟨w.heap.size+1,0,none⟩)) 63 rfl rfl (by kernel_rfl) (by kernel_rfl) (by kernel_rfl) (fun _ _ _ h=>h) (Or.inl ⟨by rfl,?_⟩) hHeld ?_
    ·(intro wS hSw;(try dsimp only at hSw);go_simp)
    simp only [Act.put,List.setIfInBounds_toArray,List.set_cons_zero,List.set_cons_succ]
    refine hTake (i:=10) (v:=.int .i64 H) 61 rfl rfl (by kernel_rfl) (by kernel_rfl) (by kernel_rfl) (fun _ _ _ h=>h) (Or.inl ⟨by rfl,?_⟩) hHeld ?_
    ·(intro wS hSw;(try dsimp only at hSw);go_simp)
    simp only [Act.put,List.setIfInBounds_toArray,List.set_cons_zero,List.set_cons_succ]
    refine hTake (i:=13) (v:=.int .i64 V) 64 rfl rfl (by kernel_rfl) (by kernel_rfl) (by kernel_rfl) (fun _ _ _ h=>h) (Or.inl ⟨by rfl,?_⟩) hHeld ?_
    ·(intro wS hSw;(try dsimp only at hSw);go_simp)
    simp only [Act.put,List.setIfInBounds_toArray,List.set_cons_zero,List.set_cons_succ]
    refine wpAnyH_ready (rs:=[11]) (by kernel_rfl) (by simp) ?_
    refine AllReadyH.cons (o := { dst := some 62, op := Op.call { callee := Callee.value (Operand.func 119), args := #[Operand.tmp 59, Operand.tmp 61], argTypes := #[31, 3] }, type := 3, pos := "ref.go:20", after := #[⟨8, .data⟩, ⟨10, .data⟩, ⟨7, .chain⟩, ⟨7, .guard⟩], guard := some (7, false) }) rfl (fun K hK => ?_) AllReadyH.nil
    go_simp
    go_at_call 119
    with_reducible refine (HH.out w3 (HB23.out _ HB3.out)).mono ?_
    rintro e w4 ⟨rfl,b9⟩
    have HB4:=btr HB3 b9 HB3.out.size
    obtain ⟨x0w4,x1w4,_⟩:=xb2 (rb2 X2 HB4.out)
    obtain ⟨y0w4,y1w4,y2w4⟩:=xb3 (rb3 XB HB4.out)
    clear b9
    go_wp2_with fail
    refine hK.out _ _ ?_ (fun hHeld=>?_)
    ·(try dsimp only);first | (refine ⟨?_,?_,?_,?_,?_⟩ <;> (with_reducible assumption)) | go_keep
    clear hK K
    try simp only [Act.put,List.setIfInBounds_toArray,List.set_cons_zero,List.set_cons_succ]
    refine hTake (i:=14) (v:=.bool true) 65 rfl rfl (by kernel_rfl) (by kernel_rfl) (by kernel_rfl) (fun _ _ _ h=>h) (Or.inl ⟨by rfl,?_⟩) hHeld ?_
    ·(intro wS hSw;(try dsimp only at hSw);go_simp)
    simp only [Act.put,List.setIfInBounds_toArray,List.set_cons_zero,List.set_cons_succ]
    refine hTake (i:=15) (v:=.bool true) 66 rfl rfl (by kernel_rfl) (by kernel_rfl) (by kernel_rfl) (fun _ _ _ h=>h) (Or.inl ⟨by rfl,?_⟩) hHeld ?_
    ·(intro wS hSw;(try dsimp only at hSw);go_simp)
    simp only [Act.put,List.setIfInBounds_toArray,List.set_cons_zero,List.set_cons_succ]
    refine wpAnyH_done (by kernel_rfl) ?_ _
    go_wp2_with fail
    go_meet
    exact ⟨by rw [d3.out],HB4.out⟩
   ·have d2:decide (Q≤V)=false:=decide_eq_false p2
    have d3:Hid (decide (P≤V∨Q≤V)=false):=hid (decide_eq_false (by omega))
    clear p1 p2
    refine wp_region_held_drew (S:=(fun w'=>w'.cell? ⟨w.heap.size,0,none⟩=some (.slice (some ⟨b,o,none⟩) m c)∧w'.cell? ⟨w.heap.size,1,none⟩=some (.int .i64 r)∧w'.cell? ⟨w.heap.size+1,0,none⟩=some (.int .i64 V)∧w'.cell? ⟨w.heap.size+1,1,none⟩=some (.int .i64 L)∧w'.cell? ⟨w.heap.size+1,2,none⟩=some (.int .i64 H))) (by kernel_rfl) ?_ (fun hHeld=>?_)
    ·(try dsimp only);first | (refine ⟨?_,?_,?_,?_,?_⟩ <;> (with_reducible assumption)) | go_keep
    refine hTake (i:=0) (v:=.agg #[.slice (some ⟨b,o,none⟩) m c,.int .i64 r]) 51 rfl rfl (by kernel_rfl) (by kernel_rfl) (by kernel_rfl) (fun _ _ _ h=>h) (Or.inl ⟨by rfl,?_⟩) hHeld ?_
    ·(intro wS hSw;(try dsimp only at hSw);go_simp)
    simp only [Act.put,List.setIfInBounds_toArray,List.set_cons_zero,List.set_cons_succ]
    refine hTake (i:=1) (v:=.pointer (some ⟨w.heap.size+1,1,none⟩)) 52 rfl rfl (by kernel_rfl) (by kernel_rfl) (by kernel_rfl) (fun _ _ _ h=>h) (Or.inl ⟨by rfl,?_⟩) hHeld ?_
    ·(intro wS hSw;(try dsimp only at hSw);go_simp)
    simp only [Act.put,List.setIfInBounds_toArray,List.set_cons_zero,List.set_cons_succ]
    refine hTake (i:=4) (v:=.pointer (some ⟨w.heap.size+1,0,none⟩)) 55 rfl rfl (by kernel_rfl) (by kernel_rfl) (by kernel_rfl) (fun _ _ _ h=>h) (Or.inl ⟨by rfl,?_⟩) hHeld ?_
    ·(intro wS hSw;(try dsimp only at hSw);go_simp)
    simp only [Act.put,List.setIfInBounds_toArray,List.set_cons_zero,List.set_cons_succ]
    refine hTake (i:=2) (v:=.int .i64 L) 53 rfl rfl (by kernel_rfl) (by kernel_rfl) (by kernel_rfl) (fun _ _ _ h=>h) (Or.inl ⟨by rfl,?_⟩) hHeld ?_
    ·(intro wS hSw;(try dsimp only at hSw);go_simp)
    simp only [Act.put,List.setIfInBounds_toArray,List.set_cons_zero,List.set_cons_succ]
    refine hTake (i:=5) (v:=.int .i64 V) 56 rfl rfl (by kernel_rfl) (by kernel_rfl) (by kernel_rfl) (fun _ _ _ h=>h) (Or.inl ⟨by rfl,?_⟩) hHeld ?_
    ·(intro wS hSw;(try dsimp only at hSw);go_simp)
    simp only [Act.put,List.setIfInBounds_toArray,List.set_cons_zero,List.set_cons_succ]
    refine wpAnyH_ready (rs:=[3]) (by kernel_rfl) (by simp) ?_
    refine AllReadyH.cons (o := { dst := some 54, op := Op.call { callee := Callee.value (Operand.func 119), args := #[Operand.tmp 51, Operand.tmp 53], argTypes := #[31, 3] }, type := 3, pos := "ref.go:20", after := #[⟨0, .data⟩, ⟨2, .data⟩], guard := none }) rfl (fun K hK => ?_) AllReadyH.nil
    go_simp
    go_at_call 119
    with_reducible refine (HL.out w2.drew (HB23.out _ HW2.out)).mono ?_
    rintro e w3 ⟨rfl,b9⟩
    have HB3:=btr HW2 b9 HW2.out.size
    obtain ⟨x0w3,x1w3,_⟩:=xb2 (rb2 X2 HB3.out)
    obtain ⟨y0w3,y1w3,y2w3⟩:=xb3 (rb3 XB HB3.out)
    clear b9
    go_wp2_with fail
    refine hK.out _ _ ?_ (fun hHeld=>?_)
    ·(try dsimp only);first | (refine ⟨?_,?_,?_,?_,?_⟩ <;> (with_reducible assumption)) | go_keep
    clear hK K
    try simp only [Act.put,List.setIfInBounds_toArray,List.set_cons_zero,List.set_cons_succ]
    refine hTake (i:=6) (v:=.bool false) 57 rfl rfl (by kernel_rfl) (by kernel_rfl) (by kernel_rfl) (fun _ _ _ h=>h) (Or.inl ⟨by rfl,?_⟩) hHeld ?_
    ·(intro wS hSw;(try dsimp only at hSw);go_simp)
    simp only [Act.put,List.setIfInBounds_toArray,List.set_cons_zero,List.set_cons_succ]
    refine hTake (i:=7) (v:=.bool false) 58 rfl rfl (by kernel_rfl) (by kernel_rfl) (by kernel_rfl) (fun _ _ _ h=>h) (Or.inl ⟨by rfl,?_⟩) hHeld ?_
    ·(intro wS hSw;(try dsimp only at hSw);go_simp)
    simp only [Act.put,List.setIfInBounds_toArray,List.set_cons_zero,List.set_cons_succ]
    refine hTake (i:=8) (v:=.agg #[.slice (some ⟨b,o,none⟩) m c,.int .i64 r]) 59 rfl rfl (by kernel_rfl) (by kernel_rfl) (by kernel_rfl) (fun _ _ _ h=>h) (Or.inl ⟨by rfl,?_⟩) hHeld ?_
    ·(intro wS hSw;(try dsimp only at hSw);go_simp)
    simp only [Act.put,List.setIfInBounds_toArray,List.set_cons_zero,List.set_cons_succ]
    refine hTake (i:=9) (v:=.pointer (some ⟨w.heap.size+1,2,none⟩)) 60 rfl rfl (by kernel_rfl) (by kernel_rfl) (by kernel_rfl) (fun _ _ _ h=>h) (Or.inl ⟨by rfl,?_⟩) hHeld ?_
    ·(intro wS hSw;(try dsimp only at hSw);go_simp)
    simp only [Act.put,List.setIfInBounds_toArray,List.set_cons_zero,List.set_cons_succ]
    refine hTake (i:=12) (v:=.pointer (some ⟨w.heap.size+1,0,none⟩)) 63 rfl rfl (by kernel_rfl) (by kernel_rfl) (by kernel_rfl) (fun _ _ _ h=>h) (Or.inl ⟨by rfl,?_⟩) hHeld ?_
    ·(intro wS hSw;(try dsimp only at hSw);go_simp)
    simp only [Act.put,List.setIfInBounds_toArray,List.set_cons_zero,List.set_cons_succ]
    refine hTake (i:=10) (v:=.int .i64 H) 61 rfl rfl (by kernel_rfl) (by kernel_rfl) (by kernel_rfl) (fun _ _ _ h=>h) (Or.inl ⟨by rfl,?_⟩) hHeld ?_
    ·(intro wS hSw;(try dsimp only at hSw);go_simp)
    simp only [Act.put,List.setIfInBounds_toArray,List.set_cons_zero,List.set_cons_succ]
    refine hTake (i:=13) (v:=.int .i64 V) 64 rfl rfl (by kernel_rfl) (by kernel_rfl) (by kernel_rfl) (fun _ _ _ h=>h) (Or.inl ⟨by rfl,?_⟩) hHeld ?_
    ·(intro wS hSw;(try dsimp only at hSw);go_simp)
    simp only [Act.put,List.setIfInBounds_toArray,List.set_cons_zero,List.set_cons_succ]
    refine wpAnyH_ready (rs:=[11]) (by kernel_rfl) (by simp) ?_
    refine AllReadyH.cons (o := { dst := some 62, op := Op.call { callee := Callee.value (Operand.func 119), args := #[Operand.tmp 59, Operand.tmp 61], argTypes := #[31, 3] }, type := 3, pos := "ref.go:20", after := #[⟨8, .data⟩, ⟨10, .data⟩, ⟨7, .chain⟩, ⟨7, .guard⟩], guard := some (7, false) }) rfl (fun K hK => ?_) AllReadyH.nil
    go_simp
    go_at_call 119
    with_reducible refine (HH.out w3 (HB23.out _ HB3.out)).mono ?_
    rintro e w4 ⟨rfl,b9⟩
    have HB4:=btr HB3 b9 HB3.out.size
    obtain ⟨x0w4,x1w4,_⟩:=xb2 (rb2 X2 HB4.out)
    obtain ⟨y0w4,y1w4,y2w4⟩:=xb3 (rb3 XB HB4.out)
    clear b9
    go_wp2_with fail
    refine hK.out _ _ ?_ (fun hHeld=>?_)
    ·(try dsimp only);first | (refine ⟨?_,?_,?_,?_,?_⟩ <;> (with_reducible assumption)) | go_keep
    clear hK K
    try simp only [Act.put,List.setIfInBounds_toArray,List.set_cons_zero,List.set_cons_succ]
    refine hTake (i:=14) (v:=.bool false) 65 rfl rfl (by kernel_rfl) (by kernel_rfl) (by kernel_rfl) (fun _ _ _ h=>h) (Or.inl ⟨by rfl,?_⟩) hHeld ?_
    ·(intro wS hSw;(try dsimp only at hSw);go_simp)
    simp only [Act.put,List.setIfInBounds_toArray,List.set_cons_zero,List.set_cons_succ]
    refine hTake (i:=15) (v:=.bool false) 66 rfl rfl (by kernel_rfl) (by kernel_rfl) (by kernel_rfl) (fun _ _ _ h=>h) (Or.inl ⟨by rfl,?_⟩) hHeld ?_
    ·(intro wS hSw;(try dsimp only at hSw);go_simp)
    simp only [Act.put,List.setIfInBounds_toArray,List.set_cons_zero,List.set_cons_succ]
    refine wpAnyH_done (by kernel_rfl) ?_ _
    go_wp2_with fail
    go_meet
    exact ⟨by rw [d3.out],HB4.out⟩
 case rest =>
 obtain ⟨rfl,hbc⟩:=hcut
 have X2:=rb2 X2 hbc
 have XB:=rb3 XB hbc
 have HBC:=btr HB2 hbc HB2.out.size
 clear hbc x0 x1 xn y0 y1 y2 HCL HCH HB2
 by_cases p:P≤V∨Q≤V
 ·have HF:Hid (decide (BrP l k)=false):=hid (decide_eq_false (fun h=>by obtain ⟨h1,h2,h3,h4,h5,h6,_⟩:=HBR.out.1 h;omega))
  rw [decide_eq_true p]
  go_wp2_with fail
  go_ret
  exact ⟨ret_bool HF.out.symm,HBC.out⟩
 ·rw [decide_eq_false p]
  have hT:(V,L,H)∉l.take k→BrP l k:=fun hn=>HBR.out.2 ⟨⟨by omega,by omega⟩,⟨by omega,by omega⟩,⟨by omega,by omega⟩,q6,by omega,by omega,hn⟩
  have hN:(V,L,H)∈l.take k→¬ BrP l k:=fun hi h=>(HBR.out.1 h).2.2.2.2.2.2 hi
  have HT:=hid hT
  have HN:=hid hN
  clear hT hN HBR p q0 q1 q2 q3 q4 q5 q6 q6b
  obtain ⟨x0,x1,xn⟩:=xb2 X2
  go_wp2_with fail
  go_loopw [6] (fun i wr=>∃ j:Nat,j≤k∧i=.int .i64 j∧Hid (NotIn l (V,L,H) j)∧Hid (Below wc.heap.size wc wr)) (fun i _=>k - (intOf i).toNat)
  case atStart=>exact ⟨0,Nat.zero_le _,rfl,lid' (fun j hj=>absurd hj (by omega)),lid' (Below.refl _ _)⟩
  case round =>
   obtain ⟨j,hj,rfl,hno,hbl⟩:=hrel
   obtain ⟨x0,x1,xn⟩:=xb2 (rb2 X2 hbl.out)
   obtain ⟨y0,y1,y2⟩:=xb3 (rb3 XB hbl.out)
   have HBB:=btr HBC hbl.out HBC.out.size
   by_cases hlt:j<k
   ·obtain ⟨b',o',e,hb',hc⟩:=(HRD.out.below HBB.out) (by rw [HLEN.out];omega)
    injection e with e
    injection e with e1 e2
    subst e1
    subst e2
    obtain ⟨d1,d2,d3⟩:=hc j (by rw [HLEN.out];omega)
    have hnx:¬ (V=iv l j∧L=il l j∧H=ih l j)→NotIn l (V,L,H) (j+1):=fun h i hi=>by
     rcases Nat.lt_or_ge i j with h1 | h1
     ·exact hno.out i h1
     ·rw [show i=j by omega];exact h
    have hin:V=iv l j→L=il l j→H=ih l j→(V,L,H)∈l.take k:=fun h1 h2 h3=>in_take hlt (by rw [HLEN.out];omega) h1 h2 h3
    have HNX:=hid hnx
    have HINN:=hid hin
    have j1:(0:Int)≤(j:Int):=by omega
    have j2:(j:Int)<(m:Int):=by omega
    clear hnx hin hc
    generalize iv l j=V' at *
    generalize il l j=L' at *
    generalize ih l j=H' at *
    have heq:=fun W:World=>run_eql_br W V' L' H' V L H
    by_cases q:V=V'∧L=L'∧H=H'
    ·have hq:(V' == V&&(L' == L&&H' == H))=true:=by simp [q.1,q.2.1,q.2.2]
     have HF:Hid (decide (BrP l k)=false):=hid (decide_eq_false (HN.out (HINN.out q.1 q.2.1 q.2.2)))
     rw [hq] at heq
     clear q hq
     go_wp2
     go_quiet (fail)
     go_wp2
     go_ret
     exact ⟨ret_bool HF.out.symm,below_drewN HBB.out _⟩
    ·have hq:(V' == V&&(L' == L&&H' == H))=false:=by
      rcases h:(V' == V&&(L' == L&&H' == H)) with _ | _
      ·rfl
      ·simp at h;exact absurd ⟨h.1.symm,h.2.1.symm,h.2.2.symm⟩ q
     have HN2:=hid (HNX.out q)
     rw [hq] at heq
     clear q hq
     go_wp2
     go_quiet (fail)
     go_wp2
     go_roundw
     case rel=>exact ⟨j+1,by omega,by go_num,HN2,below_drewN hbl.out _⟩
     case measure=>simp [intOf];omega
   ·obtain rfl:j=k:=by omega
    have HTT:Hid (decide (BrP l j)=true):=hid (decide_eq_true (HT.out (notin_take hno.out (by rw [HLEN.out];omega))))
    go_wp2
    go_ret
    exact ⟨ret_bool HTT.out.symm,HBB.out⟩
set_option linter.unusedVariables false
set_option linter.unusedSimpArgs false
attribute [local go_sem ↓] Go.wp_at_zero Go.wp_at_succ
theorem dok_rd {w:World} {A:Option Addr} {m c:Nat} {l:List Bi} {r:Int} (h:DOk w ⟨A,m,c,l,r⟩):Rd w w.heap.size A l∧l.length=m:=⟨h.rd,h.len⟩
theorem rvalid_any (l:List Bi) (r:Int) (m c:Nat) (A:Option Addr) (w:World) (hd:Hid (DOk w ⟨A,m,c,l,r⟩)) (hm:m≤4096) :
  Calls Tryz.prog 80 #[.agg #[.slice A m c,.int .i64 r]] w fun e w'=>e=.returned (.bool (decide (chk l r=0)))∧Below w.heap.size w w':=by
 have hlen:l.length=m:=(dok_rd hd.out).2
 have HCS:Hid (chk l r=0↔(0≤r∧r<(m:Int)+2)∧(∀ k,k<m→BrP l k)∧r=((cn (dset l r)).2:Int)∧l=up (cn (dset l r)).1):=by
  have:=chk_self (l:=l) (r:=r) (by omega)
  rw [hlen] at this
  exact hid this
 have HLEN:=hid hlen
 have b1:=ab2 w (.cells #[.slice A m c,.int .i64 r] 31)
 have X1:=nb2 w (.slice A m c) (.int .i64 r) 31
 have HB1:=hid b1
 have HD1:=dkh hd b1
 clear b1 hlen
 go_enter Tryz.func80,Tryz.ntmps80
 go_upto_region 1 with fail
 generalize w.alloc (.cells #[.slice A m c,.int .i64 r] 31)=w1 at *
 obtain ⟨x0,x1,xn⟩:=xb2 X1
 by_cases q0:r<0
 ·have HF:Hid (decide (chk l r=0)=false):=hid (decide_eq_false (fun h=>by have:=(HCS.out.1 h).1;omega))
  go_wp2_with fail
  go_ret
  exact ⟨ret_bool HF.out.symm,HB1.out⟩
 by_cases q1:r≥(m:Int)+2
 ·have HF:Hid (decide (chk l r=0)=false):=hid (decide_eq_false (fun h=>by have:=(HCS.out.1 h).1;omega))
  go_wp2_with fail
  go_ret
  exact ⟨ret_bool HF.out.symm,HB1.out⟩
 have R0:=Below.refl w1.heap.size w1
 go_wp2_with fail
 go_loopw [3] (fun i wr=>∃ k:Nat,k≤m∧i=.int .i64 k∧Hid (∀ j,j<k→BrP l j)∧Hid (Below w1.heap.size w1 wr)) (fun i _=>m - (intOf i).toNat)
 case atStart=>exact ⟨0,Nat.zero_le _,rfl,hid (fun j hj=>absurd hj (by omega)),hid R0⟩
 case round =>
  clear x0 x1 xn
  obtain ⟨k,hk,rfl,hall,hbl⟩:=hrel
  have X2:=rb2 X1 hbl.out
  obtain ⟨x0,x1,xn⟩:=xb2 X2
  have HBB:=btr HB1 hbl.out HB1.out.size
  by_cases hlt:k<m
  ·have hcall:=rbranch_any l r m c k A wr (dkh HD1 hbl.out) hm hlt
   have hno:¬ BrP l k→¬ chk l r=0:=fun h h2=>h ((HCS.out.1 h2).2.1 k hlt)
   have hyes:BrP l k→∀ j,j<k+1→BrP l j:=fun h j hj=>by
    rcases Nat.lt_or_ge j k with h1 | h1
    ·exact hall.out j h1
    ·rw [show j=k by omega];exact h
   have HNO:=hid hno
   have HYES:=hid hyes
   clear hno hyes
   by_cases p:BrP l k
   ·rw [decide_eq_true p] at hcall
    have HC:=hid hcall
    have HY:=hid (HYES.out p)
    clear hcall
    go_wp2_with (go_at_call 104;refine HC.out.mono ?_;rintro e w3 ⟨rfl,hb3⟩;have HB3:=btr hbl hb3 hbl.out.size;clear hb3)
    go_roundw
    case rel=>exact ⟨k+1,by omega,by go_num,HY,HB3⟩
    case measure=>simp [intOf];omega
   ·rw [decide_eq_false p] at hcall
    have HC:=hid hcall
    have HF:Hid (decide (chk l r=0)=false):=hid (decide_eq_false (HNO.out p))
    clear hcall
    go_wp2_with (go_at_call 104;refine HC.out.mono ?_;rintro e w3 ⟨rfl,hb3⟩;have HB3:=btr HBB hb3 HBB.out.size;clear hb3)
    go_ret
    exact ⟨ret_bool HF.out.symm,HB3.out⟩
  ·obtain rfl:k=m:=by omega
   obtain ⟨n,rfl⟩:∃ n:Nat,r=(n:Int):=⟨r.toNat,by omega⟩
   have hg:=good_of (l:=l) (fun j hj=>hall.out j (by rw [HLEN.out] at hj;exact hj))
   have hdl:(dn l).length=k:=by rw [dn_len];exact HLEN.out
   have hn2:n<k+2:=by omega
   have HDR:=dkh HD1 hbl.out
   have hrdl:Rd wr wr.heap.size A (up (dn l)):=by rw [← hg.1];exact (dok_rd HDR.out).1
   have hsz:(cn (Den (dn l) n)).1.length≤4096:=by
    have:=cn_size hg.2 (n:=n) (by omega)
    omega
   have hnum:∀ W,Below wr.heap.size wr W→Calls Tryz.prog 105 #[.slice A k c,.int .i64 (n:Int)] W fun e w'=>DiaOk W w' (Den (dn l) n) e :=
    fun W hW=>numbered_ok k c n A (dn l) W (hid hg.2) (hid hdl) (by omega) hn2 (hid ((hrdl.below hW).mono hW.size)) (hid hsz)
   have hsame:∀ W A9 m9 c9 r9,Below wr.heap.size wr W→Dn W A9 m9 c9 r9 (Den (dn l) n)→Calls Tryz.prog 17 #[.agg #[.slice A k c,.int .i64 (n:Int)],.agg #[.slice A9 m9 c9,.int .i64 (r9:Int)]] W fun e w'=>e=.returned (.bool (decide (chk l (n:Int)=0)))∧Below W.heap.size W w' :=
    fun W A9 m9 c9 r9 hW hD=>by
     have hr9:=hD.rt
     have hds:dset l (n:Int)=Den (dn l) n:=by unfold dset;rw [show ((n:Int)).toNat=n by omega]
     have hiff:=HCS.out
     rw [hds] at hiff
     have hS:=rsame_any A A9 c c9 k m9 l (up (cn (Den (dn l) n)).1) (n:Int) (r9:Int) W HLEN (hid (by rw [up_len];exact hD.len)) (by omega) (hid (((dok_rd HDR.out).1.below hW).mono hW.size)) (hid hD.rd)
     have he:(decide ((n:Int)=(r9:Int))&&decide (l=up (cn (Den (dn l) n)).1))=decide (chk l (n:Int)=0):=by
      by_cases h:chk l (n:Int)=0
      ·have h2:=hiff.1 h
       rw [decide_eq_true h,decide_eq_true (by rw [← hr9];exact h2.2.2.1),decide_eq_true h2.2.2.2];rfl
      ·rw [decide_eq_false h]
       by_cases e1:(n:Int)=(r9:Int)
       ·have e2:¬ l=up (cn (Den (dn l) n)).1:=fun e2=>h (hiff.2 ⟨⟨by omega,by omega⟩,fun j hj=>hall.out j hj,by rw [hr9];exact e1,e2⟩)
        rw [decide_eq_false e2,Bool.and_false]
       ·rw [decide_eq_false e1,Bool.false_and]
     rw [he] at hS
     exact hS
   have HNUM:=hid hnum
   have HSAME:=hid hsame
   clear hg hdl hrdl hsz hnum hsame HCS hall HLEN HD1 HDR
   go_wp2_with fail
   go_region_law ((first
    | (have _k:=D5;go_simp;go_at_call 17;(with_reducible refine (HSAME.out w5 A5 m5 c5 r5 HB5.out D5.out).mono ?_);rintro e w6 ⟨rfl,b6⟩;have HB6:=btr HB5 b6 HB5.out.size;clear b6)
    | (go_simp;go_at_call 105;(with_reducible refine (HNUM.out wr.drew (Below.refl _ wr).drew).mono ?_);rintro e w5 ⟨⟨A5,m5,c5,r5,rfl,d5,_⟩,b5'⟩;have HB5:Hid (Below wr.heap.size wr w5):=lid' ((Below.refl wr.heap.size wr).drew.trans b5');have D5:=lid' d5;obtain ⟨x0',x1',xn'⟩:=xb2 (rb2 X2 HB5.out);clear b5' d5)))
   all_goals go_wp2
   all_goals go_ret
   all_goals exact ⟨rfl,by first | exact (btr HBB HB6.out HBB.out.size).out | exact (btr HBB HB6.out HBB.out.size).out.drew⟩
theorem rcheck_any (l:List Bi) (r:Int) (m c:Nat) (A:Option Addr) (w:World) (hd:Hid (DOk w ⟨A,m,c,l,r⟩)) (hm:m≤4096) :
  Calls Tryz.prog 42 #[.agg #[.slice A m c,.int .i64 r]] w fun e w'=>e=.returned (.int .i64 (chk l r))∧Below w.heap.size w w':=by
 have hlen:l.length=m:=(dok_rd hd.out).2
 have HOR:=hid (chk_or (l:=l) (r:=r) (by omega))
 have b1:=ab2 w (.cells #[.slice A m c,.int .i64 r] 31)
 have X1:=nb2 w (.slice A m c) (.int .i64 r) 31
 have HB1:=hid b1
 have hv:=rvalid_any l r m c A _ (dkh hd b1) hm
 clear b1 hlen
 go_enter Tryz.func42,Tryz.ntmps42
 rcases HOR.out with h0 | h0
 ·rw [h0] at hv ⊢
  have HV:=hid hv
  clear hv
  go_upto_region 1 with fail
  generalize w.alloc (.cells #[.slice A m c,.int .i64 r] 31)=w1 at *
  obtain ⟨x0,x1,xn⟩:=xb2 X1
  go_wp2_with (go_at_call 80;refine HV.out.mono ?_;rintro e w3 ⟨rfl,hb3⟩;have HB3:=btr HB1 hb3 HB1.out.size;clear hb3)
  go_ret
  exact ⟨rfl,HB3.out⟩
 ·rw [h0] at hv ⊢
  have HV:=hid hv
  clear hv
  go_upto_region 1 with fail
  generalize w.alloc (.cells #[.slice A m c,.int .i64 r] 31)=w1 at *
  obtain ⟨x0,x1,xn⟩:=xb2 X1
  go_wp2_with (go_at_call 80;refine HV.out.mono ?_;rintro e w3 ⟨rfl,hb3⟩;have HB3:=btr HB1 hb3 HB1.out.size;clear hb3)
  go_ret
  exact ⟨rfl,HB3.out⟩
theorem rfirst_any (b n c:Nat) (ds:List DA) (w:World) (hn:Hid (ds.length=n)) (hn2:n≤1000) (hb:b<w.heap.size) (hd:Hid (∀ d∈ds,DOk w d)) (hm:Hid (∀ d∈ds,d.m≤4096))
  (hc:Hid (∀ k (hk:k<ds.length),w.cell? ⟨b,k*2,none⟩=some (.slice ds[k].A ds[k].m ds[k].c)∧w.cell? ⟨b,k*2+1,none⟩=some (.int .i64 ds[k].r))) :
  Calls Tryz.prog 98 #[.slice (some ⟨b,0,none⟩) n c] w fun e w'=>e=.returned (.int .i64 (chkAll ds))∧Below w.heap.size w w':=by
 have HW0:=hid (Below.refl w.heap.size w)
 go_enter Tryz.func98,Tryz.ntmps98
 go_wp2
 go_loopw [3] (fun i wr=>∃ k:Nat,k≤n∧i=.int .i64 k∧Hid (∀ j (hj:j<k) (hl:j<ds.length),chk ds[j].l ds[j].r=0)∧Hid (Below w.heap.size w wr)) (fun i _=>n - (intOf i).toNat)
 case atStart=>exact ⟨0,Nat.zero_le _,rfl,hid (fun j hj=>absurd hj (by omega)),HW0⟩
 case round =>
  obtain ⟨k,hk,rfl,hz,hbl⟩:=hrel
  by_cases hlt:k<n
  ·have hkl:k<ds.length:=by rw [hn.out];exact hlt
   obtain ⟨c1,c2⟩:=hc.out k hkl
   have e1:=(hbl.out.cell (p:=⟨b,k*2,none⟩) hb).trans c1
   have e2:=(hbl.out.cell (p:=⟨b,k*2+1,none⟩) hb).trans c2
   have hok:=(hd.out ds[k] (List.getElem_mem hkl)).below hbl.out
   have hm4:=hm.out ds[k] (List.getElem_mem hkl)
   have hat:=chkAll_at hkl (fun j hj=>hz.out j hj (by omega))
   have hnx:chk ds[k].l ds[k].r=0→∀ j (hj:j<k+1) (hl:j<ds.length),chk ds[j].l ds[j].r=0:=fun h j hj hl=>by
    rcases Nat.lt_or_ge j k with q | q
    ·exact hz.out j q hl
    ·obtain rfl:j=k:=by omega
     exact h
   generalize ds[k]=d at *
   obtain ⟨A,m,cc,l,r⟩:=d
   simp only at e1 e2 hat hnx hm4
   have K:=hid (rcheck_any l r m cc A wr (hid hok) hm4)
   have HAT:=hid hat
   have HNX:=hid hnx
   have i1:(0:Int)≤(k:Int):=by omega
   have i2:(k:Int)<(n:Int):=by omega
   clear c1 c2 hok hat hnx hkl
   generalize chk l r=q at *
   by_cases q0:q=0
   ·subst q0
    have HN1:=hid (HNX.out rfl)
    clear HNX
    go_wp2_with (go_at_call 42;refine K.out.mono ?_;rintro e w2 ⟨rfl,hb2⟩;have hb3:=btr hbl hb2 hbl.out.size;clear hb2)
    go_roundw
    case rel=>exact ⟨k+1,by omega,by go_num,HN1,hb3⟩
    case measure=>simp [intOf];omega
   ·have HE:=hid (HAT.out q0)
    go_wp2_with (go_at_call 42;refine K.out.mono ?_;rintro e w2 ⟨rfl,hb2⟩;have hb3:=btr hbl hb2 hbl.out.size;clear hb2)
    go_ret
    exact ⟨ret_i HE.out.symm,hb3.out⟩
  ·have hall:Hid (chkAll ds=0):=chkAll_ok (fun d hd2=>by
    obtain ⟨j,hj,e⟩:=List.getElem_of_mem hd2
    rw [← e]
    exact hz.out j (by have:=hn.out;omega) hj)
   go_wp2
   go_ret
   exact ⟨ret_i hall.out.symm,hbl.out⟩
end Go.Proofs.YtpaednfinlaioaaGreatDoor
