/-
  Plain mathematics and contracts of package diagram, several texts in one: FLawOp.
-/
import Derived.Test.YtpaednfinlaioaaGreatDoorFR
import Derived.Test.YtpaednfinlaioaaGreatDoorFO
import Derived.Test.YtpaednfinlaioaaGreatDoorMh
set_option maxHeartbeats 16000000
set_option maxRecDepth 100000
namespace Go.Proofs.YtpaednfinlaioaaGreatDoor
open Go.Lib (hid)
open Go.RowKit Dg St
set_option linter.unusedVariables false
set_option linter.unusedSimpArgs false
attribute [local go_sem ↓] Go.wp_at_zero Go.wp_at_succ
theorem fm_made (l:List Nat) {n:Nat} (hn:1≤n) (hn6:n≤6):Fm 6 (L12.take 6) (made l n):=by
 have h:=made_ok l n hn (by omega)
 have hv:∀ i,i<(made l n).length→fo (made l n) i=2→fv (made l n) i<((6:Nat):Int):=fun i hi e=>by have:=made_vars l hn i hi e;omega
 exact ⟨h,six_nm h hv,hv⟩
theorem L6_nine (j:Nat):(sg (L12.take 6) j).size≤9:=by
 by_cases h:j<6
 ·have:∀ v,v<6→(sg (L12.take 6) v).size≤9:=by decide +kernel
  exact this j h
 ·unfold sg
  rw [List.getD_eq_getElem?_getD,List.getElem?_eq_none (by show 6≤j;omega)]
  decide
structure TxS (F:List Fi) (T:ByteArray):Prop where
 txt:T.data.toList=shT F (L12.take 6) (F.length - 1) 1
 siz:T.size≤10000
 prt:prtS (L12.take 6) F=T
 err:prtE (L12.take 6) F=0
theorem txs {F:List Fi} (h:Fm 6 (L12.take 6) F):∃ T,TxS F T:=by
 have hN:nmdOK F (L12.take 6).length:=h.vr
 have h1:=h.ok.1
 have h2:=h.ok.2.1
 have hl:=shT_len (L:=L12.take 6) h.ok.2.2.1 (C:=9) (by omega) L6_nine (F.length - 1) (by omega) 0
 have hty:=ty_le F h.ok
 refine ⟨⟨(shT F (L12.take 6) (F.length - 1) 0).toArray⟩,by simp [shT_01],?_,?_,?_⟩
 ·show (shT F (L12.take 6) (F.length - 1) 0).toArray.size≤10000
  rw [List.size_toArray]
  omega
 ·unfold prtS;rw [if_pos ⟨L6_ok,h.ok,hN⟩]
 ·unfold prtE
  rw [if_neg (fun q=>q L6_ok),if_neg (fun q=>q ⟨h.ok,hN⟩)]
theorem print6 {F:List Fi} {T:ByteArray} (h:Fm 6 (L12.take 6) F) (t:TxS F T) (W:World) (q:Nat) (A:Option Addr) (c:Nat) (hc:F.length≤c) (hr:Rf W W.heap.size A F) (hs:Rstr W W.heap.size (some ⟨q,0,none⟩) (L12.take 6)) :
  Calls Tryz.prog 23 #[.slice (some ⟨q,0,none⟩) 6 12,.slice A F.length c] W fun e w'=>e=.returned (.tuple #[.string T,.int .i64 0])∧Below W.heap.size W w':=by
 have h2:=h.ok.2.1
 have:=fprint_any (some ⟨q,0,none⟩) 6 12 A F.length c F (L12.take 6) W (hid rfl) (hid rfl) (by omega) (by omega) (by omega) hc (hid (fun j=>sg_take j 6)) (hid hr) (hid hs)
 rw [t.prt,t.err] at this
 exact this
theorem lset_ok (q:Nat) (T:ByteArray) (g:Cfg→Bool) (w:World) (hT:T.size≤1048576) (h:Hid (RdE 6 (L12.take 6) T.data.toList g)) (hs:Hid (Rstr w w.heap.size (some ⟨q,0,none⟩) (L12.take 6))) (hin:Hid (Ins w 0)) :
  Calls Tryz.prog 24 #[.slice (some ⟨q,0,none⟩) 6 12,.string T] w fun e w'=>DiaOk w w' g e:=by
 obtain ⟨N,hp,hok,hv,hg⟩:=h.out
 have HP:Hid (∀ W,Rstr W W.heap.size (some ⟨q,0,none⟩) (L12.take 6)→Calls Tryz.prog 28 #[.slice (some ⟨q,0,none⟩) 6 12,.string T] W fun e w'=>PsR W w' (N,0) e):=hid fun W hs=>by
  have:=fparse_any (some ⟨q,0,none⟩) 6 12 (L12.take 6) T W (hid rfl) (by omega) (by omega) (hid (fun j=>sg_take j 6)) (hid hs) hT
  rw [hp] at this
  exact this
 have HD:Hid (∀ W A c m,N.length=m→Ins W 0→Rf W W.heap.size A N→Calls Tryz.prog 9 #[.slice A m c] W fun e w'=>BinOk W w' g e):=hid fun W A c m hm hi hr=>by
  have hlow:∀ j,j<m→Low 6 (fun x=>val N x j):=fun j hj=>val_low hok.2.2.1 (n:=6) hv j (by omega)
  refine (fdia_ok A m c N W (hid hm) (hid hr) (hid hok) (hid hlow) (hid hi)).mono fun e w' k=>k.congr (by
   subst hm
   funext x
   exact hg x)
 clear hp hok hv hg h
 have HB0:=hid (ab2 w (.cells #[.slice none 0 0,.int .i64 0] 31))
 have X0:=nb2 w (.slice none 0 0) (.int .i64 0) 31
 have HI:=rin hin HB0.out
 have HSq:Hid (Rstr (w.alloc (.cells #[.slice none 0 0,.int .i64 0] 31)) (w.alloc (.cells #[.slice none 0 0,.int .i64 0] 31)).heap.size (some ⟨q,0,none⟩) (L12.take 6)):=hid ((hs.out.below HB0.out).mono HB0.out.size)
 clear hs hin
 go_enter Tryz.func24,Tryz.ntmps24
 go_upto_region 1 with fail
 generalize w.alloc (.cells #[.slice none 0 0,.int .i64 0] 31)=w0 at *
 go_wp2_with fail
 refine (HP.out w0 HSq.out).mono ?_
 rintro e w1 ⟨A1,m1,c1,rfl,hl1,hc1,hr1,b⟩
 replace HI:=rin HI b
 replace X0:=rb2 X0 b
 replace HB0:=btr HB0 b HB0.out.size
 have R1:=hid hr1
 have L1:=hid hl1
 clear b hr1 hl1 hc1 HP HSq
 go_wp2_with fail
 refine (HD.out w1 A1 c1 m1 L1.out HI.out R1.out).mono ?_
 rintro e w2 ⟨⟨A2,m2,c2,r2,rfl,d2,f2⟩,b⟩
 have hgw:w.heap.size<w1.heap.size:=X0.out.lt (by omega)
 replace X0:=rb2 X0 b
 replace HB0:=btr HB0 b HB0.out.size
 have D2:=hid d2
 have F2:=hid (f2.mono hgw)
 clear b d2 f2 HD R1 L1 HI hgw
 have b:=ab2 w2 (.cells #[.slice A2 m2 c2,.int .i64 (r2:Int)] 31)
 have X7:=nb2 w2 (.slice A2 m2 c2) (.int .i64 (r2:Int)) 31
 replace X0:=rb2 X0 b
 replace HB0:=btr HB0 b HB0.out.size
 replace D2:=rdn D2 b
 clear b
 go_upto_region 3 with fail
 generalize w2.alloc (.cells #[.slice A2 m2 c2,.int .i64 (r2:Int)] 31)=w3 at *
 generalize w2.heap.size=g7 at *
 obtain ⟨p0,q0,n0⟩:=xb2 X0
 obtain ⟨_,z0⟩:=X0.out 0 (by omega)
 obtain ⟨_,z1⟩:=X0.out 1 (by omega)
 obtain ⟨y0,y1,yn⟩:=xb2 X7
 go_wp2
 refine bodyPost_ret (v:=.agg #[.slice A2 m2 c2,.int .i64 (r2:Int)]) ?_ rfl ?_
 ·rw [results_cell1 rfl]
  go_simp
 ·exact ⟨⟨A2,m2,c2,r2,rfl,D2.out.put F2.out _ _,F2.out.mono (by omega)⟩,(HB0.out.setCell (by simp) _).setCell (by simp) _⟩
theorem ba_cat (a b:ByteArray):(a++b).data.toList=a.data.toList++b.data.toList:=by rw [ByteArray.data_append];simp
theorem join_and {F G:List Fi} {ta tb:ByteArray} (hF:Fm 6 (L12.take 6) F) (hG:Fm 6 (L12.take 6) G) (hl:F.length+G.length+1≤512) (sF:TxS F ta) (sG:TxS G tb):RdE 6 (L12.take 6) (⟨#[40]⟩++ta++⟨#[41,38,38,40]⟩++tb++⟨#[41]⟩:ByteArray).data.toList (fun x=>vlF F x&&vlF G x):=by
 have h:=rd_and L6_ok hF hG hl
 have e:(⟨#[40]⟩++ta++⟨#[41,38,38,40]⟩++tb++⟨#[41]⟩:ByteArray).data.toList=40::(shT F (L12.take 6) (F.length - 1) 1++41::38::38::40::(shT G (L12.take 6) (G.length - 1) 1++[41])):=by
  rw [ba_cat,ba_cat,ba_cat,ba_cat,sF.txt,sG.txt]
  simp
 rw [e]
 exact h
theorem join_or {F G:List Fi} {ta tb:ByteArray} (hF:Fm 6 (L12.take 6) F) (hG:Fm 6 (L12.take 6) G) (hl:F.length+G.length+1≤512) (sF:TxS F ta) (sG:TxS G tb):RdE 6 (L12.take 6) (ta++⟨#[124,124]⟩++tb:ByteArray).data.toList (fun x=>vlF F x||vlF G x):=by
 have h:=rd_or L6_ok hF hG hl
 have e:(ta++⟨#[124,124]⟩++tb:ByteArray).data.toList=shT F (L12.take 6) (F.length - 1) 1++124::124::shT G (L12.take 6) (G.length - 1) 1:=by
  rw [ba_cat,ba_cat,sF.txt,sG.txt]
  simp
 rw [e]
 exact h
theorem join_not {F:List Fi} {ta:ByteArray} (hF:Fm 6 (L12.take 6) F) (hl:F.length+1≤512) (sF:TxS F ta):RdE 6 (L12.take 6) (⟨#[33,40]⟩++ta++⟨#[41]⟩:ByteArray).data.toList (fun x=>!vlF F x):=by
 have h:=rd_not L6_ok hF hl
 have e:(⟨#[33,40]⟩++ta++⟨#[41]⟩:ByteArray).data.toList=33::40::(shT F (L12.take 6) (F.length - 1) 1++[41]):=by
  rw [ba_cat,ba_cat,sF.txt]
  simp
 rw [e]
 exact h
theorem self_rd {F:List Fi} {ta:ByteArray} (hF:Fm 6 (L12.take 6) F) (sF:TxS F ta):RdE 6 (L12.take 6) ta.data.toList (vlF F):=by
 rw [sF.txt]
 exact rd_self L6_ok hF
theorem lawOpF_walk (A1:Option Addr) (n1 c1:Nat) (l1:List Nat) (A2:Option Addr) (n2 c2:Nat) (l2:List Nat) (x:Nat) (w:World) (h1:Hid (B8 w w.heap.size A1 n1 l1)) (hn1:n1≤9223372036854775807) (h2:Hid (B8 w w.heap.size A2 n2 l2)) (hn2:n2≤9223372036854775807) (hx:x<256) (hin:Hid (Ins w 0)) :
  Calls Tryz.prog 6 #[.slice A1 n1 c1,.slice A2 n2 c2,.int .u8 (x:Int)] w fun e w'=>e=.returned (.bool true)∧Below w.heap.size w w':=by
 obtain ⟨k,hk⟩:∃ k,k=x % 6:=⟨_,rfl⟩
 have ex:(x:Int).tmod 6=(k:Int):=by rw [Int.tmod_eq_emod_of_nonneg (by omega)];omega
 have hk6:k≤5:=by omega
 have HMD1:=hid (fun W (hW:Below w.heap.size w W)=>lmadeF A1 c1 n1 k l1 w W h1 hn1 (by omega) hW)
 have HMD2:=hid (fun W (hW:Below w.heap.size w W)=>lmadeF A2 c2 n2 k l2 w W h2 hn2 (by omega) hW)
 have HSAN:=hid (fun W=>fsanity_ok W)
 have HLT:=hid (fun W=>qletters 6 W (by omega))
 have f1:=fm_made l1 (n:=1+k) (by omega) (by omega)
 have f2:=fm_made l2 (n:=1+k) (by omega) (by omega)
 have q1:=made_len l1 (1+k) (by omega) (by omega)
 have q2:=made_len l2 (1+k) (by omega) (by omega)
 obtain ⟨ta,sa⟩:=txs f1
 obtain ⟨tb,sb⟩:=txs f2
 have hza:=sa.siz
 have hzb:=sb.siz
 have hla:Hid (Low 6 (vlF (made l1 (1+k)))):=hid (vlF_low6 l1 (n:=1+k) (by omega) (by omega))
 have hlb:Hid (Low 6 (vlF (made l2 (1+k)))):=hid (vlF_low6 l2 (n:=1+k) (by omega) (by omega))
 have HP1:=hid (fun W q A c=>print6 f1 sa W q A c)
 have HP2:=hid (fun W q A c=>print6 f2 sb W q A c)
 have hSA:Hid (∀ W q,Rstr W W.heap.size (some ⟨q,0,none⟩) (L12.take 6)→Ins W 0→Calls Tryz.prog 24 #[.slice (some ⟨q,0,none⟩) 6 12,.string ta] W fun e w'=>DiaOk W w' (vlF (made l1 (1+k))) e):=hid fun W q hs hi=>lset_ok q ta _ W (by omega) (hid (self_rd f1 sa)) (hid hs) (hid hi)
 have hSB:Hid (∀ W q,Rstr W W.heap.size (some ⟨q,0,none⟩) (L12.take 6)→Ins W 0→Calls Tryz.prog 24 #[.slice (some ⟨q,0,none⟩) 6 12,.string tb] W fun e w'=>DiaOk W w' (vlF (made l2 (1+k))) e):=hid fun W q hs hi=>lset_ok q tb _ W (by omega) (hid (self_rd f2 sb)) (hid hs) (hid hi)
 have i0:(⟨#[40]⟩:ByteArray).size=1:=rfl
 have i1:(⟨#[41,38,38,40]⟩:ByteArray).size=4:=rfl
 have i2:(⟨#[41]⟩:ByteArray).size=1:=rfl
 have i3:(⟨#[124,124]⟩:ByteArray).size=2:=rfl
 have i4:(⟨#[33,40]⟩:ByteArray).size=2:=rfl
 have hSJ1:Hid (∀ W q,Rstr W W.heap.size (some ⟨q,0,none⟩) (L12.take 6)→Ins W 0→Calls Tryz.prog 24 #[.slice (some ⟨q,0,none⟩) 6 12,.string (⟨#[40]⟩++ta++⟨#[41,38,38,40]⟩++tb++⟨#[41]⟩)] W fun e w'=>DiaOk W w' (fun x=>vlF (made l1 (1+k)) x&&vlF (made l2 (1+k)) x) e):=hid fun W q hs hi=>lset_ok q _ _ W (by simp only [ByteArray.size_append];omega) (hid (join_and f1 f2 (by omega) sa sb)) (hid hs) (hid hi)
 have hSJ2:Hid (∀ W q,Rstr W W.heap.size (some ⟨q,0,none⟩) (L12.take 6)→Ins W 0→Calls Tryz.prog 24 #[.slice (some ⟨q,0,none⟩) 6 12,.string (ta++⟨#[124,124]⟩++tb)] W fun e w'=>DiaOk W w' (fun x=>vlF (made l1 (1+k)) x||vlF (made l2 (1+k)) x) e):=hid fun W q hs hi=>lset_ok q _ _ W (by simp only [ByteArray.size_append];omega) (hid (join_or f1 f2 (by omega) sa sb)) (hid hs) (hid hi)
 have hSJ3:Hid (∀ W q,Rstr W W.heap.size (some ⟨q,0,none⟩) (L12.take 6)→Ins W 0→Calls Tryz.prog 24 #[.slice (some ⟨q,0,none⟩) 6 12,.string (⟨#[33,40]⟩++ta++⟨#[41]⟩)] W fun e w'=>DiaOk W w' (fun x=>!vlF (made l1 (1+k)) x) e):=hid fun W q hs hi=>lset_ok q _ _ W (by simp only [ByteArray.size_append];omega) (hid (join_not f1 (by omega) sa)) (hid hs) (hid hi)
 have hs1:¬ 9223372036854775807<1+ta.size:=by omega
 have hs2:¬ 9223372036854775807<1+ta.size+4:=by omega
 have hs3:¬ 9223372036854775807<1+ta.size+4+tb.size:=by omega
 have hs4:¬ 9223372036854775807<1+ta.size+4+tb.size+1:=by omega
 have hs5:¬ 9223372036854775807<ta.size+2:=by omega
 have hs6:¬ 9223372036854775807<ta.size+2+tb.size:=by omega
 have hs7:¬ 9223372036854775807<2+ta.size:=by omega
 have hs8:¬ 9223372036854775807<2+ta.size+1:=by omega
 clear hk h1 h2 hn1 hn2 f1 f2 sa sb q1 q2 hza hzb i0 i1 i2 i3 i4
 generalize vlF (made l1 (1+k))=fa at *
 generalize vlF (made l2 (1+k))=fb at *
 generalize made l1 (1+k)=F1 at *
 generalize made l2 (1+k)=F2 at *
 obtain ⟨p1,hp1⟩:∃ m,F1.length=m:=⟨_,rfl⟩
 obtain ⟨p2,hp2⟩:∃ m,F2.length=m:=⟨_,rfl⟩
 rw [hp1] at HMD1 HP1
 rw [hp2] at HMD2 HP2
 clear hp1 hp2
 have HB0:=hid (Below.refl w.heap.size w)
 have HI:=hin
 clear hin
 go_enter Tryz.func6,Tryz.ntmps6
 go_wp2_with fail
 refine (HSAN.out w).mono ?_
 rintro e w1 ⟨rfl,b⟩
 replace HI:=rin HI b
 replace HB0:=btr HB0 b HB0.out.size
 clear b
 clear HSAN
 go_wp2_with fail
 refine (HLT.out w1).mono ?_
 rintro e w2 ⟨gq,rfl,hs,b⟩
 replace HI:=rin HI b
 replace HB0:=btr HB0 b HB0.out.size
 have HSq:=hid hs
 clear b
 clear hs HLT
 go_wp2_with fail
 refine (HMD1.out w2 HB0.out).mono ?_
 rintro e w3 ⟨A4,c4,rfl,hc4,hr4,b⟩
 replace HI:=rin HI b
 replace HB0:=btr HB0 b HB0.out.size
 replace HSq:=hid ((HSq.out.below b).mono b.size)
 have R4:=hid hr4
 have hc5:=hid hc4
 clear b
 clear hr4 hc4 HMD1
 go_wp2_with fail
 refine (HP1.out w3 gq A4 c4 hc5.out R4.out HSq.out).mono ?_
 rintro e w4 ⟨rfl,b⟩
 replace HI:=rin HI b
 replace HB0:=btr HB0 b HB0.out.size
 replace HSq:=hid ((HSq.out.below b).mono b.size)
 replace R4:=hid ((R4.out.below b).mono b.size)
 clear b
 clear HP1 R4 hc5
 go_wp2_with fail
 refine (HMD2.out w4 HB0.out).mono ?_
 rintro e w5 ⟨A4,c4,rfl,hc4,hr4,b⟩
 replace HI:=rin HI b
 replace HB0:=btr HB0 b HB0.out.size
 replace HSq:=hid ((HSq.out.below b).mono b.size)
 have R4:=hid hr4
 have hc5:=hid hc4
 clear b
 clear hr4 hc4 HMD2
 go_wp2_with fail
 refine (HP2.out w5 gq A4 c4 hc5.out R4.out HSq.out).mono ?_
 rintro e w6 ⟨rfl,b⟩
 replace HI:=rin HI b
 replace HB0:=btr HB0 b HB0.out.size
 replace HSq:=hid ((HSq.out.below b).mono b.size)
 replace R4:=hid ((R4.out.below b).mono b.size)
 clear b
 clear HP2 R4 hc5
 go_wp2_with fail
 refine (hSA.out w6 gq HSq.out HI.out).mono ?_
 rintro e w7 ⟨⟨Aa,ma,ca,ra,rfl,d,_⟩,b⟩
 replace HI:=rin HI b
 replace HB0:=btr HB0 b HB0.out.size
 replace HSq:=hid ((HSq.out.below b).mono b.size)
 have DA:=hid d
 clear b
 clear d hSA
 have b:=ab2 w7 (.cells #[.slice Aa ma ca,.int .i64 (ra:Int)] 31)
 have XA:=nb2 w7 (.slice Aa ma ca) (.int .i64 (ra:Int)) 31
 replace HI:=rin HI b
 replace HB0:=btr HB0 b HB0.out.size
 replace HSq:=hid ((HSq.out.below b).mono b.size)
 replace DA:=rdn DA b
 clear b
 go_upto_region 8 with fail
 generalize w7.alloc (.cells #[.slice Aa ma ca,.int .i64 (ra:Int)] 31)=w8 at *
 generalize w7.heap.size=gXA at *
 go_wp2_with fail
 refine (hSB.out w8 gq HSq.out HI.out).mono ?_
 rintro e w9 ⟨⟨Ab,mb,cb,rb,rfl,d,_⟩,b⟩
 replace HI:=rin HI b
 replace HB0:=btr HB0 b HB0.out.size
 replace HSq:=hid ((HSq.out.below b).mono b.size)
 replace DA:=rdn DA b
 replace XA:=rb2 XA b
 have DB:=hid d
 clear b
 clear d hSB
 have b:=ab2 w9 (.cells #[.slice Ab mb cb,.int .i64 (rb:Int)] 31)
 have XB:=nb2 w9 (.slice Ab mb cb) (.int .i64 (rb:Int)) 31
 replace HI:=rin HI b
 replace HB0:=btr HB0 b HB0.out.size
 replace HSq:=hid ((HSq.out.below b).mono b.size)
 replace DA:=rdn DA b
 replace XA:=rb2 XA b
 replace DB:=rdn DB b
 clear b
 go_upto_region 9 with fail
 generalize w9.alloc (.cells #[.slice Ab mb cb,.int .i64 (rb:Int)] 31)=w10 at *
 generalize w9.heap.size=gXB at *
 obtain ⟨v0,v1,_⟩:=xb2 XA
 obtain ⟨v2,v3,_⟩:=xb2 XB
 go_wp2_with fail
 refine (six_and DA DB hla hlb HI (hid rfl)).mono ?_
 rintro e w11 ⟨⟨Ae5,me5,ce5,re5,rfl,d,_⟩,b⟩
 replace HI:=rin HI b
 replace HB0:=btr HB0 b HB0.out.size
 replace HSq:=hid ((HSq.out.below b).mono b.size)
 replace DA:=rdn DA b
 replace XA:=rb2 XA b
 replace DB:=rdn DB b
 replace XB:=rb2 XB b
 have De5:=hid d
 clear b
 clear d
 have b:=ab2 w11 (.cells #[.slice Ae5 me5 ce5,.int .i64 (re5:Int)] 31)
 have X15:=nb2 w11 (.slice Ae5 me5 ce5) (.int .i64 (re5:Int)) 31
 replace HI:=rin HI b
 replace HB0:=btr HB0 b HB0.out.size
 replace HSq:=hid ((HSq.out.below b).mono b.size)
 replace DA:=rdn DA b
 replace XA:=rb2 XA b
 replace DB:=rdn DB b
 replace XB:=rb2 XB b
 replace De5:=rdn De5 b
 clear b
 go_upto_region 10 with fail
 generalize w11.alloc (.cells #[.slice Ae5 me5 ce5,.int .i64 (re5:Int)] 31)=w12 at *
 generalize w11.heap.size=gX15 at *
 clear v0 v1 v2 v3
 obtain ⟨v0,v1,_⟩:=xb2 XA
 obtain ⟨v2,v3,_⟩:=xb2 XB
 go_wp2_with fail
 refine (six_or DA DB hla hlb HI (hid rfl)).mono ?_
 rintro e w13 ⟨⟨Ae7,me7,ce7,re7,rfl,d,_⟩,b⟩
 replace HI:=rin HI b
 replace HB0:=btr HB0 b HB0.out.size
 replace HSq:=hid ((HSq.out.below b).mono b.size)
 replace DA:=rdn DA b
 replace XA:=rb2 XA b
 replace DB:=rdn DB b
 replace XB:=rb2 XB b
 replace De5:=rdn De5 b
 replace X15:=rb2 X15 b
 have De7:=hid d
 clear b
 clear d
 have b:=ab2 w13 (.cells #[.slice Ae7 me7 ce7,.int .i64 (re7:Int)] 31)
 have X17:=nb2 w13 (.slice Ae7 me7 ce7) (.int .i64 (re7:Int)) 31
 replace HI:=rin HI b
 replace HB0:=btr HB0 b HB0.out.size
 replace HSq:=hid ((HSq.out.below b).mono b.size)
 replace DA:=rdn DA b
 replace XA:=rb2 XA b
 replace DB:=rdn DB b
 replace XB:=rb2 XB b
 replace De5:=rdn De5 b
 replace X15:=rb2 X15 b
 replace De7:=rdn De7 b
 clear b
 go_upto_region 11 with fail
 generalize w13.alloc (.cells #[.slice Ae7 me7 ce7,.int .i64 (re7:Int)] 31)=w14 at *
 generalize w13.heap.size=gX17 at *
 clear v0 v1 v2 v3 hla hlb DB XB
 obtain ⟨v0,v1,_⟩:=xb2 XA
 go_wp2_with fail
 refine (six_not DA (hid rfl)).mono ?_
 rintro e w15 ⟨⟨Ae9,me9,ce9,re9,rfl,d,_⟩,b⟩
 replace HI:=rin HI b
 replace HB0:=btr HB0 b HB0.out.size
 replace HSq:=hid ((HSq.out.below b).mono b.size)
 replace DA:=rdn DA b
 replace XA:=rb2 XA b
 replace De5:=rdn De5 b
 replace X15:=rb2 X15 b
 replace De7:=rdn De7 b
 replace X17:=rb2 X17 b
 have De9:=hid d
 clear b
 clear d
 have b:=ab2 w15 (.cells #[.slice Ae9 me9 ce9,.int .i64 (re9:Int)] 31)
 have X19:=nb2 w15 (.slice Ae9 me9 ce9) (.int .i64 (re9:Int)) 31
 replace HI:=rin HI b
 replace HB0:=btr HB0 b HB0.out.size
 replace HSq:=hid ((HSq.out.below b).mono b.size)
 replace DA:=rdn DA b
 replace XA:=rb2 XA b
 replace De5:=rdn De5 b
 replace X15:=rb2 X15 b
 replace De7:=rdn De7 b
 replace X17:=rb2 X17 b
 replace De9:=rdn De9 b
 clear b
 go_upto_region 12 with fail
 generalize w15.alloc (.cells #[.slice Ae9 me9 ce9,.int .i64 (re9:Int)] 31)=w16 at *
 generalize w15.heap.size=gX19 at *
 clear v0 v1 DA XA
 obtain ⟨z,hz⟩:∃ z,w16.heap.size=z:=⟨_,rfl⟩
 have HZ:Hid (Below z w16 w16∧z≤w16.heap.size):=hid ⟨Below.refl _ _,Nat.le_of_eq hz.symm⟩
 have HZd:Hid (Below z w16 w16.drew∧z≤w16.drew.heap.size):=hid ⟨HZ.out.1.drew,HZ.out.2⟩
 have HJ0:Hid (∀ W,Below z w16 W∧z≤W.heap.size→Calls Tryz.prog 24 #[.slice (some ⟨gq,0,none⟩) 6 12,.string (⟨#[40]⟩++ta++⟨#[41,38,38,40]⟩++tb++⟨#[41]⟩)] W fun e w'=>DiaOk W w' (fun x=>fa x&&fb x) e):=hid fun W hW=>hSJ1.out W gq ((HSq.out.below (hz ▸ hW.1)).mono (by have:=hW.2;omega)) (HI.out.below (hz ▸ hW.1))
 have HM0:Hid (∀ W A m c r,Below z w16 W→Dn W A m c r (fun x=>fa x&&fb x)→Calls Tryz.prog 22 #[.agg #[.slice A m c,.int .i64 ((r:Nat):Int)],.agg #[.slice Ae5 me5 ce5,.int .i64 ((re5:Nat):Int)]] W fun e w'=>e=.returned (.bool true)∧Below W.heap.size W w'):=hid fun W A m c r hW hd=>same_dn (hid hd) (hid (De5.out.below (hz ▸ hW))) rfl rfl true (hid ⟨fun _=>rfl,fun _=>rfl⟩)
 have HJ1:Hid (∀ W,Below z w16 W∧z≤W.heap.size→Calls Tryz.prog 24 #[.slice (some ⟨gq,0,none⟩) 6 12,.string (ta++⟨#[124,124]⟩++tb)] W fun e w'=>DiaOk W w' (fun x=>fa x||fb x) e):=hid fun W hW=>hSJ2.out W gq ((HSq.out.below (hz ▸ hW.1)).mono (by have:=hW.2;omega)) (HI.out.below (hz ▸ hW.1))
 have HM1:Hid (∀ W A m c r,Below z w16 W→Dn W A m c r (fun x=>fa x||fb x)→Calls Tryz.prog 22 #[.agg #[.slice A m c,.int .i64 ((r:Nat):Int)],.agg #[.slice Ae7 me7 ce7,.int .i64 ((re7:Nat):Int)]] W fun e w'=>e=.returned (.bool true)∧Below W.heap.size W w'):=hid fun W A m c r hW hd=>same_dn (hid hd) (hid (De7.out.below (hz ▸ hW))) rfl rfl true (hid ⟨fun _=>rfl,fun _=>rfl⟩)
 have HJ2:Hid (∀ W,Below z w16 W∧z≤W.heap.size→Calls Tryz.prog 24 #[.slice (some ⟨gq,0,none⟩) 6 12,.string (⟨#[33,40]⟩++ta++⟨#[41]⟩)] W fun e w'=>DiaOk W w' (fun x=>!fa x) e):=hid fun W hW=>hSJ3.out W gq ((HSq.out.below (hz ▸ hW.1)).mono (by have:=hW.2;omega)) (HI.out.below (hz ▸ hW.1))
 have HM2:Hid (∀ W A m c r,Below z w16 W→Dn W A m c r (fun x=>!fa x)→Calls Tryz.prog 22 #[.agg #[.slice A m c,.int .i64 ((r:Nat):Int)],.agg #[.slice Ae9 me9 ce9,.int .i64 ((re9:Nat):Int)]] W fun e w'=>e=.returned (.bool true)∧Below W.heap.size W w'):=hid fun W A m c r hW hd=>same_dn (hid hd) (hid (De9.out.below (hz ▸ hW))) rfl rfl true (hid ⟨fun _=>rfl,fun _=>rfl⟩)
 clear hSJ1 hSJ2 hSJ3 HSq HI De5 De7 De9
 obtain ⟨v0,v1,_⟩:=xb2 X15
 obtain ⟨v2,v3,_⟩:=xb2 X17
 obtain ⟨v4,v5,_⟩:=xb2 X19
 have u0:w16.drew.cell? ⟨gX15,0,none⟩=some (.slice Ae5 me5 ce5):=v0
 have u1:w16.drew.cell? ⟨gX15,1,none⟩=some (.int .i64 (re5:Int)):=v1
 have u2:w16.drew.cell? ⟨gX17,0,none⟩=some (.slice Ae7 me7 ce7):=v2
 have u3:w16.drew.cell? ⟨gX17,1,none⟩=some (.int .i64 (re7:Int)):=v3
 have u4:w16.drew.cell? ⟨gX19,0,none⟩=some (.slice Ae9 me9 ce9):=v4
 have u5:w16.drew.cell? ⟨gX19,1,none⟩=some (.int .i64 (re9:Int)):=v5
 go_region_held3 (fun W=>W.cell? ⟨gX15,0,none⟩=some (.slice Ae5 me5 ce5)∧W.cell? ⟨gX15,1,none⟩=some (.int .i64 (re5:Int))∧W.cell? ⟨gX17,0,none⟩=some (.slice Ae7 me7 ce7)∧W.cell? ⟨gX17,1,none⟩=some (.int .i64 (re7:Int))∧W.cell? ⟨gX19,0,none⟩=some (.slice Ae9 me9 ce9)∧W.cell? ⟨gX19,1,none⟩=some (.int .i64 (re9:Int))) (first | (refine ⟨?_,?_,?_,?_,?_,?_⟩ <;> (with_reducible assumption)) | go_keep) ((first
  | (have _k:=F2;go_at_call 22;(first | (with_reducible refine (HM2.out y5 Af2 mf2 cf2 rf2 K5.out.1 F2.out).mono ?_) | (with_reducible refine (HM2.out y5.drew Af2 mf2 cf2 rf2 K5d.out.1 (F2.out.below (Below.refl _ _).drew)).mono ?_));rintro e y6 ⟨rfl,b⟩;have b':Below y5.heap.size y5 y6:=⟨b.os,b.tape,b.output,b.size,b.block⟩;have K6:Hid (Below z w16 y6∧z≤y6.heap.size):=hid ⟨K5.out.1.trans (b'.mono K5.out.2),Nat.le_trans K5.out.2 b'.size⟩;have K6d:Hid (Below z w16 y6.drew∧z≤y6.drew.heap.size):=hid ⟨K6.out.1.drew,K6.out.2⟩;replace HB0:=btr HB0 b' HB0.out.size;replace X15:=rb2 X15 b';replace X17:=rb2 X17 b';replace X19:=rb2 X19 b';clear b v0 v1 v2 v3 v4 v5 u0 u1 u2 u3 u4 u5;obtain ⟨v0,v1,_⟩:=xb2 X15;obtain ⟨v2,v3,_⟩:=xb2 X17;obtain ⟨v4,v5,_⟩:=xb2 X19;have u0:y6.drew.cell? ⟨gX15,0,none⟩=some (.slice Ae5 me5 ce5):=v0;have u1:y6.drew.cell? ⟨gX15,1,none⟩=some (.int .i64 (re5:Int)):=v1;have u2:y6.drew.cell? ⟨gX17,0,none⟩=some (.slice Ae7 me7 ce7):=v2;have u3:y6.drew.cell? ⟨gX17,1,none⟩=some (.int .i64 (re7:Int)):=v3;have u4:y6.drew.cell? ⟨gX19,0,none⟩=some (.slice Ae9 me9 ce9):=v4;have u5:y6.drew.cell? ⟨gX19,1,none⟩=some (.int .i64 (re9:Int)):=v5;clear b')
  | (have _k:=K4;go_at_call 24;(first | (with_reducible refine (HJ2.out y4 K4.out).mono ?_) | (with_reducible refine (HJ2.out y4.drew K4d.out).mono ?_));rintro e y5 ⟨⟨Af2,mf2,cf2,rf2,rfl,d,_⟩,b⟩;have F2:=hid d;clear d;have b':Below y4.heap.size y4 y5:=⟨b.os,b.tape,b.output,b.size,b.block⟩;have K5:Hid (Below z w16 y5∧z≤y5.heap.size):=hid ⟨K4.out.1.trans (b'.mono K4.out.2),Nat.le_trans K4.out.2 b'.size⟩;have K5d:Hid (Below z w16 y5.drew∧z≤y5.drew.heap.size):=hid ⟨K5.out.1.drew,K5.out.2⟩;replace HB0:=btr HB0 b' HB0.out.size;replace X15:=rb2 X15 b';replace X17:=rb2 X17 b';replace X19:=rb2 X19 b';clear b v0 v1 v2 v3 v4 v5 u0 u1 u2 u3 u4 u5;obtain ⟨v0,v1,_⟩:=xb2 X15;obtain ⟨v2,v3,_⟩:=xb2 X17;obtain ⟨v4,v5,_⟩:=xb2 X19;have u0:y5.drew.cell? ⟨gX15,0,none⟩=some (.slice Ae5 me5 ce5):=v0;have u1:y5.drew.cell? ⟨gX15,1,none⟩=some (.int .i64 (re5:Int)):=v1;have u2:y5.drew.cell? ⟨gX17,0,none⟩=some (.slice Ae7 me7 ce7):=v2;have u3:y5.drew.cell? ⟨gX17,1,none⟩=some (.int .i64 (re7:Int)):=v3;have u4:y5.drew.cell? ⟨gX19,0,none⟩=some (.slice Ae9 me9 ce9):=v4;have u5:y5.drew.cell? ⟨gX19,1,none⟩=some (.int .i64 (re9:Int)):=v5;clear b')
  | (have _k:=F1;go_at_call 22;(first | (with_reducible refine (HM1.out y3 Af1 mf1 cf1 rf1 K3.out.1 F1.out).mono ?_) | (with_reducible refine (HM1.out y3.drew Af1 mf1 cf1 rf1 K3d.out.1 (F1.out.below (Below.refl _ _).drew)).mono ?_));rintro e y4 ⟨rfl,b⟩;have b':Below y3.heap.size y3 y4:=⟨b.os,b.tape,b.output,b.size,b.block⟩;have K4:Hid (Below z w16 y4∧z≤y4.heap.size):=hid ⟨K3.out.1.trans (b'.mono K3.out.2),Nat.le_trans K3.out.2 b'.size⟩;have K4d:Hid (Below z w16 y4.drew∧z≤y4.drew.heap.size):=hid ⟨K4.out.1.drew,K4.out.2⟩;replace HB0:=btr HB0 b' HB0.out.size;replace X15:=rb2 X15 b';replace X17:=rb2 X17 b';replace X19:=rb2 X19 b';clear b v0 v1 v2 v3 v4 v5 u0 u1 u2 u3 u4 u5;obtain ⟨v0,v1,_⟩:=xb2 X15;obtain ⟨v2,v3,_⟩:=xb2 X17;obtain ⟨v4,v5,_⟩:=xb2 X19;have u0:y4.drew.cell? ⟨gX15,0,none⟩=some (.slice Ae5 me5 ce5):=v0;have u1:y4.drew.cell? ⟨gX15,1,none⟩=some (.int .i64 (re5:Int)):=v1;have u2:y4.drew.cell? ⟨gX17,0,none⟩=some (.slice Ae7 me7 ce7):=v2;have u3:y4.drew.cell? ⟨gX17,1,none⟩=some (.int .i64 (re7:Int)):=v3;have u4:y4.drew.cell? ⟨gX19,0,none⟩=some (.slice Ae9 me9 ce9):=v4;have u5:y4.drew.cell? ⟨gX19,1,none⟩=some (.int .i64 (re9:Int)):=v5;clear b')
  | (have _k:=K2;go_at_call 24;(first | (with_reducible refine (HJ1.out y2 K2.out).mono ?_) | (with_reducible refine (HJ1.out y2.drew K2d.out).mono ?_));rintro e y3 ⟨⟨Af1,mf1,cf1,rf1,rfl,d,_⟩,b⟩;have F1:=hid d;clear d;have b':Below y2.heap.size y2 y3:=⟨b.os,b.tape,b.output,b.size,b.block⟩;have K3:Hid (Below z w16 y3∧z≤y3.heap.size):=hid ⟨K2.out.1.trans (b'.mono K2.out.2),Nat.le_trans K2.out.2 b'.size⟩;have K3d:Hid (Below z w16 y3.drew∧z≤y3.drew.heap.size):=hid ⟨K3.out.1.drew,K3.out.2⟩;replace HB0:=btr HB0 b' HB0.out.size;replace X15:=rb2 X15 b';replace X17:=rb2 X17 b';replace X19:=rb2 X19 b';clear b v0 v1 v2 v3 v4 v5 u0 u1 u2 u3 u4 u5;obtain ⟨v0,v1,_⟩:=xb2 X15;obtain ⟨v2,v3,_⟩:=xb2 X17;obtain ⟨v4,v5,_⟩:=xb2 X19;have u0:y3.drew.cell? ⟨gX15,0,none⟩=some (.slice Ae5 me5 ce5):=v0;have u1:y3.drew.cell? ⟨gX15,1,none⟩=some (.int .i64 (re5:Int)):=v1;have u2:y3.drew.cell? ⟨gX17,0,none⟩=some (.slice Ae7 me7 ce7):=v2;have u3:y3.drew.cell? ⟨gX17,1,none⟩=some (.int .i64 (re7:Int)):=v3;have u4:y3.drew.cell? ⟨gX19,0,none⟩=some (.slice Ae9 me9 ce9):=v4;have u5:y3.drew.cell? ⟨gX19,1,none⟩=some (.int .i64 (re9:Int)):=v5;clear b')
  | (have _k:=F0;go_at_call 22;(first | (with_reducible refine (HM0.out y1 Af0 mf0 cf0 rf0 K1.out.1 F0.out).mono ?_) | (with_reducible refine (HM0.out y1.drew Af0 mf0 cf0 rf0 K1d.out.1 (F0.out.below (Below.refl _ _).drew)).mono ?_));rintro e y2 ⟨rfl,b⟩;have b':Below y1.heap.size y1 y2:=⟨b.os,b.tape,b.output,b.size,b.block⟩;have K2:Hid (Below z w16 y2∧z≤y2.heap.size):=hid ⟨K1.out.1.trans (b'.mono K1.out.2),Nat.le_trans K1.out.2 b'.size⟩;have K2d:Hid (Below z w16 y2.drew∧z≤y2.drew.heap.size):=hid ⟨K2.out.1.drew,K2.out.2⟩;replace HB0:=btr HB0 b' HB0.out.size;replace X15:=rb2 X15 b';replace X17:=rb2 X17 b';replace X19:=rb2 X19 b';clear b v0 v1 v2 v3 v4 v5 u0 u1 u2 u3 u4 u5;obtain ⟨v0,v1,_⟩:=xb2 X15;obtain ⟨v2,v3,_⟩:=xb2 X17;obtain ⟨v4,v5,_⟩:=xb2 X19;have u0:y2.drew.cell? ⟨gX15,0,none⟩=some (.slice Ae5 me5 ce5):=v0;have u1:y2.drew.cell? ⟨gX15,1,none⟩=some (.int .i64 (re5:Int)):=v1;have u2:y2.drew.cell? ⟨gX17,0,none⟩=some (.slice Ae7 me7 ce7):=v2;have u3:y2.drew.cell? ⟨gX17,1,none⟩=some (.int .i64 (re7:Int)):=v3;have u4:y2.drew.cell? ⟨gX19,0,none⟩=some (.slice Ae9 me9 ce9):=v4;have u5:y2.drew.cell? ⟨gX19,1,none⟩=some (.int .i64 (re9:Int)):=v5;clear b')
  | (have _k:=HZ;go_at_call 24;(first | (with_reducible refine (HJ0.out w16 HZ.out).mono ?_) | (with_reducible refine (HJ0.out w16.drew HZd.out).mono ?_));rintro e y1 ⟨⟨Af0,mf0,cf0,rf0,rfl,d,_⟩,b⟩;have F0:=hid d;clear d;have b':Below w16.heap.size w16 y1:=⟨b.os,b.tape,b.output,b.size,b.block⟩;have K1:Hid (Below z w16 y1∧z≤y1.heap.size):=hid ⟨HZ.out.1.trans (b'.mono HZ.out.2),Nat.le_trans HZ.out.2 b'.size⟩;have K1d:Hid (Below z w16 y1.drew∧z≤y1.drew.heap.size):=hid ⟨K1.out.1.drew,K1.out.2⟩;replace HB0:=btr HB0 b' HB0.out.size;replace X15:=rb2 X15 b';replace X17:=rb2 X17 b';replace X19:=rb2 X19 b';clear b v0 v1 v2 v3 v4 v5 u0 u1 u2 u3 u4 u5;obtain ⟨v0,v1,_⟩:=xb2 X15;obtain ⟨v2,v3,_⟩:=xb2 X17;obtain ⟨v4,v5,_⟩:=xb2 X19;have u0:y1.drew.cell? ⟨gX15,0,none⟩=some (.slice Ae5 me5 ce5):=v0;have u1:y1.drew.cell? ⟨gX15,1,none⟩=some (.int .i64 (re5:Int)):=v1;have u2:y1.drew.cell? ⟨gX17,0,none⟩=some (.slice Ae7 me7 ce7):=v2;have u3:y1.drew.cell? ⟨gX17,1,none⟩=some (.int .i64 (re7:Int)):=v3;have u4:y1.drew.cell? ⟨gX19,0,none⟩=some (.slice Ae9 me9 ce9):=v4;have u5:y1.drew.cell? ⟨gX19,1,none⟩=some (.int .i64 (re9:Int)):=v5;clear b')))
 all_goals
  go_wp2
  go_ret
  exact ⟨rfl,HB0.out⟩
end Go.Proofs.YtpaednfinlaioaaGreatDoor
