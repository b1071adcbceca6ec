/-
  Plain mathematics and contracts of package diagram, several texts in one: FLawCa.
-/
import Derived.Test.YtpaednfinlaioaaGreatDoorFT
import Derived.Test.YtpaednfinlaioaaGreatDoorFv
import Derived.Test.YtpaednfinlaioaaGreatDoorFG
import Derived.Test.YtpaednfinlaioaaGreatDoorMk
import Derived.Test.YtpaednfinlaioaaGreatDoorMh
import Derived.Deep.RegionHeld3
import Derived.Test.YtpaednfinlaioaaGreatDoorFP
set_option maxHeartbeats 16000000
set_option maxRecDepth 100000
namespace Go.Proofs.YtpaednfinlaioaaGreatDoor
open Go.Lib (hid)
open Go.RowKit Dg St
set_option linter.unusedVariables false
set_option linter.unusedSimpArgs false
attribute [local go_sem ↓] Go.wp_at_zero Go.wp_at_succ
theorem dia_can {f:Cfg→Bool} (hd:D64 f) (hl:Low 6 f) (W:World) (A:Option Addr) (n c:Nat) (hn:(canF f).length=n) (hi:Ins W 0) (hr:Rf W W.heap.size A (canF f)) :
  Calls Tryz.prog 9 #[.slice A n c] W fun e w'=>BinOk W w' f e:=by
 have hc:=can_ok hd hl
 have hlow:∀ j,j<n→Low 6 (fun x=>val (canF f) x j):=fun j hj=>val_low hc.1.2.2.1 (n:=6) (can_var hd hl) j (by omega)
 have h:=fdia_ok A n c (canF f) W (hid hn) (hid hr) (hid hc.1) (hid hlow) (hid hi)
 exact h.mono fun e w' q=>q.congr (by
  subst hn
  funext x
  exact hc.2 x)
theorem dia_made (l:List Nat) {n:Nat} (hn:1≤n) (hn6:n≤6) (W:World) (A:Option Addr) (c:Nat) (hi:Ins W 0) (hr:Rf W W.heap.size A (made l n)) :
  Calls Tryz.prog 9 #[.slice A (made l n).length c] W fun e w'=>BinOk W w' (vlF (made l n)) e :=
 fdia_ok A _ c (made l n) W (hid rfl) (hid hr) (hid (made_ok l n hn (by omega))) (hid (made_low l hn hn6)) (hid hi)
theorem vlF_low6 (l:List Nat) {n:Nat} (hn:1≤n) (hn6:n≤6):Low 6 (vlF (made l n)):=by
 have h:=made_ok l n hn (by omega)
 exact made_low l hn hn6 ((made l n).length - 1) (by have:=h.1;omega)
theorem hold_dn {w:World} {A:Option Addr} {m c r:Nat} {f:Cfg→Bool} (x:Nat) (h:Hid (Dn w A m c r f)) (hx:x<18446744073709551616) (b:Bool) (hb:f (cf x)=b) :
  Calls Tryz.prog 20 #[.agg #[.slice A m c,.int .i64 ((r:Nat):Int)],.int .u64 (x:Int)] w fun e w'=>e=.returned (.bool b)∧Below w.heap.size w w':=by
 have:=holds_dn x h hx
 rw [show f (cfg x)=b from hb] at this
 exact this
theorem text_of {w:World} {A:Option Addr} {m c r:Nat} {G:List Fi} (hlen:G.length≤1000000) (he:txtE (L12.take 6) (G,0)=0) (q:Nat) (hs:Hid (Rstr w w.heap.size (some ⟨q,0,none⟩) (L12.take 6))) (hof:∀ W,Below w.heap.size w W→Calls Tryz.prog 12 #[.agg #[.slice A m c,.int .i64 ((r:Nat):Int)]] W fun e w'=>PsR W w' (G,0) e) :
  Calls Tryz.prog 14 #[.slice (some ⟨q,0,none⟩) 6 12,.agg #[.slice A m c,.int .i64 ((r:Nat):Int)]] w fun e w'=>e=.returned (.tuple #[.string (txtS (L12.take 6) (G,0)),.int .i64 0])∧Below w.heap.size w w':=by
 have:=ftext_any (some ⟨q,0,none⟩) 6 12 (L12.take 6) (.slice A m c) (.int .i64 (r:Int)) (G,0) w (hid rfl) (by omega) (by omega) (hid (fun j=>sg_take j 6)) hs (hid hlen) (hid hof)
 rw [he] at this
 exact this
theorem text_dn {w:World} {A:Option Addr} {m c r:Nat} {f:Cfg→Bool} (h:Hid (Dn w A m c r f)) (hl:Low 6 f) (q:Nat) (hs:Hid (Rstr w w.heap.size (some ⟨q,0,none⟩) (L12.take 6))) :
  Calls Tryz.prog 14 #[.slice (some ⟨q,0,none⟩) 6 12,.agg #[.slice A m c,.int .i64 ((r:Nat):Int)]] w fun e w'=>e=.returned (.tuple #[.string (txtS (L12.take 6) (canF f,0)),.int .i64 0])∧Below w.heap.size w w':=by
 have hlen:(canF f).length≤1000000:=Nat.le_trans (can_ok h.out.d hl).1.2.1 (by omega)
 have he:=can_txt h.out.d hl
 have hof:=of_dn h (hid hl)
 generalize canF f=G at *
 exact text_of hlen he q hs hof
theorem lawCa_walk (A1:Option Addr) (n1 c1:Nat) (l1:List Nat) (A2:Option Addr) (n2 c2:Nat) (l2:List Nat) (x:Nat) (A3:Option Addr) (n3 c3:Nat) (l3:List Nat) (y:Nat) (w:World) (h1:Hid (B8 w w.heap.size A1 n1 l1)∧n1≤9223372036854775807) (h2:Hid (B8 w w.heap.size A2 n2 l2)∧n2≤9223372036854775807) (hx:x<256) (h3:Hid (B8 w w.heap.size A3 n3 l3)∧n3≤9223372036854775807) (hy:y<256) (hin:Hid (Ins w 0)) :
  Calls Tryz.prog 5 #[.agg #[.slice A1 n1 c1,.slice A2 n2 c2,.int .u8 (x:Int),.slice A3 n3 c3,.int .u8 (y:Int)]] w fun e w'=>e=.returned (.bool true)∧Below w.heap.size w w':=by
 obtain ⟨k,hk⟩:∃ k,k=x % 6:=⟨_,rfl⟩
 have ex:(x:Int).tmod 6=(k:Int):=by rw [Int.tmod_eq_emod_of_nonneg (by omega)];omega
 have hk6:k≤5:=by omega
 obtain ⟨j,hj⟩:∃ j,j=y % 7:=⟨_,rfl⟩
 have ey:(y:Int).tmod 7=(j:Int):=by rw [Int.tmod_eq_emod_of_nonneg (by omega)];omega
 have hj6:j≤6:=by omega
 have HMD1:=hid (fun W (hW:Below w.heap.size w W)=>lmadeF A1 c1 n1 k l1 w W h1.1 h1.2 (by omega) hW)
 have HMD2:=hid (fun W (hW:Below w.heap.size w W)=>lmadeF A2 c2 n2 k l2 w W h2.1 h2.2 (by omega) hW)
 have HSAN:=hid (fun W=>fsanity_ok W)
 have HDM:=hid (fun W (hW:Below w.heap.size w W)=>rmade_ok j n3 c3 A3 l3 W (hid (b8_r8 ((h3.1.out.below hW).mono hW.size))) hj6 h3.2)
 have HLT:=hid (fun W=>qletters 6 W (by omega))
 have HFD1:=hid (fun W A c=>dia_made l1 (n:=1+k) (by omega) (by omega) W A c)
 have HFD2:=hid (fun W A c=>dia_made l2 (n:=1+k) (by omega) (by omega) W A c)
 have hla:=vlF_low6 l1 (n:=1+k) (by omega) (by omega)
 have hlb:=vlF_low6 l2 (n:=1+k) (by omega) (by omega)
 have hlT:Low 6 (tset l3 j 0 0):=(tset_low l3 _ _ _ _ (by omega):Low j _).mono hj6
 have HOF:Hid (∀ W A n c r,Dn W A n c r (tset l3 j 0 0)→Calls Tryz.prog 12 #[.agg #[.slice A n c,.int .i64 ((r:Nat):Int)]] W fun e w'=>PsR W w' (canF (tset l3 j 0 0),0) e):=hid fun W A n c r hd=>of_dn (hid hd) (hid hlT) W (Below.refl _ _)
 have HCD:Hid (∀ W A n c,(canF (tset l3 j 0 0)).length=n→Ins W 0→Rf W W.heap.size A (canF (tset l3 j 0 0))→Calls Tryz.prog 9 #[.slice A n c] W fun e w'=>BinOk W w' (tset l3 j 0 0) e):=hid fun W A n c h1 h2 h3=>dia_can (hlT.d64 (by omega)) hlT W A n c h1 h2 h3
 have HTA:Hid (∀ W A m c r q,Dn W A m c r (vlF (made l1 (1+k)))→Rstr W W.heap.size (some ⟨q,0,none⟩) (L12.take 6)→Calls Tryz.prog 14 #[.slice (some ⟨q,0,none⟩) 6 12,.agg #[.slice A m c,.int .i64 ((r:Nat):Int)]] W fun e w'=>e=.returned (.tuple #[.string (txtS (L12.take 6) (canF (vlF (made l1 (1+k))),0)),.int .i64 0])∧Below W.heap.size W w'):=hid fun W A m c r q hd hs=>text_dn (hid hd) hla q (hid hs)
 have HTB:Hid (∀ W A m c r q,Dn W A m c r (vlF (made l2 (1+k)))→Rstr W W.heap.size (some ⟨q,0,none⟩) (L12.take 6)→Calls Tryz.prog 14 #[.slice (some ⟨q,0,none⟩) 6 12,.agg #[.slice A m c,.int .i64 ((r:Nat):Int)]] W fun e w'=>e=.returned (.tuple #[.string (txtS (L12.take 6) (canF (vlF (made l2 (1+k))),0)),.int .i64 0])∧Below W.heap.size W w'):=hid fun W A m c r q hd hs=>text_dn (hid hd) hlb q (hid hs)
 have hst:=can_same (hla.d64 (by omega)) hla (hlb.d64 (by omega)) hlb
 clear hk hj h1 h2 h3 hlT hla hlb
 generalize txtS (L12.take 6) (canF (vlF (made l1 (1+k))),0)=ta at *
 generalize txtS (L12.take 6) (canF (vlF (made l2 (1+k))),0)=tb at *
 generalize vlF (made l1 (1+k))=fa at *
 generalize vlF (made l2 (1+k))=fb at *
 generalize made l1 (1+k)=F1 at *
 generalize made l2 (1+k)=F2 at *
 generalize tset l3 j 0 0=fT at *
 generalize canF fT=G at *
 obtain ⟨p1,hp1⟩:∃ m,F1.length=m:=⟨_,rfl⟩
 obtain ⟨p2,hp2⟩:∃ m,F2.length=m:=⟨_,rfl⟩
 rw [hp1] at HMD1 HFD1
 rw [hp2] at HMD2 HFD2
 clear hp1 hp2
 have HST:=hid hst
 clear hst
 have HB0:=hid (ab2 w (.cells #[.slice A1 n1 c1,.slice A2 n2 c2,.int .u8 (x:Int),.slice A3 n3 c3,.int .u8 (y:Int)] 24))
 have XI:Hid (Blk (w.alloc (.cells #[.slice A1 n1 c1,.slice A2 n2 c2,.int .u8 (x:Int),.slice A3 n3 c3,.int .u8 (y:Int)] 24)) w.heap.size 5 (fun i=>([.slice A1 n1 c1,.slice A2 n2 c2,.int .u8 (x:Int),.slice A3 n3 c3,.int .u8 (y:Int)]:List Value).getD i undef)):=hid (Blk.new (w:=w) (H:=w.heap.size) rfl [.slice A1 n1 c1,.slice A2 n2 c2,.int .u8 (x:Int),.slice A3 n3 c3,.int .u8 (y:Int)] 24)
 have HI:=rin hin HB0.out
 clear hin
 go_enter Tryz.func5,Tryz.ntmps5
 go_upto_region 1 with fail
 generalize w.alloc (.cells #[.slice A1 n1 c1,.slice A2 n2 c2,.int .u8 (x:Int),.slice A3 n3 c3,.int .u8 (y:Int)] 24)=w0 at *
 go_wp2_with fail
 refine (HSAN.out w0).mono ?_
 rintro e w1 ⟨rfl,b⟩
 replace XI:=hid (XI.out.below (by omega) b)
 replace HI:=rin HI b
 replace HB0:=btr HB0 b HB0.out.size
 clear b
 clear HSAN
 go_wp2_with fail
 refine (HLT.out w1).mono ?_
 rintro e w2 ⟨gq,rfl,hs,b⟩
 replace XI:=hid (XI.out.below (by omega) b)
 replace HI:=rin HI b
 replace HB0:=btr HB0 b HB0.out.size
 have HSq:=hid hs
 clear b
 clear hs HLT
 obtain ⟨x3,_⟩:=XI.out 3 (by omega)
 obtain ⟨x4,_⟩:=XI.out 4 (by omega)
 go_wp2_with fail
 refine (HDM.out w2 HB0.out).mono ?_
 rintro e w3 ⟨⟨A9,m9,c9,r9,rfl,d9,_⟩,b⟩
 replace XI:=hid (XI.out.below (by omega) b)
 replace HI:=rin HI b
 replace HB0:=btr HB0 b HB0.out.size
 replace HSq:=hid ((HSq.out.below b).mono b.size)
 have D9:=hid d9
 clear b
 clear d9 x3 x4 HDM
 have b:=ab2 w3 (.cells #[.slice A9 m9 c9,.int .i64 (r9:Int)] 31)
 have X9:=nb2 w3 (.slice A9 m9 c9) (.int .i64 (r9:Int)) 31
 replace XI:=hid (XI.out.below (by omega) b)
 replace HI:=rin HI b
 replace HB0:=btr HB0 b HB0.out.size
 replace HSq:=hid ((HSq.out.below b).mono b.size)
 replace D9:=rdn D9 b
 clear b
 go_upto_region 4 with fail
 generalize w3.alloc (.cells #[.slice A9 m9 c9,.int .i64 (r9:Int)] 31)=w4 at *
 generalize w3.heap.size=gX9 at *
 obtain ⟨v0,v1,_⟩:=xb2 X9
 go_wp2_with fail
 refine (HOF.out w4 A9 m9 c9 r9 D9.out).mono ?_
 rintro e w5 ⟨A7,m7,c7,rfl,hl7,hc7,hr7,b⟩
 replace XI:=hid (XI.out.below (by omega) b)
 replace HI:=rin HI b
 replace HB0:=btr HB0 b HB0.out.size
 replace HSq:=hid ((HSq.out.below b).mono b.size)
 replace D9:=rdn D9 b
 replace X9:=rb2 X9 b
 have R7:=hid hr7
 have L7:=hid hl7
 clear b
 clear hr7 hl7 v0 v1 HOF
 go_wp2_with fail
 refine (HCD.out w5 A7 m7 c7 L7.out HI.out R7.out).mono ?_
 rintro e w6 ⟨⟨A8,m8,c8,r8,rfl,d8,_⟩,b⟩
 replace XI:=hid (XI.out.below (by omega) b)
 replace HI:=rin HI b
 replace HB0:=btr HB0 b HB0.out.size
 replace HSq:=hid ((HSq.out.below b).mono b.size)
 replace D9:=rdn D9 b
 replace X9:=rb2 X9 b
 replace R7:=hid ((R7.out.below b).mono b.size)
 have D8:=hid d8
 clear b
 clear d8 HCD L7 R7 hc7
 have b:=ab2 w6 (.cells #[.slice A8 m8 c8,.int .i64 (r8:Int)] 31)
 have X8:=nb2 w6 (.slice A8 m8 c8) (.int .i64 (r8:Int)) 31
 replace XI:=hid (XI.out.below (by omega) b)
 replace HI:=rin HI b
 replace HB0:=btr HB0 b HB0.out.size
 replace HSq:=hid ((HSq.out.below b).mono b.size)
 replace D9:=rdn D9 b
 replace X9:=rb2 X9 b
 replace D8:=rdn D8 b
 clear b
 go_upto_region 6 with fail
 generalize w6.alloc (.cells #[.slice A8 m8 c8,.int .i64 (r8:Int)] 31)=w7 at *
 generalize w6.heap.size=gX8 at *
 obtain ⟨x0,_⟩:=XI.out 0 (by omega)
 obtain ⟨x2,_⟩:=XI.out 2 (by omega)
 go_wp2_with fail
 refine (HMD1.out w7 HB0.out).mono ?_
 rintro e w8 ⟨A4,c4,rfl,hc4,hr4,b⟩
 replace XI:=hid (XI.out.below (by omega) b)
 replace HI:=rin HI b
 replace HB0:=btr HB0 b HB0.out.size
 replace HSq:=hid ((HSq.out.below b).mono b.size)
 replace D9:=rdn D9 b
 replace X9:=rb2 X9 b
 replace D8:=rdn D8 b
 replace X8:=rb2 X8 b
 have R4:=hid hr4
 clear b
 clear hr4 x0 x2 HMD1 hc4
 go_wp2_with fail
 refine (HFD1.out w8 A4 c4 HI.out R4.out).mono ?_
 rintro e w9 ⟨⟨Aa,ma,ca,ra,rfl,da,_⟩,b⟩
 replace XI:=hid (XI.out.below (by omega) b)
 replace HI:=rin HI b
 replace HB0:=btr HB0 b HB0.out.size
 replace HSq:=hid ((HSq.out.below b).mono b.size)
 replace D9:=rdn D9 b
 replace X9:=rb2 X9 b
 replace D8:=rdn D8 b
 replace X8:=rb2 X8 b
 replace R4:=hid ((R4.out.below b).mono b.size)
 have DA:=hid da
 clear b
 clear da HFD1 R4
 have b:=ab2 w9 (.cells #[.slice Aa ma ca,.int .i64 (ra:Int)] 31)
 have XA:=nb2 w9 (.slice Aa ma ca) (.int .i64 (ra:Int)) 31
 replace XI:=hid (XI.out.below (by omega) b)
 replace HI:=rin HI b
 replace HB0:=btr HB0 b HB0.out.size
 replace HSq:=hid ((HSq.out.below b).mono b.size)
 replace D9:=rdn D9 b
 replace X9:=rb2 X9 b
 replace D8:=rdn D8 b
 replace X8:=rb2 X8 b
 replace DA:=rdn DA b
 clear b
 go_upto_region 7 with fail
 generalize w9.alloc (.cells #[.slice Aa ma ca,.int .i64 (ra:Int)] 31)=w10 at *
 generalize w9.heap.size=gXA at *
 obtain ⟨x1,_⟩:=XI.out 1 (by omega)
 obtain ⟨x2,_⟩:=XI.out 2 (by omega)
 go_wp2_with fail
 refine (HMD2.out w10 HB0.out).mono ?_
 rintro e w11 ⟨A5,c5,rfl,hc5,hr5,b⟩
 replace XI:=hid (XI.out.below (by omega) b)
 replace HI:=rin HI b
 replace HB0:=btr HB0 b HB0.out.size
 replace HSq:=hid ((HSq.out.below b).mono b.size)
 replace D9:=rdn D9 b
 replace X9:=rb2 X9 b
 replace D8:=rdn D8 b
 replace X8:=rb2 X8 b
 replace DA:=rdn DA b
 replace XA:=rb2 XA b
 have R5:=hid hr5
 clear b
 clear hr5 x1 x2 HMD2 hc5 XI
 go_wp2_with fail
 refine (HFD2.out w11 A5 c5 HI.out R5.out).mono ?_
 rintro e w12 ⟨⟨Ab,mb,cb,rb,rfl,db,_⟩,b⟩
 replace HI:=rin HI b
 replace HB0:=btr HB0 b HB0.out.size
 replace HSq:=hid ((HSq.out.below b).mono b.size)
 replace D9:=rdn D9 b
 replace X9:=rb2 X9 b
 replace D8:=rdn D8 b
 replace X8:=rb2 X8 b
 replace DA:=rdn DA b
 replace XA:=rb2 XA b
 replace R5:=hid ((R5.out.below b).mono b.size)
 have DB:=hid db
 clear b
 clear db HFD2 R5 HI
 have b:=ab2 w12 (.cells #[.slice Ab mb cb,.int .i64 (rb:Int)] 31)
 have XB:=nb2 w12 (.slice Ab mb cb) (.int .i64 (rb:Int)) 31
 replace HB0:=btr HB0 b HB0.out.size
 replace HSq:=hid ((HSq.out.below b).mono b.size)
 replace D9:=rdn D9 b
 replace X9:=rb2 X9 b
 replace D8:=rdn D8 b
 replace X8:=rb2 X8 b
 replace DA:=rdn DA b
 replace XA:=rb2 XA b
 replace DB:=rdn DB b
 clear b
 go_upto_region 8 with fail
 generalize w12.alloc (.cells #[.slice Ab mb cb,.int .i64 (rb:Int)] 31)=w13 at *
 generalize w12.heap.size=gXB at *
 obtain ⟨v0,v1,_⟩:=xb2 XA
 go_wp2_with fail
 refine (HTA.out w13 Aa ma ca ra gq DA.out HSq.out).mono ?_
 rintro e w14 ⟨rfl,b⟩
 replace HB0:=btr HB0 b HB0.out.size
 replace HSq:=hid ((HSq.out.below b).mono b.size)
 replace D9:=rdn D9 b
 replace X9:=rb2 X9 b
 replace D8:=rdn D8 b
 replace X8:=rb2 X8 b
 replace DA:=rdn DA b
 replace XA:=rb2 XA b
 replace DB:=rdn DB b
 replace XB:=rb2 XB b
 clear b
 clear v0 v1 HTA
 obtain ⟨v0,v1,_⟩:=xb2 XB
 go_wp2_with fail
 refine (HTB.out w14 Ab mb cb rb gq DB.out HSq.out).mono ?_
 rintro e w15 ⟨rfl,b⟩
 replace HB0:=btr HB0 b HB0.out.size
 replace HSq:=hid ((HSq.out.below b).mono b.size)
 replace D9:=rdn D9 b
 replace X9:=rb2 X9 b
 replace D8:=rdn D8 b
 replace X8:=rb2 X8 b
 replace DA:=rdn DA b
 replace XA:=rb2 XA b
 replace DB:=rdn DB b
 replace XB:=rb2 XB b
 clear b
 clear v0 v1 HTB HSq
 go_wp2
 have hag0:Hid (agr fa fb 0=true):=hid (agr_zero fa fb)
 go_loopw [18,19] (fun e18 k19 wr=>∃ k:Nat,k≤64∧k19=.int .i64 (k:Int)∧e18=.bool (agr fa fb k)∧Hid (Below w15.heap.size w15 wr)) (fun _ k19 _=>64 - (intOf k19).toNat)
 case atStart=>exact ⟨0,by omega,rfl,by rw [hag0.out],hid (Below.refl _ _)⟩
 case round =>
  obtain ⟨k,hk,rfl,rfl,HW⟩:=hrel
  replace X9:=rb2 X9 HW.out
  replace X8:=rb2 X8 HW.out
  replace XA:=rb2 XA HW.out
  replace XB:=rb2 XB HW.out
  replace D9:=rdn D9 HW.out
  replace D8:=rdn D8 HW.out
  replace DA:=rdn DA HW.out
  replace DB:=rdn DB HW.out
  have HB1:=btr HB0 HW.out HB0.out.size
  by_cases hk64:k<64
  ·have i1:(k:Int)<64:=by omega
   have hu3:IntKind.u64.wrap (k:Int)=(k:Int):=by rw [IntKind.wrap_u64];omega
   have hag:=agr_succ fa fb k
   generalize hak:agr fa fb (k+1)=ak1 at *
   generalize agr fa fb k=ak at *
   generalize hfa:fa (cf k)=xa at *
   generalize hfb:fb (cf k)=xb at *
   have HFA:=hid hfa
   have HFB:=hid hfb
   have HAG:=hid hag
   have HAK:=hid hak
   clear hfa hfb hag hak
   go_wp2
   rcases ak with _ | _
   ·go_quiet (fail)
    go_wp2
    go_roundw
    case rel=>exact ⟨k+1,by omega,by go_num,by rw [HAK.out,HAG.out];rfl,by first | exact HW | exact hid HW.out.drew | exact hid (below_drewN HW.out _)⟩
    case measure=>simp [intOf];omega
   ·obtain ⟨x0,x1,xn⟩:=xb2 XA
    obtain ⟨y0,y1,yn⟩:=xb2 XB
    go_region_held3 (fun w'=>w'.cell? ⟨gXA,0,none⟩=some (.slice Aa ma ca)∧w'.cell? ⟨gXA,1,none⟩=some (.int .i64 (ra:Int))∧w'.cell? ⟨gXB,0,none⟩=some (.slice Ab mb cb)∧w'.cell? ⟨gXB,1,none⟩=some (.int .i64 (rb:Int))) (first | (refine ⟨?_,?_,?_,?_⟩ <;> (with_reducible assumption)) | go_keep) ((first
     | (have _kq:=HS1;go_at_call 20;(with_reducible refine (hold_dn k DB1 (by omega) xb HFB.out).mono ?_);rintro e wj ⟨rfl,bj⟩;have HS2:=btr HS1 bj HS1.out.size;obtain ⟨x0,x1,xn⟩:=xb2 (rb2 XA1 bj);obtain ⟨y0,y1,yn⟩:=xb2 (rb2 XB1 bj);clear bj)
     | (go_at_call 20;(with_reducible refine (hold_dn k (rdn DA (Below.refl _ _).drew) (by omega) xa HFA.out).mono ?_);rintro e wi ⟨rfl,bi'⟩;have bi:Below wr.heap.size wr wi:=(Below.refl _ _).drew.trans bi';have HS1:=btr HW bi HW.out.size;have DB1:=rdn DB bi;have XA1:=rb2 XA bi;have XB1:=rb2 XB bi;obtain ⟨x0,x1,xn⟩:=xb2 XA1;obtain ⟨y0,y1,yn⟩:=xb2 XB1;clear bi bi')))
    all_goals
     go_wp2
     go_roundw
     case rel=>exact ⟨k+1,by omega,by go_num,by rw [HAK.out,HAG.out];cases xa <;> cases xb <;> rfl,by first | exact HS2 | exact hid HS2.out.drew⟩
     case measure=>simp [intOf];omega
  ·obtain rfl:k=64:=by omega
   have hst:=HST.out
   generalize agr fa fb 64=eq at *
   obtain ⟨x0,x1,xn⟩:=xb2 X8
   obtain ⟨y0,y1,yn⟩:=xb2 X9
   have HDC:=D9.out.congr rfl
   go_wp2_with fail
   with_reducible refine (same_dn D8 D9 rfl rfl true (hid ⟨fun _=>rfl,fun _=>rfl⟩)).mono ?_
   rintro e wz ⟨rfl,bz⟩
   have HBZ:=btr HB1 bz HB1.out.size
   clear bz x0 x1 xn y0 y1 yn
   have hbb:(eq == eq)=true:=beq_self_eq_true eq
   go_wp2
   go_ret
   exact ⟨rfl,HBZ.out⟩
end Go.Proofs.YtpaednfinlaioaaGreatDoor
