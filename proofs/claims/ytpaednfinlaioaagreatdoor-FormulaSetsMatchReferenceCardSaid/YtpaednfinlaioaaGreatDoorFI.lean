/-
  Plain mathematics and contracts of package diagram, several texts in one: FLawSt.
-/
import Derived.Test.YtpaednfinlaioaaGreatDoorFq
import Derived.Test.YtpaednfinlaioaaGreatDoorFE
import Derived.Test.YtpaednfinlaioaaGreatDoorFv
import Derived.Test.YtpaednfinlaioaaGreatDoorFH
import Derived.Test.YtpaednfinlaioaaGreatDoorFF
import Derived.Test.YtpaednfinlaioaaGreatDoorFG
import Derived.Test.YtpaednfinlaioaaGreatDoorFo
import Derived.Test.YtpaednfinlaioaaGreatDoorMk
import Derived.Test.YtpaednfinlaioaaGreatDoorFT
import Derived.Test.YtpaednfinlaioaaGreatDoorMh
import Derived.Deep.RegionHeld3
set_option maxHeartbeats 16000000
set_option maxRecDepth 100000
namespace Go.Proofs.YtpaednfinlaioaaGreatDoor
open Go.Lib (hid)
open Go.RowKit Dg St
set_option linter.unusedVariables false
set_option linter.unusedSimpArgs false
attribute [local go_sem ↓] Go.wp_at_zero Go.wp_at_succ
theorem lawSt_walk (A1:Option Addr) (n1 c1:Nat) (l1:List Nat) (A2:Option Addr) (n2 c2:Nat) (l2:List Nat) (x:Nat) (A3:Option Addr) (n3 c3:Nat) (l3:List Nat) (y:Nat) (w:World) (h1:Hid (B8 w w.heap.size A1 n1 l1)∧n1≤9223372036854775807) (h2:Hid (B8 w w.heap.size A2 n2 l2)∧n2≤9223372036854775807) (hx:x<256) (h3:Hid (B8 w w.heap.size A3 n3 l3)∧n3≤9223372036854775807) (hy:y<256) (hin:Hid (Ins w 0)) :
  Calls Tryz.prog 3 #[.agg #[.slice A1 n1 c1,.slice A2 n2 c2,.int .u8 (x:Int),.slice A3 n3 c3,.int .u8 (y:Int)]] w fun e w'=>e=.returned (.bool true)∧Below w.heap.size w w':=by
 obtain ⟨k,hk⟩:∃ k,k=x % 6:=⟨_,rfl⟩
 have ex:(x:Int).tmod 6=(k:Int):=by rw [Int.tmod_eq_emod_of_nonneg (by omega)];omega
 have hk6:k≤5:=by omega
 obtain ⟨j,hj⟩:∃ j,j=y % 7:=⟨_,rfl⟩
 have ey:(y:Int).tmod 7=(j:Int):=by rw [Int.tmod_eq_emod_of_nonneg (by omega)];omega
 have hj6:j≤6:=by omega
 have hok:=made_ok l1 (1+k) (by omega) (by omega)
 have hlow:=made_low l1 (n:=1+k) (by omega) (by omega)
 have HMD:=hid (fun W (hW:Below w.heap.size w W)=>lmadeF A1 c1 n1 k l1 w W h1.1 h1.2 (by omega) hW)
 have HSAN:=hid (fun W=>fsanity_ok W)
 have HDM:=hid (fun W (hW:Below w.heap.size w W)=>rmade_ok j n3 c3 A3 l3 W (hid (b8_r8 ((h3.1.out.below hW).mono hW.size))) hj6 h3.2)
 have HLT:=hid (fun W (n:Nat) (hn:n≤12)=>qletters n W hn)
 clear hk hj h1 h2 h3
 generalize made l1 (1+k)=F at *
 generalize tset l3 j 0 0=fT at *
 obtain ⟨m,hm⟩:∃ m,F.length=m:=⟨_,rfl⟩
 rw [hm] at HMD hlow
 have HFD:=hid (fun W A c (hi:Ins W 0) (hr:Rf W W.heap.size A F)=>fdia_ok A m c F W (hid hm) (hid hr) (hid hok) (hid hlow) (hid hi))
 have HQD:=hid (fun W A c (hi:Ins W 0) (hr:Rf W W.heap.size A F)=>qdia_ok A m c F W (hid hm) (hid hr) (hid hok) (hid hlow) (hid hi))
 clear hok hlow
 have HM:=hid hm
 clear hm
 generalize (fun x=>val F x (m - 1))=fF at *
 have HB0:=hid (ab2 w (.cells #[.slice A1 n1 c1,.slice A2 n2 c2,.int .u8 (x:Int),.slice A3 n3 c3,.int .u8 (y:Int)] 24))
 have XI:Hid (Blk (w.alloc (.cells #[.slice A1 n1 c1,.slice A2 n2 c2,.int .u8 (x:Int),.slice A3 n3 c3,.int .u8 (y:Int)] 24)) w.heap.size 5 (fun i=>([.slice A1 n1 c1,.slice A2 n2 c2,.int .u8 (x:Int),.slice A3 n3 c3,.int .u8 (y:Int)]:List Value).getD i undef)):=hid (Blk.new (w:=w) (H:=w.heap.size) rfl [.slice A1 n1 c1,.slice A2 n2 c2,.int .u8 (x:Int),.slice A3 n3 c3,.int .u8 (y:Int)] 24)
 have HI:=rin hin HB0.out
 go_enter Tryz.func3,Tryz.ntmps3
 go_upto_region 1 with fail
 generalize w.alloc (.cells #[.slice A1 n1 c1,.slice A2 n2 c2,.int .u8 (x:Int),.slice A3 n3 c3,.int .u8 (y:Int)] 24)=w0 at *
 go_wp2_with fail
 refine (HSAN.out w0).mono ?_
 rintro e w1 ⟨rfl,b⟩
 replace XI:=hid (XI.out.below (by omega) b)
 replace HI:=rin HI b
 replace HB0:=btr HB0 b HB0.out.size
 clear b
 clear HSAN
 obtain ⟨x0,_⟩:=XI.out 0 (by omega)
 obtain ⟨x2,_⟩:=XI.out 2 (by omega)
 go_wp2_with fail
 refine (HMD.out w1 HB0.out).mono ?_
 rintro e w2 ⟨A4,c4,rfl,hc4,hr4,b⟩
 replace XI:=hid (XI.out.below (by omega) b)
 replace HI:=rin HI b
 replace HB0:=btr HB0 b HB0.out.size
 have HR:=hid hr4
 clear b
 clear hr4 x0 x2 HMD
 go_wp2_with fail
 refine (HFD.out w2 A4 c4 HI.out HR.out).mono ?_
 rintro e w3 ⟨⟨A5,m5,c5,r5,rfl,d5,_⟩,b⟩
 replace XI:=hid (XI.out.below (by omega) b)
 replace HI:=rin HI b
 replace HB0:=btr HB0 b HB0.out.size
 replace HR:=hid ((HR.out.below b).mono b.size)
 have D5:=hid d5
 clear b
 clear d5 HFD
 have b:=ab2 w3 (.cells #[.slice A5 m5 c5,.int .i64 (r5:Int)] 31)
 have X5:=nb2 w3 (.slice A5 m5 c5) (.int .i64 (r5:Int)) 31
 replace XI:=hid (XI.out.below (by omega) b)
 replace HI:=rin HI b
 replace HB0:=btr HB0 b HB0.out.size
 replace HR:=hid ((HR.out.below b).mono b.size)
 replace D5:=rdn D5 b
 clear b
 go_upto_region 4 with fail
 generalize w3.alloc (.cells #[.slice A5 m5 c5,.int .i64 (r5:Int)] 31)=w4 at *
 generalize w3.heap.size=gX5 at *
 go_wp2_with fail
 refine (HQD.out w4 A4 c4 HI.out HR.out).mono ?_
 rintro e w5 ⟨⟨A6,m6,c6,r6,rfl,d6,_⟩,b⟩
 replace XI:=hid (XI.out.below (by omega) b)
 replace HI:=rin HI b
 replace HB0:=btr HB0 b HB0.out.size
 replace HR:=hid ((HR.out.below b).mono b.size)
 replace D5:=rdn D5 b
 replace X5:=rb2 X5 b
 have D6:=hid d6
 clear b
 clear d6 HQD HR
 have b:=ab2 w5 (.cells #[.slice A6 m6 c6,.int .i64 (r6:Int)] 31)
 have X6:=nb2 w5 (.slice A6 m6 c6) (.int .i64 (r6:Int)) 31
 replace XI:=hid (XI.out.below (by omega) b)
 replace HI:=rin HI b
 replace HB0:=btr HB0 b HB0.out.size
 replace D5:=rdn D5 b
 replace X5:=rb2 X5 b
 replace D6:=rdn D6 b
 clear b
 go_upto_region 5 with fail
 generalize w5.alloc (.cells #[.slice A6 m6 c6,.int .i64 (r6:Int)] 31)=w6 at *
 generalize w5.heap.size=gX6 at *
 obtain ⟨x3,_⟩:=XI.out 3 (by omega)
 obtain ⟨x4,_⟩:=XI.out 4 (by omega)
 go_wp2_with fail
 refine (HDM.out w6 HB0.out).mono ?_
 rintro e w7 ⟨⟨A9,m9,c9,r9,rfl,d9,_⟩,b⟩
 replace XI:=hid (XI.out.below (by omega) b)
 replace HI:=rin HI b
 replace HB0:=btr HB0 b HB0.out.size
 replace D5:=rdn D5 b
 replace X5:=rb2 X5 b
 replace D6:=rdn D6 b
 replace X6:=rb2 X6 b
 have D9:=hid d9
 clear b
 clear d9 x3 x4 HDM XI
 have b:=ab2 w7 (.cells #[.slice A9 m9 c9,.int .i64 (r9:Int)] 31)
 have X9:=nb2 w7 (.slice A9 m9 c9) (.int .i64 (r9:Int)) 31
 replace HI:=rin HI b
 replace HB0:=btr HB0 b HB0.out.size
 replace D5:=rdn D5 b
 replace X5:=rb2 X5 b
 replace D6:=rdn D6 b
 replace X6:=rb2 X6 b
 replace D9:=rdn D9 b
 clear b
 go_upto_region 6 with fail
 generalize w7.alloc (.cells #[.slice A9 m9 c9,.int .i64 (r9:Int)] 31)=w8 at *
 generalize w7.heap.size=gX9 at *
 obtain ⟨V,hV5,hVc,hVB⟩:=of_both m9 c9 A9 (up (cn fT).1) (r9:Int) w8 (hid D9.out.ok) (by have:=D9.out.lm;omega)
 have HV:=hid hVB
 clear hVB hVc D9
 obtain ⟨z9,hz9⟩:∃ z,w8.heap.size=z:=⟨_,rfl⟩
 rw [hz9] at HV
 have HB9:Hid (Below z9 w8 w8):=hid (Below.refl z9 w8)
 have HS9:Hid (z9≤w8.heap.size):=hid (Nat.le_of_eq hz9.symm)
 clear hz9
 obtain ⟨v0,v1,_⟩:=xb2 X9
 go_wp2_with fail
 refine ((HV.out w8 HB9.out).1).mono ?_
 rintro e w9 ⟨A10,m10,c10,rfl,hl10,hc10,hr10,b⟩
 replace HI:=rin HI b
 replace HB0:=btr HB0 b HB0.out.size
 replace D5:=rdn D5 b
 replace X5:=rb2 X5 b
 replace D6:=rdn D6 b
 replace X6:=rb2 X6 b
 replace X9:=rb2 X9 b
 replace HB9:=btr HB9 b HS9.out;replace HS9:=hid (Nat.le_trans HS9.out b.size)
 have R10:=hid hr10
 have L10:=hid hl10
 clear b
 clear hr10 hl10 v0 v1
 obtain ⟨v0,v1,_⟩:=xb2 X9
 go_wp2_with fail
 refine ((HV.out w9 HB9.out).2).mono ?_
 rintro e w10 ⟨A12,m12,c12,rfl,hl12,hc12,hr12,b⟩
 replace HI:=rin HI b
 replace HB0:=btr HB0 b HB0.out.size
 replace D5:=rdn D5 b
 replace X5:=rb2 X5 b
 replace D6:=rdn D6 b
 replace X6:=rb2 X6 b
 replace X9:=rb2 X9 b
 replace HB9:=btr HB9 b HS9.out;replace HS9:=hid (Nat.le_trans HS9.out b.size)
 replace R10:=hid ((R10.out.below b).mono b.size)
 have R12:=hid hr12
 have L12':=hid hl12
 clear b
 clear hr12 hl12 v0 v1
 have HTf:Hid (∀ (W:World) (q n:Nat),n≤12→Below z9 w8 W→z9≤W.heap.size→Rstr W W.heap.size (some ⟨q,0,none⟩) (L12.take n)→Calls Tryz.prog 14 #[.slice (some ⟨q,0,none⟩) n 12,.agg #[.slice A9 m9 c9,.int .i64 (r9:Int)]] W fun e w'=>e=.returned (.tuple #[.string (txtS (L12.take n) V),.int .i64 (txtE (L12.take n) V)])∧Below W.heap.size W w'):=hid fun W q n hn hW hz hs =>
  ftext_any (some ⟨q,0,none⟩) n 12 (L12.take n) (.slice A9 m9 c9) (.int .i64 (r9:Int)) V W (hid (by rw [List.length_take,show L12.length=12 from rfl];omega)) (by omega) hn (hid (fun j=>sg_take j n)) (hid hs) (hid (by omega)) (hid fun W' hW'=>(HV.out W' (hW.trans (hW'.mono hz))).1)
 have HTq:Hid (∀ (W:World) (q n:Nat),n≤12→Below z9 w8 W→z9≤W.heap.size→Rstr W W.heap.size (some ⟨q,0,none⟩) (L12.take n)→Calls Tryz.prog 16 #[.slice (some ⟨q,0,none⟩) n 12,.agg #[.slice A9 m9 c9,.int .i64 (r9:Int)]] W fun e w'=>e=.returned (.tuple #[.string (txtS (L12.take n) V),.int .i64 (txtE (L12.take n) V)])∧Below W.heap.size W w'):=hid fun W q n hn hW hz hs =>
  qtext_any (some ⟨q,0,none⟩) n 12 (L12.take n) (.slice A9 m9 c9) (.int .i64 (r9:Int)) V W (hid (by rw [List.length_take,show L12.length=12 from rfl];omega)) (by omega) hn (hid (fun j=>sg_take j n)) (hid hs) (hid (by omega)) (hid fun W' hW'=>(HV.out W' (hW.trans (hW'.mono hz))).2)
 clear HV
 go_upto_region 8 with fail
 obtain ⟨v0,v1,_⟩:=xb2 X9
 have vd0:w10.drew.cell? ⟨gX9,0,none⟩=some (.slice A9 m9 c9):=v0
 have vd1:w10.drew.cell? ⟨gX9,1,none⟩=some (.int .i64 (r9:Int)):=v1
 go_region_held3 (fun W=>W.cell? ⟨gX9,0,none⟩=some (.slice A9 m9 c9)∧W.cell? ⟨gX9,1,none⟩=some (.int .i64 (r9:Int))) (first | exact ⟨v0,v1⟩ | exact ⟨vd0,vd1⟩ | go_keep) ((first
  | (go_at_call 15;refine (HLT.out _ 6 (by omega)).mono ?_;rintro e w11 ⟨q,rfl,hs,b⟩;have b':Below w10.heap.size w10 w11:=⟨b.os,b.tape,b.output,b.size,b.block⟩;clear b v0 v1 vd0 vd1;replace HI:=rin HI b';replace HB0:=btr HB0 b' HB0.out.size;replace D5:=rdn D5 b';replace X5:=rb2 X5 b';replace D6:=rdn D6 b';replace X6:=rb2 X6 b';replace X9:=rb2 X9 b';replace HB9:=btr HB9 b' HS9.out;replace HS9:=hid (Nat.le_trans HS9.out b'.size);replace R10:=hid ((R10.out.below b').mono b'.size);replace R12:=hid ((R12.out.below b').mono b'.size);have HSq:=hid hs;obtain ⟨v0,v1,_⟩:=xb2 X9;have vd0:w11.drew.cell? ⟨gX9,0,none⟩=some (.slice A9 m9 c9):=v0;have vd1:w11.drew.cell? ⟨gX9,1,none⟩=some (.int .i64 (r9:Int)):=v1;clear hs b')
  | (go_at_call 14;(first | refine (HTf.out w11 q 6 (by omega) HB9.out HS9.out HSq.out).mono ?_ | refine (HTf.out w11.drew q 6 (by omega) HB9.out.drew HS9.out HSq.out).mono ?_);rintro e w12 ⟨rfl,b⟩;have b':Below w11.heap.size w11 w12:=⟨b.os,b.tape,b.output,b.size,b.block⟩;clear b v0 v1 vd0 vd1 HSq;replace HI:=rin HI b';replace HB0:=btr HB0 b' HB0.out.size;replace D5:=rdn D5 b';replace X5:=rb2 X5 b';replace D6:=rdn D6 b';replace X6:=rb2 X6 b';replace X9:=rb2 X9 b';replace HB9:=btr HB9 b' HS9.out;replace HS9:=hid (Nat.le_trans HS9.out b'.size);replace R10:=hid ((R10.out.below b').mono b'.size);replace R12:=hid ((R12.out.below b').mono b'.size);obtain ⟨v0,v1,_⟩:=xb2 X9;have vd0:w12.drew.cell? ⟨gX9,0,none⟩=some (.slice A9 m9 c9):=v0;have vd1:w12.drew.cell? ⟨gX9,1,none⟩=some (.int .i64 (r9:Int)):=v1;clear b')))
 clear v0 v1 vd0 vd1
 go_upto_region 9 with fail
 obtain ⟨v0,v1,_⟩:=xb2 X9
 have vd0:w12.drew.cell? ⟨gX9,0,none⟩=some (.slice A9 m9 c9):=v0
 have vd1:w12.drew.cell? ⟨gX9,1,none⟩=some (.int .i64 (r9:Int)):=v1
 go_region_held3 (fun W=>W.cell? ⟨gX9,0,none⟩=some (.slice A9 m9 c9)∧W.cell? ⟨gX9,1,none⟩=some (.int .i64 (r9:Int))) (first | exact ⟨v0,v1⟩ | exact ⟨vd0,vd1⟩ | go_keep) ((first
  | (go_at_call 15;refine (HLT.out _ 6 (by omega)).mono ?_;rintro e w13 ⟨q,rfl,hs,b⟩;have b':Below w12.heap.size w12 w13:=⟨b.os,b.tape,b.output,b.size,b.block⟩;clear b v0 v1 vd0 vd1;replace HI:=rin HI b';replace HB0:=btr HB0 b' HB0.out.size;replace D5:=rdn D5 b';replace X5:=rb2 X5 b';replace D6:=rdn D6 b';replace X6:=rb2 X6 b';replace X9:=rb2 X9 b';replace HB9:=btr HB9 b' HS9.out;replace HS9:=hid (Nat.le_trans HS9.out b'.size);replace R10:=hid ((R10.out.below b').mono b'.size);replace R12:=hid ((R12.out.below b').mono b'.size);have HSq:=hid hs;obtain ⟨v0,v1,_⟩:=xb2 X9;have vd0:w13.drew.cell? ⟨gX9,0,none⟩=some (.slice A9 m9 c9):=v0;have vd1:w13.drew.cell? ⟨gX9,1,none⟩=some (.int .i64 (r9:Int)):=v1;clear hs b')
  | (go_at_call 16;(first | refine (HTq.out w13 q 6 (by omega) HB9.out HS9.out HSq.out).mono ?_ | refine (HTq.out w13.drew q 6 (by omega) HB9.out.drew HS9.out HSq.out).mono ?_);rintro e w14 ⟨rfl,b⟩;have b':Below w13.heap.size w13 w14:=⟨b.os,b.tape,b.output,b.size,b.block⟩;clear b v0 v1 vd0 vd1 HSq;replace HI:=rin HI b';replace HB0:=btr HB0 b' HB0.out.size;replace D5:=rdn D5 b';replace X5:=rb2 X5 b';replace D6:=rdn D6 b';replace X6:=rb2 X6 b';replace X9:=rb2 X9 b';replace HB9:=btr HB9 b' HS9.out;replace HS9:=hid (Nat.le_trans HS9.out b'.size);replace R10:=hid ((R10.out.below b').mono b'.size);replace R12:=hid ((R12.out.below b').mono b'.size);obtain ⟨v0,v1,_⟩:=xb2 X9;have vd0:w14.drew.cell? ⟨gX9,0,none⟩=some (.slice A9 m9 c9):=v0;have vd1:w14.drew.cell? ⟨gX9,1,none⟩=some (.int .i64 (r9:Int)):=v1;clear b')))
 clear v0 v1 vd0 vd1
 go_upto_region 10 with fail
 obtain ⟨v0,v1,_⟩:=xb2 X9
 have vd0:w14.drew.cell? ⟨gX9,0,none⟩=some (.slice A9 m9 c9):=v0
 have vd1:w14.drew.cell? ⟨gX9,1,none⟩=some (.int .i64 (r9:Int)):=v1
 go_region_held3 (fun W=>W.cell? ⟨gX9,0,none⟩=some (.slice A9 m9 c9)∧W.cell? ⟨gX9,1,none⟩=some (.int .i64 (r9:Int))) (first | exact ⟨v0,v1⟩ | exact ⟨vd0,vd1⟩ | go_keep) ((first
  | (go_at_call 15;refine (HLT.out _ 1 (by omega)).mono ?_;rintro e w15 ⟨q,rfl,hs,b⟩;have b':Below w14.heap.size w14 w15:=⟨b.os,b.tape,b.output,b.size,b.block⟩;clear b v0 v1 vd0 vd1;replace HI:=rin HI b';replace HB0:=btr HB0 b' HB0.out.size;replace D5:=rdn D5 b';replace X5:=rb2 X5 b';replace D6:=rdn D6 b';replace X6:=rb2 X6 b';replace X9:=rb2 X9 b';replace HB9:=btr HB9 b' HS9.out;replace HS9:=hid (Nat.le_trans HS9.out b'.size);replace R10:=hid ((R10.out.below b').mono b'.size);replace R12:=hid ((R12.out.below b').mono b'.size);have HSq:=hid hs;obtain ⟨v0,v1,_⟩:=xb2 X9;have vd0:w15.drew.cell? ⟨gX9,0,none⟩=some (.slice A9 m9 c9):=v0;have vd1:w15.drew.cell? ⟨gX9,1,none⟩=some (.int .i64 (r9:Int)):=v1;clear hs b')
  | (go_at_call 14;(first | refine (HTf.out w15 q 1 (by omega) HB9.out HS9.out HSq.out).mono ?_ | refine (HTf.out w15.drew q 1 (by omega) HB9.out.drew HS9.out HSq.out).mono ?_);rintro e w16 ⟨rfl,b⟩;have b':Below w15.heap.size w15 w16:=⟨b.os,b.tape,b.output,b.size,b.block⟩;clear b v0 v1 vd0 vd1 HSq;replace HI:=rin HI b';replace HB0:=btr HB0 b' HB0.out.size;replace D5:=rdn D5 b';replace X5:=rb2 X5 b';replace D6:=rdn D6 b';replace X6:=rb2 X6 b';replace X9:=rb2 X9 b';replace HB9:=btr HB9 b' HS9.out;replace HS9:=hid (Nat.le_trans HS9.out b'.size);replace R10:=hid ((R10.out.below b').mono b'.size);replace R12:=hid ((R12.out.below b').mono b'.size);obtain ⟨v0,v1,_⟩:=xb2 X9;have vd0:w16.drew.cell? ⟨gX9,0,none⟩=some (.slice A9 m9 c9):=v0;have vd1:w16.drew.cell? ⟨gX9,1,none⟩=some (.int .i64 (r9:Int)):=v1;clear b')))
 clear v0 v1 vd0 vd1
 go_upto_region 11 with fail
 obtain ⟨v0,v1,_⟩:=xb2 X9
 have vd0:w16.drew.cell? ⟨gX9,0,none⟩=some (.slice A9 m9 c9):=v0
 have vd1:w16.drew.cell? ⟨gX9,1,none⟩=some (.int .i64 (r9:Int)):=v1
 go_region_held3 (fun W=>W.cell? ⟨gX9,0,none⟩=some (.slice A9 m9 c9)∧W.cell? ⟨gX9,1,none⟩=some (.int .i64 (r9:Int))) (first | exact ⟨v0,v1⟩ | exact ⟨vd0,vd1⟩ | go_keep) ((first
  | (go_at_call 15;refine (HLT.out _ 1 (by omega)).mono ?_;rintro e w17 ⟨q,rfl,hs,b⟩;have b':Below w16.heap.size w16 w17:=⟨b.os,b.tape,b.output,b.size,b.block⟩;clear b v0 v1 vd0 vd1;replace HI:=rin HI b';replace HB0:=btr HB0 b' HB0.out.size;replace D5:=rdn D5 b';replace X5:=rb2 X5 b';replace D6:=rdn D6 b';replace X6:=rb2 X6 b';replace X9:=rb2 X9 b';replace HB9:=btr HB9 b' HS9.out;replace HS9:=hid (Nat.le_trans HS9.out b'.size);replace R10:=hid ((R10.out.below b').mono b'.size);replace R12:=hid ((R12.out.below b').mono b'.size);have HSq:=hid hs;obtain ⟨v0,v1,_⟩:=xb2 X9;have vd0:w17.drew.cell? ⟨gX9,0,none⟩=some (.slice A9 m9 c9):=v0;have vd1:w17.drew.cell? ⟨gX9,1,none⟩=some (.int .i64 (r9:Int)):=v1;clear hs b')
  | (go_at_call 16;(first | refine (HTq.out w17 q 1 (by omega) HB9.out HS9.out HSq.out).mono ?_ | refine (HTq.out w17.drew q 1 (by omega) HB9.out.drew HS9.out HSq.out).mono ?_);rintro e w18 ⟨rfl,b⟩;have b':Below w17.heap.size w17 w18:=⟨b.os,b.tape,b.output,b.size,b.block⟩;clear b v0 v1 vd0 vd1 HSq;replace HI:=rin HI b';replace HB0:=btr HB0 b' HB0.out.size;replace D5:=rdn D5 b';replace X5:=rb2 X5 b';replace D6:=rdn D6 b';replace X6:=rb2 X6 b';replace X9:=rb2 X9 b';replace HB9:=btr HB9 b' HS9.out;replace HS9:=hid (Nat.le_trans HS9.out b'.size);replace R10:=hid ((R10.out.below b').mono b'.size);replace R12:=hid ((R12.out.below b').mono b'.size);obtain ⟨v0,v1,_⟩:=xb2 X9;have vd0:w18.drew.cell? ⟨gX9,0,none⟩=some (.slice A9 m9 c9):=v0;have vd1:w18.drew.cell? ⟨gX9,1,none⟩=some (.int .i64 (r9:Int)):=v1;clear b')))
 clear v0 v1 vd0 vd1
 clear HTf HTq HLT
 go_upto_region 12 with fail
 generalize txtS (L12.take 6) V=t6 at *
 generalize txtE (L12.take 6) V=e6 at *
 generalize txtS (L12.take 1) V=t1 at *
 generalize txtE (L12.take 1) V=e1 at *
 obtain ⟨u0,u1,_⟩:=xb2 X5
 obtain ⟨q0,q1,_⟩:=xb2 X6
 have HQS:Hid (∀ W,Rf W W.heap.size A10 V.1→Rf W W.heap.size A12 V.1→Calls Tryz.prog 18 #[.slice A10 m10 c10,.slice A12 m12 c12] W fun e w'=>e=.returned (.bool true)∧Below W.heap.size W w'):=hid fun W h1 h2=>by
  have h:=qsame_any A10 A12 m10 c10 m12 c12 V.1 V.1 W L10 L12' (by have:=L10.out;omega) (hid h1) (hid h2)
  rw [decide_eq_true (rfl:V.1=V.1)] at h
  exact h
 have heq:∀ x:Int,(x == x)=true:=fun x=>beq_self_eq_true x
 go_wp2_with fail
 refine (rsame_dn D5 D6 rfl rfl true (hid ⟨fun _=>rfl,fun _=>rfl⟩)).mono ?_
 rintro e w19 ⟨rfl,b⟩
 replace HB0:=btr HB0 b HB0.out.size
 replace D5:=rdn D5 b
 replace X5:=rb2 X5 b
 replace D6:=rdn D6 b
 replace X6:=rb2 X6 b
 replace HB9:=btr HB9 b HS9.out;replace HS9:=hid (Nat.le_trans HS9.out b.size)
 replace R10:=hid ((R10.out.below b).mono b.size)
 replace R12:=hid ((R12.out.below b).mono b.size)
 clear b
 go_wp2_with fail
 refine (HQS.out w19 R10.out R12.out).mono ?_
 rintro e w20 ⟨rfl,b⟩
 replace HB0:=btr HB0 b HB0.out.size
 replace D5:=rdn D5 b
 replace X5:=rb2 X5 b
 replace D6:=rdn D6 b
 replace X6:=rb2 X6 b
 replace HB9:=btr HB9 b HS9.out;replace HS9:=hid (Nat.le_trans HS9.out b.size)
 replace R10:=hid ((R10.out.below b).mono b.size)
 replace R12:=hid ((R12.out.below b).mono b.size)
 clear b
 go_wp2
 go_ret
 exact ⟨rfl,HB0.out⟩
end Go.Proofs.YtpaednfinlaioaaGreatDoor
