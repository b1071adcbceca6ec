/-
  Plain mathematics and contracts of package diagram, several texts in one: FLawHo.
-/
import Derived.Test.YtpaednfinlaioaaGreatDoorFT
import Derived.Test.YtpaednfinlaioaaGreatDoorFv
import Derived.Test.YtpaednfinlaioaaGreatDoorFG
import Derived.Test.YtpaednfinlaioaaGreatDoorMh
import Derived.Deep.RegionHeld3
import Derived.Test.YtpaednfinlaioaaGreatDoorFJ
set_option maxHeartbeats 16000000
set_option maxRecDepth 100000
namespace Go.Proofs.YtpaednfinlaioaaGreatDoor
open Go.Lib (hid)
open Go.RowKit Dg St
set_option linter.unusedVariables false
set_option linter.unusedSimpArgs false
attribute [local go_sem ↓] Go.wp_at_zero Go.wp_at_succ
theorem lawHo_walk (A1:Option Addr) (n1 c1:Nat) (l1:List Nat) (x y:Nat) (w:World) (h1:Hid (B8 w w.heap.size A1 n1 l1)) (hn1:n1≤9223372036854775807) (hx:x<256) (hy:y<18446744073709551616) (hin:Hid (Ins w 0)) :
  Calls Tryz.prog 4 #[.slice A1 n1 c1,.int .u8 (x:Int),.int .u64 (y:Int)] w fun e w'=>e=.returned (.bool true)∧Below w.heap.size w w':=by
 obtain ⟨k,hk⟩:∃ k,k=x % 6:=⟨_,rfl⟩
 have ex:(x:Int).tmod 6=(k:Int):=by rw [Int.tmod_eq_emod_of_nonneg (by omega)];omega
 have hk6:k≤5:=by omega
 have hok:=made_ok l1 (1+k) (by omega) (by omega)
 have hlow:=made_low l1 (n:=1+k) (by omega) (by omega)
 have HMD:=hid (fun W (hW:Below w.heap.size w W)=>lmadeF A1 c1 n1 k l1 w W h1 hn1 (by omega) hW)
 have HSAN:=hid (fun W=>fsanity_ok W)
 clear hk h1 hn1
 generalize made l1 (1+k)=F at *
 obtain ⟨m,hm⟩:∃ m,F.length=m:=⟨_,rfl⟩
 have h1m:1≤m:=by have:=hok.1;omega
 have hlF:Low 6 (fun x=>val F x (m - 1)):=hlow (m - 1) (by omega)
 have HPO:Hid (∀ W A c,Rf W W.heap.size A F→Calls Tryz.prog 21 #[.slice A m c] W fun e w'=>∃ A' c',e=.returned (.slice A' (poF F).length c')∧Rf w' w'.heap.size A' (poF F)∧Below W.heap.size W w'):=hid fun W A c hr=>(qpost A m c F W (hid hm) (hid hr) hok).mono (by
  rintro e w' ⟨A',n,c',rfl,hn,_,hr',hb⟩
  subst hn
  exact ⟨A',c',rfl,hr',hb⟩)
 have hpo:val (poF F) (cfg y) ((poF F).length - 1)=val F (cfg y) (m - 1):=by
  have:=vlF_po hok (cfg y)
  unfold vlF at this
  rw [hm] at this
  exact this
 have HH1:Hid (∀ W A c,Rf W W.heap.size A F→Calls Tryz.prog 19 #[.slice A m c,.int .u64 (y:Int)] W fun e w'=>e=.returned (.bool (val F (cfg y) (m - 1)))∧Below W.heap.size W w'):=hid fun W A c hr=>by
  have:=fholds_val A c F y (val F (cfg y) (m - 1)) W hr hok (by rw [hm]) hy
  rw [hm] at this
  exact this
 have HH2:Hid (∀ W A c,Rf W W.heap.size A (poF F)→Calls Tryz.prog 19 #[.slice A (poF F).length c,.int .u64 (y:Int)] W fun e w'=>e=.returned (.bool (val F (cfg y) (m - 1)))∧Below W.heap.size W w'):=hid fun W A c hr=>fholds_val A c (poF F) y _ W hr (poF_ok hok) hpo hy
 have HH3:Hid (∀ W A n c,(canF (fun x=>val F x (m - 1))).length=n→Rf W W.heap.size A (canF (fun x=>val F x (m - 1)))→Calls Tryz.prog 19 #[.slice A n c,.int .u64 (y:Int)] W fun e w'=>e=.returned (.bool (val F (cfg y) (m - 1)))∧Below W.heap.size W w'):=hid fun W A n c hn hr=>by
  subst hn
  have hc:=can_ok (hlF.d64 (by omega)) hlF
  exact fholds_val A c _ y _ W hr hc.1 (hc.2 _) hy
 have HDH:Hid (∀ W A n c r,Dn W A n c r (fun x=>val F x (m - 1))→Calls Tryz.prog 20 #[.agg #[.slice A n c,.int .i64 ((r:Nat):Int)],.int .u64 (y:Int)] W fun e w'=>e=.returned (.bool (val F (cfg y) (m - 1)))∧Below W.heap.size W w'):=hid fun W A n c r hd=>holds_dn y (hid hd) hy
 have HOF:Hid (∀ W A n c r,Dn W A n c r (fun x=>val F x (m - 1))→Calls Tryz.prog 12 #[.agg #[.slice A n c,.int .i64 ((r:Nat):Int)]] W fun e w'=>PsR W w' (canF (fun x=>val F x (m - 1)),0) e):=hid fun W A n c r hd=>of_dn (hid hd) (hid hlF) W (Below.refl _ _)
 rw [hm] at HMD hlow
 have HFD:=hid (fun W A c (hi:Ins W 0) (hr:Rf W W.heap.size A F)=>fdia_ok A m c F W (hid hm) (hid hr) (hid hok) (hid hlow) (hid hi))
 clear hok hlow hm hlF hpo h1m
 generalize val F (cfg y) (m - 1)=bb at *
 generalize (fun x=>val F x (m - 1))=fF at *
 generalize canF fF=G at *
 generalize poF F=FP at *
 obtain ⟨p,hp⟩:∃ p,FP.length=p:=⟨_,rfl⟩
 rw [hp] at HPO HH2
 clear hp
 have HB0:=hid (Below.refl w.heap.size w)
 have HI:=hin
 clear hin
 go_enter Tryz.func4,Tryz.ntmps4
 go_wp2_with fail
 refine (HSAN.out w).mono ?_
 rintro e w1 ⟨rfl,b⟩
 replace HI:=rin HI b
 replace HB0:=btr HB0 b HB0.out.size
 clear b
 clear HSAN
 go_wp2_with fail
 refine (HMD.out w1 HB0.out).mono ?_
 rintro e w2 ⟨A4,c4,rfl,hc4,hr4,b⟩
 replace HI:=rin HI b
 replace HB0:=btr HB0 b HB0.out.size
 have HR:=hid hr4
 clear b
 clear hr4 HMD
 go_wp2_with fail
 refine (HFD.out w2 A4 c4 HI.out HR.out).mono ?_
 rintro e w3 ⟨⟨A5,m5,c5,r5,rfl,d5,_⟩,b⟩
 replace HI:=rin HI b
 replace HB0:=btr HB0 b HB0.out.size
 replace HR:=hid ((HR.out.below b).mono b.size)
 have D5:=hid d5
 clear b
 clear d5 HFD
 have b:=ab2 w3 (.cells #[.slice A5 m5 c5,.int .i64 (r5:Int)] 31)
 have X5:=nb2 w3 (.slice A5 m5 c5) (.int .i64 (r5:Int)) 31
 replace HI:=rin HI b
 replace HB0:=btr HB0 b HB0.out.size
 replace HR:=hid ((HR.out.below b).mono b.size)
 replace D5:=rdn D5 b
 clear b
 go_upto_region 4 with fail
 generalize w3.alloc (.cells #[.slice A5 m5 c5,.int .i64 (r5:Int)] 31)=w4 at *
 generalize w3.heap.size=gX5 at *
 obtain ⟨v0,v1,_⟩:=xb2 X5
 go_wp2_with fail
 refine (HOF.out w4 A5 m5 c5 r5 D5.out).mono ?_
 rintro e w5 ⟨A7,m7,c7,rfl,hl7,hc7,hr7,b⟩
 replace HI:=rin HI b
 replace HB0:=btr HB0 b HB0.out.size
 replace HR:=hid ((HR.out.below b).mono b.size)
 replace D5:=rdn D5 b
 replace X5:=rb2 X5 b
 have R7:=hid hr7
 have L7:=hid hl7
 clear b
 clear hr7 hl7 v0 v1 HOF
 go_wp2_with fail
 refine (HH1.out w5 A4 c4 HR.out).mono ?_
 rintro e w6 ⟨rfl,b⟩
 replace HI:=rin HI b
 replace HB0:=btr HB0 b HB0.out.size
 replace HR:=hid ((HR.out.below b).mono b.size)
 replace D5:=rdn D5 b
 replace X5:=rb2 X5 b
 replace R7:=hid ((R7.out.below b).mono b.size)
 clear b
 obtain ⟨v0,v1,_⟩:=xb2 X5
 have hbb:(bb == bb)=true:=beq_self_eq_true bb
 go_wp2_with fail
 refine (HDH.out w6 A5 m5 c5 r5 D5.out).mono ?_
 rintro e w7 ⟨rfl,b⟩
 replace HI:=rin HI b
 replace HB0:=btr HB0 b HB0.out.size
 replace HR:=hid ((HR.out.below b).mono b.size)
 replace D5:=rdn D5 b
 replace X5:=rb2 X5 b
 replace R7:=hid ((R7.out.below b).mono b.size)
 clear b
 clear HDH HH1 v0 v1
 go_wp2_with fail
 refine (HPO.out w7 A4 c4 HR.out).mono ?_
 rintro e w8 ⟨A8,c8,rfl,hr8,b⟩
 replace HI:=rin HI b
 replace HB0:=btr HB0 b HB0.out.size
 replace HR:=hid ((HR.out.below b).mono b.size)
 replace D5:=rdn D5 b
 replace X5:=rb2 X5 b
 replace R7:=hid ((R7.out.below b).mono b.size)
 have R8:=hid hr8
 clear b
 clear hr8 HPO
 go_wp2_with fail
 refine (HH2.out w8 A8 c8 R8.out).mono ?_
 rintro e w9 ⟨rfl,b⟩
 replace HI:=rin HI b
 replace HB0:=btr HB0 b HB0.out.size
 replace HR:=hid ((HR.out.below b).mono b.size)
 replace D5:=rdn D5 b
 replace X5:=rb2 X5 b
 replace R7:=hid ((R7.out.below b).mono b.size)
 replace R8:=hid ((R8.out.below b).mono b.size)
 clear b
 go_wp2_with fail
 refine (HH3.out w9 A7 m7 c7 L7.out R7.out).mono ?_
 rintro e w10 ⟨rfl,b⟩
 replace HI:=rin HI b
 replace HB0:=btr HB0 b HB0.out.size
 replace HR:=hid ((HR.out.below b).mono b.size)
 replace D5:=rdn D5 b
 replace X5:=rb2 X5 b
 replace R7:=hid ((R7.out.below b).mono b.size)
 replace R8:=hid ((R8.out.below b).mono b.size)
 clear b
 go_wp2
 go_ret
 exact ⟨rfl,HB0.out⟩
end Go.Proofs.YtpaednfinlaioaaGreatDoor
