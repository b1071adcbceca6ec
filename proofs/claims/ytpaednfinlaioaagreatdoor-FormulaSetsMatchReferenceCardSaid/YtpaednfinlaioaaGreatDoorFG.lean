/-
  Plain mathematics and contracts of package diagram, several texts in one: FRop, FDia, FDg, FQd.
-/
import Derived.Test.YtpaednfinlaioaaGreatDoorFn
import Derived.Test.YtpaednfinlaioaaGreatDoorNa
import Derived.Test.YtpaednfinlaioaaGreatDoorMq
import Derived.Test.YtpaednfinlaioaaGreatDoorFc
import Derived.Test.YtpaednfinlaioaaGreatDoorFd
import Derived.Deep.RegionWith
import Derived.Test.YtpaednfinlaioaaGreatDoorFo
set_option maxHeartbeats 16000000
set_option maxRecDepth 100000
namespace Go.Proofs.YtpaednfinlaioaaGreatDoor
open Go.Lib (hid)
open Go.RowKit Dg St
set_option linter.unusedVariables false
set_option linter.unusedSimpArgs false
attribute [local go_sem ↓] Go.wp_at_zero Go.wp_at_succ
theorem randD {w:World} {A0:Option Addr} {m0 c0:Nat} {l0:List Bi} {r0:Int} {A1:Option Addr} {m1 c1:Nat} {l1:List Bi} {r1:Int} (h0:Hid (DOk w (⟨A0,m0,c0,l0,r0⟩:DA))) (q0:m0≤40) (h1:Hid (DOk w (⟨A1,m1,c1,l1,r1⟩:DA))) (q1:m1≤40) (k0:chk l0 r0=0) (k1:chk l1 r1=0) :
  Calls Tryz.prog 36 #[.agg #[.slice A0 m0 c0,.int .i64 r0],.agg #[.slice A1 m1 c1,.int .i64 r1]] w fun e w'=>BinOk w w' (fun x=>and (dset l0 r0 x) (dset l1 r1 x)) e:=by
 have b0:=ab2 w (.cells #[.slice A0 m0 c0,.int .i64 r0] 31)
 have b1:=ab2 (w.alloc (.cells #[.slice A0 m0 c0,.int .i64 r0] 31)) (.cells #[.slice A1 m1 c1,.int .i64 r1] 31)
 have b2:=ab2 ((w.alloc (.cells #[.slice A0 m0 c0,.int .i64 r0] 31)).alloc (.cells #[.slice A1 m1 c1,.int .i64 r1] 31)) (.cells #[.slice none 0 0,.int .i64 0] 31)
 have X0:Hid (Blk (w.alloc (.cells #[.slice A0 m0 c0,.int .i64 r0] 31)) (w.heap.size) 2 (fun i=>([.slice A0 m0 c0,.int .i64 r0]:List Value).getD i undef)):=hid (Blk.new (w:=w) (H:=w.heap.size) (by simp) [.slice A0 m0 c0,.int .i64 r0] 31)
 replace X0:Hid (Blk ((w.alloc (.cells #[.slice A0 m0 c0,.int .i64 r0] 31)).alloc (.cells #[.slice A1 m1 c1,.int .i64 r1] 31)) (w.heap.size) 2 (fun i=>([.slice A0 m0 c0,.int .i64 r0]:List Value).getD i undef)):=hid (X0.out.below (by omega) b1)
 replace X0:Hid (Blk (((w.alloc (.cells #[.slice A0 m0 c0,.int .i64 r0] 31)).alloc (.cells #[.slice A1 m1 c1,.int .i64 r1] 31)).alloc (.cells #[.slice none 0 0,.int .i64 0] 31)) (w.heap.size) 2 (fun i=>([.slice A0 m0 c0,.int .i64 r0]:List Value).getD i undef)):=hid (X0.out.below (by omega) b2)
 have X1:Hid (Blk ((w.alloc (.cells #[.slice A0 m0 c0,.int .i64 r0] 31)).alloc (.cells #[.slice A1 m1 c1,.int .i64 r1] 31)) (w.heap.size+1) 2 (fun i=>([.slice A1 m1 c1,.int .i64 r1]:List Value).getD i undef)):=hid (Blk.new (w:=(w.alloc (.cells #[.slice A0 m0 c0,.int .i64 r0] 31))) (H:=w.heap.size+1) (by simp) [.slice A1 m1 c1,.int .i64 r1] 31)
 replace X1:Hid (Blk (((w.alloc (.cells #[.slice A0 m0 c0,.int .i64 r0] 31)).alloc (.cells #[.slice A1 m1 c1,.int .i64 r1] 31)).alloc (.cells #[.slice none 0 0,.int .i64 0] 31)) (w.heap.size+1) 2 (fun i=>([.slice A1 m1 c1,.int .i64 r1]:List Value).getD i undef)):=hid (X1.out.below (by omega) b2)
 have X2:Hid (Blk (((w.alloc (.cells #[.slice A0 m0 c0,.int .i64 r0] 31)).alloc (.cells #[.slice A1 m1 c1,.int .i64 r1] 31)).alloc (.cells #[.slice none 0 0,.int .i64 0] 31)) (w.heap.size+1+1) 2 (fun i=>([.slice none 0 0,.int .i64 0]:List Value).getD i undef)):=hid (Blk.new (w:=((w.alloc (.cells #[.slice A0 m0 c0,.int .i64 r0] 31)).alloc (.cells #[.slice A1 m1 c1,.int .i64 r1] 31))) (H:=w.heap.size+1+1) (by simp) [.slice none 0 0,.int .i64 0] 31)
 have HB0:Hid (Below w.heap.size w (((w.alloc (.cells #[.slice A0 m0 c0,.int .i64 r0] 31)).alloc (.cells #[.slice A1 m1 c1,.int .i64 r1] 31)).alloc (.cells #[.slice none 0 0,.int .i64 0] 31))):=hid ((b0.trans (b1.mono b0.size)).trans (b2.mono (b0.trans (b1.mono b0.size)).size))
 have HW0:Hid ((((w.alloc (.cells #[.slice A0 m0 c0,.int .i64 r0] 31)).alloc (.cells #[.slice A1 m1 c1,.int .i64 r1] 31)).alloc (.cells #[.slice none 0 0,.int .i64 0] 31)).heap.size=w.heap.size+1+1+1):=hid (by simp)
 clear b0 b1 b2
 have HC:Hid (∀ W,Below w.heap.size w W→Calls Tryz.prog 61 #[.agg #[.slice A0 m0 c0,.int .i64 r0],.agg #[.slice A1 m1 c1,.int .i64 r1],.int .i64 0] W fun e w'=>BinOk W w' (fun x=>and (dset l0 r0 x) (dset l1 r1 x)) e):=hid (fun W hW=>ropD 0 136 (fun p q=>p&&q) (hid opt_and) (dkh h0 hW) q0 (dkh h1 hW) q1 k0 k1)
 clear h0 h1
 go_enter Tryz.func36,Tryz.ntmps36
 go_upto_region 1 with fail
 generalize (((w.alloc (.cells #[.slice A0 m0 c0,.int .i64 r0] 31)).alloc (.cells #[.slice A1 m1 c1,.int .i64 r1] 31)).alloc (.cells #[.slice none 0 0,.int .i64 0] 31))=w1 at *
 obtain ⟨x0,x1,xn⟩:=xb2 X0
 obtain ⟨u0,u1,un⟩:=xb2 X1
 go_wp2_with fail
 with_reducible refine (HC.out w1 HB0.out).mono ?_
 rintro e w3 ⟨⟨A9,m9,c9,r9,rfl,d9,f9⟩,b9⟩
 replace X2:=rb2 X2 b9
 have HB3:=btr HB0 b9 HB0.out.size
 have D9:=hid d9
 have F9:=hid (f9.mono (show w.heap.size+1+1+1≤w1.heap.size by have:=HW0.out;omega))
 clear d9 f9 b9 HC x0 x1 xn u0 u1 un
 obtain ⟨y0,y0f⟩:=X2.out 0 (by omega)
 obtain ⟨y1,y1f⟩:=X2.out 1 (by omega)
 go_wp2
 refine bodyPost_ret (v:=.tuple #[.agg #[.slice A9 m9 c9,.int .i64 (r9:Int)],.int .i64 0]) ?_ rfl ?_
 ·rw [results_cell_tmp rfl]
  go_simp
 ·exact ⟨⟨A9,m9,c9,r9,rfl,D9.out.put (F9.out.mono (by omega)) _ _,F9.out.mono (by omega)⟩,(HB3.out.setCell (by show w.heap.size≤w.heap.size+1+1;omega) _).setCell (by show w.heap.size≤w.heap.size+1+1;omega) _⟩
theorem rorD {w:World} {A0:Option Addr} {m0 c0:Nat} {l0:List Bi} {r0:Int} {A1:Option Addr} {m1 c1:Nat} {l1:List Bi} {r1:Int} (h0:Hid (DOk w (⟨A0,m0,c0,l0,r0⟩:DA))) (q0:m0≤40) (h1:Hid (DOk w (⟨A1,m1,c1,l1,r1⟩:DA))) (q1:m1≤40) (k0:chk l0 r0=0) (k1:chk l1 r1=0) :
  Calls Tryz.prog 37 #[.agg #[.slice A0 m0 c0,.int .i64 r0],.agg #[.slice A1 m1 c1,.int .i64 r1]] w fun e w'=>BinOk w w' (fun x=>or (dset l0 r0 x) (dset l1 r1 x)) e:=by
 have b0:=ab2 w (.cells #[.slice A0 m0 c0,.int .i64 r0] 31)
 have b1:=ab2 (w.alloc (.cells #[.slice A0 m0 c0,.int .i64 r0] 31)) (.cells #[.slice A1 m1 c1,.int .i64 r1] 31)
 have b2:=ab2 ((w.alloc (.cells #[.slice A0 m0 c0,.int .i64 r0] 31)).alloc (.cells #[.slice A1 m1 c1,.int .i64 r1] 31)) (.cells #[.slice none 0 0,.int .i64 0] 31)
 have X0:Hid (Blk (w.alloc (.cells #[.slice A0 m0 c0,.int .i64 r0] 31)) (w.heap.size) 2 (fun i=>([.slice A0 m0 c0,.int .i64 r0]:List Value).getD i undef)):=hid (Blk.new (w:=w) (H:=w.heap.size) (by simp) [.slice A0 m0 c0,.int .i64 r0] 31)
 replace X0:Hid (Blk ((w.alloc (.cells #[.slice A0 m0 c0,.int .i64 r0] 31)).alloc (.cells #[.slice A1 m1 c1,.int .i64 r1] 31)) (w.heap.size) 2 (fun i=>([.slice A0 m0 c0,.int .i64 r0]:List Value).getD i undef)):=hid (X0.out.below (by omega) b1)
 replace X0:Hid (Blk (((w.alloc (.cells #[.slice A0 m0 c0,.int .i64 r0] 31)).alloc (.cells #[.slice A1 m1 c1,.int .i64 r1] 31)).alloc (.cells #[.slice none 0 0,.int .i64 0] 31)) (w.heap.size) 2 (fun i=>([.slice A0 m0 c0,.int .i64 r0]:List Value).getD i undef)):=hid (X0.out.below (by omega) b2)
 have X1:Hid (Blk ((w.alloc (.cells #[.slice A0 m0 c0,.int .i64 r0] 31)).alloc (.cells #[.slice A1 m1 c1,.int .i64 r1] 31)) (w.heap.size+1) 2 (fun i=>([.slice A1 m1 c1,.int .i64 r1]:List Value).getD i undef)):=hid (Blk.new (w:=(w.alloc (.cells #[.slice A0 m0 c0,.int .i64 r0] 31))) (H:=w.heap.size+1) (by simp) [.slice A1 m1 c1,.int .i64 r1] 31)
 replace X1:Hid (Blk (((w.alloc (.cells #[.slice A0 m0 c0,.int .i64 r0] 31)).alloc (.cells #[.slice A1 m1 c1,.int .i64 r1] 31)).alloc (.cells #[.slice none 0 0,.int .i64 0] 31)) (w.heap.size+1) 2 (fun i=>([.slice A1 m1 c1,.int .i64 r1]:List Value).getD i undef)):=hid (X1.out.below (by omega) b2)
 have X2:Hid (Blk (((w.alloc (.cells #[.slice A0 m0 c0,.int .i64 r0] 31)).alloc (.cells #[.slice A1 m1 c1,.int .i64 r1] 31)).alloc (.cells #[.slice none 0 0,.int .i64 0] 31)) (w.heap.size+1+1) 2 (fun i=>([.slice none 0 0,.int .i64 0]:List Value).getD i undef)):=hid (Blk.new (w:=((w.alloc (.cells #[.slice A0 m0 c0,.int .i64 r0] 31)).alloc (.cells #[.slice A1 m1 c1,.int .i64 r1] 31))) (H:=w.heap.size+1+1) (by simp) [.slice none 0 0,.int .i64 0] 31)
 have HB0:Hid (Below w.heap.size w (((w.alloc (.cells #[.slice A0 m0 c0,.int .i64 r0] 31)).alloc (.cells #[.slice A1 m1 c1,.int .i64 r1] 31)).alloc (.cells #[.slice none 0 0,.int .i64 0] 31))):=hid ((b0.trans (b1.mono b0.size)).trans (b2.mono (b0.trans (b1.mono b0.size)).size))
 have HW0:Hid ((((w.alloc (.cells #[.slice A0 m0 c0,.int .i64 r0] 31)).alloc (.cells #[.slice A1 m1 c1,.int .i64 r1] 31)).alloc (.cells #[.slice none 0 0,.int .i64 0] 31)).heap.size=w.heap.size+1+1+1):=hid (by simp)
 clear b0 b1 b2
 have HC:Hid (∀ W,Below w.heap.size w W→Calls Tryz.prog 61 #[.agg #[.slice A0 m0 c0,.int .i64 r0],.agg #[.slice A1 m1 c1,.int .i64 r1],.int .i64 1] W fun e w'=>BinOk W w' (fun x=>or (dset l0 r0 x) (dset l1 r1 x)) e):=hid (fun W hW=>ropD 1 238 (fun p q=>p||q) (hid opt_or) (dkh h0 hW) q0 (dkh h1 hW) q1 k0 k1)
 clear h0 h1
 go_enter Tryz.func37,Tryz.ntmps37
 go_upto_region 1 with fail
 generalize (((w.alloc (.cells #[.slice A0 m0 c0,.int .i64 r0] 31)).alloc (.cells #[.slice A1 m1 c1,.int .i64 r1] 31)).alloc (.cells #[.slice none 0 0,.int .i64 0] 31))=w1 at *
 obtain ⟨x0,x1,xn⟩:=xb2 X0
 obtain ⟨u0,u1,un⟩:=xb2 X1
 go_wp2_with fail
 with_reducible refine (HC.out w1 HB0.out).mono ?_
 rintro e w3 ⟨⟨A9,m9,c9,r9,rfl,d9,f9⟩,b9⟩
 replace X2:=rb2 X2 b9
 have HB3:=btr HB0 b9 HB0.out.size
 have D9:=hid d9
 have F9:=hid (f9.mono (show w.heap.size+1+1+1≤w1.heap.size by have:=HW0.out;omega))
 clear d9 f9 b9 HC x0 x1 xn u0 u1 un
 obtain ⟨y0,y0f⟩:=X2.out 0 (by omega)
 obtain ⟨y1,y1f⟩:=X2.out 1 (by omega)
 go_wp2
 refine bodyPost_ret (v:=.tuple #[.agg #[.slice A9 m9 c9,.int .i64 (r9:Int)],.int .i64 0]) ?_ rfl ?_
 ·rw [results_cell_tmp rfl]
  go_simp
 ·exact ⟨⟨A9,m9,c9,r9,rfl,D9.out.put (F9.out.mono (by omega)) _ _,F9.out.mono (by omega)⟩,(HB3.out.setCell (by show w.heap.size≤w.heap.size+1+1;omega) _).setCell (by show w.heap.size≤w.heap.size+1+1;omega) _⟩
theorem rnotD {w:World} {A0:Option Addr} {m0 c0:Nat} {l0:List Bi} {r0:Int} (h0:Hid (DOk w (⟨A0,m0,c0,l0,r0⟩:DA))) (q0:m0≤40) (k0:chk l0 r0=0) :
  Calls Tryz.prog 35 #[.agg #[.slice A0 m0 c0,.int .i64 r0]] w fun e w'=>BinOk w w' (fun x=>!(dset l0 r0 x)) e:=by
 have b0:=ab2 w (.cells #[.slice A0 m0 c0,.int .i64 r0] 31)
 have b1:=ab2 (w.alloc (.cells #[.slice A0 m0 c0,.int .i64 r0] 31)) (.cells #[.slice none 0 0,.int .i64 0] 31)
 have X0:Hid (Blk (w.alloc (.cells #[.slice A0 m0 c0,.int .i64 r0] 31)) (w.heap.size) 2 (fun i=>([.slice A0 m0 c0,.int .i64 r0]:List Value).getD i undef)):=hid (Blk.new (w:=w) (H:=w.heap.size) (by simp) [.slice A0 m0 c0,.int .i64 r0] 31)
 replace X0:Hid (Blk ((w.alloc (.cells #[.slice A0 m0 c0,.int .i64 r0] 31)).alloc (.cells #[.slice none 0 0,.int .i64 0] 31)) (w.heap.size) 2 (fun i=>([.slice A0 m0 c0,.int .i64 r0]:List Value).getD i undef)):=hid (X0.out.below (by omega) b1)
 have X1:Hid (Blk ((w.alloc (.cells #[.slice A0 m0 c0,.int .i64 r0] 31)).alloc (.cells #[.slice none 0 0,.int .i64 0] 31)) (w.heap.size+1) 2 (fun i=>([.slice none 0 0,.int .i64 0]:List Value).getD i undef)):=hid (Blk.new (w:=(w.alloc (.cells #[.slice A0 m0 c0,.int .i64 r0] 31))) (H:=w.heap.size+1) (by simp) [.slice none 0 0,.int .i64 0] 31)
 have HB0:Hid (Below w.heap.size w ((w.alloc (.cells #[.slice A0 m0 c0,.int .i64 r0] 31)).alloc (.cells #[.slice none 0 0,.int .i64 0] 31))):=hid (b0.trans (b1.mono b0.size))
 have HW0:Hid (((w.alloc (.cells #[.slice A0 m0 c0,.int .i64 r0] 31)).alloc (.cells #[.slice none 0 0,.int .i64 0] 31)).heap.size=w.heap.size+1+1):=hid (by simp)
 clear b0 b1
 have HF:Hid (∀ W,Below w.heap.size w W→Calls Tryz.prog 42 #[.agg #[.slice A0 m0 c0,.int .i64 r0]] W fun e w'=>e=.returned (.int .i64 (chk l0 r0))∧Below W.heap.size W w'):=hid (fun W hW=>rcheck_any l0 r0 m0 c0 A0 W (dkh h0 hW) (by omega))
 have hk:=k0
 rw [hk] at HF
 have D0:=hid (dn_dset h0.out hk)
 have e0:=chk_nat hk
 clear h0 hk k0
 generalize dset l0 r0=f0 at *
 generalize r0.toNat=n0 at *
 subst e0
 have HC:Hid (∀ W,Below w.heap.size w W→Calls Tryz.prog 67 #[.agg #[.slice A0 m0 c0,.int .i64 (n0:Int)]] W fun e w'=>DiaOk W w' (fun x=>!f0 x) e) :=
  hid (fun W hW=>compl_ok m0 c0 n0 A0 f0 W (rdn D0 hW) (hid (by rw [not_len D0.out];omega)))
 clear D0
 go_enter Tryz.func35,Tryz.ntmps35
 go_wp2_with fail
 generalize ((w.alloc (.cells #[.slice A0 m0 c0,.int .i64 (n0:Int)] 31)).alloc (.cells #[.slice none 0 0,.int .i64 0] 31))=w1 at *
 with_reducible refine (HF.out w1 HB0.out).mono ?_
 rintro e w3 ⟨rfl,b3⟩
 replace X0:=rb2 X0 b3
 replace X1:=rb2 X1 b3
 have HW3:Hid (w.heap.size+1+1≤w3.heap.size):=hid (by have:=HW0.out;have:=b3.size;omega)
 have HB3:=btr HB0 b3 HB0.out.size
 clear b3 HB0 HF HW0
 obtain ⟨x0,x1,xn⟩:=xb2 X0
 go_wp2_with fail
 with_reducible refine (HC.out w3 HB3.out).mono ?_
 rintro e w6 ⟨⟨A9,m9,c9,r9,rfl,d9,f9⟩,b9⟩
 replace X1:=rb2 X1 b9
 have D9:=hid d9
 have F9:=hid (f9.mono (show w.heap.size+1+1≤_ from HW3.out))
 have HB6:=btr HB3 b9 HB3.out.size
 clear d9 f9 b9 HC x0 x1 xn
 go_wp2_with fail
 with_reducible refine (rlimited_ok D9).mono ?_
 rintro e w7 ⟨rfl,d7,b7⟩
 replace X1:=rb2 X1 b7
 have D7:=hid d7
 have HB7:=btr HB6 b7 HB6.out.size
 clear d7 b7 D9
 obtain ⟨y0,y0f⟩:=X1.out 0 (by omega)
 obtain ⟨y1,y1f⟩:=X1.out 1 (by omega)
 go_wp2
 refine bodyPost_ret (v:=.tuple #[.agg #[.slice A9 m9 c9,.int .i64 (r9:Int)],.int .i64 0]) ?_ rfl ?_
 ·rw [results_cell_tmp rfl]
  go_simp
 ·exact ⟨⟨A9,m9,c9,r9,rfl,D7.out.put (F9.out.mono (by omega)) _ _,F9.out.mono (by omega)⟩,(HB7.out.setCell (by show w.heap.size≤w.heap.size+1;omega) _).setCell (by show w.heap.size≤w.heap.size+1;omega) _⟩
theorem dset_dn {w:World} {A:Option Addr} {m c r:Nat} {f:Cfg→Bool} (h:Dn w A m c r f):dset (up (cn f).1) (r:Int)=f:=by
 unfold dset
 rw [dn_up,Int.toNat_natCast,h.den]
section
variable {w : World} {A0 A1 : Option Addr} {m0 c0 r0 m1 c1 r1 : Nat} {fa fb g : Cfg → Bool}
theorem six_rand (h0:Hid (Dn w A0 m0 c0 r0 fa)) (h1:Hid (Dn w A1 m1 c1 r1 fb)) (l0:Hid (Low 6 fa)) (l1:Hid (Low 6 fb)) (hg:Hid ((fun x=>fa x&&fb x)=g)) :
  Calls Tryz.prog 36 #[.agg #[.slice A0 m0 c0,.int .i64 (r0:Int)],.agg #[.slice A1 m1 c1,.int .i64 (r1:Int)]] w fun e w'=>BinOk w w' g e:=by
 have q0:=h0.out.s33 l0.out
 have q1:=h1.out.s33 l1.out
 have h:=randD (hid h0.out.ok) (by omega) (hid h1.out.ok) (by omega) h0.out.chk h1.out.chk
 rw [dset_dn h0.out,dset_dn h1.out] at h
 exact h.mono fun _ _ h=>h.congr hg.out
theorem six_ror (h0:Hid (Dn w A0 m0 c0 r0 fa)) (h1:Hid (Dn w A1 m1 c1 r1 fb)) (l0:Hid (Low 6 fa)) (l1:Hid (Low 6 fb)) (hg:Hid ((fun x=>fa x||fb x)=g)) :
  Calls Tryz.prog 37 #[.agg #[.slice A0 m0 c0,.int .i64 (r0:Int)],.agg #[.slice A1 m1 c1,.int .i64 (r1:Int)]] w fun e w'=>BinOk w w' g e:=by
 have q0:=h0.out.s33 l0.out
 have q1:=h1.out.s33 l1.out
 have h:=rorD (hid h0.out.ok) (by omega) (hid h1.out.ok) (by omega) h0.out.chk h1.out.chk
 rw [dset_dn h0.out,dset_dn h1.out] at h
 exact h.mono fun _ _ h=>h.congr hg.out
theorem six_rnot (h0:Hid (Dn w A0 m0 c0 r0 fa)) (l0:Hid (Low 6 fa)) (hg:Hid ((fun x=>!fa x)=g)) :
  Calls Tryz.prog 35 #[.agg #[.slice A0 m0 c0,.int .i64 (r0:Int)]] w fun e w'=>BinOk w w' g e:=by
 have q0:=h0.out.s33 l0.out
 have h:=rnotD (hid h0.out.ok) (by omega) h0.out.chk
 rw [dset_dn h0.out] at h
 exact h.mono fun _ _ h=>h.congr hg.out
end
set_option linter.unusedVariables false
set_option linter.unusedSimpArgs false
attribute [local go_sem ↓] Go.wp_at_zero Go.wp_at_succ
def DgC (w:World) (B g j:Nat) (f:Cfg→Bool):Prop:=∃ A m c r,w.cell? ⟨g,j*2,none⟩=some (.slice A m c)∧w.cell? ⟨g,j*2+1,none⟩=some (.int .i64 ((r:Nat):Int))∧Dn w A m c r f∧Fr A B∧∀ b o,A=some ⟨b,o,none⟩→0<m→b≠g
theorem DgC.lt {w:World} {B g j:Nat} {f:Cfg→Bool} (h:DgC w B g j f):g<w.heap.size:=by
 obtain ⟨A,m,c,r,h1,_⟩:=h
 exact block_lt_of_cell h1
theorem DgC.below {w w':World} {B g j:Nat} {f:Cfg→Bool} (h:DgC w B g j f) (b:Below w.heap.size w w'):DgC w' B g j f:=by
 have hl:=h.lt
 obtain ⟨A,m,c,r,h1,h2,h3,h4⟩:=h
 exact ⟨A,m,c,r,(World.cell?_of_block (b.block g hl)).trans h1,(World.cell?_of_block (b.block g hl)).trans h2,h3.below b,h4⟩
theorem DgC.congr {w:World} {B g j:Nat} {f f':Cfg→Bool} (h:DgC w B g j f) (e:f=f'):DgC w B g j f':=e ▸ h
theorem dn_setF {w:World} {A:Option Addr} {m c r q j:Nat} {f:Cfg→Bool} (h:Dn w A m c r f) (u:Value) (hq:∀ b o,A=some ⟨b,o,none⟩→0<m→b≠q):Dn (w.setCell ⟨q,j,none⟩ u) A m c r f:=by
 refine ⟨fun h0=>?_,h.len,h.rt,h.mc,h.lm,h.d⟩
 have h1:0<m:=by rw [up_len,h.len] at h0;exact h0
 have k:=h.rd.keepA (w':=w.setCell ⟨q,j,none⟩ u) (fun b o e=>Below.heap_setCell _ _ _ _ (hq b o e h1))
 exact (k.mono (by simp [World.setCell])) h0
theorem var_cn {w':World} {A:Option Addr} {v:Nat} (hv:v<64) (h:Rd w' w'.heap.size A (up [(v,0,1)])):Dn w' A 1 1 2 (fun x=>x v):=by
 have e:=cn_var hv
 exact ⟨by rw [e];exact h,by rw [e];rfl,by rw [e],Nat.le_refl _,by omega,d64_var hv⟩
theorem BinOk.of_dn {w w':World} {h:Cfg→Bool} {A:Option Addr} {m c r:Nat} (hd:Dn w' A m c r h) (hA:Fr A w.heap.size) (hb:Below w.heap.size w w'):BinOk w w' h (.returned (.tuple #[.agg #[.slice A m c,.int .i64 (r:Int)],.int .i64 0])):=⟨⟨A,m,c,r,rfl,hd,hA⟩,hb⟩
theorem fr_none (B:Nat):Fr none B:=fun _ _ e=>by cases e
theorem dn_cst (w:World) (b:Bool):Dn w none 0 0 (if b then 1 else 0) (fun _=>b):=⟨by rw [cn_const];exact Rd.nil,by rw [cn_const];rfl,by rw [cn_const];cases b <;> rfl,Nat.le_refl _,by omega,d64_const _⟩
theorem var_bin (v:Nat) (w:World) (hv:v<64) :
  Calls Tryz.prog 62 #[.int .i64 (v:Int)] w fun e w'=>BinOk w w' (fun x=>x v) e:=by
 have hc:conB (v:Int)=true:=by unfold conB;simp;omega
 have b1:=fun x y=>(Below.refl w.heap.size w).alloc (Nat.le_refl _) (.cells #[x,y] 31)
 go_enter Tryz.func62,Tryz.ntmps62
 go_wp2_with (go_at_call 100;refine (con_any v _).mono ?_;rintro e w2 ⟨rfl,rfl⟩)
 refine bodyPost_ret (v:=.tuple #[.agg #[.slice (some ⟨w.heap.size+1,0,none⟩) 1 1,.int .i64 2],.int .i64 0]) ?_ rfl (BinOk.of_dn (var_cn hv fun hp=>⟨w.heap.size+1,0,rfl,by simp,fun j hj=>?_⟩) (fun b o e=>by injection e with e;injection e with e;omega) ?_)
 ·rw [results_cell_tmp rfl]
  go_simp
 ·rw [up_len] at hj
  obtain rfl:j=0:=by simpa using hj
  rw [iv_up,il_up,ih_up]
  refine ⟨?_,?_,?_⟩ <;> (go_simp;simp [bv,bl,bh])
 ·exact (b1 _ _).alloc (by simp) _
theorem rvar_bin (v:Nat) (w:World) (hv:v<64) :
  Calls Tryz.prog 29 #[.int .i64 (v:Int)] w fun e w'=>BinOk w w' (fun x=>x v) e:=by
 have b1:=fun x y=>(Below.refl w.heap.size w).alloc (Nat.le_refl _) (.cells #[x,y] 31)
 have hn:¬ (v:Int)<0:=by omega
 have hn2:¬ 63<v:=by omega
 have hn3:¬ (63:Int)<(v:Int):=by omega
 go_enter Tryz.func29,Tryz.ntmps29
 go_wp2
 refine bodyPost_ret (v:=.tuple #[.agg #[.slice (some ⟨w.heap.size+1,0,none⟩) 1 1,.int .i64 2],.int .i64 0]) ?_ rfl (BinOk.of_dn (var_cn hv fun hp=>⟨w.heap.size+1,0,rfl,by simp,fun j hj=>?_⟩) (fun b o e=>by injection e with e;injection e with e;omega) ?_)
 ·rw [results_cell_tmp rfl]
  go_simp
 ·rw [up_len] at hj
  obtain rfl:j=0:=by simpa using hj
  rw [iv_up,il_up,ih_up]
  refine ⟨?_,?_,?_⟩ <;> (go_simp;simp [bv,bl,bh])
 ·exact (b1 _ _).alloc (by simp) _
theorem DgC.cells {w w':World} {g:Nat} (h:g<w.heap.size) (b:Below w.heap.size w w') {u:Value} (i:Nat) (hc:w.cell? ⟨g,i,none⟩=some u):w'.cell? ⟨g,i,none⟩=some u:=(World.cell?_of_block (b.block g h)).trans hc
theorem fset_ok (l:List Fi) (k n cap g B:Nat) (w:World) (hok:okN l k) (hkn:k≤n) (hn:n≤512) (hD:Hid (∀ j,j<k→DgC w B g j (fun x=>val l x j))) (hlow:Hid (∀ j,j<k→Low 6 (fun x=>val l x j))) (hin:Hid (Ins w 0)) :
  Calls Tryz.prog 32 #[.agg #[.int .i64 (fo l k),.int .i64 (fv l k),.int .i64 (fa l k),.int .i64 (fb l k)],.slice (some ⟨g,0,none⟩) n cap] w fun e w'=>BinOk w w' (fun x=>val l x k) e:=by
 obtain ⟨⟨o0,o5⟩,⟨v0,v1⟩,oa,ob⟩:=ok_node hok
 obtain ⟨V,hV,hV64⟩:=nat_of (k:=64) ⟨v0,v1⟩
 have hO:fo l k=0∨fo l k=1∨fo l k=2∨fo l k=3∨fo l k=4∨fo l k=5:=by omega
 clear o0 o5 v0 v1
 rw [hV]
 rcases hO with h0 | h0 | h0 | h0 | h0 | h0
 ·rw [h0,show (fun x=>val l x k)=fun _=>false from funext fun x=>val_false l x h0]
  clear oa ob hok hD hlow hin h0 hV
  generalize fa l k=a at *
  generalize fb l k=b at *
  have b0:=ab2 w (.cells #[.int .i64 0,.int .i64 (V:Int),.int .i64 a,.int .i64 b] 58)
  have b1:=ab2 (w.alloc (.cells #[.int .i64 0,.int .i64 (V:Int),.int .i64 a,.int .i64 b] 58)) (.cells #[.slice none 0 0,.int .i64 0] 31)
  have X0:Hid (Blk (w.alloc (.cells #[.int .i64 0,.int .i64 (V:Int),.int .i64 a,.int .i64 b] 58)) w.heap.size 4 (fun i=>([.int .i64 0,.int .i64 (V:Int),.int .i64 a,.int .i64 b]:List Value).getD i undef)):=hid (Blk.new (w:=w) (H:=w.heap.size) (by simp) [.int .i64 0,.int .i64 (V:Int),.int .i64 a,.int .i64 b] 58)
  replace X0:Hid (Blk ((w.alloc (.cells #[.int .i64 0,.int .i64 (V:Int),.int .i64 a,.int .i64 b] 58)).alloc (.cells #[.slice none 0 0,.int .i64 0] 31)) w.heap.size 4 (fun i=>([.int .i64 0,.int .i64 (V:Int),.int .i64 a,.int .i64 b]:List Value).getD i undef)):=hid (X0.out.below (by omega) b1)
  have X1:Hid (Blk ((w.alloc (.cells #[.int .i64 0,.int .i64 (V:Int),.int .i64 a,.int .i64 b] 58)).alloc (.cells #[.slice none 0 0,.int .i64 0] 31)) (w.heap.size+1) 2 (fun i=>([.slice none 0 0,.int .i64 0]:List Value).getD i undef)):=hid (Blk.new (w:=(w.alloc (.cells #[.int .i64 0,.int .i64 (V:Int),.int .i64 a,.int .i64 b] 58))) (H:=w.heap.size+1) (by simp) [.slice none 0 0,.int .i64 0] 31)
  have HB0:Hid (Below w.heap.size w ((w.alloc (.cells #[.int .i64 0,.int .i64 (V:Int),.int .i64 a,.int .i64 b] 58)).alloc (.cells #[.slice none 0 0,.int .i64 0] 31))):=hid (b0.trans (b1.mono b0.size))
  have HW0:Hid (((w.alloc (.cells #[.int .i64 0,.int .i64 (V:Int),.int .i64 a,.int .i64 b] 58)).alloc (.cells #[.slice none 0 0,.int .i64 0] 31)).heap.size=w.heap.size+1+1):=hid (by simp)
  clear b0 b1
  go_enter Tryz.func32,Tryz.ntmps32
  go_upto_region 1 with fail
  generalize ((w.alloc (.cells #[.int .i64 0,.int .i64 (V:Int),.int .i64 a,.int .i64 b] 58)).alloc (.cells #[.slice none 0 0,.int .i64 0] 31))=w1 at *
  obtain ⟨x0,_⟩:=X0.out 0 (by omega)
  obtain ⟨x1,_⟩:=X0.out 1 (by omega)
  obtain ⟨x2,_⟩:=X0.out 2 (by omega)
  obtain ⟨x3,_⟩:=X0.out 3 (by omega)
  go_wp2_with fail
  with_reducible refine (constant_any false w1).mono ?_
  rintro e w3 ⟨rfl,b9⟩
  replace X1:=rb2 X1 b9
  have HB3:=btr HB0 b9 HB0.out.size
  clear b9 x0 x1 x2 x3
  obtain ⟨y0,y0f⟩:=X1.out 0 (by omega)
  obtain ⟨y1,y1f⟩:=X1.out 1 (by omega)
  go_wp2
  refine bodyPost_ret (v:=.tuple #[.agg #[.slice none 0 0,.int .i64 0],.int .i64 0]) ?_ rfl ?_
  ·rw [results_cell_tmp rfl]
   go_simp
  ·exact ⟨⟨none,0,0,0,rfl,dn_cst _ false,fr_none _⟩,(HB3.out.setCell (by show w.heap.size≤w.heap.size+1;omega) _).setCell (by show w.heap.size≤w.heap.size+1;omega) _⟩
 ·rw [h0,show (fun x=>val l x k)=fun _=>true from funext fun x=>val_true l x h0]
  clear oa ob hok hD hlow hin h0 hV
  generalize fa l k=a at *
  generalize fb l k=b at *
  have b0:=ab2 w (.cells #[.int .i64 1,.int .i64 (V:Int),.int .i64 a,.int .i64 b] 58)
  have b1:=ab2 (w.alloc (.cells #[.int .i64 1,.int .i64 (V:Int),.int .i64 a,.int .i64 b] 58)) (.cells #[.slice none 0 0,.int .i64 0] 31)
  have X0:Hid (Blk (w.alloc (.cells #[.int .i64 1,.int .i64 (V:Int),.int .i64 a,.int .i64 b] 58)) w.heap.size 4 (fun i=>([.int .i64 1,.int .i64 (V:Int),.int .i64 a,.int .i64 b]:List Value).getD i undef)):=hid (Blk.new (w:=w) (H:=w.heap.size) (by simp) [.int .i64 1,.int .i64 (V:Int),.int .i64 a,.int .i64 b] 58)
  replace X0:Hid (Blk ((w.alloc (.cells #[.int .i64 1,.int .i64 (V:Int),.int .i64 a,.int .i64 b] 58)).alloc (.cells #[.slice none 0 0,.int .i64 0] 31)) w.heap.size 4 (fun i=>([.int .i64 1,.int .i64 (V:Int),.int .i64 a,.int .i64 b]:List Value).getD i undef)):=hid (X0.out.below (by omega) b1)
  have X1:Hid (Blk ((w.alloc (.cells #[.int .i64 1,.int .i64 (V:Int),.int .i64 a,.int .i64 b] 58)).alloc (.cells #[.slice none 0 0,.int .i64 0] 31)) (w.heap.size+1) 2 (fun i=>([.slice none 0 0,.int .i64 0]:List Value).getD i undef)):=hid (Blk.new (w:=(w.alloc (.cells #[.int .i64 1,.int .i64 (V:Int),.int .i64 a,.int .i64 b] 58))) (H:=w.heap.size+1) (by simp) [.slice none 0 0,.int .i64 0] 31)
  have HB0:Hid (Below w.heap.size w ((w.alloc (.cells #[.int .i64 1,.int .i64 (V:Int),.int .i64 a,.int .i64 b] 58)).alloc (.cells #[.slice none 0 0,.int .i64 0] 31))):=hid (b0.trans (b1.mono b0.size))
  have HW0:Hid (((w.alloc (.cells #[.int .i64 1,.int .i64 (V:Int),.int .i64 a,.int .i64 b] 58)).alloc (.cells #[.slice none 0 0,.int .i64 0] 31)).heap.size=w.heap.size+1+1):=hid (by simp)
  clear b0 b1
  go_enter Tryz.func32,Tryz.ntmps32
  go_upto_region 1 with fail
  generalize ((w.alloc (.cells #[.int .i64 1,.int .i64 (V:Int),.int .i64 a,.int .i64 b] 58)).alloc (.cells #[.slice none 0 0,.int .i64 0] 31))=w1 at *
  obtain ⟨x0,_⟩:=X0.out 0 (by omega)
  obtain ⟨x1,_⟩:=X0.out 1 (by omega)
  obtain ⟨x2,_⟩:=X0.out 2 (by omega)
  obtain ⟨x3,_⟩:=X0.out 3 (by omega)
  go_wp2_with fail
  with_reducible refine (constant_any true w1).mono ?_
  rintro e w3 ⟨rfl,b9⟩
  replace X1:=rb2 X1 b9
  have HB3:=btr HB0 b9 HB0.out.size
  clear b9 x0 x1 x2 x3
  obtain ⟨y0,y0f⟩:=X1.out 0 (by omega)
  obtain ⟨y1,y1f⟩:=X1.out 1 (by omega)
  go_wp2
  refine bodyPost_ret (v:=.tuple #[.agg #[.slice none 0 0,.int .i64 1],.int .i64 0]) ?_ rfl ?_
  ·rw [results_cell_tmp rfl]
   go_simp
  ·exact ⟨⟨none,0,0,1,rfl,dn_cst _ true,fr_none _⟩,(HB3.out.setCell (by show w.heap.size≤w.heap.size+1;omega) _).setCell (by show w.heap.size≤w.heap.size+1;omega) _⟩
 ·rw [h0,show (fun x=>val l x k)=fun x=>x V from funext fun x=>by rw [val_var l x h0,hV,Int.toNat_natCast]]
  clear oa ob hok hD hlow hin h0 hV
  generalize fa l k=a at *
  generalize fb l k=b at *
  have HC:Hid (∀ W,Below w.heap.size w W→Calls Tryz.prog 62 #[.int .i64 (V:Int)] W fun e w'=>BinOk W w' (fun x=>x V) e):=hid fun W _=>var_bin V W hV64
  have b0:=ab2 w (.cells #[.int .i64 2,.int .i64 (V:Int),.int .i64 a,.int .i64 b] 58)
  have b1:=ab2 (w.alloc (.cells #[.int .i64 2,.int .i64 (V:Int),.int .i64 a,.int .i64 b] 58)) (.cells #[.slice none 0 0,.int .i64 0] 31)
  have X0:Hid (Blk (w.alloc (.cells #[.int .i64 2,.int .i64 (V:Int),.int .i64 a,.int .i64 b] 58)) w.heap.size 4 (fun i=>([.int .i64 2,.int .i64 (V:Int),.int .i64 a,.int .i64 b]:List Value).getD i undef)):=hid (Blk.new (w:=w) (H:=w.heap.size) (by simp) [.int .i64 2,.int .i64 (V:Int),.int .i64 a,.int .i64 b] 58)
  replace X0:Hid (Blk ((w.alloc (.cells #[.int .i64 2,.int .i64 (V:Int),.int .i64 a,.int .i64 b] 58)).alloc (.cells #[.slice none 0 0,.int .i64 0] 31)) w.heap.size 4 (fun i=>([.int .i64 2,.int .i64 (V:Int),.int .i64 a,.int .i64 b]:List Value).getD i undef)):=hid (X0.out.below (by omega) b1)
  have X1:Hid (Blk ((w.alloc (.cells #[.int .i64 2,.int .i64 (V:Int),.int .i64 a,.int .i64 b] 58)).alloc (.cells #[.slice none 0 0,.int .i64 0] 31)) (w.heap.size+1) 2 (fun i=>([.slice none 0 0,.int .i64 0]:List Value).getD i undef)):=hid (Blk.new (w:=(w.alloc (.cells #[.int .i64 2,.int .i64 (V:Int),.int .i64 a,.int .i64 b] 58))) (H:=w.heap.size+1) (by simp) [.slice none 0 0,.int .i64 0] 31)
  have HB0:Hid (Below w.heap.size w ((w.alloc (.cells #[.int .i64 2,.int .i64 (V:Int),.int .i64 a,.int .i64 b] 58)).alloc (.cells #[.slice none 0 0,.int .i64 0] 31))):=hid (b0.trans (b1.mono b0.size))
  have HW0:Hid (((w.alloc (.cells #[.int .i64 2,.int .i64 (V:Int),.int .i64 a,.int .i64 b] 58)).alloc (.cells #[.slice none 0 0,.int .i64 0] 31)).heap.size=w.heap.size+1+1):=hid (by simp)
  clear b0 b1
  go_enter Tryz.func32,Tryz.ntmps32
  go_upto_region 1 with fail
  generalize ((w.alloc (.cells #[.int .i64 2,.int .i64 (V:Int),.int .i64 a,.int .i64 b] 58)).alloc (.cells #[.slice none 0 0,.int .i64 0] 31))=w1 at *
  obtain ⟨x0,_⟩:=X0.out 0 (by omega)
  obtain ⟨x1,_⟩:=X0.out 1 (by omega)
  obtain ⟨x2,_⟩:=X0.out 2 (by omega)
  obtain ⟨x3,_⟩:=X0.out 3 (by omega)
  go_wp2_with fail
  with_reducible refine (HC.out w1 HB0.out).mono ?_
  rintro e w3 ⟨⟨A9,m9,c9,r9,rfl,d9,f9⟩,b9⟩
  replace X1:=rb2 X1 b9
  have HB3:=btr HB0 b9 HB0.out.size
  have D9:=hid d9
  have F9:=hid (f9.mono (show w.heap.size+1+1≤w1.heap.size by have:=HW0.out;omega))
  clear d9 f9 b9 HC x0 x1 x2 x3
  obtain ⟨y0,y0f⟩:=X1.out 0 (by omega)
  obtain ⟨y1,y1f⟩:=X1.out 1 (by omega)
  go_wp2
  refine bodyPost_ret (v:=.tuple #[.agg #[.slice A9 m9 c9,.int .i64 (r9:Int)],.int .i64 0]) ?_ rfl ?_
  ·rw [results_cell_tmp rfl]
   go_simp
  ·exact ⟨⟨A9,m9,c9,r9,rfl,D9.out.put (F9.out.mono (by omega)) _ _,F9.out.mono (by omega)⟩,(HB3.out.setCell (by show w.heap.size≤w.heap.size+1;omega) _).setCell (by show w.heap.size≤w.heap.size+1;omega) _⟩
 ·obtain ⟨a,hae,hak⟩:=nat_of (oa (by omega))
  rw [h0,hae]
  have hg:(fun x=>val l x k)=fun x=>!val l x a:=funext fun x=>by rw [val_not l x h0 (by rw [hae];omega),hae,Int.toNat_natCast]
  rw [hg]
  obtain ⟨A0,m0,c0,r0,z0,z1,d0,_,_⟩:=hD.out a hak
  have hgl:=(hD.out a hak).lt
  have D0:=hid d0
  have HC:Hid (∀ W,Below w.heap.size w W→Calls Tryz.prog 27 #[.agg #[.slice A0 m0 c0,.int .i64 (r0:Int)]] W fun e w'=>BinOk W w' (fun x=>!val l x a) e):=hid fun W hW=>six_not (rdn D0 hW) (hid rfl)
  have HR:Hid (∀ W,Below w.heap.size w W→W.cell? ⟨g,a*2,none⟩=some (.slice A0 m0 c0)∧W.cell? ⟨g,a*2+1,none⟩=some (.int .i64 (r0:Int))):=hid fun W hW=>⟨DgC.cells hgl hW _ z0,DgC.cells hgl hW _ z1⟩
  have i1:(0:Int)≤(a:Int):=by omega
  have i2:(a:Int)<(n:Int):=by omega
  clear oa ob hok hD hlow hin h0 hV hg hae d0 D0 z0 z1
  generalize fb l k=b at *
  have b0:=ab2 w (.cells #[.int .i64 3,.int .i64 (V:Int),.int .i64 (a:Int),.int .i64 b] 58)
  have b1:=ab2 (w.alloc (.cells #[.int .i64 3,.int .i64 (V:Int),.int .i64 (a:Int),.int .i64 b] 58)) (.cells #[.slice none 0 0,.int .i64 0] 31)
  have X0:Hid (Blk (w.alloc (.cells #[.int .i64 3,.int .i64 (V:Int),.int .i64 (a:Int),.int .i64 b] 58)) w.heap.size 4 (fun i=>([.int .i64 3,.int .i64 (V:Int),.int .i64 (a:Int),.int .i64 b]:List Value).getD i undef)):=hid (Blk.new (w:=w) (H:=w.heap.size) (by simp) [.int .i64 3,.int .i64 (V:Int),.int .i64 (a:Int),.int .i64 b] 58)
  replace X0:Hid (Blk ((w.alloc (.cells #[.int .i64 3,.int .i64 (V:Int),.int .i64 (a:Int),.int .i64 b] 58)).alloc (.cells #[.slice none 0 0,.int .i64 0] 31)) w.heap.size 4 (fun i=>([.int .i64 3,.int .i64 (V:Int),.int .i64 (a:Int),.int .i64 b]:List Value).getD i undef)):=hid (X0.out.below (by omega) b1)
  have X1:Hid (Blk ((w.alloc (.cells #[.int .i64 3,.int .i64 (V:Int),.int .i64 (a:Int),.int .i64 b] 58)).alloc (.cells #[.slice none 0 0,.int .i64 0] 31)) (w.heap.size+1) 2 (fun i=>([.slice none 0 0,.int .i64 0]:List Value).getD i undef)):=hid (Blk.new (w:=(w.alloc (.cells #[.int .i64 3,.int .i64 (V:Int),.int .i64 (a:Int),.int .i64 b] 58))) (H:=w.heap.size+1) (by simp) [.slice none 0 0,.int .i64 0] 31)
  have HB0:Hid (Below w.heap.size w ((w.alloc (.cells #[.int .i64 3,.int .i64 (V:Int),.int .i64 (a:Int),.int .i64 b] 58)).alloc (.cells #[.slice none 0 0,.int .i64 0] 31))):=hid (b0.trans (b1.mono b0.size))
  have HW0:Hid (((w.alloc (.cells #[.int .i64 3,.int .i64 (V:Int),.int .i64 (a:Int),.int .i64 b] 58)).alloc (.cells #[.slice none 0 0,.int .i64 0] 31)).heap.size=w.heap.size+1+1):=hid (by simp)
  clear b0 b1
  go_enter Tryz.func32,Tryz.ntmps32
  go_upto_region 1 with fail
  generalize ((w.alloc (.cells #[.int .i64 3,.int .i64 (V:Int),.int .i64 (a:Int),.int .i64 b] 58)).alloc (.cells #[.slice none 0 0,.int .i64 0] 31))=w1 at *
  obtain ⟨x0,_⟩:=X0.out 0 (by omega)
  obtain ⟨x1,_⟩:=X0.out 1 (by omega)
  obtain ⟨x2,_⟩:=X0.out 2 (by omega)
  obtain ⟨x3,_⟩:=X0.out 3 (by omega)
  obtain ⟨z0,z1⟩:=HR.out w1 HB0.out
  go_wp2_with fail
  with_reducible refine (HC.out w1 HB0.out).mono ?_
  rintro e w3 ⟨⟨A9,m9,c9,r9,rfl,d9,f9⟩,b9⟩
  replace X1:=rb2 X1 b9
  have HB3:=btr HB0 b9 HB0.out.size
  have D9:=hid d9
  have F9:=hid (f9.mono (show w.heap.size+1+1≤w1.heap.size by have:=HW0.out;omega))
  clear d9 f9 b9 HC x0 x1 x2 x3
  obtain ⟨y0,y0f⟩:=X1.out 0 (by omega)
  obtain ⟨y1,y1f⟩:=X1.out 1 (by omega)
  go_wp2
  refine bodyPost_ret (v:=.tuple #[.agg #[.slice A9 m9 c9,.int .i64 (r9:Int)],.int .i64 0]) ?_ rfl ?_
  ·rw [results_cell_tmp rfl]
   go_simp
  ·exact ⟨⟨A9,m9,c9,r9,rfl,D9.out.put (F9.out.mono (by omega)) _ _,F9.out.mono (by omega)⟩,(HB3.out.setCell (by show w.heap.size≤w.heap.size+1;omega) _).setCell (by show w.heap.size≤w.heap.size+1;omega) _⟩
 ·obtain ⟨a,hae,hak⟩:=nat_of (oa (by omega))
  obtain ⟨b,hbe,hbk⟩:=nat_of (ob (by omega))
  rw [h0,hae,hbe]
  have hg:(fun x=>val l x k)=fun x=>val l x a&&val l x b:=funext fun x=>by rw [val_and l x h0 (by rw [hae];omega) (by rw [hbe];omega),hae,hbe,Int.toNat_natCast,Int.toNat_natCast]
  rw [hg]
  obtain ⟨A0,m0,c0,r0,z0,z1,d0,_,_⟩:=hD.out a hak
  obtain ⟨A1,m1,c1,r1,u0,u1,d1,_,_⟩:=hD.out b hbk
  have hgl:=(hD.out a hak).lt
  have D0:=hid d0
  have D1:=hid d1
  have L0:=hid (hlow.out a hak)
  have L1:=hid (hlow.out b hbk)
  have HC:Hid (∀ W,Below w.heap.size w W→Calls Tryz.prog 25 #[.agg #[.slice A0 m0 c0,.int .i64 (r0:Int)],.agg #[.slice A1 m1 c1,.int .i64 (r1:Int)]] W fun e w'=>BinOk W w' (fun x=>val l x a&&val l x b) e):=hid fun W hW=>six_and (rdn D0 hW) (rdn D1 hW) L0 L1 (rin hin hW) (hid rfl)
  have HR:Hid (∀ W,Below w.heap.size w W→(W.cell? ⟨g,a*2,none⟩=some (.slice A0 m0 c0)∧W.cell? ⟨g,a*2+1,none⟩=some (.int .i64 (r0:Int)))∧W.cell? ⟨g,b*2,none⟩=some (.slice A1 m1 c1)∧W.cell? ⟨g,b*2+1,none⟩=some (.int .i64 (r1:Int))):=hid fun W hW=>⟨⟨DgC.cells hgl hW _ z0,DgC.cells hgl hW _ z1⟩,DgC.cells hgl hW _ u0,DgC.cells hgl hW _ u1⟩
  have i1:(0:Int)≤(a:Int):=by omega
  have i2:(a:Int)<(n:Int):=by omega
  have i3:(0:Int)≤(b:Int):=by omega
  have i4:(b:Int)<(n:Int):=by omega
  clear oa ob hok hD hlow hin h0 hV hg hae hbe d0 D0 z0 z1 d1 D1 u0 u1 L0 L1
  have b0:=ab2 w (.cells #[.int .i64 4,.int .i64 (V:Int),.int .i64 (a:Int),.int .i64 (b:Int)] 58)
  have b1:=ab2 (w.alloc (.cells #[.int .i64 4,.int .i64 (V:Int),.int .i64 (a:Int),.int .i64 (b:Int)] 58)) (.cells #[.slice none 0 0,.int .i64 0] 31)
  have X0:Hid (Blk (w.alloc (.cells #[.int .i64 4,.int .i64 (V:Int),.int .i64 (a:Int),.int .i64 (b:Int)] 58)) w.heap.size 4 (fun i=>([.int .i64 4,.int .i64 (V:Int),.int .i64 (a:Int),.int .i64 (b:Int)]:List Value).getD i undef)):=hid (Blk.new (w:=w) (H:=w.heap.size) (by simp) [.int .i64 4,.int .i64 (V:Int),.int .i64 (a:Int),.int .i64 (b:Int)] 58)
  replace X0:Hid (Blk ((w.alloc (.cells #[.int .i64 4,.int .i64 (V:Int),.int .i64 (a:Int),.int .i64 (b:Int)] 58)).alloc (.cells #[.slice none 0 0,.int .i64 0] 31)) w.heap.size 4 (fun i=>([.int .i64 4,.int .i64 (V:Int),.int .i64 (a:Int),.int .i64 (b:Int)]:List Value).getD i undef)):=hid (X0.out.below (by omega) b1)
  have X1:Hid (Blk ((w.alloc (.cells #[.int .i64 4,.int .i64 (V:Int),.int .i64 (a:Int),.int .i64 (b:Int)] 58)).alloc (.cells #[.slice none 0 0,.int .i64 0] 31)) (w.heap.size+1) 2 (fun i=>([.slice none 0 0,.int .i64 0]:List Value).getD i undef)):=hid (Blk.new (w:=(w.alloc (.cells #[.int .i64 4,.int .i64 (V:Int),.int .i64 (a:Int),.int .i64 (b:Int)] 58))) (H:=w.heap.size+1) (by simp) [.slice none 0 0,.int .i64 0] 31)
  have HB0:Hid (Below w.heap.size w ((w.alloc (.cells #[.int .i64 4,.int .i64 (V:Int),.int .i64 (a:Int),.int .i64 (b:Int)] 58)).alloc (.cells #[.slice none 0 0,.int .i64 0] 31))):=hid (b0.trans (b1.mono b0.size))
  have HW0:Hid (((w.alloc (.cells #[.int .i64 4,.int .i64 (V:Int),.int .i64 (a:Int),.int .i64 (b:Int)] 58)).alloc (.cells #[.slice none 0 0,.int .i64 0] 31)).heap.size=w.heap.size+1+1):=hid (by simp)
  clear b0 b1
  go_enter Tryz.func32,Tryz.ntmps32
  go_upto_region 1 with fail
  generalize ((w.alloc (.cells #[.int .i64 4,.int .i64 (V:Int),.int .i64 (a:Int),.int .i64 (b:Int)] 58)).alloc (.cells #[.slice none 0 0,.int .i64 0] 31))=w1 at *
  obtain ⟨x0,_⟩:=X0.out 0 (by omega)
  obtain ⟨x1,_⟩:=X0.out 1 (by omega)
  obtain ⟨x2,_⟩:=X0.out 2 (by omega)
  obtain ⟨x3,_⟩:=X0.out 3 (by omega)
  obtain ⟨⟨z0,z1⟩,u0,u1⟩:=HR.out w1 HB0.out
  go_upto_region 7 with fail
  have HBd:Hid (Below w.heap.size w w1.drew):=hid HB0.out.drew
  have X1d:Hid (Blk w1.drew (w.heap.size+1) 2 (fun i=>([.slice none 0 0,.int .i64 0]:List Value).getD i undef)):=hid X1.out
  have HWd:Hid (w1.drew.heap.size=w.heap.size+1+1):=hid HW0.out
  go_region_with (go_at_call 25;refine (HC.out w1.drew HBd.out).mono ?_;rintro e w3 ⟨⟨A9,m9,c9,r9,rfl,d9,f9⟩,b9⟩;have D9:=hid d9;have F9:=hid (f9.mono (show w.heap.size+1+1≤w1.drew.heap.size by have:=HWd.out;omega));have X3:=rb2 X1d b9;have HB3:=btr HBd b9 HBd.out.size;clear d9 f9 b9;obtain ⟨y0,y0f⟩:=X3.out 0 (by omega);obtain ⟨y1,y1f⟩:=X3.out 1 (by omega))
  all_goals
   go_wp2
   refine bodyPost_ret (v:=.tuple #[.agg #[.slice A9 m9 c9,.int .i64 (r9:Int)],.int .i64 0]) ?_ rfl ?_
   ·rw [results_cell_tmp rfl]
    go_simp
   ·exact ⟨⟨A9,m9,c9,r9,rfl,D9.out.put (F9.out.mono (by omega)) _ _,F9.out.mono (by omega)⟩,(HB3.out.setCell (by show w.heap.size≤w.heap.size+1;omega) _).setCell (by show w.heap.size≤w.heap.size+1;omega) _⟩
 ·obtain ⟨a,hae,hak⟩:=nat_of (oa (by omega))
  obtain ⟨b,hbe,hbk⟩:=nat_of (ob (by omega))
  rw [h0,hae,hbe]
  have hg:(fun x=>val l x k)=fun x=>val l x a||val l x b:=funext fun x=>by rw [val_or l x h0 (by rw [hae];omega) (by rw [hbe];omega),hae,hbe,Int.toNat_natCast,Int.toNat_natCast]
  rw [hg]
  obtain ⟨A0,m0,c0,r0,z0,z1,d0,_,_⟩:=hD.out a hak
  obtain ⟨A1,m1,c1,r1,u0,u1,d1,_,_⟩:=hD.out b hbk
  have hgl:=(hD.out a hak).lt
  have D0:=hid d0
  have D1:=hid d1
  have L0:=hid (hlow.out a hak)
  have L1:=hid (hlow.out b hbk)
  have HC:Hid (∀ W,Below w.heap.size w W→Calls Tryz.prog 26 #[.agg #[.slice A0 m0 c0,.int .i64 (r0:Int)],.agg #[.slice A1 m1 c1,.int .i64 (r1:Int)]] W fun e w'=>BinOk W w' (fun x=>val l x a||val l x b) e):=hid fun W hW=>six_or (rdn D0 hW) (rdn D1 hW) L0 L1 (rin hin hW) (hid rfl)
  have HR:Hid (∀ W,Below w.heap.size w W→(W.cell? ⟨g,a*2,none⟩=some (.slice A0 m0 c0)∧W.cell? ⟨g,a*2+1,none⟩=some (.int .i64 (r0:Int)))∧W.cell? ⟨g,b*2,none⟩=some (.slice A1 m1 c1)∧W.cell? ⟨g,b*2+1,none⟩=some (.int .i64 (r1:Int))):=hid fun W hW=>⟨⟨DgC.cells hgl hW _ z0,DgC.cells hgl hW _ z1⟩,DgC.cells hgl hW _ u0,DgC.cells hgl hW _ u1⟩
  have i1:(0:Int)≤(a:Int):=by omega
  have i2:(a:Int)<(n:Int):=by omega
  have i3:(0:Int)≤(b:Int):=by omega
  have i4:(b:Int)<(n:Int):=by omega
  clear oa ob hok hD hlow hin h0 hV hg hae hbe d0 D0 z0 z1 d1 D1 u0 u1 L0 L1
  have b0:=ab2 w (.cells #[.int .i64 5,.int .i64 (V:Int),.int .i64 (a:Int),.int .i64 (b:Int)] 58)
  have b1:=ab2 (w.alloc (.cells #[.int .i64 5,.int .i64 (V:Int),.int .i64 (a:Int),.int .i64 (b:Int)] 58)) (.cells #[.slice none 0 0,.int .i64 0] 31)
  have X0:Hid (Blk (w.alloc (.cells #[.int .i64 5,.int .i64 (V:Int),.int .i64 (a:Int),.int .i64 (b:Int)] 58)) w.heap.size 4 (fun i=>([.int .i64 5,.int .i64 (V:Int),.int .i64 (a:Int),.int .i64 (b:Int)]:List Value).getD i undef)):=hid (Blk.new (w:=w) (H:=w.heap.size) (by simp) [.int .i64 5,.int .i64 (V:Int),.int .i64 (a:Int),.int .i64 (b:Int)] 58)
  replace X0:Hid (Blk ((w.alloc (.cells #[.int .i64 5,.int .i64 (V:Int),.int .i64 (a:Int),.int .i64 (b:Int)] 58)).alloc (.cells #[.slice none 0 0,.int .i64 0] 31)) w.heap.size 4 (fun i=>([.int .i64 5,.int .i64 (V:Int),.int .i64 (a:Int),.int .i64 (b:Int)]:List Value).getD i undef)):=hid (X0.out.below (by omega) b1)
  have X1:Hid (Blk ((w.alloc (.cells #[.int .i64 5,.int .i64 (V:Int),.int .i64 (a:Int),.int .i64 (b:Int)] 58)).alloc (.cells #[.slice none 0 0,.int .i64 0] 31)) (w.heap.size+1) 2 (fun i=>([.slice none 0 0,.int .i64 0]:List Value).getD i undef)):=hid (Blk.new (w:=(w.alloc (.cells #[.int .i64 5,.int .i64 (V:Int),.int .i64 (a:Int),.int .i64 (b:Int)] 58))) (H:=w.heap.size+1) (by simp) [.slice none 0 0,.int .i64 0] 31)
  have HB0:Hid (Below w.heap.size w ((w.alloc (.cells #[.int .i64 5,.int .i64 (V:Int),.int .i64 (a:Int),.int .i64 (b:Int)] 58)).alloc (.cells #[.slice none 0 0,.int .i64 0] 31))):=hid (b0.trans (b1.mono b0.size))
  have HW0:Hid (((w.alloc (.cells #[.int .i64 5,.int .i64 (V:Int),.int .i64 (a:Int),.int .i64 (b:Int)] 58)).alloc (.cells #[.slice none 0 0,.int .i64 0] 31)).heap.size=w.heap.size+1+1):=hid (by simp)
  clear b0 b1
  go_enter Tryz.func32,Tryz.ntmps32
  go_upto_region 1 with fail
  generalize ((w.alloc (.cells #[.int .i64 5,.int .i64 (V:Int),.int .i64 (a:Int),.int .i64 (b:Int)] 58)).alloc (.cells #[.slice none 0 0,.int .i64 0] 31))=w1 at *
  obtain ⟨x0,_⟩:=X0.out 0 (by omega)
  obtain ⟨x1,_⟩:=X0.out 1 (by omega)
  obtain ⟨x2,_⟩:=X0.out 2 (by omega)
  obtain ⟨x3,_⟩:=X0.out 3 (by omega)
  obtain ⟨⟨z0,z1⟩,u0,u1⟩:=HR.out w1 HB0.out
  go_upto_region 9 with fail
  have HBd:Hid (Below w.heap.size w w1.drew):=hid HB0.out.drew
  have X1d:Hid (Blk w1.drew (w.heap.size+1) 2 (fun i=>([.slice none 0 0,.int .i64 0]:List Value).getD i undef)):=hid X1.out
  have HWd:Hid (w1.drew.heap.size=w.heap.size+1+1):=hid HW0.out
  go_region_with (go_at_call 26;refine (HC.out w1.drew HBd.out).mono ?_;rintro e w3 ⟨⟨A9,m9,c9,r9,rfl,d9,f9⟩,b9⟩;have D9:=hid d9;have F9:=hid (f9.mono (show w.heap.size+1+1≤w1.drew.heap.size by have:=HWd.out;omega));have X3:=rb2 X1d b9;have HB3:=btr HBd b9 HBd.out.size;clear d9 f9 b9;obtain ⟨y0,y0f⟩:=X3.out 0 (by omega);obtain ⟨y1,y1f⟩:=X3.out 1 (by omega))
  all_goals
   go_wp2
   refine bodyPost_ret (v:=.tuple #[.agg #[.slice A9 m9 c9,.int .i64 (r9:Int)],.int .i64 0]) ?_ rfl ?_
   ·rw [results_cell_tmp rfl]
    go_simp
   ·exact ⟨⟨A9,m9,c9,r9,rfl,D9.out.put (F9.out.mono (by omega)) _ _,F9.out.mono (by omega)⟩,(HB3.out.setCell (by show w.heap.size≤w.heap.size+1;omega) _).setCell (by show w.heap.size≤w.heap.size+1;omega) _⟩
set_option linter.unusedVariables false
set_option linter.unusedSimpArgs false
attribute [local go_sem ↓] Go.wp_at_zero Go.wp_at_succ
structure DgI (w wr:World) (g n:Nat) (l:List Fi) (k:Nat):Prop where
 ex:∀ j,j<k→DgC wr (w.heap.size+1) g j (fun x=>val l x j)
 blk:∃ F,Blk wr g (n*2) F
 bel:Below w.heap.size w wr
 box:B2 wr w.heap.size (.slice none 0 0) (.int .i64 0)
 ins:Ins wr 0
 ge:w.heap.size<g
section
variable {w wr w' : World} {g n k m c r : Nat} {l : List Fi} {A : Option Addr}
theorem DgI.below (h:DgI w wr g n l k) (hn:0<n) (b:Below wr.heap.size wr w'):DgI w w' g n l k:=by
 obtain ⟨F,hF⟩:=h.blk
 exact ⟨fun j hj=>(h.ex j hj).below b,⟨F,hF.below (by omega) b⟩,h.bel.trans (b.mono h.bel.size),h.box.below (by omega) b,h.ins.below b,h.ge⟩
theorem DgI.lt (h:DgI w wr g n l k) (hn:0<n):g<wr.heap.size:=by
 obtain ⟨F,hF⟩:=h.blk
 exact hF.lt (by omega)
theorem DgI.put (h:DgI w wr g n l k) (hk:k<n) (hd:Dn wr A m c r (fun x=>val l x k)) (hB:Fr A (w.heap.size+1)) (hA:∀ b o,A=some ⟨b,o,none⟩→0<m→b≠g) :
  DgI w ((wr.setCell ⟨g,k*2,none⟩ (.slice A m c)).setCell ⟨g,k*2+1,none⟩ (.int .i64 (r:Int))) g n l (k+1):=by
 obtain ⟨F,hF⟩:=h.blk
 have h1:=hF.set (i:=k*2) (by omega) (.slice A m c)
 have h2:=h1.set (i:=k*2+1) (by omega) (.int .i64 (r:Int))
 have hge:=h.ge
 have hb2:Below w.heap.size w ((wr.setCell ⟨g,k*2,none⟩ (.slice A m c)).setCell ⟨g,k*2+1,none⟩ (.int .i64 (r:Int))):=(h.bel.setCell (by show w.heap.size≤g;omega) _).setCell (by show w.heap.size≤g;omega) _
 refine ⟨fun j hj=>?_,⟨_,h2⟩,hb2,(h.box.other (by show g≠w.heap.size;omega) _).other (by show g≠w.heap.size;omega) _,?_,h.ge⟩
 ·by_cases e:j=k
  ·subst e
   refine ⟨A,m,c,r,?_,?_,dn_setF (dn_setF hd _ hA) _ hA,hB,hA⟩
   ·rw [(h2 (j*2) (by omega)).1,fup_ne _ _ (by omega),fup_same]
   ·rw [(h2 (j*2+1) (by omega)).1,fup_same]
  ·obtain ⟨A',m',c',r',z1,z2,z3,z4,z5⟩:=h.ex j (by omega)
   have y1:=(hF (j*2) (by omega)).1
   have y2:=(hF (j*2+1) (by omega)).1
   rw [z1] at y1
   rw [z2] at y2
   refine ⟨A',m',c',r',?_,?_,dn_setF (dn_setF z3 _ z5) _ z5,z4,z5⟩
   ·rw [(h2 (j*2) (by omega)).1,fup_ne _ _ (by omega),fup_ne _ _ (by omega),y1]
   ·rw [(h2 (j*2+1) (by omega)).1,fup_ne _ _ (by omega),fup_ne _ _ (by omega),y2]
 ·exact (h.ins.keep (Below.heap_setCell _ _ _ _ (by show 0≠g;omega))).keep (Below.heap_setCell _ _ _ _ (by show 0≠g;omega))
end
theorem Tryz.infoDg:(Tryz.prog.info? 31).map (fun i=>(i.zero,i.size,i.bytes))=some (some (.agg #[.slice none 0 0,.int .i64 0]),2,32):=by kernel_rfl
theorem made_dg (w:World) (n T:Nat):Blk (w.alloc (.cells (madeCells #[.slice none 0 0,.int .i64 0] (n*2)) T)) w.heap.size (n*2) (fun i=>(madeCells #[.slice none 0 0,.int .i64 0] (n*2)).getD i undef):=by
 have h:=Blk.new (w:=w) (H:=w.heap.size) rfl (madeCells #[.slice none 0 0,.int .i64 0] (n*2)).toList T
 rw [Array.length_toList,size_madeCells,Array.toArray_toList] at h
 exact h.congr fun i hi=>by simp [Array.getD_eq_getD_getElem?]
theorem wpList_make_dg (w:World) {ops:Array Oper} {rest:List Oper} {o:Oper} {a:Act} {Q:Exit→Act→World→Prop}
  (hg:o.guard=none) (l c:Operand) (t:TypeId) (hop:o.op=Op.makeSlice t l c) (ht:Tryz.prog.underlying t=some (.slice 31))
  (kl kc:IntKind) (L C:Int) (n:Nat) (hl:a.eval l=.int kl L) (hc:a.eval c=.int kc C) (hL:L=(n:Int)) (hC:C=(n:Int)) (hn:n≤1000000)
  (hK:wpList Tryz.prog ops Q rest (a.put o.dst (.slice (some ⟨w.heap.size,0,none⟩) n n)) (w.alloc (.cells (madeCells #[.slice none 0 0,.int .i64 0] (n*2)) 31))) :
  wpList Tryz.prog ops Q (o::rest) a w:=by
 obtain ⟨i0,hi,hz0,hz1,hz2⟩:=info_parts Tryz.infoDg
 subst hL
 subst hC
 refine wpList_plain hg fun K hK'=>?_
 have hrun:=run_make (P:=Tryz.prog) w t 31 i0 _ ht hi hz0 kl kc (n:Int) (n:Int) (by omega) (Int.le_refl _) (by rw [hz2];omega) (by omega)
 simp only [Int.toNat_natCast,hz1] at hrun
 unfold Oper.wp
 simp [execOp,hop,hl,hc,hrun,Result.andThen]
 exact hK' _ _ hK
theorem fdia_ok (A:Option Addr) (m c:Nat) (l:List Fi) (w:World) (hl:Hid (l.length=m)) (hr:Hid (Rf w w.heap.size A l)) (hok:Hid (okF l)) (hlow:Hid (∀ j,j<m→Low 6 (fun x=>val l x j))) (hin:Hid (Ins w 0)) :
  Calls Tryz.prog 9 #[.slice A m c] w fun e w'=>BinOk w w' (fun x=>val l x (m - 1)) e:=by
 have h1:1≤m:=by have:=hok.out.1;rw [hl.out] at this;exact this
 have h2:m≤512:=by have:=hok.out.2.1;rw [hl.out] at this;exact this
 have HN:Hid (∀ i,i<m→okN l i):=hid (fun i hi=>hok.out.2.2.1 i (by rw [hl.out];exact hi))
 have X0:=nb2 w (.slice none 0 0) (.int .i64 0) 31
 have HB0:=hid (ab2 w (.cells #[.slice none 0 0,.int .i64 0] 31))
 have HV:Hid (∀ W,Below w.heap.size w W→Calls Tryz.prog 31 #[.slice A m c] W fun e w'=>e=.returned (.int .i64 0)∧Below W.heap.size W w'):=hid fun W hW=>by
  have h:=fcheck_any A m c l W hl (hid ((hr.out.below hW).mono hW.size))
  rw [show chF l=0 from if_pos hok.out] at h
  exact h
 clear hok
 go_enter Tryz.func9,Tryz.ntmps9
 go_upto_region 1 with fail
 generalize w.alloc (.cells #[.slice none 0 0,.int .i64 0] 31)=w0 at *
 go_wp2_with fail
 refine (HV.out w0 HB0.out).mono ?_
 rintro e w1 ⟨rfl,b1⟩
 have HI1:=rin (rin hin HB0.out) b1
 replace X0:=rb2 X0 b1
 have HB1:=btr HB0 b1 HB0.out.size
 clear b1 HV HB0
 go_wp2_with (refine wpList_make_dg _ rfl _ _ _ rfl Tryz.underlying62 .i64 .i64 _ _ m rfl rfl rfl rfl (by omega) ?_)
 have hB2:=ab2 w1 (.cells (madeCells #[.slice none 0 0,.int .i64 0] (m*2)) 31)
 have H0:Hid (DgI w (w1.alloc (.cells (madeCells #[.slice none 0 0,.int .i64 0] (m*2)) 31)) w1.heap.size m l 0):=hid ⟨fun j hj=>by omega,⟨_,made_dg w1 m _⟩,HB1.out.trans (hB2.mono HB1.out.size),X0.out.below (by omega) hB2,HI1.out.below hB2,X0.out.lt (by omega)⟩
 clear hB2 HB1 HI1 X0
 generalize w1.alloc (.cells (madeCells #[.slice none 0 0,.int .i64 0] (m*2)) 31)=w2 at *
 generalize w1.heap.size=g at *
 go_loopw [21] (fun i wr=>∃ k:Nat,k≤m∧i=.int .i64 (k:Int)∧Hid (DgI w wr g m l k)) (fun i _=>m - (intOf i).toNat)
 case atStart=>exact ⟨0,Nat.zero_le _,rfl,H0⟩
 case round =>
  obtain ⟨k,hk,rfl,hst⟩:=hrel
  clear H0
  by_cases hlt':k<m
  ·rename ∀ (a:Act) (w:World),Code.wp _ _ _ a w→_=>hKc
   clear hKc
   have hkl:k<l.length:=by rw [hl.out];exact hlt'
   obtain ⟨b,o,e,hb,hc⟩:=(hr.out.below hst.out.bel) (by omega)
   subst e
   obtain ⟨d0,d1,d2,d3⟩:=hc k hkl
   clear hc
   have i1:(0:Int)≤(k:Int):=by omega
   have i2:(k:Int)<(m:Int):=by omega
   have B4:Hid (Below wr.heap.size wr (wr.alloc (.cells #[.int .i64 (fo l k),.int .i64 (fv l k),.int .i64 (fa l k),.int .i64 (fb l k)] 58))):=hid (ab2 wr _)
   have H4:=hid (hst.out.below (by omega) B4.out)
   have HS:Hid (∀ W,DgI w W g m l k→Calls Tryz.prog 32 #[.agg #[.int .i64 (fo l k),.int .i64 (fv l k),.int .i64 (fa l k),.int .i64 (fb l k)],.slice (some ⟨g,0,none⟩) m m] W fun e w'=>BinOk W w' (fun x=>val l x k) e):=hid fun W hW=>fset_ok l k m m g _ W (HN.out k hlt') (by omega) h2 (hid hW.ex) (hid fun j hj=>hlow.out j (by omega)) (hid hW.ins)
   have X4:Hid (Blk (wr.alloc (.cells #[.int .i64 (fo l k),.int .i64 (fv l k),.int .i64 (fa l k),.int .i64 (fb l k)] 58)) wr.heap.size 4 (fun i=>([.int .i64 (fo l k),.int .i64 (fv l k),.int .i64 (fa l k),.int .i64 (fb l k)]:List Value).getD i undef)):=hid (Blk.new (w:=wr) (H:=wr.heap.size) rfl [.int .i64 (fo l k),.int .i64 (fv l k),.int .i64 (fa l k),.int .i64 (fb l k)] 58)
   have HG:=hid (hst.out.lt (by omega))
   go_upto_region 8 with fail
   generalize wr.alloc (.cells #[.int .i64 (fo l k),.int .i64 (fv l k),.int .i64 (fa l k),.int .i64 (fb l k)] 58)=w4 at *
   obtain ⟨x0,_⟩:=X4.out 0 (by omega)
   obtain ⟨x1,_⟩:=X4.out 1 (by omega)
   obtain ⟨x2,_⟩:=X4.out 2 (by omega)
   obtain ⟨x3,_⟩:=X4.out 3 (by omega)
   clear d0 d1 d2 d3
   go_wp2_with fail
   refine (HS.out w4 H4.out).mono ?_
   rintro e w5 ⟨⟨A9,m9,c9,r9,rfl,d9,f9⟩,b9⟩
   have H5:=hid (H4.out.below (by omega) b9)
   have D5:=hid d9
   have F5:=hid f9
   have L4:=hid (H4.out.lt (by omega))
   have S4:=hid H4.out.bel.size
   have G4:=hid H4.out.ge
   clear d9 f9 b9 HS H4 x0 x1 x2 x3 X4 B4 hst
   have b6:=ab2 w5 (.cells #[.slice A9 m9 c9,.int .i64 (r9:Int)] 31)
   have X6:=nb2 w5 (.slice A9 m9 c9) (.int .i64 (r9:Int)) 31
   have H6:=hid (H5.out.below (by omega) b6)
   have D6:=rdn D5 b6
   clear b6 H5 D5
   go_upto_region 9 with fail
   generalize w5.alloc (.cells #[.slice A9 m9 c9,.int .i64 (r9:Int)] 31)=w6 at *
   obtain ⟨y0,y1,y2⟩:=xb2 X6
   obtain ⟨F,hF⟩:=H6.out.blk
   obtain ⟨z0,z0f⟩:=hF (k*2) (by omega)
   obtain ⟨z1,z1f⟩:=hF (k*2+1) (by omega)
   clear hF
   go_wp2
   go_roundw
   case rel=>exact ⟨k+1,by omega,by go_num,hid (H6.out.put hlt' D6.out (F5.out.mono (by have:=G4.out;have:=L4.out;omega)) (fun b o e _=>by have:=F5.out b o e;have:=L4.out;omega))⟩
   case measure=>simp [intOf];omega
  ·obtain rfl:k=m:=by omega
   obtain ⟨A9,m9,c9,r9,z0,z1,D9,F9,_⟩:=hst.out.ex (k - 1) (by omega)
   obtain ⟨y0,y0f⟩:=hst.out.box 0 (by omega)
   obtain ⟨y1,y1f⟩:=hst.out.box 1 (by omega)
   have HB:=hid hst.out.bel
   have i1:¬ (k:Int)<(k:Int):=by omega
   have i2:(0:Int)≤(k:Int) - 1:=by omega
   have i3:(k:Int) - 1<(k:Int):=by omega
   have i4:IntKind.i64.wrap ((k:Int) - 1)=((k - 1:Nat):Int):=by rw [IntKind.wrap_i64];omega
   go_wp2
   refine bodyPost_ret (v:=.tuple #[.agg #[.slice A9 m9 c9,.int .i64 (r9:Int)],.int .i64 0]) ?_ rfl ?_
   ·rw [results_cell_tmp rfl]
    go_simp
   ·exact ⟨⟨A9,m9,c9,r9,rfl,D9.put F9 _ _,F9.mono (by omega)⟩,(HB.out.setCell (Nat.le_refl _) _).setCell (Nat.le_refl _) _⟩
set_option linter.unusedVariables false
set_option linter.unusedSimpArgs false
attribute [local go_sem ↓] Go.wp_at_zero Go.wp_at_succ
structure QgI (w wr:World) (v:Value) (l:List Fi) (k:Nat) (cs:List Value):Prop where
 own:wr.ownsRow (w.heap.size+1) 31 2 v k cs
 len:cs.length=k*2
 ex:∀ j,j<k→∃ A m c r,cs[j*2]? = some (.slice A m c)∧cs[j*2+1]? = some (.int .i64 ((r:Nat):Int))∧Dn wr A m c r (fun x=>val l x j)∧Fr A (w.heap.size+1)∧∀ b o,A=some ⟨b,o,none⟩→0<m→v.ownBlock≠some b
 bel:Below w.heap.size w wr
 box:B2 wr w.heap.size (.slice none 0 0) (.int .i64 0)
 ins:Ins wr 0
theorem dn_blockF {w:World} {A:Option Addr} {m c r b o:Nat} {f:Cfg→Bool} (h:Dn w A m c r f) (e:A=some ⟨b,o,none⟩) (h0:0<m):b<w.heap.size:=by
 obtain ⟨b',o',e',hb',_⟩:=h.rd (by rw [up_len,h.len];exact h0)
 rw [e] at e'
 injection e' with e2
 injection e2 with e3
 omega
theorem dn_keepF {w w':World} {A:Option Addr} {m c r:Nat} {f:Cfg→Bool} (h:Dn w A m c r f) (hs:w.heap.size≤w'.heap.size) (hk:∀ b o,A=some ⟨b,o,none⟩→0<m→w'.heap[b]? = w.heap[b]?):Dn w' A m c r f:=by
 refine ⟨fun h0=>?_,h.len,h.rt,h.mc,h.lm,h.d⟩
 have h1:0<m:=by rw [up_len,h.len] at h0;exact h0
 have k:=h.rd.keepA (w':=w') (fun b o e=>hk b o e h1)
 exact (k.mono hs) h0
section
variable {w wr w' : World} {v : Value} {n k : Nat} {l : List Fi} {cs : List Value}
theorem QgI.below (h:QgI w wr v l k cs) (b:Below wr.heap.size wr w'):QgI w w' v l k cs :=
 ⟨h.own.kept (below_grown b none) (by rcases h0:v.ownBlock with _ | _ <;> simp),h.len,fun j hj=>by
  obtain ⟨A,m,c,r,z0,z1,z2,z3,z4⟩:=h.ex j hj
  exact ⟨A,m,c,r,z0,z1,z2.below b,z3,z4⟩,h.bel.trans (b.mono h.bel.size),h.box.below (by omega) b,h.ins.below b⟩
theorem box_set {w:World} {g:Nat} {a b:Value} (h:B2 w g a b) (u v:Value):B2 ((w.setCell ⟨g,0,none⟩ u).setCell ⟨g,1,none⟩ v) g u v :=
 ((h.set (i:=0) (by omega) u).set (i:=1) (by omega) v).congr fun i hi=>by
   rcases (show i=0∨i=1 by omega) with rfl | rfl
   ·rw [fup_ne _ _ (by omega),fup_same];rfl
   ·rw [fup_same];rfl
theorem QgI.away {A:Option Addr} {m:Nat} (h:QgI w wr v l k cs) (hf:Fr A wr.heap.size):∀ b o,A=some ⟨b,o,none⟩→0<m→v.ownBlock≠some b:=fun b o e _ q=>by
 have:=hf b o e
 have:=(h.own.lt _ q).2
 omega
theorem QgI.szb (h:QgI w wr v l k cs):w.heap.size+1≤wr.heap.size:=h.box.lt (by omega)
theorem QgI.push {gn cap m c r:Nat} {A:Option Addr} (h:QgI w wr v l k cs) (hown:w'.ownsRow (w.heap.size+1) 31 2 (.slice (some ⟨gn,0,none⟩) (k+1) cap) (k+1) (cs++[.slice A m c,.int .i64 (r:Int)])) (hgr:wr.grownBy w' v.ownBlock) (hat:v.ownBlock=some gn∨wr.heap.size≤gn)
  (hd:Dn wr A m c r (fun x=>val l x k)) (hf:Fr A (w.heap.size+1)) (hA:∀ b o,A=some ⟨b,o,none⟩→0<m→v.ownBlock≠some b):QgI w w' (.slice (some ⟨gn,0,none⟩) (k+1) cap) l (k+1) (cs++[.slice A m c,.int .i64 (r:Int)]):=by
 have hlt:=h.own.lt
 have hbx:=h.box.lt (by omega)
 have keep:∀ {A':Option Addr} {m' c' r':Nat} {f':Cfg→Bool},Dn wr A' m' c' r' f'→(∀ b o,A'=some ⟨b,o,none⟩→0<m'→v.ownBlock≠some b)→Dn w' A' m' c' r' f'∧∀ b o,A'=some ⟨b,o,none⟩→0<m'→(Value.slice (some ⟨gn,0,none⟩) (k+1) cap).ownBlock≠some b:=fun {A' m' c' r' f'} hd' hA'=>by
  refine ⟨dn_keepF hd' hgr.size fun b o e h0=>hgr.block b (dn_blockF hd' e h0) (fun q=>hA' b o e h0 q.symm),fun b o e h0 q=>?_⟩
  have hb:=dn_blockF hd' e h0
  have q2:gn=b:=by simpa [Value.ownBlock] using q
  rcases hat with e2 | e2
  ·exact hA' b o e h0 (by rw [e2,q2])
  ·omega
 refine ⟨hown,by rw [List.length_append,h.len];simp;omega,fun j hj=>?_,h.bel.grown hgr h.bel.size (fun q hq=>by have:=(hlt q hq).1;omega),h.box.keep (hgr.block _ hbx fun q=>by have:=(hlt _ q.symm).1;omega),h.ins.keep (hgr.block 0 (by omega) fun q=>by have:=(hlt _ q.symm).1;omega)⟩
 by_cases e:j<k
 ·obtain ⟨A',m',c',r',z0,z1,z2,z3,z4⟩:=h.ex j e
  obtain ⟨k1,k2⟩:=keep z2 z4
  exact ⟨A',m',c',r',by rw [List.getElem?_append_left (by rw [h.len];omega)];exact z0,by rw [List.getElem?_append_left (by rw [h.len];omega)];exact z1,k1,z3,k2⟩
 ·obtain rfl:j=k:=by omega
  obtain ⟨k1,k2⟩:=keep hd hA
  refine ⟨A,m,c,r,?_,?_,k1,hf,k2⟩
  ·rw [List.getElem?_append_right (by rw [h.len];omega),h.len,Nat.sub_self];rfl
  ·rw [List.getElem?_append_right (by rw [h.len];omega),h.len,show j*2+1 - j*2=1 by omega];rfl
end
theorem Tryz.infoDgs:(Tryz.prog.info? 31).map (fun i=>(i.zero,i.size,i.bytes))=some (some (.agg #[.slice none 0 0,.int .i64 0]),2,32):=by kernel_rfl
theorem qdia_ok (A:Option Addr) (m c:Nat) (l:List Fi) (w:World) (hl:Hid (l.length=m)) (hr:Hid (Rf w w.heap.size A l)) (hok:Hid (okF l)) (hlow:Hid (∀ j,j<m→Low 6 (fun x=>val l x j))) (hin:Hid (Ins w 0)) :
  Calls Tryz.prog 10 #[.slice A m c] w fun e w'=>BinOk w w' (fun x=>val l x (m - 1)) e:=by
 obtain ⟨i0,hi,hz0,hz1,hz2⟩:=info_parts Tryz.infoDgs
 have h1:1≤m:=by have:=hok.out.1;rw [hl.out] at this;exact this
 have h2:m≤512:=by have:=hok.out.2.1;rw [hl.out] at this;exact this
 have HN:Hid (∀ i,i<m→okN l i):=hid (fun i hi=>hok.out.2.2.1 i (by rw [hl.out];exact hi))
 have X0:=nb2 w (.slice none 0 0) (.int .i64 0) 31
 have HB0:=hid (ab2 w (.cells #[.slice none 0 0,.int .i64 0] 31))
 have HV:Hid (∀ W,Below w.heap.size w W→Calls Tryz.prog 33 #[.slice A m c] W fun e w'=>e=.returned (.int .i64 0)∧Below W.heap.size W w'):=hid fun W hW=>by
  have h:=qcheck_any A m c l W hl (hid ((hr.out.below hW).mono hW.size))
  rw [show chF l=0 from if_pos hok.out] at h
  exact h
 clear hok
 go_enter Tryz.func10,Tryz.ntmps10
 go_upto_region 1 with fail
 generalize w.alloc (.cells #[.slice none 0 0,.int .i64 0] 31)=w0 at *
 go_wp2_with fail
 refine (HV.out w0 HB0.out).mono ?_
 rintro e w1 ⟨rfl,b1⟩
 have HI1:=rin (rin hin HB0.out) b1
 replace X0:=rb2 X0 b1
 have HB1:=btr HB0 b1 HB0.out.size
 clear b1 HV HB0
 have H0:Hid (QgI w w1 (.slice none 0 0) l 0 []):=hid ⟨World.ownsRow_nil _ _ _ _,rfl,fun j hj=>by omega,HB1.out,X0.out,HI1.out⟩
 clear HB1 HI1 X0
 go_wp2
 go_loopw [4,5] (fun v i wr=>∃ (k:Nat) (cs:List Value),k≤m∧i=.int .i64 (k:Int)∧Hid (QgI w wr v l k cs)) (fun _ i _=>m - (intOf i).toNat)
 case atStart=>exact ⟨0,[],Nat.zero_le _,rfl,H0⟩
 case round =>
  obtain ⟨k,cs,hk,rfl,hst⟩:=hrel
  clear H0
  by_cases hlt':k<m
  ·rename ∀ (a:Act) (w:World),Code.wp _ _ _ a w→_=>hKc
   clear hKc
   have hkl:k<l.length:=by rw [hl.out];exact hlt'
   obtain ⟨b,o,e,hb,hc⟩:=(hr.out.below hst.out.bel) (by omega)
   subst e
   obtain ⟨d0,d1,d2,d3⟩:=hc k hkl
   clear hc
   obtain ⟨AR,cR,er,hcR,hAR⟩:=own_form hst.out.own
   subst er
   have i1:(0:Int)≤(k:Int):=by omega
   have i2:(k:Int)<(m:Int):=by omega
   obtain ⟨⟨o0,o5⟩,⟨v0,v1⟩,oa,ob⟩:=ok_node (HN.out k hlt')
   obtain ⟨V,hV,hV64⟩:=nat_of (k:=64) ⟨v0,v1⟩
   have hO:fo l k=0∨fo l k=1∨fo l k=2∨fo l k=3∨fo l k=4∨fo l k=5:=by omega
   clear o0 o5 v0 v1
   rw [hV] at d1
   rcases hO with h0 | h0 | h0 | h0 | h0 | h0
   ·rw [h0] at d0
    have hg:(fun x=>val l x k)=fun _=>false:=funext fun x=>val_false l x h0
    have HG:=hid hg
    clear oa ob h0 hV hg
    generalize fa l k=a at *
    generalize fb l k=b2 at *
    have B4:Hid (Below wr.heap.size wr (wr.alloc (.cells #[.int .i64 0,.int .i64 (V:Int),.int .i64 a,.int .i64 b2] 58))):=hid (ab2 wr _)
    have H4:=hid (hst.out.below B4.out)
    have X4:Hid (Blk (wr.alloc (.cells #[.int .i64 0,.int .i64 (V:Int),.int .i64 a,.int .i64 b2] 58)) wr.heap.size 4 (fun i=>([.int .i64 0,.int .i64 (V:Int),.int .i64 a,.int .i64 b2]:List Value).getD i undef)):=hid (Blk.new (w:=wr) (H:=wr.heap.size) rfl [.int .i64 0,.int .i64 (V:Int),.int .i64 a,.int .i64 b2] 58)
    go_upto_region 8 with fail
    generalize wr.alloc (.cells #[.int .i64 0,.int .i64 (V:Int),.int .i64 a,.int .i64 b2] 58)=w4 at *
    obtain ⟨x0,_⟩:=X4.out 0 (by omega)
    clear d0 d1 d2 d3
    go_wp2_with fail
    refine (rconstant_any false w4).mono ?_
    rintro e w5 ⟨rfl,b5⟩
    have H5:=hid (H4.out.below b5)
    have X5:=hid (X4.out.below (by omega) b5)
    have BW5:=hid (B4.out.trans (b5.mono B4.out.size))
    clear b5 H4 X4 x0 B4 hst
    have b6:=ab2 w5 (.cells #[.slice none 0 0,.int .i64 0] 31)
    have Y6:=nb2 w5 (.slice none 0 0) (.int .i64 0) 31
    have H6:=hid (H5.out.below b6)
    have X6:=hid (X5.out.below (by omega) b6)
    have B6:Hid (Below w5.heap.size w5 (w5.alloc (.cells #[.slice none 0 0,.int .i64 0] 31))):=hid b6
    have BW6:Hid (Below wr.heap.size wr (w5.alloc (.cells #[.slice none 0 0,.int .i64 0] 31))):=hid (BW5.out.trans (b6.mono BW5.out.size))
    have S6:Hid (w5.heap.size+1≤(w5.alloc (.cells #[.slice none 0 0,.int .i64 0] 31)).heap.size):=hid (by simp)
    clear b6 X5 BW5
    go_upto_region 9 with fail
    generalize w5.alloc (.cells #[.slice none 0 0,.int .i64 0] 31)=w6 at *
    obtain ⟨x0,_⟩:=X6.out 0 (by omega)
    obtain ⟨x1,_⟩:=X6.out 1 (by omega)
    obtain ⟨x2,_⟩:=X6.out 2 (by omega)
    obtain ⟨x3,_⟩:=X6.out 3 (by omega)
    obtain ⟨y0,y0f⟩:=Y6.out 0 (by omega)
    obtain ⟨y1,y1f⟩:=Y6.out 1 (by omega)
    obtain ⟨A9,hA9⟩:∃ A9:Option Addr,A9=none:=⟨_,rfl⟩
    obtain ⟨m9,hm9⟩:∃ m9:Nat,m9=0:=⟨_,rfl⟩
    obtain ⟨r9,hr9⟩:∃ r9:Nat,r9=0:=⟨_,rfl⟩
    have D9:Hid (Dn w6 none 0 0 0 (fun x=>val l x k)):=hid (by rw [HG.out];exact dn_cst w6 false)
    have F9:Hid (Fr none (w.heap.size+1)):=hid (fr_none _)
    have N9:Hid (∀ b o,(none:Option Addr)=some ⟨b,o,none⟩→0<0→(Value.slice AR k cR).ownBlock≠some b):=hid (fun _ _ e=>by cases e)
    have Y9:Hid (B2 w6 w5.heap.size (.slice none 0 0) (.int .i64 ((0:Nat):Int))):=Y6
    go_upto_region 21 with fail
    clear x0 x1 x2 x3 y0 y0f y1 y1f X6 Y6 HG
    have H9:=H6
    clear H6
    generalize w6=w9 at *
    obtain ⟨z0,z0f⟩:=Y9.out 0 (by omega)
    obtain ⟨z1,z1f⟩:=Y9.out 1 (by omega)
    have HO:=hid H9.out.own
    have HSZ:=hid H9.out.szb
    go_wp2_with (refine wpList_append_lies _ rfl _ _ _ rfl (w.heap.size+1) 31 i0 _ 2 32 Tryz.underlying62 hi hz0 hz1 hz2 rfl (by omega) (.slice AR k cR) k cs rfl (HO.out.alloc _) _ _ _ [.slice none 0 0,.int .i64 ((0:Nat):Int)] rfl rfl (World.news_of_block (heap_alloc_new _ _)) (by simp [Value.oneCell']) (by omega) (by simp only [maxLen];omega) (by omega) (by have:=HSZ.out;simp;omega) _ rfl ?_;intro gn cap w8 hown8 hgrow8 hat8 hlt8)
    have b8:=ab2 w9 (.cells #[.slice none 0 0,.int .i64 ((0:Nat):Int)] 31)
    have H8:=hid (H9.out.below b8)
    have D8:=hid (D9.out.below b8)
    have S8:=hid b8.size
    have HW8:=hid (QgI.push H8.out hown8 hgrow8 (hat8.imp id fun q=>by simp [q]) D8.out F9.out N9.out)
    clear b8 H8 D8 H9 D9 Y9 F9 N9 HO hown8 hgrow8 hat8
    go_wp2
    go_roundw
    case rel=>exact ⟨k+1,_,by omega,by go_num,HW8⟩
    case measure=>simp [intOf];omega
        
   ·rw [h0] at d0
    have hg:(fun x=>val l x k)=fun _=>true:=funext fun x=>val_true l x h0
    have HG:=hid hg
    clear oa ob h0 hV hg
    generalize fa l k=a at *
    generalize fb l k=b2 at *
    have B4:Hid (Below wr.heap.size wr (wr.alloc (.cells #[.int .i64 1,.int .i64 (V:Int),.int .i64 a,.int .i64 b2] 58))):=hid (ab2 wr _)
    have H4:=hid (hst.out.below B4.out)
    have X4:Hid (Blk (wr.alloc (.cells #[.int .i64 1,.int .i64 (V:Int),.int .i64 a,.int .i64 b2] 58)) wr.heap.size 4 (fun i=>([.int .i64 1,.int .i64 (V:Int),.int .i64 a,.int .i64 b2]:List Value).getD i undef)):=hid (Blk.new (w:=wr) (H:=wr.heap.size) rfl [.int .i64 1,.int .i64 (V:Int),.int .i64 a,.int .i64 b2] 58)
    go_upto_region 8 with fail
    generalize wr.alloc (.cells #[.int .i64 1,.int .i64 (V:Int),.int .i64 a,.int .i64 b2] 58)=w4 at *
    obtain ⟨x0,_⟩:=X4.out 0 (by omega)
    clear d0 d1 d2 d3
    go_wp2_with fail
    refine (rconstant_any true w4).mono ?_
    rintro e w5 ⟨rfl,b5⟩
    have H5:=hid (H4.out.below b5)
    have X5:=hid (X4.out.below (by omega) b5)
    have BW5:=hid (B4.out.trans (b5.mono B4.out.size))
    clear b5 H4 X4 x0 B4 hst
    have b6:=ab2 w5 (.cells #[.slice none 0 0,.int .i64 1] 31)
    have Y6:=nb2 w5 (.slice none 0 0) (.int .i64 1) 31
    have H6:=hid (H5.out.below b6)
    have X6:=hid (X5.out.below (by omega) b6)
    have B6:Hid (Below w5.heap.size w5 (w5.alloc (.cells #[.slice none 0 0,.int .i64 1] 31))):=hid b6
    have BW6:Hid (Below wr.heap.size wr (w5.alloc (.cells #[.slice none 0 0,.int .i64 1] 31))):=hid (BW5.out.trans (b6.mono BW5.out.size))
    have S6:Hid (w5.heap.size+1≤(w5.alloc (.cells #[.slice none 0 0,.int .i64 1] 31)).heap.size):=hid (by simp)
    clear b6 X5 BW5
    go_upto_region 9 with fail
    generalize w5.alloc (.cells #[.slice none 0 0,.int .i64 1] 31)=w6 at *
    obtain ⟨x0,_⟩:=X6.out 0 (by omega)
    obtain ⟨x1,_⟩:=X6.out 1 (by omega)
    obtain ⟨x2,_⟩:=X6.out 2 (by omega)
    obtain ⟨x3,_⟩:=X6.out 3 (by omega)
    obtain ⟨y0,y0f⟩:=Y6.out 0 (by omega)
    obtain ⟨y1,y1f⟩:=Y6.out 1 (by omega)
    obtain ⟨A9,hA9⟩:∃ A9:Option Addr,A9=none:=⟨_,rfl⟩
    obtain ⟨m9,hm9⟩:∃ m9:Nat,m9=0:=⟨_,rfl⟩
    obtain ⟨r9,hr9⟩:∃ r9:Nat,r9=1:=⟨_,rfl⟩
    have D9:Hid (Dn w6 none 0 0 1 (fun x=>val l x k)):=hid (by rw [HG.out];exact dn_cst w6 true)
    have F9:Hid (Fr none (w.heap.size+1)):=hid (fr_none _)
    have N9:Hid (∀ b o,(none:Option Addr)=some ⟨b,o,none⟩→0<0→(Value.slice AR k cR).ownBlock≠some b):=hid (fun _ _ e=>by cases e)
    have Y9:Hid (B2 w6 w5.heap.size (.slice none 0 0) (.int .i64 ((1:Nat):Int))):=Y6
    go_upto_region 21 with fail
    clear x0 x1 x2 x3 y0 y0f y1 y1f X6 Y6 HG
    have H9:=H6
    clear H6
    generalize w6=w9 at *
    obtain ⟨z0,z0f⟩:=Y9.out 0 (by omega)
    obtain ⟨z1,z1f⟩:=Y9.out 1 (by omega)
    have HO:=hid H9.out.own
    have HSZ:=hid H9.out.szb
    go_wp2_with (refine wpList_append_lies _ rfl _ _ _ rfl (w.heap.size+1) 31 i0 _ 2 32 Tryz.underlying62 hi hz0 hz1 hz2 rfl (by omega) (.slice AR k cR) k cs rfl (HO.out.alloc _) _ _ _ [.slice none 0 0,.int .i64 ((1:Nat):Int)] rfl rfl (World.news_of_block (heap_alloc_new _ _)) (by simp [Value.oneCell']) (by omega) (by simp only [maxLen];omega) (by omega) (by have:=HSZ.out;simp;omega) _ rfl ?_;intro gn cap w8 hown8 hgrow8 hat8 hlt8)
    have b8:=ab2 w9 (.cells #[.slice none 0 0,.int .i64 ((1:Nat):Int)] 31)
    have H8:=hid (H9.out.below b8)
    have D8:=hid (D9.out.below b8)
    have S8:=hid b8.size
    have HW8:=hid (QgI.push H8.out hown8 hgrow8 (hat8.imp id fun q=>by simp [q]) D8.out F9.out N9.out)
    clear b8 H8 D8 H9 D9 Y9 F9 N9 HO hown8 hgrow8 hat8
    go_wp2
    go_roundw
    case rel=>exact ⟨k+1,_,by omega,by go_num,HW8⟩
    case measure=>simp [intOf];omega
        
   ·rw [h0] at d0
    have hg:(fun x=>val l x k)=fun x=>x V:=funext fun x=>by rw [val_var l x h0,hV,Int.toNat_natCast]
    have HG:=hid hg
    clear oa ob h0 hV hg
    generalize fa l k=a at *
    generalize fb l k=b2 at *
    have B4:Hid (Below wr.heap.size wr (wr.alloc (.cells #[.int .i64 2,.int .i64 (V:Int),.int .i64 a,.int .i64 b2] 58))):=hid (ab2 wr _)
    have H4:=hid (hst.out.below B4.out)
    have X4:Hid (Blk (wr.alloc (.cells #[.int .i64 2,.int .i64 (V:Int),.int .i64 a,.int .i64 b2] 58)) wr.heap.size 4 (fun i=>([.int .i64 2,.int .i64 (V:Int),.int .i64 a,.int .i64 b2]:List Value).getD i undef)):=hid (Blk.new (w:=wr) (H:=wr.heap.size) rfl [.int .i64 2,.int .i64 (V:Int),.int .i64 a,.int .i64 b2] 58)
    go_upto_region 8 with fail
    generalize wr.alloc (.cells #[.int .i64 2,.int .i64 (V:Int),.int .i64 a,.int .i64 b2] 58)=w4 at *
    obtain ⟨x0,_⟩:=X4.out 0 (by omega)
    clear d0 d1 d2 d3
    go_wp2_with fail
    refine (rconstant_any false w4).mono ?_
    rintro e w5 ⟨rfl,b5⟩
    have H5:=hid (H4.out.below b5)
    have X5:=hid (X4.out.below (by omega) b5)
    have BW5:=hid (B4.out.trans (b5.mono B4.out.size))
    clear b5 H4 X4 x0 B4 hst
    have b6:=ab2 w5 (.cells #[.slice none 0 0,.int .i64 0] 31)
    have Y6:=nb2 w5 (.slice none 0 0) (.int .i64 0) 31
    have H6:=hid (H5.out.below b6)
    have X6:=hid (X5.out.below (by omega) b6)
    have B6:Hid (Below w5.heap.size w5 (w5.alloc (.cells #[.slice none 0 0,.int .i64 0] 31))):=hid b6
    have BW6:Hid (Below wr.heap.size wr (w5.alloc (.cells #[.slice none 0 0,.int .i64 0] 31))):=hid (BW5.out.trans (b6.mono BW5.out.size))
    have S6:Hid (w5.heap.size+1≤(w5.alloc (.cells #[.slice none 0 0,.int .i64 0] 31)).heap.size):=hid (by simp)
    clear b6 X5 BW5
    go_upto_region 9 with fail
    generalize w5.alloc (.cells #[.slice none 0 0,.int .i64 0] 31)=w6 at *
    obtain ⟨x0,_⟩:=X6.out 0 (by omega)
    obtain ⟨x1,_⟩:=X6.out 1 (by omega)
    obtain ⟨x2,_⟩:=X6.out 2 (by omega)
    obtain ⟨x3,_⟩:=X6.out 3 (by omega)
    obtain ⟨y0,y0f⟩:=Y6.out 0 (by omega)
    obtain ⟨y1,y1f⟩:=Y6.out 1 (by omega)
    go_wp2_with fail
    refine (rvar_bin V w6 hV64).mono ?_
    rintro e w7 ⟨⟨A9,m9,c9,r9,rfl,d9,f9⟩,b9⟩
    rw [← HG.out] at d9
    have B7:=hid (B6.out.trans (b9.mono B6.out.size))
    have D7:=hid d9
    have F7:=hid f9
    have Y7:=rb2 Y6 b9
    clear b9 d9 f9 Y6 H6 X6 x0 x1 x2 x3 y0 y0f y1 y1f
    obtain ⟨y0,y0f⟩:=Y7.out 0 (by omega)
    obtain ⟨y1,y1f⟩:=Y7.out 1 (by omega)
    go_upto_region 21 with fail
    have BST:Hid (Below w5.heap.size w5 ((w7.setCell ⟨w5.heap.size,0,none⟩ (.slice A9 m9 c9)).setCell ⟨w5.heap.size,1,none⟩ (.int .i64 (r9:Int)))):=hid ((B7.out.setCell (Nat.le_refl _) _).setCell (Nat.le_refl _) _)
    have H9:=hid (H5.out.below BST.out)
    have D9:=hid (D7.out.put (H:=w5.heap.size) (F7.out.mono (by have:=S6.out;omega)) (.slice A9 m9 c9) (.int .i64 (r9:Int)))
    have Y9:=hid (box_set Y7.out (.slice A9 m9 c9) (.int .i64 (r9:Int)))
    have F9:=hid (F7.out.mono (show w.heap.size+1≤w6.heap.size by have:=S6.out;have:=H5.out.szb;omega))
    have N9:=hid (H5.out.away (m:=m9) (F7.out.mono (by have:=S6.out;omega)))
    clear D7 F7 Y7 B7 BST H5 y0 y0f y1 y1f
    generalize ((w7.setCell ⟨w5.heap.size,0,none⟩ (.slice A9 m9 c9)).setCell ⟨w5.heap.size,1,none⟩ (.int .i64 (r9:Int)))=w9 at *
    obtain ⟨z0,z0f⟩:=Y9.out 0 (by omega)
    obtain ⟨z1,z1f⟩:=Y9.out 1 (by omega)
    have HO:=hid H9.out.own
    have HSZ:=hid H9.out.szb
    go_wp2_with (refine wpList_append_lies _ rfl _ _ _ rfl (w.heap.size+1) 31 i0 _ 2 32 Tryz.underlying62 hi hz0 hz1 hz2 rfl (by omega) (.slice AR k cR) k cs rfl (HO.out.alloc _) _ _ _ [.slice A9 m9 c9,.int .i64 (r9:Int)] rfl rfl (World.news_of_block (heap_alloc_new _ _)) (by simp [Value.oneCell']) (by omega) (by simp only [maxLen];omega) (by omega) (by have:=HSZ.out;simp;omega) _ rfl ?_;intro gn cap w8 hown8 hgrow8 hat8 hlt8)
    have b8:=ab2 w9 (.cells #[.slice A9 m9 c9,.int .i64 (r9:Int)] 31)
    have H8:=hid (H9.out.below b8)
    have D8:=hid (D9.out.below b8)
    have S8:=hid b8.size
    have HW8:=hid (QgI.push H8.out hown8 hgrow8 (hat8.imp id fun q=>by simp [q]) D8.out F9.out N9.out)
    clear b8 H8 D8 H9 D9 Y9 F9 N9 HO hown8 hgrow8 hat8
    go_wp2
    go_roundw
    case rel=>exact ⟨k+1,_,by omega,by go_num,HW8⟩
    case measure=>simp [intOf];omega
   ·rw [h0] at d0
    obtain ⟨a,hae,hak⟩:=nat_of (oa (by omega))
    rw [hae] at d2
    have hg:(fun x=>val l x k)=fun x=>!val l x a:=funext fun x=>by rw [val_not l x h0 (by rw [hae];omega),hae,Int.toNat_natCast]
    have HG:=hid hg
    obtain ⟨q,cap,eq,hq1,hq2⟩:=hst.out.own.form (by omega)
    injection eq with eq1 _ eq3
    subst eq1 eq3
    obtain ⟨A0,m0,c0,r0,e0,e1,dd0,_⟩:=hst.out.ex a hak
    have t0:=(hst.out.own.cellAt (a*2) (by omega)).trans e0
    have t1:=(hst.out.own.cellAt (a*2+1) (by omega)).trans e1
    have HT:Hid (∀ W,Below wr.heap.size wr W→W.cell? ⟨q,a*2,none⟩=some (.slice A0 m0 c0)∧W.cell? ⟨q,a*2+1,none⟩=some (.int .i64 (r0:Int))):=hid fun W hW=>⟨DgC.cells hq2 hW _ t0,DgC.cells hq2 hW _ t1⟩
    have HC:Hid (∀ W,Below wr.heap.size wr W→Calls Tryz.prog 35 #[.agg #[.slice A0 m0 c0,.int .i64 (r0:Int)]] W fun e w'=>BinOk W w' (fun x=>val l x k) e):=hid fun W hW=>six_rnot (rdn (hid dd0) hW) (hid (hlow.out a (by omega))) (hid HG.out.symm)
    have j1:(0:Int)≤(a:Int):=by omega
    have j2:(a:Int)<(k:Int):=by omega
    clear oa ob h0 hV hg HG dd0 e0 e1 t0 t1 hae hAR hcR
    generalize fb l k=b2 at *
    have B4:Hid (Below wr.heap.size wr (wr.alloc (.cells #[.int .i64 3,.int .i64 (V:Int),.int .i64 (a:Int),.int .i64 b2] 58))):=hid (ab2 wr _)
    have H4:=hid (hst.out.below B4.out)
    have X4:Hid (Blk (wr.alloc (.cells #[.int .i64 3,.int .i64 (V:Int),.int .i64 (a:Int),.int .i64 b2] 58)) wr.heap.size 4 (fun i=>([.int .i64 3,.int .i64 (V:Int),.int .i64 (a:Int),.int .i64 b2]:List Value).getD i undef)):=hid (Blk.new (w:=wr) (H:=wr.heap.size) rfl [.int .i64 3,.int .i64 (V:Int),.int .i64 (a:Int),.int .i64 b2] 58)
    go_upto_region 8 with fail
    generalize wr.alloc (.cells #[.int .i64 3,.int .i64 (V:Int),.int .i64 (a:Int),.int .i64 b2] 58)=w4 at *
    obtain ⟨x0,_⟩:=X4.out 0 (by omega)
    clear d0 d1 d2 d3
    go_wp2_with fail
    refine (rconstant_any false w4).mono ?_
    rintro e w5 ⟨rfl,b5⟩
    have H5:=hid (H4.out.below b5)
    have X5:=hid (X4.out.below (by omega) b5)
    have BW5:=hid (B4.out.trans (b5.mono B4.out.size))
    clear b5 H4 X4 x0 B4 hst
    have b6:=ab2 w5 (.cells #[.slice none 0 0,.int .i64 0] 31)
    have Y6:=nb2 w5 (.slice none 0 0) (.int .i64 0) 31
    have H6:=hid (H5.out.below b6)
    have X6:=hid (X5.out.below (by omega) b6)
    have B6:Hid (Below w5.heap.size w5 (w5.alloc (.cells #[.slice none 0 0,.int .i64 0] 31))):=hid b6
    have BW6:Hid (Below wr.heap.size wr (w5.alloc (.cells #[.slice none 0 0,.int .i64 0] 31))):=hid (BW5.out.trans (b6.mono BW5.out.size))
    have S6:Hid (w5.heap.size+1≤(w5.alloc (.cells #[.slice none 0 0,.int .i64 0] 31)).heap.size):=hid (by simp)
    clear b6 X5 BW5
    go_upto_region 9 with fail
    generalize w5.alloc (.cells #[.slice none 0 0,.int .i64 0] 31)=w6 at *
    obtain ⟨x0,_⟩:=X6.out 0 (by omega)
    obtain ⟨x1,_⟩:=X6.out 1 (by omega)
    obtain ⟨x2,_⟩:=X6.out 2 (by omega)
    obtain ⟨x3,_⟩:=X6.out 3 (by omega)
    obtain ⟨y0,y0f⟩:=Y6.out 0 (by omega)
    obtain ⟨y1,y1f⟩:=Y6.out 1 (by omega)
    obtain ⟨t0,t1⟩:=HT.out w6 BW6.out
    go_wp2_with fail
    refine (HC.out w6 BW6.out).mono ?_
    rintro e w7 ⟨⟨A9,m9,c9,r9,rfl,d9,f9⟩,b9⟩
    clear t0 t1 HT HC BW6
    have B7:=hid (B6.out.trans (b9.mono B6.out.size))
    have D7:=hid d9
    have F7:=hid f9
    have Y7:=rb2 Y6 b9
    clear b9 d9 f9 Y6 H6 X6 x0 x1 x2 x3 y0 y0f y1 y1f
    obtain ⟨y0,y0f⟩:=Y7.out 0 (by omega)
    obtain ⟨y1,y1f⟩:=Y7.out 1 (by omega)
    go_upto_region 21 with fail
    have BST:Hid (Below w5.heap.size w5 ((w7.setCell ⟨w5.heap.size,0,none⟩ (.slice A9 m9 c9)).setCell ⟨w5.heap.size,1,none⟩ (.int .i64 (r9:Int)))):=hid ((B7.out.setCell (Nat.le_refl _) _).setCell (Nat.le_refl _) _)
    have H9:=hid (H5.out.below BST.out)
    have D9:=hid (D7.out.put (H:=w5.heap.size) (F7.out.mono (by have:=S6.out;omega)) (.slice A9 m9 c9) (.int .i64 (r9:Int)))
    have Y9:=hid (box_set Y7.out (.slice A9 m9 c9) (.int .i64 (r9:Int)))
    have F9:=hid (F7.out.mono (show w.heap.size+1≤w6.heap.size by have:=S6.out;have:=H5.out.szb;omega))
    have N9:=hid (H5.out.away (m:=m9) (F7.out.mono (by have:=S6.out;omega)))
    clear D7 F7 Y7 B7 BST H5 y0 y0f y1 y1f
    generalize ((w7.setCell ⟨w5.heap.size,0,none⟩ (.slice A9 m9 c9)).setCell ⟨w5.heap.size,1,none⟩ (.int .i64 (r9:Int)))=w9 at *
    obtain ⟨z0,z0f⟩:=Y9.out 0 (by omega)
    obtain ⟨z1,z1f⟩:=Y9.out 1 (by omega)
    have HO:=hid H9.out.own
    have HSZ:=hid H9.out.szb
    go_wp2_with (refine wpList_append_lies _ rfl _ _ _ rfl (w.heap.size+1) 31 i0 _ 2 32 Tryz.underlying62 hi hz0 hz1 hz2 rfl (by omega) (.slice (some ⟨q,0,none⟩) k cR) k cs rfl (HO.out.alloc _) _ _ _ [.slice A9 m9 c9,.int .i64 (r9:Int)] rfl rfl (World.news_of_block (heap_alloc_new _ _)) (by simp [Value.oneCell']) (by omega) (by simp only [maxLen];omega) (by omega) (by have:=HSZ.out;simp;omega) _ rfl ?_;intro gn cap w8 hown8 hgrow8 hat8 hlt8)
    have b8:=ab2 w9 (.cells #[.slice A9 m9 c9,.int .i64 (r9:Int)] 31)
    have H8:=hid (H9.out.below b8)
    have D8:=hid (D9.out.below b8)
    have S8:=hid b8.size
    have HW8:=hid (QgI.push H8.out hown8 hgrow8 (hat8.imp id fun q=>by simp [q]) D8.out F9.out N9.out)
    clear b8 H8 D8 H9 D9 Y9 F9 N9 HO hown8 hgrow8 hat8
    go_wp2
    go_roundw
    case rel=>exact ⟨k+1,_,by omega,by go_num,HW8⟩
    case measure=>simp [intOf];omega
   ·rw [h0] at d0
    obtain ⟨a,hae,hak⟩:=nat_of (oa (by omega))
    obtain ⟨b2,hbe,hbk⟩:=nat_of (ob (by omega))
    rw [hae] at d2
    rw [hbe] at d3
    have hg:(fun x=>val l x k)=fun x=>val l x a&&val l x b2:=funext fun x=>by rw [val_and l x h0 (by rw [hae];omega) (by rw [hbe];omega),hae,hbe,Int.toNat_natCast,Int.toNat_natCast]
    have HG:=hid hg
    obtain ⟨q,cap,eq,hq1,hq2⟩:=hst.out.own.form (by omega)
    injection eq with eq1 _ eq3
    subst eq1 eq3
    obtain ⟨A0,m0,c0,r0,e0,e1,dd0,_⟩:=hst.out.ex a hak
    obtain ⟨A1,m1,c1,r1,e2,e3,dd1,_⟩:=hst.out.ex b2 hbk
    have t0:=(hst.out.own.cellAt (a*2) (by omega)).trans e0
    have t1:=(hst.out.own.cellAt (a*2+1) (by omega)).trans e1
    have t2:=(hst.out.own.cellAt (b2*2) (by omega)).trans e2
    have t3:=(hst.out.own.cellAt (b2*2+1) (by omega)).trans e3
    have HT:Hid (∀ W,Below wr.heap.size wr W→(W.cell? ⟨q,a*2,none⟩=some (.slice A0 m0 c0)∧W.cell? ⟨q,a*2+1,none⟩=some (.int .i64 (r0:Int)))∧W.cell? ⟨q,b2*2,none⟩=some (.slice A1 m1 c1)∧W.cell? ⟨q,b2*2+1,none⟩=some (.int .i64 (r1:Int))):=hid fun W hW=>⟨⟨DgC.cells hq2 hW _ t0,DgC.cells hq2 hW _ t1⟩,DgC.cells hq2 hW _ t2,DgC.cells hq2 hW _ t3⟩
    have HC:Hid (∀ W,Below wr.heap.size wr W→Calls Tryz.prog 36 #[.agg #[.slice A0 m0 c0,.int .i64 (r0:Int)],.agg #[.slice A1 m1 c1,.int .i64 (r1:Int)]] W fun e w'=>BinOk W w' (fun x=>val l x k) e):=hid fun W hW=>six_rand (rdn (hid dd0) hW) (rdn (hid dd1) hW) (hid (hlow.out a (by omega))) (hid (hlow.out b2 (by omega))) (hid HG.out.symm)
    have j1:(0:Int)≤(a:Int):=by omega
    have j2:(a:Int)<(k:Int):=by omega
    have j3:(0:Int)≤(b2:Int):=by omega
    have j4:(b2:Int)<(k:Int):=by omega
    clear oa ob h0 hV hg HG dd0 dd1 e0 e1 e2 e3 t0 t1 t2 t3 hae hbe hAR hcR
    have B4:Hid (Below wr.heap.size wr (wr.alloc (.cells #[.int .i64 4,.int .i64 (V:Int),.int .i64 (a:Int),.int .i64 (b2:Int)] 58))):=hid (ab2 wr _)
    have H4:=hid (hst.out.below B4.out)
    have X4:Hid (Blk (wr.alloc (.cells #[.int .i64 4,.int .i64 (V:Int),.int .i64 (a:Int),.int .i64 (b2:Int)] 58)) wr.heap.size 4 (fun i=>([.int .i64 4,.int .i64 (V:Int),.int .i64 (a:Int),.int .i64 (b2:Int)]:List Value).getD i undef)):=hid (Blk.new (w:=wr) (H:=wr.heap.size) rfl [.int .i64 4,.int .i64 (V:Int),.int .i64 (a:Int),.int .i64 (b2:Int)] 58)
    go_upto_region 8 with fail
    generalize wr.alloc (.cells #[.int .i64 4,.int .i64 (V:Int),.int .i64 (a:Int),.int .i64 (b2:Int)] 58)=w4 at *
    obtain ⟨x0,_⟩:=X4.out 0 (by omega)
    clear d0 d1 d2 d3
    go_wp2_with fail
    refine (rconstant_any false w4).mono ?_
    rintro e w5 ⟨rfl,b5⟩
    have H5:=hid (H4.out.below b5)
    have X5:=hid (X4.out.below (by omega) b5)
    have BW5:=hid (B4.out.trans (b5.mono B4.out.size))
    clear b5 H4 X4 x0 B4 hst
    have b6:=ab2 w5 (.cells #[.slice none 0 0,.int .i64 0] 31)
    have Y6:=nb2 w5 (.slice none 0 0) (.int .i64 0) 31
    have H6:=hid (H5.out.below b6)
    have X6:=hid (X5.out.below (by omega) b6)
    have B6:Hid (Below w5.heap.size w5 (w5.alloc (.cells #[.slice none 0 0,.int .i64 0] 31))):=hid b6
    have BW6:Hid (Below wr.heap.size wr (w5.alloc (.cells #[.slice none 0 0,.int .i64 0] 31))):=hid (BW5.out.trans (b6.mono BW5.out.size))
    have S6:Hid (w5.heap.size+1≤(w5.alloc (.cells #[.slice none 0 0,.int .i64 0] 31)).heap.size):=hid (by simp)
    clear b6 X5 BW5
    go_upto_region 9 with fail
    generalize w5.alloc (.cells #[.slice none 0 0,.int .i64 0] 31)=w6 at *
    obtain ⟨x0,_⟩:=X6.out 0 (by omega)
    obtain ⟨x1,_⟩:=X6.out 1 (by omega)
    obtain ⟨x2,_⟩:=X6.out 2 (by omega)
    obtain ⟨x3,_⟩:=X6.out 3 (by omega)
    obtain ⟨y0,y0f⟩:=Y6.out 0 (by omega)
    obtain ⟨y1,y1f⟩:=Y6.out 1 (by omega)
    obtain ⟨⟨t0,t1⟩,t2,t3⟩:=HT.out w6 BW6.out
    go_upto_region 16 with fail
    have BWd:Hid (Below wr.heap.size wr w6.drew):=hid BW6.out.drew
    have Y6d:Hid (B2 w6.drew w5.heap.size (.slice none 0 0) (.int .i64 0)):=hid Y6.out
    have B6d:Hid (Below w5.heap.size w5 w6.drew):=hid B6.out.drew
    have S6d:Hid (w5.heap.size+1≤w6.drew.heap.size):=hid S6.out
    go_region_with (go_at_call 36;refine (HC.out w6.drew BWd.out).mono ?_;rintro e w7 ⟨⟨A9,m9,c9,r9,rfl,d9,f9⟩,b9⟩;have B7:=hid (B6d.out.trans (b9.mono B6d.out.size));have D7:=hid d9;have F7:=hid (f9.mono S6d.out);have Y7:=rb2 Y6d b9;clear b9 d9 f9 Y6 H6 X6;obtain ⟨y0,y0f⟩:=Y7.out 0 (by omega);obtain ⟨y1,y1f⟩:=Y7.out 1 (by omega))
    all_goals
     clear t0 t1 t2 t3 HT HC BW6 BWd Y6d B6d S6d x0 x1 x2 x3
     go_upto_region 21 with fail
     have BST:Hid (Below w5.heap.size w5 ((w7.setCell ⟨w5.heap.size,0,none⟩ (.slice A9 m9 c9)).setCell ⟨w5.heap.size,1,none⟩ (.int .i64 (r9:Int)))):=hid ((B7.out.setCell (Nat.le_refl _) _).setCell (Nat.le_refl _) _)
     have H9:=hid (H5.out.below BST.out)
     have D9:=hid (D7.out.put (H:=w5.heap.size) F7.out (.slice A9 m9 c9) (.int .i64 (r9:Int)))
     have Y9:=hid (box_set Y7.out (.slice A9 m9 c9) (.int .i64 (r9:Int)))
     have F9:=hid (F7.out.mono (show w.heap.size+1≤w5.heap.size+1 by have:=H5.out.szb;omega))
     have N9:=hid (H5.out.away (m:=m9) (F7.out.mono (by omega)))
     clear D7 F7 Y7 B7 BST H5 y0 y0f y1 y1f
     generalize ((w7.setCell ⟨w5.heap.size,0,none⟩ (.slice A9 m9 c9)).setCell ⟨w5.heap.size,1,none⟩ (.int .i64 (r9:Int)))=w9 at *
     obtain ⟨z0,z0f⟩:=Y9.out 0 (by omega)
     obtain ⟨z1,z1f⟩:=Y9.out 1 (by omega)
     have HO:=hid H9.out.own
     have HSZ:=hid H9.out.szb
     go_wp2_with (refine wpList_append_lies _ rfl _ _ _ rfl (w.heap.size+1) 31 i0 _ 2 32 Tryz.underlying62 hi hz0 hz1 hz2 rfl (by omega) (.slice (some ⟨q,0,none⟩) k cR) k cs rfl (HO.out.alloc _) _ _ _ [.slice A9 m9 c9,.int .i64 (r9:Int)] rfl rfl (World.news_of_block (heap_alloc_new _ _)) (by simp [Value.oneCell']) (by omega) (by simp only [maxLen];omega) (by omega) (by have:=HSZ.out;simp;omega) _ rfl ?_;intro gn cap w8 hown8 hgrow8 hat8 hlt8)
     have b8:=ab2 w9 (.cells #[.slice A9 m9 c9,.int .i64 (r9:Int)] 31)
     have H8:=hid (H9.out.below b8)
     have D8:=hid (D9.out.below b8)
     have S8:=hid b8.size
     have HW8:=hid (QgI.push H8.out hown8 hgrow8 (hat8.imp id fun q=>by simp [q]) D8.out F9.out N9.out)
     clear b8 H8 D8 H9 D9 Y9 F9 N9 HO hown8 hgrow8 hat8
     go_wp2
     go_roundw
     case rel=>exact ⟨k+1,_,by omega,by go_num,HW8⟩
     case measure=>simp [intOf];omega
   ·rw [h0] at d0
    obtain ⟨a,hae,hak⟩:=nat_of (oa (by omega))
    obtain ⟨b2,hbe,hbk⟩:=nat_of (ob (by omega))
    rw [hae] at d2
    rw [hbe] at d3
    have hg:(fun x=>val l x k)=fun x=>val l x a||val l x b2:=funext fun x=>by rw [val_or l x h0 (by rw [hae];omega) (by rw [hbe];omega),hae,hbe,Int.toNat_natCast,Int.toNat_natCast]
    have HG:=hid hg
    obtain ⟨q,cap,eq,hq1,hq2⟩:=hst.out.own.form (by omega)
    injection eq with eq1 _ eq3
    subst eq1 eq3
    obtain ⟨A0,m0,c0,r0,e0,e1,dd0,_⟩:=hst.out.ex a hak
    obtain ⟨A1,m1,c1,r1,e2,e3,dd1,_⟩:=hst.out.ex b2 hbk
    have t0:=(hst.out.own.cellAt (a*2) (by omega)).trans e0
    have t1:=(hst.out.own.cellAt (a*2+1) (by omega)).trans e1
    have t2:=(hst.out.own.cellAt (b2*2) (by omega)).trans e2
    have t3:=(hst.out.own.cellAt (b2*2+1) (by omega)).trans e3
    have HT:Hid (∀ W,Below wr.heap.size wr W→(W.cell? ⟨q,a*2,none⟩=some (.slice A0 m0 c0)∧W.cell? ⟨q,a*2+1,none⟩=some (.int .i64 (r0:Int)))∧W.cell? ⟨q,b2*2,none⟩=some (.slice A1 m1 c1)∧W.cell? ⟨q,b2*2+1,none⟩=some (.int .i64 (r1:Int))):=hid fun W hW=>⟨⟨DgC.cells hq2 hW _ t0,DgC.cells hq2 hW _ t1⟩,DgC.cells hq2 hW _ t2,DgC.cells hq2 hW _ t3⟩
    have HC:Hid (∀ W,Below wr.heap.size wr W→Calls Tryz.prog 37 #[.agg #[.slice A0 m0 c0,.int .i64 (r0:Int)],.agg #[.slice A1 m1 c1,.int .i64 (r1:Int)]] W fun e w'=>BinOk W w' (fun x=>val l x k) e):=hid fun W hW=>six_ror (rdn (hid dd0) hW) (rdn (hid dd1) hW) (hid (hlow.out a (by omega))) (hid (hlow.out b2 (by omega))) (hid HG.out.symm)
    have j1:(0:Int)≤(a:Int):=by omega
    have j2:(a:Int)<(k:Int):=by omega
    have j3:(0:Int)≤(b2:Int):=by omega
    have j4:(b2:Int)<(k:Int):=by omega
    clear oa ob h0 hV hg HG dd0 dd1 e0 e1 e2 e3 t0 t1 t2 t3 hae hbe hAR hcR
    have B4:Hid (Below wr.heap.size wr (wr.alloc (.cells #[.int .i64 5,.int .i64 (V:Int),.int .i64 (a:Int),.int .i64 (b2:Int)] 58))):=hid (ab2 wr _)
    have H4:=hid (hst.out.below B4.out)
    have X4:Hid (Blk (wr.alloc (.cells #[.int .i64 5,.int .i64 (V:Int),.int .i64 (a:Int),.int .i64 (b2:Int)] 58)) wr.heap.size 4 (fun i=>([.int .i64 5,.int .i64 (V:Int),.int .i64 (a:Int),.int .i64 (b2:Int)]:List Value).getD i undef)):=hid (Blk.new (w:=wr) (H:=wr.heap.size) rfl [.int .i64 5,.int .i64 (V:Int),.int .i64 (a:Int),.int .i64 (b2:Int)] 58)
    go_upto_region 8 with fail
    generalize wr.alloc (.cells #[.int .i64 5,.int .i64 (V:Int),.int .i64 (a:Int),.int .i64 (b2:Int)] 58)=w4 at *
    obtain ⟨x0,_⟩:=X4.out 0 (by omega)
    clear d0 d1 d2 d3
    go_wp2_with fail
    refine (rconstant_any false w4).mono ?_
    rintro e w5 ⟨rfl,b5⟩
    have H5:=hid (H4.out.below b5)
    have X5:=hid (X4.out.below (by omega) b5)
    have BW5:=hid (B4.out.trans (b5.mono B4.out.size))
    clear b5 H4 X4 x0 B4 hst
    have b6:=ab2 w5 (.cells #[.slice none 0 0,.int .i64 0] 31)
    have Y6:=nb2 w5 (.slice none 0 0) (.int .i64 0) 31
    have H6:=hid (H5.out.below b6)
    have X6:=hid (X5.out.below (by omega) b6)
    have B6:Hid (Below w5.heap.size w5 (w5.alloc (.cells #[.slice none 0 0,.int .i64 0] 31))):=hid b6
    have BW6:Hid (Below wr.heap.size wr (w5.alloc (.cells #[.slice none 0 0,.int .i64 0] 31))):=hid (BW5.out.trans (b6.mono BW5.out.size))
    have S6:Hid (w5.heap.size+1≤(w5.alloc (.cells #[.slice none 0 0,.int .i64 0] 31)).heap.size):=hid (by simp)
    clear b6 X5 BW5
    go_upto_region 9 with fail
    generalize w5.alloc (.cells #[.slice none 0 0,.int .i64 0] 31)=w6 at *
    obtain ⟨x0,_⟩:=X6.out 0 (by omega)
    obtain ⟨x1,_⟩:=X6.out 1 (by omega)
    obtain ⟨x2,_⟩:=X6.out 2 (by omega)
    obtain ⟨x3,_⟩:=X6.out 3 (by omega)
    obtain ⟨y0,y0f⟩:=Y6.out 0 (by omega)
    obtain ⟨y1,y1f⟩:=Y6.out 1 (by omega)
    obtain ⟨⟨t0,t1⟩,t2,t3⟩:=HT.out w6 BW6.out
    go_upto_region 18 with fail
    have BWd:Hid (Below wr.heap.size wr w6.drew):=hid BW6.out.drew
    have Y6d:Hid (B2 w6.drew w5.heap.size (.slice none 0 0) (.int .i64 0)):=hid Y6.out
    have B6d:Hid (Below w5.heap.size w5 w6.drew):=hid B6.out.drew
    have S6d:Hid (w5.heap.size+1≤w6.drew.heap.size):=hid S6.out
    go_region_with (go_at_call 37;refine (HC.out w6.drew BWd.out).mono ?_;rintro e w7 ⟨⟨A9,m9,c9,r9,rfl,d9,f9⟩,b9⟩;have B7:=hid (B6d.out.trans (b9.mono B6d.out.size));have D7:=hid d9;have F7:=hid (f9.mono S6d.out);have Y7:=rb2 Y6d b9;clear b9 d9 f9 Y6 H6 X6;obtain ⟨y0,y0f⟩:=Y7.out 0 (by omega);obtain ⟨y1,y1f⟩:=Y7.out 1 (by omega))
    all_goals
     clear t0 t1 t2 t3 HT HC BW6 BWd Y6d B6d S6d x0 x1 x2 x3
     go_upto_region 21 with fail
     have BST:Hid (Below w5.heap.size w5 ((w7.setCell ⟨w5.heap.size,0,none⟩ (.slice A9 m9 c9)).setCell ⟨w5.heap.size,1,none⟩ (.int .i64 (r9:Int)))):=hid ((B7.out.setCell (Nat.le_refl _) _).setCell (Nat.le_refl _) _)
     have H9:=hid (H5.out.below BST.out)
     have D9:=hid (D7.out.put (H:=w5.heap.size) F7.out (.slice A9 m9 c9) (.int .i64 (r9:Int)))
     have Y9:=hid (box_set Y7.out (.slice A9 m9 c9) (.int .i64 (r9:Int)))
     have F9:=hid (F7.out.mono (show w.heap.size+1≤w5.heap.size+1 by have:=H5.out.szb;omega))
     have N9:=hid (H5.out.away (m:=m9) (F7.out.mono (by omega)))
     clear D7 F7 Y7 B7 BST H5 y0 y0f y1 y1f
     generalize ((w7.setCell ⟨w5.heap.size,0,none⟩ (.slice A9 m9 c9)).setCell ⟨w5.heap.size,1,none⟩ (.int .i64 (r9:Int)))=w9 at *
     obtain ⟨z0,z0f⟩:=Y9.out 0 (by omega)
     obtain ⟨z1,z1f⟩:=Y9.out 1 (by omega)
     have HO:=hid H9.out.own
     have HSZ:=hid H9.out.szb
     go_wp2_with (refine wpList_append_lies _ rfl _ _ _ rfl (w.heap.size+1) 31 i0 _ 2 32 Tryz.underlying62 hi hz0 hz1 hz2 rfl (by omega) (.slice (some ⟨q,0,none⟩) k cR) k cs rfl (HO.out.alloc _) _ _ _ [.slice A9 m9 c9,.int .i64 (r9:Int)] rfl rfl (World.news_of_block (heap_alloc_new _ _)) (by simp [Value.oneCell']) (by omega) (by simp only [maxLen];omega) (by omega) (by have:=HSZ.out;simp;omega) _ rfl ?_;intro gn cap w8 hown8 hgrow8 hat8 hlt8)
     have b8:=ab2 w9 (.cells #[.slice A9 m9 c9,.int .i64 (r9:Int)] 31)
     have H8:=hid (H9.out.below b8)
     have D8:=hid (D9.out.below b8)
     have S8:=hid b8.size
     have HW8:=hid (QgI.push H8.out hown8 hgrow8 (hat8.imp id fun q=>by simp [q]) D8.out F9.out N9.out)
     clear b8 H8 D8 H9 D9 Y9 F9 N9 HO hown8 hgrow8 hat8
     go_wp2
     go_roundw
     case rel=>exact ⟨k+1,_,by omega,by go_num,HW8⟩
     case measure=>simp [intOf];omega
  ·obtain rfl:k=m:=by omega
   obtain ⟨q,cap,eq,hq1,hq2⟩:=hst.out.own.form (by omega)
   subst eq
   obtain ⟨A9,m9,c9,r9,e0,e1,D9,F9,_⟩:=hst.out.ex (k - 1) (by omega)
   have z0:=(hst.out.own.cellAt ((k - 1)*2) (by omega)).trans e0
   have z1:=(hst.out.own.cellAt ((k - 1)*2+1) (by omega)).trans e1
   obtain ⟨y0,y0f⟩:=hst.out.box 0 (by omega)
   obtain ⟨y1,y1f⟩:=hst.out.box 1 (by omega)
   have HB:=hid hst.out.bel
   have i1:¬ (k:Int)<(k:Int):=by omega
   have i2:(0:Int)≤(k:Int) - 1:=by omega
   have i3:(k:Int) - 1<(k:Int):=by omega
   have i4:IntKind.i64.wrap ((k:Int) - 1)=((k - 1:Nat):Int):=by rw [IntKind.wrap_i64];omega
   clear e0 e1
   go_wp2
   refine bodyPost_ret (v:=.tuple #[.agg #[.slice A9 m9 c9,.int .i64 (r9:Int)],.int .i64 0]) ?_ rfl ?_
   ·rw [results_cell_tmp rfl]
    go_simp
   ·exact ⟨⟨A9,m9,c9,r9,rfl,D9.put F9 _ _,F9.mono (by omega)⟩,(HB.out.setCell (Nat.le_refl _) _).setCell (Nat.le_refl _) _⟩
end Go.Proofs.YtpaednfinlaioaaGreatDoor
