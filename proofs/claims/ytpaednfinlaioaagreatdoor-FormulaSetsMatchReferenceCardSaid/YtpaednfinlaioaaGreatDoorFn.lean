/-
  Plain mathematics and contracts of package diagram, several texts in one: FXor, FSan.
-/
import Derived.Test.YtpaednfinlaioaaGreatDoorNa
import Derived.Test.YtpaednfinlaioaaGreatDoorFm
import Derived.Test.YtpaednfinlaioaaGreatDoorMg
set_option maxHeartbeats 8000000
set_option maxRecDepth 100000
namespace Go.Proofs.YtpaednfinlaioaaGreatDoor
open Go.Lib (hid)
open Go.RowKit Dg St
set_option linter.unusedVariables false
set_option linter.unusedSimpArgs false
attribute [local go_sem ↓] Go.wp_at_zero Go.wp_at_succ
theorem ropD {w:World} (op T:Nat) (bop:Bool→Bool→Bool) (hop:Hid (OpT op T bop)) {A0:Option Addr} {m0 c0:Nat} {l0:List Bi} {r0:Int} {A1:Option Addr} {m1 c1:Nat} {l1:List Bi} {r1:Int} (h0:Hid (DOk w (⟨A0,m0,c0,l0,r0⟩:DA))) (q0:m0≤40) (h1:Hid (DOk w (⟨A1,m1,c1,l1,r1⟩:DA))) (q1:m1≤40) (k0:chk l0 r0=0) (k1:chk l1 r1=0) :
  Calls Tryz.prog 61 #[.agg #[.slice A0 m0 c0,.int .i64 r0],.agg #[.slice A1 m1 c1,.int .i64 r1],.int .i64 (op:Int)] w fun e w'=>BinOk w w' (fun x=>bop (dset l0 r0 x) (dset l1 r1 x)) e:=by
 have b0:=ab2 w (.cells #[.slice A0 m0 c0,.int .i64 r0] 31)
 have b1:=ab2 (w.alloc (.cells #[.slice A0 m0 c0,.int .i64 r0] 31)) (.cells #[.slice A1 m1 c1,.int .i64 r1] 31)
 have b2:=ab2 ((w.alloc (.cells #[.slice A0 m0 c0,.int .i64 r0] 31)).alloc (.cells #[.slice A1 m1 c1,.int .i64 r1] 31)) (.cells #[.slice none 0 0,.int .i64 0] 31)
 have b3:=ab2 (((w.alloc (.cells #[.slice A0 m0 c0,.int .i64 r0] 31)).alloc (.cells #[.slice A1 m1 c1,.int .i64 r1] 31)).alloc (.cells #[.slice none 0 0,.int .i64 0] 31)) (.cells #[.slice A0 m0 c0,.int .i64 r0,.slice A1 m1 c1,.int .i64 r1] 31)
 have X0:Hid (Blk (w.alloc (.cells #[.slice A0 m0 c0,.int .i64 r0] 31)) (w.heap.size) 2 (fun i=>([.slice A0 m0 c0,.int .i64 r0]:List Value).getD i undef)):=hid (Blk.new (w:=w) (H:=w.heap.size) (by simp) [.slice A0 m0 c0,.int .i64 r0] 31)
 replace X0:Hid (Blk ((w.alloc (.cells #[.slice A0 m0 c0,.int .i64 r0] 31)).alloc (.cells #[.slice A1 m1 c1,.int .i64 r1] 31)) (w.heap.size) 2 (fun i=>([.slice A0 m0 c0,.int .i64 r0]:List Value).getD i undef)):=hid (X0.out.below (by omega) b1)
 replace X0:Hid (Blk (((w.alloc (.cells #[.slice A0 m0 c0,.int .i64 r0] 31)).alloc (.cells #[.slice A1 m1 c1,.int .i64 r1] 31)).alloc (.cells #[.slice none 0 0,.int .i64 0] 31)) (w.heap.size) 2 (fun i=>([.slice A0 m0 c0,.int .i64 r0]:List Value).getD i undef)):=hid (X0.out.below (by omega) b2)
 replace X0:Hid (Blk ((((w.alloc (.cells #[.slice A0 m0 c0,.int .i64 r0] 31)).alloc (.cells #[.slice A1 m1 c1,.int .i64 r1] 31)).alloc (.cells #[.slice none 0 0,.int .i64 0] 31)).alloc (.cells #[.slice A0 m0 c0,.int .i64 r0,.slice A1 m1 c1,.int .i64 r1] 31)) (w.heap.size) 2 (fun i=>([.slice A0 m0 c0,.int .i64 r0]:List Value).getD i undef)):=hid (X0.out.below (by omega) b3)
 have X1:Hid (Blk ((w.alloc (.cells #[.slice A0 m0 c0,.int .i64 r0] 31)).alloc (.cells #[.slice A1 m1 c1,.int .i64 r1] 31)) (w.heap.size+1) 2 (fun i=>([.slice A1 m1 c1,.int .i64 r1]:List Value).getD i undef)):=hid (Blk.new (w:=(w.alloc (.cells #[.slice A0 m0 c0,.int .i64 r0] 31))) (H:=w.heap.size+1) (by simp) [.slice A1 m1 c1,.int .i64 r1] 31)
 replace X1:Hid (Blk (((w.alloc (.cells #[.slice A0 m0 c0,.int .i64 r0] 31)).alloc (.cells #[.slice A1 m1 c1,.int .i64 r1] 31)).alloc (.cells #[.slice none 0 0,.int .i64 0] 31)) (w.heap.size+1) 2 (fun i=>([.slice A1 m1 c1,.int .i64 r1]:List Value).getD i undef)):=hid (X1.out.below (by omega) b2)
 replace X1:Hid (Blk ((((w.alloc (.cells #[.slice A0 m0 c0,.int .i64 r0] 31)).alloc (.cells #[.slice A1 m1 c1,.int .i64 r1] 31)).alloc (.cells #[.slice none 0 0,.int .i64 0] 31)).alloc (.cells #[.slice A0 m0 c0,.int .i64 r0,.slice A1 m1 c1,.int .i64 r1] 31)) (w.heap.size+1) 2 (fun i=>([.slice A1 m1 c1,.int .i64 r1]:List Value).getD i undef)):=hid (X1.out.below (by omega) b3)
 have X2:Hid (Blk (((w.alloc (.cells #[.slice A0 m0 c0,.int .i64 r0] 31)).alloc (.cells #[.slice A1 m1 c1,.int .i64 r1] 31)).alloc (.cells #[.slice none 0 0,.int .i64 0] 31)) (w.heap.size+1+1) 2 (fun i=>([.slice none 0 0,.int .i64 0]:List Value).getD i undef)):=hid (Blk.new (w:=((w.alloc (.cells #[.slice A0 m0 c0,.int .i64 r0] 31)).alloc (.cells #[.slice A1 m1 c1,.int .i64 r1] 31))) (H:=w.heap.size+1+1) (by simp) [.slice none 0 0,.int .i64 0] 31)
 replace X2:Hid (Blk ((((w.alloc (.cells #[.slice A0 m0 c0,.int .i64 r0] 31)).alloc (.cells #[.slice A1 m1 c1,.int .i64 r1] 31)).alloc (.cells #[.slice none 0 0,.int .i64 0] 31)).alloc (.cells #[.slice A0 m0 c0,.int .i64 r0,.slice A1 m1 c1,.int .i64 r1] 31)) (w.heap.size+1+1) 2 (fun i=>([.slice none 0 0,.int .i64 0]:List Value).getD i undef)):=hid (X2.out.below (by omega) b3)
 have X3:Hid (Blk ((((w.alloc (.cells #[.slice A0 m0 c0,.int .i64 r0] 31)).alloc (.cells #[.slice A1 m1 c1,.int .i64 r1] 31)).alloc (.cells #[.slice none 0 0,.int .i64 0] 31)).alloc (.cells #[.slice A0 m0 c0,.int .i64 r0,.slice A1 m1 c1,.int .i64 r1] 31)) (w.heap.size+1+1+1) 4 (fun i=>([.slice A0 m0 c0,.int .i64 r0,.slice A1 m1 c1,.int .i64 r1]:List Value).getD i undef)):=hid (Blk.new (w:=(((w.alloc (.cells #[.slice A0 m0 c0,.int .i64 r0] 31)).alloc (.cells #[.slice A1 m1 c1,.int .i64 r1] 31)).alloc (.cells #[.slice none 0 0,.int .i64 0] 31))) (H:=w.heap.size+1+1+1) (by simp) [.slice A0 m0 c0,.int .i64 r0,.slice A1 m1 c1,.int .i64 r1] 31)
 have HB0:Hid (Below w.heap.size w ((((w.alloc (.cells #[.slice A0 m0 c0,.int .i64 r0] 31)).alloc (.cells #[.slice A1 m1 c1,.int .i64 r1] 31)).alloc (.cells #[.slice none 0 0,.int .i64 0] 31)).alloc (.cells #[.slice A0 m0 c0,.int .i64 r0,.slice A1 m1 c1,.int .i64 r1] 31))):=hid (((b0.trans (b1.mono b0.size)).trans (b2.mono (b0.trans (b1.mono b0.size)).size)).trans (b3.mono ((b0.trans (b1.mono b0.size)).trans (b2.mono (b0.trans (b1.mono b0.size)).size)).size))
 have HW0:Hid (((((w.alloc (.cells #[.slice A0 m0 c0,.int .i64 r0] 31)).alloc (.cells #[.slice A1 m1 c1,.int .i64 r1] 31)).alloc (.cells #[.slice none 0 0,.int .i64 0] 31)).alloc (.cells #[.slice A0 m0 c0,.int .i64 r0,.slice A1 m1 c1,.int .i64 r1] 31)).heap.size=w.heap.size+1+1+1+1):=hid (by simp)
 clear b0 b1 b2 b3
 have HF:Hid (∀ W,Below w.heap.size w W→Blk W (w.heap.size+1+1+1) 4 (fun i=>([.slice A0 m0 c0,.int .i64 r0,.slice A1 m1 c1,.int .i64 r1]:List Value).getD i undef)→Calls Tryz.prog 98 #[.slice (some ⟨w.heap.size+1+1+1,0,none⟩) 2 2] W fun e w'=>e=.returned (.int .i64 (chkAll [(⟨A0,m0,c0,l0,r0⟩:DA),(⟨A1,m1,c1,l1,r1⟩:DA)]))∧Below W.heap.size W w'):=hid (fun W hW hblk=>pair_list (dkh h0 hW) q0 (dkh h1 hW) q1 (hid hblk))
 have hk:chkAll [(⟨A0,m0,c0,l0,r0⟩:DA),(⟨A1,m1,c1,l1,r1⟩:DA)]=0:=chkAll_ok (by
  intro d hd
  simp only [List.mem_cons,List.not_mem_nil,or_false] at hd
  rcases hd with rfl | rfl
  ·exact k0
  ·exact k1)
 rw [hk] at HF
 have D0:=hid (dn_dset h0.out k0)
 have D1:=hid (dn_dset h1.out k1)
 have e0:=chk_nat k0
 have e1:=chk_nat k1
 clear k0 k1 h0 h1 hk
 generalize dset l0 r0=f0 at *
 generalize dset l1 r1=f1 at *
 generalize r0.toNat=n0 at *
 generalize r1.toNat=n1 at *
 subst e0
 subst e1
 have HSZ:=hid (bin_small D0.out D1.out q0 q1 bop)
 have HC:Hid (∀ W,Below w.heap.size w W→Calls Tryz.prog 99 #[.agg #[.slice A0 m0 c0,.int .i64 (n0:Int)],.agg #[.slice A1 m1 c1,.int .i64 (n1:Int)],.int .i64 (op:Int)] W fun e w'=>DiaOk W w' (fun x=>bop (f0 x) (f1 x)) e) :=
  hid (fun W hW=>rcombine_ok op T m0 c0 n0 m1 c1 n1 bop A0 A1 f0 f1 W hop (rdn D0 hW) (rdn D1 hW) (hid (by have:(m0+2)*(m1+2)≤42*42:=Nat.mul_le_mul (by omega) (by omega);omega)) HSZ)
 clear D0 D1
 go_enter Tryz.func61,Tryz.ntmps61
 go_wp2_with fail
 generalize ((((w.alloc (.cells #[.slice A0 m0 c0,.int .i64 (n0:Int)] 31)).alloc (.cells #[.slice A1 m1 c1,.int .i64 (n1:Int)] 31)).alloc (.cells #[.slice none 0 0,.int .i64 0] 31)).alloc (.cells #[.slice A0 m0 c0,.int .i64 (n0:Int),.slice A1 m1 c1,.int .i64 (n1:Int)] 31))=w1 at *
 with_reducible refine (HF.out w1 HB0.out X3.out).mono ?_
 rintro e w3 ⟨rfl,b3⟩
 replace X0:=rb2 X0 b3
 replace X1:=rb2 X1 b3
 replace X2:=rb2 X2 b3
 have HW3:Hid (w.heap.size+1+1+1+1≤w3.heap.size):=hid (by have:=HW0.out;have:=b3.size;omega)
 have HB3:=btr HB0 b3 HB0.out.size
 clear b3 HB0 X3 HF HW0
 obtain ⟨x0,x1,xn⟩:=xb2 X0
 obtain ⟨u0,u1,un⟩:=xb2 X1
 go_wp2_with fail
 with_reducible refine (HC.out w3 HB3.out).mono ?_
 rintro e w6 ⟨⟨A9,m9,c9,r9,rfl,d9,f9⟩,b9⟩
 replace X2:=rb2 X2 b9
 have D9:=hid d9
 have F9:=hid (f9.mono (show w.heap.size+1+1+1+1≤_ from HW3.out))
 have HB6:=btr HB3 b9 HB3.out.size
 clear d9 f9 b9 HC x0 x1 xn u0 u1 un
 go_wp2_with fail
 with_reducible refine (rlimited_ok D9).mono ?_
 rintro e w7 ⟨rfl,d7,b7⟩
 replace X2:=rb2 X2 b7
 have D7:=hid d7
 have HB7:=btr HB6 b7 HB6.out.size
 clear d7 b7 D9
 obtain ⟨y0,y0f⟩:=X2.out 0 (by omega)
 obtain ⟨y1,y1f⟩:=X2.out 1 (by omega)
 go_wp2
 refine bodyPost_ret (v:=.tuple #[.agg #[.slice A9 m9 c9,.int .i64 (r9:Int)],.int .i64 0]) ?_ rfl ?_
 ·rw [results_cell_tmp rfl]
  go_simp
 ·exact ⟨⟨A9,m9,c9,r9,rfl,D7.out.put (F9.out.mono (by omega)) _ _,F9.out.mono (by omega)⟩,(HB7.out.setCell (by show w.heap.size≤w.heap.size+1+1;omega) _).setCell (by show w.heap.size≤w.heap.size+1+1;omega) _⟩
theorem rxorD {w:World} {A0:Option Addr} {m0 c0:Nat} {l0:List Bi} {r0:Int} {A1:Option Addr} {m1 c1:Nat} {l1:List Bi} {r1:Int} (h0:Hid (DOk w (⟨A0,m0,c0,l0,r0⟩:DA))) (q0:m0≤40) (h1:Hid (DOk w (⟨A1,m1,c1,l1,r1⟩:DA))) (q1:m1≤40) (k0:chk l0 r0=0) (k1:chk l1 r1=0) :
  Calls Tryz.prog 30 #[.agg #[.slice A0 m0 c0,.int .i64 r0],.agg #[.slice A1 m1 c1,.int .i64 r1]] w fun e w'=>BinOk w w' (fun x=>dset l0 r0 x != dset l1 r1 x) e:=by
 have b0:=ab2 w (.cells #[.slice A0 m0 c0,.int .i64 r0] 31)
 have b1:=ab2 (w.alloc (.cells #[.slice A0 m0 c0,.int .i64 r0] 31)) (.cells #[.slice A1 m1 c1,.int .i64 r1] 31)
 have b2:=ab2 ((w.alloc (.cells #[.slice A0 m0 c0,.int .i64 r0] 31)).alloc (.cells #[.slice A1 m1 c1,.int .i64 r1] 31)) (.cells #[.slice none 0 0,.int .i64 0] 31)
 have X0:Hid (Blk (w.alloc (.cells #[.slice A0 m0 c0,.int .i64 r0] 31)) (w.heap.size) 2 (fun i=>([.slice A0 m0 c0,.int .i64 r0]:List Value).getD i undef)):=hid (Blk.new (w:=w) (H:=w.heap.size) (by simp) [.slice A0 m0 c0,.int .i64 r0] 31)
 replace X0:Hid (Blk ((w.alloc (.cells #[.slice A0 m0 c0,.int .i64 r0] 31)).alloc (.cells #[.slice A1 m1 c1,.int .i64 r1] 31)) (w.heap.size) 2 (fun i=>([.slice A0 m0 c0,.int .i64 r0]:List Value).getD i undef)):=hid (X0.out.below (by omega) b1)
 replace X0:Hid (Blk (((w.alloc (.cells #[.slice A0 m0 c0,.int .i64 r0] 31)).alloc (.cells #[.slice A1 m1 c1,.int .i64 r1] 31)).alloc (.cells #[.slice none 0 0,.int .i64 0] 31)) (w.heap.size) 2 (fun i=>([.slice A0 m0 c0,.int .i64 r0]:List Value).getD i undef)):=hid (X0.out.below (by omega) b2)
 have X1:Hid (Blk ((w.alloc (.cells #[.slice A0 m0 c0,.int .i64 r0] 31)).alloc (.cells #[.slice A1 m1 c1,.int .i64 r1] 31)) (w.heap.size+1) 2 (fun i=>([.slice A1 m1 c1,.int .i64 r1]:List Value).getD i undef)):=hid (Blk.new (w:=(w.alloc (.cells #[.slice A0 m0 c0,.int .i64 r0] 31))) (H:=w.heap.size+1) (by simp) [.slice A1 m1 c1,.int .i64 r1] 31)
 replace X1:Hid (Blk (((w.alloc (.cells #[.slice A0 m0 c0,.int .i64 r0] 31)).alloc (.cells #[.slice A1 m1 c1,.int .i64 r1] 31)).alloc (.cells #[.slice none 0 0,.int .i64 0] 31)) (w.heap.size+1) 2 (fun i=>([.slice A1 m1 c1,.int .i64 r1]:List Value).getD i undef)):=hid (X1.out.below (by omega) b2)
 have X2:Hid (Blk (((w.alloc (.cells #[.slice A0 m0 c0,.int .i64 r0] 31)).alloc (.cells #[.slice A1 m1 c1,.int .i64 r1] 31)).alloc (.cells #[.slice none 0 0,.int .i64 0] 31)) (w.heap.size+1+1) 2 (fun i=>([.slice none 0 0,.int .i64 0]:List Value).getD i undef)):=hid (Blk.new (w:=((w.alloc (.cells #[.slice A0 m0 c0,.int .i64 r0] 31)).alloc (.cells #[.slice A1 m1 c1,.int .i64 r1] 31))) (H:=w.heap.size+1+1) (by simp) [.slice none 0 0,.int .i64 0] 31)
 have HB0:Hid (Below w.heap.size w (((w.alloc (.cells #[.slice A0 m0 c0,.int .i64 r0] 31)).alloc (.cells #[.slice A1 m1 c1,.int .i64 r1] 31)).alloc (.cells #[.slice none 0 0,.int .i64 0] 31))):=hid ((b0.trans (b1.mono b0.size)).trans (b2.mono (b0.trans (b1.mono b0.size)).size))
 have HW0:Hid ((((w.alloc (.cells #[.slice A0 m0 c0,.int .i64 r0] 31)).alloc (.cells #[.slice A1 m1 c1,.int .i64 r1] 31)).alloc (.cells #[.slice none 0 0,.int .i64 0] 31)).heap.size=w.heap.size+1+1+1):=hid (by simp)
 clear b0 b1 b2
 have HC:Hid (∀ W,Below w.heap.size w W→Calls Tryz.prog 61 #[.agg #[.slice A0 m0 c0,.int .i64 r0],.agg #[.slice A1 m1 c1,.int .i64 r1],.int .i64 2] W fun e w'=>BinOk W w' (fun x=>dset l0 r0 x != dset l1 r1 x) e):=hid (fun W hW=>ropD 2 102 (fun p q=>p != q) (hid opt_xor) (dkh h0 hW) q0 (dkh h1 hW) q1 k0 k1)
 clear h0 h1
 go_enter Tryz.func30,Tryz.ntmps30
 go_upto_region 1 with fail
 generalize (((w.alloc (.cells #[.slice A0 m0 c0,.int .i64 r0] 31)).alloc (.cells #[.slice A1 m1 c1,.int .i64 r1] 31)).alloc (.cells #[.slice none 0 0,.int .i64 0] 31))=w1 at *
 obtain ⟨x0,x1,xn⟩:=xb2 X0
 obtain ⟨u0,u1,un⟩:=xb2 X1
 go_wp2_with fail
 with_reducible refine (HC.out w1 HB0.out).mono ?_
 rintro e w3 ⟨⟨A9,m9,c9,r9,rfl,d9,f9⟩,b9⟩
 replace X2:=rb2 X2 b9
 have HB3:=btr HB0 b9 HB0.out.size
 have D9:=hid d9
 have F9:=hid (f9.mono (show w.heap.size+1+1+1≤w1.heap.size by have:=HW0.out;omega))
 clear d9 f9 b9 HC x0 x1 xn u0 u1 un
 obtain ⟨y0,y0f⟩:=X2.out 0 (by omega)
 obtain ⟨y1,y1f⟩:=X2.out 1 (by omega)
 go_wp2
 refine bodyPost_ret (v:=.tuple #[.agg #[.slice A9 m9 c9,.int .i64 (r9:Int)],.int .i64 0]) ?_ rfl ?_
 ·rw [results_cell_tmp rfl]
  go_simp
 ·exact ⟨⟨A9,m9,c9,r9,rfl,D9.out.put (F9.out.mono (by omega)) _ _,F9.out.mono (by omega)⟩,(HB3.out.setCell (by show w.heap.size≤w.heap.size+1+1;omega) _).setCell (by show w.heap.size≤w.heap.size+1+1;omega) _⟩
set_option linter.unusedVariables false
set_option linter.unusedSimpArgs false
attribute [local go_sem ↓] Go.wp_at_zero Go.wp_at_succ
theorem rstr_new (w:World) (L:List ByteArray):Rstr (w.alloc (.cells (L.map Value.string).toArray 9)) (w.alloc (.cells (L.map Value.string).toArray 9)).heap.size (some ⟨w.heap.size,0,none⟩) L:=fun h=>by
 refine ⟨w.heap.size,0,rfl,by simp,fun j hj=>?_⟩
 rw [cell_of_row _ _ _ _ _ _ (heap_alloc_new w _),Nat.zero_add]
 unfold sg
 rw [List.getD_eq_getElem?_getD,List.getElem?_eq_getElem hj]
 simp [hj]
theorem rf_new (w:World) (l:List Fi):Rf (w.alloc (.cells (fiC l).toArray 58)) (w.alloc (.cells (fiC l).toArray 58)).heap.size (some ⟨w.heap.size,0,none⟩) l:=fun h=>by
 refine ⟨w.heap.size,0,rfl,by simp,fun j hj=>?_⟩
 have at_:∀ i:Nat,i<4→∀ u:Value,(c4 (l.getD j (0,0,0,0)))[i]? = some u→(w.alloc (.cells (fiC l).toArray 58)).cell? ⟨w.heap.size,j*4+i,none⟩=some u:=fun i hi u hu=>(cell_of_row _ _ (j*4+i) _ _ _ (heap_alloc_new w (.cells (fiC l).toArray 58))).trans (by
  rw [List.getElem?_toArray]
  exact (fiC_at l j i hj hi).trans hu)
 rw [Nat.zero_add]
 exact ⟨at_ 0 (by omega) _ rfl,at_ 1 (by omega) _ rfl,at_ 2 (by omega) _ rfl,at_ 3 (by omega) _ rfl⟩
theorem L3_size:∀ j,(sg L3 j).size≤1048576:=fun j=>by
 rcases (show j=0∨j=1∨j=2∨3≤j by omega) with rfl | rfl | rfl | h
 ·decide
 ·decide
 ·decide
 ·unfold sg
  rw [List.getD_eq_getElem?_getD,List.getElem?_eq_none (by exact h)]
  decide
theorem wi_x (v:Nat) (hv:v<64):Wi (up [(v,0,1)]):=wi_up (M:=[(v,0,1)]) (by
 intro k hk
 have e:k=0:=by
  have:k<1:=hk
  omega
 subst e
 refine ⟨hv,by show (0:Nat)<_;omega,by show (1:Nat)<_;omega,hv,hv⟩) (by show (1:Nat)≤_;omega)
theorem dn_x {w:World} {A:Option Addr} (v:Nat) (hv:v<64) (h:Rd w w.heap.size A (up [(v,0,1)])):DOk w ⟨A,1,1,up [(v,0,1)],2⟩ :=
 ⟨h,wi_x v hv,rfl,by show (1:Nat)≤_;omega,Nat.le_refl _,⟨by show (_:Int)≤2;omega,by show (2:Int)≤_;omega⟩⟩
theorem wi_3:Wi (up [(1,0,1),(1,1,0),(0,2,3)]):=wi_up (vb_valid (r:=4) (by decide +kernel)).good.ord (by show (3:Nat)≤_;omega)
abbrev Nm (H:Nat):Option Addr:=some ⟨H,0,none⟩
def sA:List UInt8:=[33,65,32,38,38,32,66]
def sR:List UInt8:=[65,32,38,38,32,40,66,32,38,38,32,67,41]
def sX:List UInt8:=[65,32,38,38,32,33,66,32,124,124,32,33,65,32,38,38,32,66]
theorem fsanity_ok (w:World):Calls Tryz.prog 7 #[] w fun e w'=>e=.returned (.bool true)∧Below w.heap.size w w':=by
 have HPW:Hid (∀ (H:Nat) (W:World),Rstr W W.heap.size (Nm H) L3→Calls Tryz.prog 28 #[.slice (some ⟨H,0,none⟩) 3 3,.string ⟨#[33,65,32,38,38,32,66]⟩] W fun e w'=>PsR W w' (fW,0) e):=hid (fun H W h=>by
  have:=pparse_any (Nm H) 3 3 L3 tW W (hid rfl) (by omega) (Nat.le_refl _) (hid (fun j=>by have:=L3_size j;omega)) (hid h) (by decide) (hid (by rw [prs_W];exact fun q=>by cases q))
  rw [prsV_W] at this
  exact this)
 have HPA:Hid (∀ (H:Nat) (W:World),Rstr W W.heap.size (Nm H) L3→Calls Tryz.prog 28 #[.slice (some ⟨H,0,none⟩) 3 3,.string ⟨#[65,32,38,38]⟩] W fun e w'=>PsR W w' ([],31) e):=hid (fun H W h=>by
  have:=pparse_any (Nm H) 3 3 L3 tA W (hid rfl) (by omega) (Nat.le_refl _) (hid (fun j=>by have:=L3_size j;omega)) (hid h) (by decide) (hid (by rw [prs_A];exact fun q=>by cases q))
  rw [prsV_A] at this
  exact this)
 have HPD:Hid (∀ (H:Nat) (W:World),Rstr W W.heap.size (Nm H) L3→Calls Tryz.prog 28 #[.slice (some ⟨H,0,none⟩) 3 3,.string ⟨#[65,32,38,38,32,68]⟩] W fun e w'=>PsR W w' ([],3) e):=hid (fun H W h=>by
  have:=pparse_any (Nm H) 3 3 L3 tD W (hid rfl) (by omega) (Nat.le_refl _) (hid (fun j=>by have:=L3_size j;omega)) (hid h) (by decide) (hid (by rw [prs_D];exact fun q=>by cases q))
  rw [prsV_D] at this
  exact this)
 have HQW:Hid (∀ (H:Nat) (A:Option Addr) (c:Nat) (W:World),Rstr W W.heap.size (Nm H) L3→Rf W W.heap.size A fW→4≤c→Calls Tryz.prog 23 #[.slice (some ⟨H,0,none⟩) 3 3,.slice A 4 c] W fun e w'=>(∃ S:ByteArray,e=.returned (.tuple #[.string S,.int .i64 0])∧S.data.toList=sA)∧Below W.heap.size W w'):=hid (fun H A c W h1 h2 h3=>by
  refine (fprint_any (Nm H) 3 3 A 4 c fW L3 W (hid rfl) (hid rfl) (by omega) (by omega) (Nat.le_refl _) h3 (hid L3_size) (hid h2) (hid h1)).mono ?_
  rintro e w' ⟨rfl,hb⟩
  rw [prt_W.1,prt_W.2]
  exact ⟨⟨_,rfl,rfl⟩,hb⟩)
 have HQR:Hid (∀ (H:Nat) (A:Option Addr) (c:Nat) (W:World),Rstr W W.heap.size (Nm H) L3→Rf W W.heap.size A fR→5≤c→Calls Tryz.prog 23 #[.slice (some ⟨H,0,none⟩) 3 3,.slice A 5 c] W fun e w'=>(∃ S:ByteArray,e=.returned (.tuple #[.string S,.int .i64 0])∧S.data.toList=sR)∧Below W.heap.size W w'):=hid (fun H A c W h1 h2 h3=>by
  refine (fprint_any (Nm H) 3 3 A 5 c fR L3 W (hid rfl) (hid rfl) (by omega) (by omega) (Nat.le_refl _) h3 (hid L3_size) (hid h2) (hid h1)).mono ?_
  rintro e w' ⟨rfl,hb⟩
  rw [prt_R.1,prt_R.2]
  exact ⟨⟨_,rfl,rfl⟩,hb⟩)
 have HV0:Hid (∀ W:World,Calls Tryz.prog 29 #[.int .i64 0] W fun e w'=>∃ A,e=.returned (.tuple #[.agg #[.slice A 1 1,.int .i64 2],.int .i64 0])∧Rd w' w'.heap.size A (up [(0,0,1)])∧Below W.heap.size W w'):=hid (fun W=>rvar_ok 0 W (by omega))
 have HV1:Hid (∀ W:World,Calls Tryz.prog 29 #[.int .i64 1] W fun e w'=>∃ A,e=.returned (.tuple #[.agg #[.slice A 1 1,.int .i64 2],.int .i64 0])∧Rd w' w'.heap.size A (up [(1,0,1)])∧Below W.heap.size W w'):=hid (fun W=>rvar_ok 1 W (by omega))
 have HXR:Hid (∀ (A B:Option Addr) (W:World),Rd W W.heap.size A (up [(0,0,1)])→Rd W W.heap.size B (up [(1,0,1)])→Calls Tryz.prog 30 #[.agg #[.slice A 1 1,.int .i64 2],.agg #[.slice B 1 1,.int .i64 2]] W fun e w'=>∃ D c,e=.returned (.tuple #[.agg #[.slice D 3 c,.int .i64 4],.int .i64 0])∧DOk w' ⟨D,3,c,up [(1,0,1),(1,1,0),(0,2,3)],4⟩∧Below W.heap.size W w'):=hid (fun A B W h1 h2=>by
  have k0:chk (up [(0,0,1)]) 2=0:=by decide +kernel
  have k1:chk (up [(1,0,1)]) 2=0:=by decide +kernel
  refine (rxorD (hid (dn_x 0 (by omega) h1)) (by omega) (hid (dn_x 1 (by omega) h2)) (by omega) k0 k1).mono ?_
  rintro e w' ⟨⟨D,m,c,r,rfl,hd,_⟩,hb⟩
  have e1:(fun x:Cfg=>dset (up [(0,0,1)]) 2 x != dset (up [(1,0,1)]) 2 x)=fun c=>c 0 != c 1:=by
   funext x
   simp [dset,dn_up,Den,den,bv,bl,bh]
  rw [e1] at hd
  have h1:=hd.len
  have h2:=hd.rd
  have h3:=hd.rt
  have h4:=hd.mc
  rw [cn_xor01] at h1 h2 h3
  have hm:m=3:=h1.symm
  have hr:r=4:=h3.symm
  subst hm
  subst hr
  exact ⟨D,c,rfl,⟨h2,wi_3,rfl,by show (3:Nat)≤_;omega,h4,⟨by show (_:Int)≤4;omega,by show (4:Int)≤_;omega⟩⟩,hb⟩)
 have HTX:Hid (∀ (H:Nat) (D:Option Addr) (c:Nat) (W:World),Rstr W W.heap.size (Nm H) L3→DOk W ⟨D,3,c,up [(1,0,1),(1,1,0),(0,2,3)],4⟩→Calls Tryz.prog 14 #[.slice (some ⟨H,0,none⟩) 3 3,.agg #[.slice D 3 c,.int .i64 4]] W fun e w'=>(∃ S:ByteArray,e=.returned (.tuple #[.string S,.int .i64 0])∧S.data.toList=sX)∧Below W.heap.size W w'):=hid (fun H D c W h1 h2=>by
  refine (ftext_any (Nm H) 3 3 L3 (.slice D 3 c) (.int .i64 4) (fX,0) W (hid rfl) (by omega) (Nat.le_refl _) (hid L3_size) (hid h1) (hid (by decide)) (hid (fun W' hW=>fof_ok 3 c 4 D [(1,0,1),(1,1,0),(0,2,3)] (fX,[1,1,2,4,1,2,1,4,9]) W' (hid (h2.below hW)) (hid (by decide +kernel)) (hid exF_X) (fX,0) (hid rfl)))).mono ?_
  rintro e w' ⟨rfl,hb⟩
  rw [txt_X.1,txt_X.2]
  exact ⟨⟨_,rfl,rfl⟩,hb⟩)
 have HSM:Hid (∀ (A A':Option Addr) (c c':Nat) (W:World),Rf W W.heap.size A fW→Rf W W.heap.size A' fW→Calls Tryz.prog 18 #[.slice A 4 c,.slice A' 4 c'] W fun e w'=>e=.returned (.bool true)∧Below W.heap.size W w'):=hid (fun A A' c c' W h1 h2=>by
  have:=qsame_any A A' 4 c 4 c' fW fW W (hid rfl) (hid rfl) (by omega) (hid h1) (hid h2)
  rw [decide_eq_true (rfl:fW=fW)] at this
  exact this)
 have HCW:Hid (∀ (A:Option Addr) (c:Nat) (W:World),Rf W W.heap.size A fW→Calls Tryz.prog 31 #[.slice A 4 c] W fun e w'=>e=.returned (.int .i64 0)∧Below W.heap.size W w'):=hid (fun A c W h=>by
  have:=fcheck_any A 4 c fW W (hid rfl) (hid h)
  rw [show chF fW=0 from if_pos okF_W] at this
  exact this)
 have HCN:Hid (∀ (W:World),Calls Tryz.prog 31 #[.slice none 0 0] W fun e w'=>e=.returned (.int .i64 30)∧Below W.heap.size W w'):=hid (fun W=>by
  have:=fcheck_any none 0 0 [] W (hid rfl) (hid Rf.nil)
  rw [show chF []=30 from if_neg (by decide +kernel)] at this
  exact this)
 have RS:Hid (Rstr (w.alloc (.cells #[.string ⟨#[65]⟩,.string ⟨#[66]⟩,.string ⟨#[67]⟩] 9)) (w.alloc (.cells #[.string ⟨#[65]⟩,.string ⟨#[66]⟩,.string ⟨#[67]⟩] 9)).heap.size (Nm w.heap.size) L3):=hid (rstr_new w L3)
 have HB:Hid (Below w.heap.size w (w.alloc (.cells #[.string ⟨#[65]⟩,.string ⟨#[66]⟩,.string ⟨#[67]⟩] 9))):=hid (ab2 w _)
 go_enter Tryz.func7,Tryz.ntmps7
 go_wp2_with fail
 generalize hH:w.heap.size=H at *
 have HH:=hid hH
 clear hH
 generalize w.alloc (.cells #[.string ⟨#[65]⟩,.string ⟨#[66]⟩,.string ⟨#[67]⟩] 9)=w1 at *
 with_reducible refine (HPW.out H w1 RS.out).mono ?_
 rintro e w2 ⟨A1,m1,c1,rfl,hl1,hc1,hr1,b9⟩
 obtain rfl:4=m1:=hl1
 have LC1:=hid hc1
 replace RS:=hid ((RS.out.below b9).mono b9.size)
 replace HB:Hid (Below H w _):=hid (HB.out.trans (b9.mono (by have:=HB.out.size;have:=HH.out;omega)))
 clear b9 HPW
 have RF1:=hid hr1
 clear hr1 hc1
 go_wp2_with fail
 with_reducible refine (HQW.out H A1 c1 w2 RS.out RF1.out LC1.out).mono ?_
 rintro e w3 ⟨⟨S1,rfl,hs1⟩,b9⟩
 have HS1:=hid hs1
 clear hs1
 replace RS:=hid ((RS.out.below b9).mono b9.size)
 replace HB:Hid (Below H w _):=hid (HB.out.trans (b9.mono (by have:=HB.out.size;have:=HH.out;omega)))
 replace RF1:=hid ((RF1.out.below b9).mono b9.size)
 clear b9 HQW
 go_wp2_with fail
 have RW:Hid (Rf (w3.alloc (.cells #[.int .i64 2,.int .i64 0,.int .i64 0,.int .i64 0,.int .i64 3,.int .i64 0,.int .i64 0,.int .i64 0,.int .i64 2,.int .i64 1,.int .i64 0,.int .i64 0,.int .i64 4,.int .i64 0,.int .i64 1,.int .i64 2] 58)) (w3.alloc (.cells #[.int .i64 2,.int .i64 0,.int .i64 0,.int .i64 0,.int .i64 3,.int .i64 0,.int .i64 0,.int .i64 0,.int .i64 2,.int .i64 1,.int .i64 0,.int .i64 0,.int .i64 4,.int .i64 0,.int .i64 1,.int .i64 2] 58)).heap.size (some ⟨w3.heap.size,0,none⟩) fW):=hid (rf_new w3 fW)
 have b9:=ab2 w3 (.cells #[.int .i64 2,.int .i64 0,.int .i64 0,.int .i64 0,.int .i64 3,.int .i64 0,.int .i64 0,.int .i64 0,.int .i64 2,.int .i64 1,.int .i64 0,.int .i64 0,.int .i64 4,.int .i64 0,.int .i64 1,.int .i64 2] 58)
 replace RS:=hid ((RS.out.below b9).mono b9.size)
 replace HB:Hid (Below H w _):=hid (HB.out.trans (b9.mono (by have:=HB.out.size;have:=HH.out;omega)))
 replace RF1:=hid ((RF1.out.below b9).mono b9.size)
 clear b9
 generalize w3.alloc (.cells #[.int .i64 2,.int .i64 0,.int .i64 0,.int .i64 0,.int .i64 3,.int .i64 0,.int .i64 0,.int .i64 0,.int .i64 2,.int .i64 1,.int .i64 0,.int .i64 0,.int .i64 4,.int .i64 0,.int .i64 1,.int .i64 2] 58)=w4 at *
 generalize w3.heap.size=h3 at *
 with_reducible refine (HPA.out H w4 RS.out).mono ?_
 rintro e w5 ⟨A2,m2,c2,rfl,hl2,_,_,b9⟩
 obtain rfl:0=m2:=hl2
 replace RS:=hid ((RS.out.below b9).mono b9.size)
 replace HB:Hid (Below H w _):=hid (HB.out.trans (b9.mono (by have:=HB.out.size;have:=HH.out;omega)))
 replace RF1:=hid ((RF1.out.below b9).mono b9.size)
 replace RW:=hid ((RW.out.below b9).mono b9.size)
 clear b9 HPA
 go_wp2_with fail
 with_reducible refine (HPD.out H w5 RS.out).mono ?_
 rintro e w6 ⟨A3,m3,c3,rfl,hl3,_,_,b9⟩
 obtain rfl:0=m3:=hl3
 replace RS:=hid ((RS.out.below b9).mono b9.size)
 replace HB:Hid (Below H w _):=hid (HB.out.trans (b9.mono (by have:=HB.out.size;have:=HH.out;omega)))
 replace RF1:=hid ((RF1.out.below b9).mono b9.size)
 replace RW:=hid ((RW.out.below b9).mono b9.size)
 clear b9 HPD
 go_wp2_with fail
 have RR2:Hid (Rf (w6.alloc (.cells #[.int .i64 2,.int .i64 0,.int .i64 0,.int .i64 0,.int .i64 2,.int .i64 1,.int .i64 0,.int .i64 0,.int .i64 2,.int .i64 2,.int .i64 0,.int .i64 0,.int .i64 4,.int .i64 0,.int .i64 1,.int .i64 2,.int .i64 4,.int .i64 0,.int .i64 0,.int .i64 3] 58)) (w6.alloc (.cells #[.int .i64 2,.int .i64 0,.int .i64 0,.int .i64 0,.int .i64 2,.int .i64 1,.int .i64 0,.int .i64 0,.int .i64 2,.int .i64 2,.int .i64 0,.int .i64 0,.int .i64 4,.int .i64 0,.int .i64 1,.int .i64 2,.int .i64 4,.int .i64 0,.int .i64 0,.int .i64 3] 58)).heap.size (some ⟨w6.heap.size,0,none⟩) fR):=hid (rf_new w6 fR)
 have b9:=ab2 w6 (.cells #[.int .i64 2,.int .i64 0,.int .i64 0,.int .i64 0,.int .i64 2,.int .i64 1,.int .i64 0,.int .i64 0,.int .i64 2,.int .i64 2,.int .i64 0,.int .i64 0,.int .i64 4,.int .i64 0,.int .i64 1,.int .i64 2,.int .i64 4,.int .i64 0,.int .i64 0,.int .i64 3] 58)
 replace RS:=hid ((RS.out.below b9).mono b9.size)
 replace HB:Hid (Below H w _):=hid (HB.out.trans (b9.mono (by have:=HB.out.size;have:=HH.out;omega)))
 replace RF1:=hid ((RF1.out.below b9).mono b9.size)
 replace RW:=hid ((RW.out.below b9).mono b9.size)
 clear b9
 generalize w6.alloc (.cells #[.int .i64 2,.int .i64 0,.int .i64 0,.int .i64 0,.int .i64 2,.int .i64 1,.int .i64 0,.int .i64 0,.int .i64 2,.int .i64 2,.int .i64 0,.int .i64 0,.int .i64 4,.int .i64 0,.int .i64 1,.int .i64 2,.int .i64 4,.int .i64 0,.int .i64 0,.int .i64 3] 58)=w7 at *
 generalize w6.heap.size=h6 at *
 with_reducible refine (HQR.out H _ 5 w7 RS.out RR2.out (Nat.le_refl _)).mono ?_
 rintro e w8 ⟨⟨S2,rfl,hs2⟩,b9⟩
 have HS2:=hid hs2
 clear hs2
 replace RS:=hid ((RS.out.below b9).mono b9.size)
 replace HB:Hid (Below H w _):=hid (HB.out.trans (b9.mono (by have:=HB.out.size;have:=HH.out;omega)))
 replace RF1:=hid ((RF1.out.below b9).mono b9.size)
 replace RW:=hid ((RW.out.below b9).mono b9.size)
 replace RR2:=hid ((RR2.out.below b9).mono b9.size)
 clear b9 HQR
 clear RR2
 go_wp2_with fail
 with_reducible refine (HV0.out w8).mono ?_
 rintro e w9 ⟨AA,rfl,hra,b9⟩
 have RA:=hid hra
 clear hra
 replace RS:=hid ((RS.out.below b9).mono b9.size)
 replace HB:Hid (Below H w _):=hid (HB.out.trans (b9.mono (by have:=HB.out.size;have:=HH.out;omega)))
 replace RF1:=hid ((RF1.out.below b9).mono b9.size)
 replace RW:=hid ((RW.out.below b9).mono b9.size)
 clear b9 HV0
 go_wp2_with fail
 have XA:=nb2 w9 (.slice AA 1 1) (.int .i64 2) 31
 have b9:=ab2 w9 (.cells #[.slice AA 1 1,.int .i64 2] 31)
 replace RS:=hid ((RS.out.below b9).mono b9.size)
 replace HB:Hid (Below H w _):=hid (HB.out.trans (b9.mono (by have:=HB.out.size;have:=HH.out;omega)))
 replace RF1:=hid ((RF1.out.below b9).mono b9.size)
 replace RW:=hid ((RW.out.below b9).mono b9.size)
 replace RA:=hid ((RA.out.below b9).mono b9.size)
 clear b9
 generalize w9.alloc (.cells #[.slice AA 1 1,.int .i64 2] 31)=w10 at *
 generalize w9.heap.size=ha at *
 with_reducible refine (HV1.out w10).mono ?_
 rintro e w11 ⟨AB,rfl,hrb,b9⟩
 have RB:=hid hrb
 clear hrb
 replace RS:=hid ((RS.out.below b9).mono b9.size)
 replace HB:Hid (Below H w _):=hid (HB.out.trans (b9.mono (by have:=HB.out.size;have:=HH.out;omega)))
 replace RF1:=hid ((RF1.out.below b9).mono b9.size)
 replace RW:=hid ((RW.out.below b9).mono b9.size)
 replace RA:=hid ((RA.out.below b9).mono b9.size)
 replace XA:=rb2 XA b9
 clear b9 HV1
 obtain ⟨x0,x1,xn⟩:=xb2 XA
 go_wp2_with fail
 have XB:=nb2 w11 (.slice AB 1 1) (.int .i64 2) 31
 clear x0 x1 xn
 have b9:=ab2 w11 (.cells #[.slice AB 1 1,.int .i64 2] 31)
 replace RS:=hid ((RS.out.below b9).mono b9.size)
 replace HB:Hid (Below H w _):=hid (HB.out.trans (b9.mono (by have:=HB.out.size;have:=HH.out;omega)))
 replace RF1:=hid ((RF1.out.below b9).mono b9.size)
 replace RW:=hid ((RW.out.below b9).mono b9.size)
 replace RA:=hid ((RA.out.below b9).mono b9.size)
 replace XA:=rb2 XA b9
 replace RB:=hid ((RB.out.below b9).mono b9.size)
 clear b9
 generalize w11.alloc (.cells #[.slice AB 1 1,.int .i64 2] 31)=w12 at *
 generalize w11.heap.size=hb at *
 with_reducible refine (HXR.out AA AB w12 RA.out RB.out).mono ?_
 rintro e w13 ⟨AD,cd,rfl,hdk,b9⟩
 have DK:=hid hdk
 clear hdk XA XB RA RB
 replace RS:=hid ((RS.out.below b9).mono b9.size)
 replace HB:Hid (Below H w _):=hid (HB.out.trans (b9.mono (by have:=HB.out.size;have:=HH.out;omega)))
 replace RF1:=hid ((RF1.out.below b9).mono b9.size)
 replace RW:=hid ((RW.out.below b9).mono b9.size)
 clear b9 HXR
 go_wp2_with fail
 have XD:=nb2 w13 (.slice AD 3 cd) (.int .i64 4) 31
 have b9:=ab2 w13 (.cells #[.slice AD 3 cd,.int .i64 4] 31)
 replace RS:=hid ((RS.out.below b9).mono b9.size)
 replace HB:Hid (Below H w _):=hid (HB.out.trans (b9.mono (by have:=HB.out.size;have:=HH.out;omega)))
 replace RF1:=hid ((RF1.out.below b9).mono b9.size)
 replace RW:=hid ((RW.out.below b9).mono b9.size)
 replace DK:=hid (DK.out.below b9)
 clear b9
 generalize w13.alloc (.cells #[.slice AD 3 cd,.int .i64 4] 31)=w14 at *
 generalize w13.heap.size=hd at *
 with_reducible refine (HTX.out H AD cd w14 RS.out DK.out).mono ?_
 rintro e w15 ⟨⟨S3,rfl,hs3⟩,b9⟩
 have HS3:=hid hs3
 clear hs3 XD
 replace RS:=hid ((RS.out.below b9).mono b9.size)
 replace HB:Hid (Below H w _):=hid (HB.out.trans (b9.mono (by have:=HB.out.size;have:=HH.out;omega)))
 replace RF1:=hid ((RF1.out.below b9).mono b9.size)
 replace RW:=hid ((RW.out.below b9).mono b9.size)
 replace DK:=hid (DK.out.below b9)
 clear b9 HTX
 have t1:(S1.toList == [33,65,32,38,38,32,66])=true:=by rw [ByteArray.toList_eq];exact beq_iff_eq.2 HS1.out
 have t2:(S2.toList == [65,32,38,38,32,40,66,32,38,38,32,67,41])=true:=by rw [ByteArray.toList_eq];exact beq_iff_eq.2 HS2.out
 have t3:(S3.toList == [65,32,38,38,32,33,66,32,124,124,32,33,65,32,38,38,32,66])=true:=by rw [ByteArray.toList_eq];exact beq_iff_eq.2 HS3.out
 go_wp2_with fail
 clear DK
 with_reducible refine (HSM.out A1 _ c1 4 w15 RF1.out RW.out).mono ?_
 rintro e w16 ⟨rfl,b9⟩
 replace RS:=hid ((RS.out.below b9).mono b9.size)
 replace HB:Hid (Below H w _):=hid (HB.out.trans (b9.mono (by have:=HB.out.size;have:=HH.out;omega)))
 replace RF1:=hid ((RF1.out.below b9).mono b9.size)
 replace RW:=hid ((RW.out.below b9).mono b9.size)
 clear b9 HSM
 go_wp2_with fail
 with_reducible refine (HCW.out _ 4 w16 RW.out).mono ?_
 rintro e w17 ⟨rfl,b9⟩
 replace RS:=hid ((RS.out.below b9).mono b9.size)
 replace HB:Hid (Below H w _):=hid (HB.out.trans (b9.mono (by have:=HB.out.size;have:=HH.out;omega)))
 replace RF1:=hid ((RF1.out.below b9).mono b9.size)
 replace RW:=hid ((RW.out.below b9).mono b9.size)
 clear b9 HCW
 go_wp2_with fail
 with_reducible refine (HCN.out w17).mono ?_
 rintro e w18 ⟨rfl,b9⟩
 replace RS:=hid ((RS.out.below b9).mono b9.size)
 replace HB:Hid (Below H w _):=hid (HB.out.trans (b9.mono (by have:=HB.out.size;have:=HH.out;omega)))
 replace RF1:=hid ((RF1.out.below b9).mono b9.size)
 replace RW:=hid ((RW.out.below b9).mono b9.size)
 clear b9 HCN
 go_wp2
 go_ret
 have h9:=HB.out
 have e9:=HH.out
 subst e9
 exact ⟨rfl,h9⟩
end Go.Proofs.YtpaednfinlaioaaGreatDoor
