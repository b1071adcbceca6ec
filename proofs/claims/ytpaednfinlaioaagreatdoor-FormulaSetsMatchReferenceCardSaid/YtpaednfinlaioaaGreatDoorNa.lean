/-
  Plain mathematics and contracts of package diagram, several texts in one: DROp, DROp2.
-/
import Derived.Test.YtpaednfinlaioaaGreatDoorMx
import Derived.Test.YtpaednfinlaioaaGreatDoorMz
import Derived.Test.YtpaednfinlaioaaGreatDoorMy
import Derived.Deep.RegionHeld3
import Derived.Test.YtpaednfinlaioaaGreatDoorMv
import Derived.Test.YtpaednfinlaioaaGreatDoorMo
set_option maxHeartbeats 2000000
set_option maxRecDepth 100000
namespace Go.Proofs.YtpaednfinlaioaaGreatDoor
open Go.Lib (hid)
open Go.RowKit Dg St
set_option linter.unusedVariables false
set_option linter.unusedSimpArgs false
attribute [local go_sem ↓] Go.wp_at_zero Go.wp_at_succ
theorem pair_list {w:World} {b:Nat} {A0:Option Addr} {m0 c0:Nat} {l0:List Bi} {r0:Int} {A1:Option Addr} {m1 c1:Nat} {l1:List Bi} {r1:Int} (h0:Hid (DOk w ⟨A0,m0,c0,l0,r0⟩)) (q0:m0≤40) (h1:Hid (DOk w ⟨A1,m1,c1,l1,r1⟩)) (q1:m1≤40) (hb:Hid (Blk w b 4 (fun i=>([.slice A0 m0 c0,.int .i64 r0,.slice A1 m1 c1,.int .i64 r1]:List Value).getD i undef))) :
  Calls Tryz.prog 98 #[.slice (some ⟨b,0,none⟩) 2 2] w fun e w'=>e=.returned (.int .i64 (chkAll [(⟨A0,m0,c0,l0,r0⟩:DA),⟨A1,m1,c1,l1,r1⟩]))∧Below w.heap.size w w' :=
 rfirst_any b 2 2 [(⟨A0,m0,c0,l0,r0⟩:DA),⟨A1,m1,c1,l1,r1⟩] w (hid rfl) (by omega) (hb.out.lt (by omega)) (hid (fun d hd=>by
  simp only [List.mem_cons,List.not_mem_nil,or_false] at hd
  rcases hd with rfl | rfl
  ·exact h0.out
  ·exact h1.out)) (hid (fun d hd=>by
  simp only [List.mem_cons,List.not_mem_nil,or_false] at hd
  rcases hd with rfl | rfl
  ·show m0≤4096;omega
  ·show m1≤4096;omega)) (hid (fun k hk=>by
  obtain rfl | rfl:k=0∨k=1:=by simp at hk;omega
  ·exact ⟨(hb.out 0 (by omega)).1,(hb.out 1 (by omega)).1⟩
  ·exact ⟨(hb.out 2 (by omega)).1,(hb.out 3 (by omega)).1⟩))
theorem chk_nat {l:List Bi} {r:Int} (h:chk l r=0):r=((r.toNat:Nat):Int):=by
 obtain ⟨M,n,_,rfl,_,_⟩:=chk_ok.1 h
 omega
theorem bin_small {w:World} {A0 A1:Option Addr} {m0 c0 r0 m1 c1 r1:Nat} {f g:Cfg→Bool} (h0:Dn w A0 m0 c0 r0 f) (h1:Dn w A1 m1 c1 r1 g) (q0:m0≤40) (q1:m1≤40) (op:Bool→Bool→Bool):(cn (fun c=>op (f c) (g c))).1.length≤4096:=by
 have e0:=h0.den
 have e1:=h1.den
 have l0:=h0.len
 have l1:=h1.len
 have s:=bin_size h0.valid.good.ord h1.valid.good.ord op (x:=r0) (y:=r1) (by rw [l0];exact h0.lt) (by rw [l1];exact h1.lt)
 rw [e0,e1,l0,l1] at s
 have t:(m0+2)*(m1+2)≤42*42:=Nat.mul_le_mul (by omega) (by omega)
 omega
theorem rlimited_le (A:Option Addr) (m c:Nat) (r:Int) (w:World) (hm:m≤4096) :
  Calls Tryz.prog 66 #[.agg #[.slice A m c,.int .i64 r]] w fun e w'=>e=.returned (.tuple #[.agg #[.slice A m c,.int .i64 r],.int .i64 0])∧∃ w1,Below w.heap.size w w1∧w.heap.size+1<w1.heap.size∧w'=(w1.setCell ⟨w.heap.size+1,0,none⟩ (.slice A m c)).setCell ⟨w.heap.size+1,1,none⟩ (.int .i64 r):=by
 have b0:=ab2 w (.cells #[.slice A m c,.int .i64 r] 31)
 have b1:=ab2 (w.alloc (.cells #[.slice A m c,.int .i64 r] 31)) (.cells #[.slice none 0 0,.int .i64 0] 31)
 have X0:Hid (Blk (w.alloc (.cells #[.slice A m c,.int .i64 r] 31)) (w.heap.size) 2 (fun i=>([.slice A m c,.int .i64 r]:List Value).getD i undef)):=hid (Blk.new (w:=w) (H:=w.heap.size) (by simp) [.slice A m c,.int .i64 r] 31)
 replace X0:Hid (Blk ((w.alloc (.cells #[.slice A m c,.int .i64 r] 31)).alloc (.cells #[.slice none 0 0,.int .i64 0] 31)) (w.heap.size) 2 (fun i=>([.slice A m c,.int .i64 r]:List Value).getD i undef)):=hid (X0.out.below (by omega) b1)
 have X1:Hid (Blk ((w.alloc (.cells #[.slice A m c,.int .i64 r] 31)).alloc (.cells #[.slice none 0 0,.int .i64 0] 31)) (w.heap.size+1) 2 (fun i=>([.slice none 0 0,.int .i64 0]:List Value).getD i undef)):=hid (Blk.new (w:=(w.alloc (.cells #[.slice A m c,.int .i64 r] 31))) (H:=w.heap.size+1) (by simp) [.slice none 0 0,.int .i64 0] 31)
 have HB0:Hid (Below w.heap.size w ((w.alloc (.cells #[.slice A m c,.int .i64 r] 31)).alloc (.cells #[.slice none 0 0,.int .i64 0] 31))):=hid (b0.trans (b1.mono b0.size))
 have HW0:Hid (((w.alloc (.cells #[.slice A m c,.int .i64 r] 31)).alloc (.cells #[.slice none 0 0,.int .i64 0] 31)).heap.size=w.heap.size+1+1):=hid (by simp)
 clear b0 b1
 go_enter Tryz.func66,Tryz.ntmps66
 go_upto_region 1 with fail
 generalize ((w.alloc (.cells #[.slice A m c,.int .i64 r] 31)).alloc (.cells #[.slice none 0 0,.int .i64 0] 31))=w1 at *
 obtain ⟨x0,x1,xn⟩:=xb2 X0
 obtain ⟨y0,y0f⟩:=X1.out 0 (by omega)
 obtain ⟨y1,y1f⟩:=X1.out 1 (by omega)
 have HLT:Hid (w.heap.size+1<w1.heap.size):=hid (by have:=HW0.out;omega)
 go_wp2
 refine bodyPost_ret (v:=.tuple #[.agg #[.slice A m c,.int .i64 r],.int .i64 0]) ?_ rfl ⟨rfl,w1,HB0.out,HLT.out,rfl⟩
 rw [results_cell_tmp rfl]
 go_simp
theorem rlimited_ok {A:Option Addr} {m c r:Nat} {f:Cfg→Bool} {w:World} (h:Hid (Dn w A m c r f)) :
  Calls Tryz.prog 66 #[.agg #[.slice A m c,.int .i64 (r:Int)]] w fun e w'=>e=.returned (.tuple #[.agg #[.slice A m c,.int .i64 (r:Int)],.int .i64 0])∧Dn w' A m c r f∧Below w.heap.size w w':=by
 have hd:=h.out
 refine (rlimited_le A m c (r:Int) w hd.lm).mono ?_
 rintro e w' ⟨rfl,w1,b1,hlt,rfl⟩
 have hb2:Below w.heap.size w ((w1.setCell ⟨w.heap.size+1,0,none⟩ (.slice A m c)).setCell ⟨w.heap.size+1,1,none⟩ (.int .i64 (r:Int))):=(b1.setCell (by show w.heap.size≤w.heap.size+1;omega) _).setCell (by show w.heap.size≤w.heap.size+1;omega) _
 exact ⟨rfl,hd.below hb2,hb2⟩
set_option linter.unusedVariables false
set_option linter.unusedSimpArgs false
attribute [local go_sem ↓] Go.wp_at_zero Go.wp_at_succ
theorem not_len {w:World} {A:Option Addr} {m c r:Nat} {f:Cfg→Bool} (h:Dn w A m c r f):(cn (fun x=>!f x)).1.length=m:=by
 have e:=cn_not h.d
 have l:=h.len
 clear h
 generalize cn (fun x=>!f x)=R at *
 generalize cn f=S at *
 subst e
 show (S.1.map cb).length=m
 rw [List.length_map]
 exact l
end Go.Proofs.YtpaednfinlaioaaGreatDoor
