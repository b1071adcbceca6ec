/-
  Plain mathematics and contracts of package diagram, several texts in one: DBits, DSplit.
-/
import Derived.Test.YtpaednfinlaioaaGreatDoorMc
import Derived.Test.YtpaednfinlaioaaGreatDoorMa
set_option maxHeartbeats 4000000
set_option maxRecDepth 100000
namespace Go.Proofs.YtpaednfinlaioaaGreatDoor
open Go.Lib (hid)
open Go.RowKit Dg St
theorem band8 {a b:Nat} (ha:a<256) (hb:b<256):bits .and .u8 (a:Int) (b:Int)=((a &&& b:Nat):Int):=by
 have h:∀ a:Nat,a<256→∀ b:Nat,b<256→bits .and .u8 (a:Int) (b:Int)=((a &&& b:Nat):Int):=by decide +kernel
 exact h a ha b hb
theorem bandn8 {a b:Nat} (ha:a<256) (hb:b<256):bits .andNot .u8 (a:Int) (b:Int)=((andn a b:Nat):Int):=by
 have h:∀ a:Nat,a<256→∀ b:Nat,b<256→bits .andNot .u8 (a:Int) (b:Int)=((andn a b:Nat):Int):=by decide +kernel
 exact h a ha b hb
theorem and_lt8 {a b:Nat} (ha:a<256):a &&& b<256:=Nat.lt_of_le_of_lt Nat.and_le_left ha
theorem andn_lt8 {a b:Nat} (ha:a<256):andn a b<256:=Nat.lt_of_le_of_lt Nat.and_le_left ha
structure Arg (w:World) (g t:Nat) (A:Option Addr) (m c:Nat) (M:List Br):Prop where
 cell:w.cell? ⟨g,t,none⟩=some (.slice A m c)
 rd:Rd w w.heap.size A (up M)
 len:M.length=m
 lm:m≤1000000
 ord:Ord M
theorem Arg.below {w w':World} {g t m c:Nat} {A:Option Addr} {M:List Br} (h:Arg w g t A m c M) (hb:Below w.heap.size w w'):Arg w' g t A m c M :=
 ⟨(hb.cell (p:=⟨g,t,none⟩) (block_lt_of_cell h.cell)).trans h.cell,(h.rd.below hb).mono hb.size,h.len,h.lm,h.ord⟩
theorem Arg.at_ {w:World} {g t m c k:Nat} {A:Option Addr} {M:List Br} (h:Arg w g t A m c M) (hk:k<m):∃ b o,A=some ⟨b,o,none⟩∧b<w.heap.size ∧
  w.cell? ⟨b,o+k*3,none⟩=some (.int .i64 ((bv M k:Nat):Int))∧w.cell? ⟨b,o+k*3+1,none⟩=some (.int .i64 ((bl M k:Nat):Int))∧w.cell? ⟨b,o+k*3+2,none⟩=some (.int .i64 ((bh M k:Nat):Int)):=by
 have hl:k<(up M).length:=by rw [up_len,h.len];exact hk
 obtain ⟨b,o,e,hb,hc⟩:=h.rd (by omega)
 obtain ⟨c1,c2,c3⟩:=hc k hl
 rw [iv_up] at c1
 rw [il_up] at c2
 rw [ih_up] at c3
 exact ⟨b,o,e,hb,c1,c2,c3⟩
def vm (A B C:List Br) (i j k:Nat):Nat→Nat
 | 0=>64
 | 1=>min 64 (lev A i)
 | 2=>min (min 64 (lev A i)) (lev B j)
 | _=>min (min (min 64 (lev A i)) (lev B j)) (lev C k)
theorem vm_le (A B C:List Br) (i j k t:Nat):vm A B C i j k t≤64:=by
 unfold vm
 split <;> omega
theorem lev_two {M:List Br} (n:Nat):lev M (n+2)=bv M n:=by unfold lev;rw [if_neg (by omega),Nat.add_sub_cancel]
def mx (t s a b:Nat):Nat:=if s<t then a else b
structure C3 (w:World) (b:Nat) (x y z:Nat):Prop where
 a0:w.cell? ⟨b,0,none⟩=some (.int .i64 (x:Int))
 a1:w.cell? ⟨b,1,none⟩=some (.int .i64 (y:Int))
 a2:w.cell? ⟨b,2,none⟩=some (.int .i64 (z:Int))
 f0:w.frozen? ⟨b,0,none⟩=false
 f1:w.frozen? ⟨b,1,none⟩=false
 f2:w.frozen? ⟨b,2,none⟩=false
theorem C3.keep {w w':World} {b x y z:Nat} (h:C3 w b x y z) (hk:w'.heap[b]? = w.heap[b]?):C3 w' b x y z :=
 ⟨(World.cell?_of_block hk).trans h.a0,(World.cell?_of_block hk).trans h.a1,(World.cell?_of_block hk).trans h.a2,(World.frozen?_of_block hk).trans h.f0,(World.frozen?_of_block hk).trans h.f1,(World.frozen?_of_block hk).trans h.f2⟩
theorem C3.below {w w':World} {b x y z:Nat} (h:C3 w b x y z) (hb:Below w.heap.size w w'):C3 w' b x y z:=h.keep (hb.block b (block_lt_of_cell h.a0))
theorem C3.lt {w:World} {b x y z:Nat} (h:C3 w b x y z):b<w.heap.size:=block_lt_of_cell h.a0
theorem C3.new {w:World} {H:Nat} (hH:w.heap.size=H) (x y z:Nat) (T:Nat):C3 (w.alloc (.cells #[.int .i64 (x:Int),.int .i64 (y:Int),.int .i64 (z:Int)] T)) H x y z:=by
 subst hH
 refine ⟨?_,?_,?_,?_,?_,?_⟩ <;> go_simp
theorem C3.set0 {w:World} {b x y z:Nat} (h:C3 w b x y z) (u:Nat):C3 (w.setCell ⟨b,0,none⟩ (.int .i64 (u:Int))) b u y z:=by
 obtain ⟨h0,h1,h2,g0,g1,g2⟩:=h
 refine ⟨World.cell?_setCell_same _ _ _ h0,?_,?_,?_,?_,?_⟩ <;> go_simp
theorem C3.set1 {w:World} {b x y z:Nat} (h:C3 w b x y z) (u:Nat):C3 (w.setCell ⟨b,1,none⟩ (.int .i64 (u:Int))) b x u z:=by
 obtain ⟨h0,h1,h2,g0,g1,g2⟩:=h
 refine ⟨?_,World.cell?_setCell_same _ _ _ h1,?_,?_,?_,?_⟩ <;> go_simp
theorem C3.set2 {w:World} {b x y z:Nat} (h:C3 w b x y z) (u:Nat):C3 (w.setCell ⟨b,2,none⟩ (.int .i64 (u:Int))) b x y u:=by
 obtain ⟨h0,h1,h2,g0,g1,g2⟩:=h
 refine ⟨?_,?_,World.cell?_setCell_same _ _ _ h2,?_,?_,?_⟩ <;> go_simp
theorem C3.other {w:World} {b x y z:Nat} (h:C3 w b x y z) {p:Addr} (hp:p.block≠b) (u:Value):C3 (w.setCell p u) b x y z:=h.keep (Below.heap_setCell _ _ _ _ (fun e=>hp e.symm))
theorem C3.drew {w:World} {b x y z:Nat} (h:C3 w b x y z):C3 w.drew b x y z:=h.keep rfl
structure Sp (w wr:World) (H i j k l0 l1 l2 u0 u1 u2:Nat):Prop where
 hH:w.heap.size=H
 sz:H+2<wr.heap.size
 bel:Below H w wr
 x:C3 wr H i j k
 l:C3 wr (H+1) l0 l1 l2
 u:C3 wr (H+2) u0 u1 u2
theorem Sp.drew {w wr:World} {H i j k l0 l1 l2 u0 u1 u2:Nat} (h:Sp w wr H i j k l0 l1 l2 u0 u1 u2):Sp w wr.drew H i j k l0 l1 l2 u0 u1 u2 :=
 ⟨h.hH,h.sz,below_drewN h.bel 1,h.x.drew,h.l.drew,h.u.drew⟩
theorem Sp.alloc {w wr:World} {H i j k l0 l1 l2 u0 u1 u2:Nat} (h:Sp w wr H i j k l0 l1 l2 u0 u1 u2) (o:Obj):Sp w (wr.alloc o) H i j k l0 l1 l2 u0 u1 u2:=by
 have b:=(Below.refl wr.heap.size wr).alloc (Nat.le_refl _) o
 have:=h.sz
 exact ⟨h.hH,Nat.lt_of_lt_of_le h.sz b.size,h.bel.alloc (by omega) o,h.x.below b,h.l.below b,h.u.below b⟩
theorem Sp.set {w wr:World} {H i j k l0 l1 l2 u0 u1 u2:Nat} (h:Sp w wr H i j k l0 l1 l2 u0 u1 u2) {b n:Nat} (hb:H<b) (v:Value):Below H w (wr.setCell ⟨b,n,none⟩ v)∧H+2<(wr.setCell ⟨b,n,none⟩ v).heap.size∧C3 (wr.setCell ⟨b,n,none⟩ v) H i j k :=
 ⟨h.bel.setCell (by simp;omega) v,by have:=h.sz;simpa [World.setCell] using this,h.x.other (by simp;omega) v⟩
theorem Sp.low0 {w wr:World} {H i j k l0 l1 l2 u0 u1 u2:Nat} (h:Sp w wr H i j k l0 l1 l2 u0 u1 u2) (a:Nat):Sp w (wr.setCell ⟨H+1,0,none⟩ (.int .i64 (a:Int))) H i j k a l1 l2 u0 u1 u2:=by
 obtain ⟨q1,q2,q3⟩:=h.set (b:=H+1) (n:=0) (by omega) (.int .i64 (a:Int))
 exact ⟨h.hH,q2,q1,q3,h.l.set0 a,h.u.other (by simp) _⟩
theorem Sp.high0 {w wr:World} {H i j k l0 l1 l2 u0 u1 u2:Nat} (h:Sp w wr H i j k l0 l1 l2 u0 u1 u2) (b:Nat):Sp w (wr.setCell ⟨H+2,0,none⟩ (.int .i64 (b:Int))) H i j k l0 l1 l2 b u1 u2:=by
 obtain ⟨q1,q2,q3⟩:=h.set (b:=H+2) (n:=0) (by omega) (.int .i64 (b:Int))
 exact ⟨h.hH,q2,q1,q3,h.l.other (by simp) _,h.u.set0 b⟩
theorem Sp.low1 {w wr:World} {H i j k l0 l1 l2 u0 u1 u2:Nat} (h:Sp w wr H i j k l0 l1 l2 u0 u1 u2) (a:Nat):Sp w (wr.setCell ⟨H+1,1,none⟩ (.int .i64 (a:Int))) H i j k l0 a l2 u0 u1 u2:=by
 obtain ⟨q1,q2,q3⟩:=h.set (b:=H+1) (n:=1) (by omega) (.int .i64 (a:Int))
 exact ⟨h.hH,q2,q1,q3,h.l.set1 a,h.u.other (by simp) _⟩
theorem Sp.high1 {w wr:World} {H i j k l0 l1 l2 u0 u1 u2:Nat} (h:Sp w wr H i j k l0 l1 l2 u0 u1 u2) (b:Nat):Sp w (wr.setCell ⟨H+2,1,none⟩ (.int .i64 (b:Int))) H i j k l0 l1 l2 u0 b u2:=by
 obtain ⟨q1,q2,q3⟩:=h.set (b:=H+2) (n:=1) (by omega) (.int .i64 (b:Int))
 exact ⟨h.hH,q2,q1,q3,h.l.other (by simp) _,h.u.set1 b⟩
theorem Sp.low2 {w wr:World} {H i j k l0 l1 l2 u0 u1 u2:Nat} (h:Sp w wr H i j k l0 l1 l2 u0 u1 u2) (a:Nat):Sp w (wr.setCell ⟨H+1,2,none⟩ (.int .i64 (a:Int))) H i j k l0 l1 a u0 u1 u2:=by
 obtain ⟨q1,q2,q3⟩:=h.set (b:=H+1) (n:=2) (by omega) (.int .i64 (a:Int))
 exact ⟨h.hH,q2,q1,q3,h.l.set2 a,h.u.other (by simp) _⟩
theorem Sp.high2 {w wr:World} {H i j k l0 l1 l2 u0 u1 u2:Nat} (h:Sp w wr H i j k l0 l1 l2 u0 u1 u2) (b:Nat):Sp w (wr.setCell ⟨H+2,2,none⟩ (.int .i64 (b:Int))) H i j k l0 l1 l2 u0 u1 b:=by
 obtain ⟨q1,q2,q3⟩:=h.set (b:=H+2) (n:=2) (by omega) (.int .i64 (b:Int))
 exact ⟨h.hH,q2,q1,q3,h.l.other (by simp) _,h.u.set2 b⟩
theorem Sp.args {w wr:World} {H i j k l0 l1 l2 u0 u1 u2 g t m c:Nat} {A:Option Addr} {M:List Br} (h:Sp w wr H i j k l0 l1 l2 u0 u1 u2) (ha:Arg w g t A m c M):Arg wr g t A m c M:=by
 have:=h.bel
 rw [← h.hH] at this
 exact ha.below this
theorem split_any (g i j k m0 c0 m1 c1 m2 c2:Nat) (A0 A1 A2:Option Addr) (A B C:List Br) (w:World) (h0:Hid (Arg w g 0 A0 m0 c0 A)) (h1:Hid (Arg w g 1 A1 m1 c1 B)) (h2:Hid (Arg w g 2 A2 m2 c2 C)) (hi:i<m0+2) (hj:j<m1+2) (hk:k<m2+2) :
  Calls Tryz.prog 132 #[.pointer (some ⟨g,0,none⟩),.agg #[.int .i64 (i:Int),.int .i64 (j:Int),.int .i64 (k:Int)]] w fun e w' =>
   e=.returned (.tuple #[.int .i64 ((mv A B C i j k:Nat):Int),.agg #[.int .i64 ((sd A (mv A B C i j k) i false:Nat):Int),.int .i64 ((sd B (mv A B C i j k) j false:Nat):Int),.int .i64 ((sd C (mv A B C i j k) k false:Nat):Int)],.agg #[.int .i64 ((sd A (mv A B C i j k) i true:Nat):Int),.int .i64 ((sd B (mv A B C i j k) j true:Nat):Int),.int .i64 ((sd C (mv A B C i j k) k true:Nat):Int)]])∧Below w.heap.size w w':=by
 have x0:∀ (a b c:Int) (W:World),(Instr.index 167 (.agg #[.int .i64 a,.int .i64 b,.int .i64 c]) (.int .i64 0)).run Tryz.prog W=.ok (.int .i64 a) W:=fun _ _ _ _=>by kernel_rfl
 have x1:∀ (a b c:Int) (W:World),(Instr.index 167 (.agg #[.int .i64 a,.int .i64 b,.int .i64 c]) (.int .i64 1)).run Tryz.prog W=.ok (.int .i64 b) W:=fun _ _ _ _=>by kernel_rfl
 have x2:∀ (a b c:Int) (W:World),(Instr.index 167 (.agg #[.int .i64 a,.int .i64 b,.int .i64 c]) (.int .i64 2)).run Tryz.prog W=.ok (.int .i64 c) W:=fun _ _ _ _=>by kernel_rfl
 have hw0:Hid (Sp w (((w.alloc (.cells #[.int .i64 (i:Int),.int .i64 (j:Int),.int .i64 (k:Int)] 167)).alloc (.cells #[.int .i64 0,.int .i64 0,.int .i64 0] 167)).alloc (.cells #[.int .i64 0,.int .i64 0,.int .i64 0] 167)) w.heap.size i j k 0 0 0 0 0 0):=by
  refine ⟨rfl,by simp,(((Below.refl _ _).alloc (Nat.le_refl _) _).alloc (by simp) _).alloc (by simp;omega) _,?_,?_,?_⟩
  ·exact ((C3.new (w:=w) rfl i j k _).below ((Below.refl _ _).alloc (Nat.le_refl _) _)).below ((Below.refl _ _).alloc (Nat.le_refl _) _)
  ·exact (C3.new (w:=w.alloc _) (by simp) 0 0 0 _).below ((Below.refl _ _).alloc (Nat.le_refl _) _)
  ·exact C3.new (w:=(w.alloc _).alloc _) (by simp) 0 0 0 _
 go_enter Tryz.func132,Tryz.ntmps132
 go_wp2
 generalize (((w.alloc (.cells #[.int .i64 (i:Int),.int .i64 (j:Int),.int .i64 (k:Int)] 167)).alloc (.cells #[.int .i64 0,.int .i64 0,.int .i64 0] 167)).alloc (.cells #[.int .i64 0,.int .i64 0,.int .i64 0] 167))=w3 at *
 have a0:=h0.out.below hw0.out.bel
 have a1:=h1.out.below hw0.out.bel
 have a2:=h2.out.below hw0.out.bel
 generalize w.heap.size=H at *
 rw [show H+1+1=H+2 from rfl]
 have k0:=hid a0
 have k1:=hid a1
 have k2:=hid a2
 clear a0 a1 a2
 go_loop [4,13] (fun v t=>∃ r:Nat,r≤3∧t=.int .i64 (r:Int)∧v=.int .i64 ((vm A B C i j k r:Nat):Int)) (fun _ t=>3 - (intOf t).toNat)
 case atStart=>exact ⟨0,by omega,rfl,rfl⟩
 case round =>
  obtain ⟨r,hr,rfl,rfl⟩:=hrel
  rcases r with _ | _ | _ | r
  ·-- argument 0
   have cc:=k0.out.cell
   have HV:Hid (vm A B C i j k 1=min (vm A B C i j k 0) (lev A i)):=show _=_ from rfl
   have hle:=vm_le A B C i j k 0
   generalize vm A B C i j k 0=V at *
   by_cases q:2≤i
   ·obtain ⟨n',hn'⟩:∃ n',n'+2=i:=⟨i - 2,by omega⟩
    have hk2:n'<m0:=by omega
    obtain ⟨b',o',e,hb,d1,d2,d3⟩:=k0.out.at_ hk2
    have HL:Hid (lev A i=bv A n'):=by rw [← hn'];exact lev_two n'
    have hlm:=k0.out.lm
    have hni:(i:Int) - 2=(n':Int):=by omega
    have HN:=hid hn'
    rw [e] at cc
    clear d2 d3 hn' e
    generalize bv A n'=L at *
    by_cases q2:L<V
    ·have HX:Hid (vm A B C i j k 1=L):=show _=_ by rw [HV.out,HL.out];omega
     go_wp2
     go_round
     case rel=>exact ⟨1,by omega,by go_num,by rw [HX.out]⟩
     case measure=>simp [intOf]
    ·have HX:Hid (vm A B C i j k 1=V):=show _=_ by rw [HV.out,HL.out];omega
     go_wp2
     go_round
     case rel=>exact ⟨1,by omega,by go_num,by rw [HX.out]⟩
     case measure=>simp [intOf]
   ·have HX:Hid (vm A B C i j k 1=V):=show _=_ by rw [HV.out,lev_const (by omega)];omega
    go_wp2
    go_round
    case rel=>exact ⟨1,by omega,by go_num,by rw [HX.out]⟩
    case measure=>simp [intOf]
  ·-- argument 1
   have cc:=k1.out.cell
   have HV:Hid (vm A B C i j k 2=min (vm A B C i j k 1) (lev B j)):=show _=_ from rfl
   have hle:=vm_le A B C i j k 1
   generalize vm A B C i j k 1=V at *
   by_cases q:2≤j
   ·obtain ⟨n',hn'⟩:∃ n',n'+2=j:=⟨j - 2,by omega⟩
    have hk2:n'<m1:=by omega
    obtain ⟨b',o',e,hb,d1,d2,d3⟩:=k1.out.at_ hk2
    have HL:Hid (lev B j=bv B n'):=by rw [← hn'];exact lev_two n'
    have hlm:=k1.out.lm
    have hni:(j:Int) - 2=(n':Int):=by omega
    have HN:=hid hn'
    rw [e] at cc
    clear d2 d3 hn' e
    generalize bv B n'=L at *
    by_cases q2:L<V
    ·have HX:Hid (vm A B C i j k 2=L):=show _=_ by rw [HV.out,HL.out];omega
     go_wp2
     go_round
     case rel=>exact ⟨2,by omega,by go_num,by rw [HX.out]⟩
     case measure=>simp [intOf]
    ·have HX:Hid (vm A B C i j k 2=V):=show _=_ by rw [HV.out,HL.out];omega
     go_wp2
     go_round
     case rel=>exact ⟨2,by omega,by go_num,by rw [HX.out]⟩
     case measure=>simp [intOf]
   ·have HX:Hid (vm A B C i j k 2=V):=show _=_ by rw [HV.out,lev_const (by omega)];omega
    go_wp2
    go_round
    case rel=>exact ⟨2,by omega,by go_num,by rw [HX.out]⟩
    case measure=>simp [intOf]
  ·-- argument 2
   have cc:=k2.out.cell
   have HV:Hid (vm A B C i j k 3=min (vm A B C i j k 2) (lev C k)):=show _=_ from rfl
   have hle:=vm_le A B C i j k 2
   generalize vm A B C i j k 2=V at *
   by_cases q:2≤k
   ·obtain ⟨n',hn'⟩:∃ n',n'+2=k:=⟨k - 2,by omega⟩
    have hk2:n'<m2:=by omega
    obtain ⟨b',o',e,hb,d1,d2,d3⟩:=k2.out.at_ hk2
    have HL:Hid (lev C k=bv C n'):=by rw [← hn'];exact lev_two n'
    have hlm:=k2.out.lm
    have hni:(k:Int) - 2=(n':Int):=by omega
    have HN:=hid hn'
    rw [e] at cc
    clear d2 d3 hn' e
    generalize bv C n'=L at *
    by_cases q2:L<V
    ·have HX:Hid (vm A B C i j k 3=L):=show _=_ by rw [HV.out,HL.out];omega
     go_wp2
     go_round
     case rel=>exact ⟨3,by omega,by go_num,by rw [HX.out]⟩
     case measure=>simp [intOf]
    ·have HX:Hid (vm A B C i j k 3=V):=show _=_ by rw [HV.out,HL.out];omega
     go_wp2
     go_round
     case rel=>exact ⟨3,by omega,by go_num,by rw [HX.out]⟩
     case measure=>simp [intOf]
   ·have HX:Hid (vm A B C i j k 3=V):=show _=_ by rw [HV.out,lev_const (by omega)];omega
    go_wp2
    go_round
    case rel=>exact ⟨3,by omega,by go_num,by rw [HX.out]⟩
    case measure=>simp [intOf]
  ·obtain rfl:r=0:=by omega
   have HVM:Hid (vm A B C i j k 3=mv A B C i j k):=show _=_ from rfl
   go_wp2
   rw [HVM.out]
   have hvl:mv A B C i j k≤64:=vm_le A B C i j k 3
   have sz:=hw0.out.sz
   obtain ⟨xa0,xa1,xa2,_,_,_⟩:=hw0.out.x
   obtain ⟨la0,la1,la2,lf0,lf1,lf2⟩:=hw0.out.l
   obtain ⟨ua0,ua1,ua2,uf0,uf1,uf2⟩:=hw0.out.u
   go_region
   have hw4:Hid (Sp w ((((((w3.setCell ⟨H+1,0,none⟩ (.int .i64 (i:Int))).setCell ⟨H+1,1,none⟩ (.int .i64 (j:Int))).setCell ⟨H+1,2,none⟩ (.int .i64 (k:Int))).setCell ⟨H+2,0,none⟩ (.int .i64 (i:Int))).setCell ⟨H+2,1,none⟩ (.int .i64 (j:Int))).setCell ⟨H+2,2,none⟩ (.int .i64 (k:Int))).drew H i j k i j k i j k):=((((((hw0.out.low0 i).low1 j).low2 k).high0 i).high1 j).high2 k).drew
   clear xa0 xa1 xa2 la0 la1 la2 lf0 lf1 lf2 ua0 ua1 ua2 uf0 uf1 uf2 sz k0 k1 k2
   clear HVM
   generalize hvm:mv A B C i j k=v at *
   have HVE:=hid hvm
   clear hvm
   generalize ((((((w3.setCell ⟨H+1,0,none⟩ (.int .i64 (i:Int))).setCell ⟨H+1,1,none⟩ (.int .i64 (j:Int))).setCell ⟨H+1,2,none⟩ (.int .i64 (k:Int))).setCell ⟨H+2,0,none⟩ (.int .i64 (i:Int))).setCell ⟨H+2,1,none⟩ (.int .i64 (j:Int))).setCell ⟨H+2,2,none⟩ (.int .i64 (k:Int))).drew=w4 at *
   obtain ⟨xa0,xa1,xa2,_,_,_⟩:=hw4.out.x
   go_wp2
   clear hw0 xa0 xa1 xa2
   go_loopw [36] (fun t wr=>∃ r:Nat,r≤3∧t=.int .i64 (r:Int)∧Hid (Sp w wr H i j k (mx r 0 (sd A v i false) i) (mx r 1 (sd B v j false) j) (mx r 2 (sd C v k false) k) (mx r 0 (sd A v i true) i) (mx r 1 (sd B v j true) j) (mx r 2 (sd C v k true) k))) (fun t _=>3 - (intOf t).toNat)
   case atStart=>exact ⟨0,by omega,rfl,hw4.out⟩
   case round =>
    obtain ⟨r,hr,rfl,hst⟩:=hrel
    rcases r with _ | _ | _ | r
    ·-- argument 0
     have hsp:Hid (Sp w wr H i j k i j k i j k):=hst
     clear hst
     have kk:=hsp.out.args h0.out
     have cc:=kk.cell
     have sz:=hsp.out.sz
     by_cases q:2≤i
     ·obtain ⟨n',hn'⟩:∃ n',n'+2=i:=⟨i - 2,by omega⟩
      have hk2:n'<m0:=by omega
      obtain ⟨b',o',e,hb,d1,d2,d3⟩:=kk.at_ hk2
      have hlm:=kk.lm
      have hni:(i:Int) - 2=(n':Int):=by omega
      have HL:Hid (bv A (i - 2)=bv A n'∧bl A (i - 2)=bl A n'∧bh A (i - 2)=bh A n'):=by rw [← hn',Nat.add_sub_cancel];exact ⟨rfl,rfl,rfl⟩
      have hq:=hid q
      obtain ⟨la0,la1,la2,lf0,lf1,lf2⟩:=hsp.out.l
      obtain ⟨ua0,ua1,ua2,uf0,uf1,uf2⟩:=hsp.out.u
      have i1:(0:Int)≤(n':Int):=by omega
      have i2:(n':Int)<(m0:Int):=by omega
      have HN:=hid hn'
      rw [e] at cc
      clear hn' e kk
      have hbne:¬ b'=wr.heap.size:=by omega
      have hAL:=hsp.out.alloc (.cells #[.int .i64 ((bv A n':Nat):Int),.int .i64 ((bl A n':Nat):Int),.int .i64 ((bh A n':Nat):Int)] 80)
      have HA:=hid hAL
      clear hAL
      have hHs:¬ H+1=wr.heap.size:=by omega
      have hHt:¬ H+2=wr.heap.size:=by omega
      have hHs2:H+1<wr.heap.size:=by omega
      have hHt2:H+2<wr.heap.size:=by omega
      generalize bv A n'=V at *
      generalize bl A n'=L at *
      generalize bh A n'=U at *
      by_cases q2:V=v
      ·have HX:Hid (sd A v i false=L∧sd A v i true=U):=by unfold sd;rw [HL.out.1,HL.out.2.1,HL.out.2.2];exact ⟨(if_pos ⟨hq.out,q2⟩).trans rfl,(if_pos ⟨hq.out,q2⟩).trans rfl⟩
       have hve:((V:Int) == (v:Int))=true:=by rw [q2];exact beq_self_eq_true _
       have HQ2:=hid q2
       clear q2
       go_wp2
       go_region
       all_goals
        go_wp2
        go_roundw
        case rel=>exact ⟨1,by omega,by go_num,by rw [HX.out.1,HX.out.2];first | exact (((hsp.out.low0 L).high0 U).alloc _).drew | exact (((hsp.out.high0 U).low0 L).alloc _).drew⟩
        case measure=>simp [intOf]
      ·have HX:Hid (sd A v i false=i∧sd A v i true=i):=by unfold sd;rw [HL.out.1,if_neg (fun h=>q2 h.2),if_neg (fun h=>q2 h.2)];exact ⟨rfl,rfl⟩
       have hve:((V:Int) == (v:Int))=false:=beq_eq_false_iff_ne.2 (fun h=>q2 (by omega))
       clear q2
       go_wp2
       go_roundw
       case rel=>exact ⟨1,by omega,by go_num,by rw [HX.out.1,HX.out.2];exact HA.out⟩
       case measure=>simp [intOf]
     ·have HX:Hid (sd A v i false=i∧sd A v i true=i):=by unfold sd;rw [if_neg (fun h=>q h.1),if_neg (fun h=>q h.1)];exact ⟨rfl,rfl⟩
      go_wp2
      go_roundw
      case rel=>exact ⟨1,by omega,by go_num,by rw [HX.out.1,HX.out.2];exact hsp.out⟩
      case measure=>simp [intOf]
    ·-- argument 1
     have hsp:Hid (Sp w wr H i j k (sd A v i false) j k (sd A v i true) j k):=hst
     clear hst
     have kk:=hsp.out.args h1.out
     have cc:=kk.cell
     have sz:=hsp.out.sz
     by_cases q:2≤j
     ·obtain ⟨n',hn'⟩:∃ n',n'+2=j:=⟨j - 2,by omega⟩
      have hk2:n'<m1:=by omega
      obtain ⟨b',o',e,hb,d1,d2,d3⟩:=kk.at_ hk2
      have hlm:=kk.lm
      have hni:(j:Int) - 2=(n':Int):=by omega
      have HL:Hid (bv B (j - 2)=bv B n'∧bl B (j - 2)=bl B n'∧bh B (j - 2)=bh B n'):=by rw [← hn',Nat.add_sub_cancel];exact ⟨rfl,rfl,rfl⟩
      have hq:=hid q
      obtain ⟨la0,la1,la2,lf0,lf1,lf2⟩:=hsp.out.l
      obtain ⟨ua0,ua1,ua2,uf0,uf1,uf2⟩:=hsp.out.u
      have i1:(0:Int)≤(n':Int):=by omega
      have i2:(n':Int)<(m1:Int):=by omega
      have HN:=hid hn'
      rw [e] at cc
      clear hn' e kk
      have hbne:¬ b'=wr.heap.size:=by omega
      have hAL:=hsp.out.alloc (.cells #[.int .i64 ((bv B n':Nat):Int),.int .i64 ((bl B n':Nat):Int),.int .i64 ((bh B n':Nat):Int)] 80)
      have HA:=hid hAL
      clear hAL
      have hHs:¬ H+1=wr.heap.size:=by omega
      have hHt:¬ H+2=wr.heap.size:=by omega
      have hHs2:H+1<wr.heap.size:=by omega
      have hHt2:H+2<wr.heap.size:=by omega
      generalize bv B n'=V at *
      generalize bl B n'=L at *
      generalize bh B n'=U at *
      by_cases q2:V=v
      ·have HX:Hid (sd B v j false=L∧sd B v j true=U):=by unfold sd;rw [HL.out.1,HL.out.2.1,HL.out.2.2];exact ⟨(if_pos ⟨hq.out,q2⟩).trans rfl,(if_pos ⟨hq.out,q2⟩).trans rfl⟩
       have hve:((V:Int) == (v:Int))=true:=by rw [q2];exact beq_self_eq_true _
       have HQ2:=hid q2
       clear q2
       go_wp2
       go_region
       all_goals
        go_wp2
        go_roundw
        case rel=>exact ⟨2,by omega,by go_num,by rw [HX.out.1,HX.out.2];first | exact (((hsp.out.low1 L).high1 U).alloc _).drew | exact (((hsp.out.high1 U).low1 L).alloc _).drew⟩
        case measure=>simp [intOf]
      ·have HX:Hid (sd B v j false=j∧sd B v j true=j):=by unfold sd;rw [HL.out.1,if_neg (fun h=>q2 h.2),if_neg (fun h=>q2 h.2)];exact ⟨rfl,rfl⟩
       have hve:((V:Int) == (v:Int))=false:=beq_eq_false_iff_ne.2 (fun h=>q2 (by omega))
       clear q2
       go_wp2
       go_roundw
       case rel=>exact ⟨2,by omega,by go_num,by rw [HX.out.1,HX.out.2];exact HA.out⟩
       case measure=>simp [intOf]
     ·have HX:Hid (sd B v j false=j∧sd B v j true=j):=by unfold sd;rw [if_neg (fun h=>q h.1),if_neg (fun h=>q h.1)];exact ⟨rfl,rfl⟩
      go_wp2
      go_roundw
      case rel=>exact ⟨2,by omega,by go_num,by rw [HX.out.1,HX.out.2];exact hsp.out⟩
      case measure=>simp [intOf]
    ·-- argument 2
     have hsp:Hid (Sp w wr H i j k (sd A v i false) (sd B v j false) k (sd A v i true) (sd B v j true) k):=hst
     clear hst
     have kk:=hsp.out.args h2.out
     have cc:=kk.cell
     have sz:=hsp.out.sz
     by_cases q:2≤k
     ·obtain ⟨n',hn'⟩:∃ n',n'+2=k:=⟨k - 2,by omega⟩
      have hk2:n'<m2:=by omega
      obtain ⟨b',o',e,hb,d1,d2,d3⟩:=kk.at_ hk2
      have hlm:=kk.lm
      have hni:(k:Int) - 2=(n':Int):=by omega
      have HL:Hid (bv C (k - 2)=bv C n'∧bl C (k - 2)=bl C n'∧bh C (k - 2)=bh C n'):=by rw [← hn',Nat.add_sub_cancel];exact ⟨rfl,rfl,rfl⟩
      have hq:=hid q
      obtain ⟨la0,la1,la2,lf0,lf1,lf2⟩:=hsp.out.l
      obtain ⟨ua0,ua1,ua2,uf0,uf1,uf2⟩:=hsp.out.u
      have i1:(0:Int)≤(n':Int):=by omega
      have i2:(n':Int)<(m2:Int):=by omega
      have HN:=hid hn'
      rw [e] at cc
      clear hn' e kk
      have hbne:¬ b'=wr.heap.size:=by omega
      have hAL:=hsp.out.alloc (.cells #[.int .i64 ((bv C n':Nat):Int),.int .i64 ((bl C n':Nat):Int),.int .i64 ((bh C n':Nat):Int)] 80)
      have HA:=hid hAL
      clear hAL
      have hHs:¬ H+1=wr.heap.size:=by omega
      have hHt:¬ H+2=wr.heap.size:=by omega
      have hHs2:H+1<wr.heap.size:=by omega
      have hHt2:H+2<wr.heap.size:=by omega
      generalize bv C n'=V at *
      generalize bl C n'=L at *
      generalize bh C n'=U at *
      by_cases q2:V=v
      ·have HX:Hid (sd C v k false=L∧sd C v k true=U):=by unfold sd;rw [HL.out.1,HL.out.2.1,HL.out.2.2];exact ⟨(if_pos ⟨hq.out,q2⟩).trans rfl,(if_pos ⟨hq.out,q2⟩).trans rfl⟩
       have hve:((V:Int) == (v:Int))=true:=by rw [q2];exact beq_self_eq_true _
       have HQ2:=hid q2
       clear q2
       go_wp2
       go_region
       all_goals
        go_wp2
        go_roundw
        case rel=>exact ⟨3,by omega,by go_num,by rw [HX.out.1,HX.out.2];first | exact (((hsp.out.low2 L).high2 U).alloc _).drew | exact (((hsp.out.high2 U).low2 L).alloc _).drew⟩
        case measure=>simp [intOf]
      ·have HX:Hid (sd C v k false=k∧sd C v k true=k):=by unfold sd;rw [HL.out.1,if_neg (fun h=>q2 h.2),if_neg (fun h=>q2 h.2)];exact ⟨rfl,rfl⟩
       have hve:((V:Int) == (v:Int))=false:=beq_eq_false_iff_ne.2 (fun h=>q2 (by omega))
       clear q2
       go_wp2
       go_roundw
       case rel=>exact ⟨3,by omega,by go_num,by rw [HX.out.1,HX.out.2];exact HA.out⟩
       case measure=>simp [intOf]
     ·have HX:Hid (sd C v k false=k∧sd C v k true=k):=by unfold sd;rw [if_neg (fun h=>q h.1),if_neg (fun h=>q h.1)];exact ⟨rfl,rfl⟩
      go_wp2
      go_roundw
      case rel=>exact ⟨3,by omega,by go_num,by rw [HX.out.1,HX.out.2];exact hsp.out⟩
      case measure=>simp [intOf]
    ·obtain rfl:r=0:=by omega
     have hsp:Hid (Sp w wr H i j k (sd A v i false) (sd B v j false) (sd C v k false) (sd A v i true) (sd B v j true) (sd C v k true)):=hst
     clear hst
     obtain ⟨la0,la1,la2,lf0,lf1,lf2⟩:=hsp.out.l
     obtain ⟨ua0,ua1,ua2,uf0,uf1,uf2⟩:=hsp.out.u
     have sz:=hsp.out.sz
     go_wp2
     go_region
     all_goals
      go_wp2
      have hF:Hid (Sp w (((((((wr.setCell ⟨H+1,0,none⟩ (.int .i64 ((sd A v i false:Nat):Int))).setCell ⟨H+1,1,none⟩ (.int .i64 ((sd B v j false:Nat):Int))).setCell ⟨H+1,2,none⟩ (.int .i64 ((sd C v k false:Nat):Int))).setCell ⟨H+2,0,none⟩ (.int .i64 ((sd A v i true:Nat):Int))).setCell ⟨H+2,1,none⟩ (.int .i64 ((sd B v j true:Nat):Int))).setCell ⟨H+2,2,none⟩ (.int .i64 ((sd C v k true:Nat):Int))).drew) H i j k (sd A v i false) (sd B v j false) (sd C v k false) (sd A v i true) (sd B v j true) (sd C v k true)):=((((((hsp.out.low0 _).low1 _).low2 _).high0 _).high1 _).high2 _).drew
      clear la0 la1 la2 lf0 lf1 lf2 ua0 ua1 ua2 uf0 uf1 uf2
      generalize ((((((wr.setCell ⟨H+1,0,none⟩ (.int .i64 ((sd A v i false:Nat):Int))).setCell ⟨H+1,1,none⟩ (.int .i64 ((sd B v j false:Nat):Int))).setCell ⟨H+1,2,none⟩ (.int .i64 ((sd C v k false:Nat):Int))).setCell ⟨H+2,0,none⟩ (.int .i64 ((sd A v i true:Nat):Int))).setCell ⟨H+2,1,none⟩ (.int .i64 ((sd B v j true:Nat):Int))).setCell ⟨H+2,2,none⟩ (.int .i64 ((sd C v k true:Nat):Int))).drew=wf at *
      obtain ⟨la0,la1,la2,_,_,_⟩:=hF.out.l
      obtain ⟨ua0,ua1,ua2,_,_,_⟩:=hF.out.u
      have hbel:=hF.out.bel
      rw [← hF.out.hH] at hbel
      refine bodyPost_ret (v:=.tuple #[.int .i64 (v:Int),.agg #[.int .i64 ((sd A v i false:Nat):Int),.int .i64 ((sd B v j false:Nat):Int),.int .i64 ((sd C v k false:Nat):Int)],.agg #[.int .i64 ((sd A v i true:Nat):Int),.int .i64 ((sd B v j true:Nat):Int),.int .i64 ((sd C v k true:Nat):Int)]]) ?_ rfl ⟨by rw [HVE.out],hbel⟩
      simp [results,Tryz.results132,go_sem,la0,la1,la2,ua0,ua1,ua2]
end Go.Proofs.YtpaednfinlaioaaGreatDoor
