/-
  Plain mathematics and contracts of package diagram, several texts in one: DOps, DClone, DNot, DFix, DRes, DExi, DNev, DLst, DCnt, DSm2, DRSame, DRLev, DRSid.
-/
import Derived.Test.YtpaednfinlaioaaGreatDoorMf
import Derived.Test.YtpaednfinlaioaaGreatDoorMa
import Derived.Deep.DrawnRows
import Derived.Laws.Bits64b
import Derived.Test.YtpaednfinlaioaaGreatDoorMc
import Derived.Test.YtpaednfinlaioaaGreatDoorMd
set_option maxHeartbeats 4000000
set_option maxRecDepth 100000
namespace Go.Proofs.YtpaednfinlaioaaGreatDoor
open Go.Lib (hid)
open Go.RowKit Dg St
structure Dn (w:World) (A:Option Addr) (m c r:Nat) (f:Cfg→Bool):Prop where
 rd:Rd w w.heap.size A (up (cn f).1)
 len:(cn f).1.length=m
 rt:(cn f).2=r
 mc:m≤c
 lm:m≤4096
 d:D64 f
theorem Dn.below {w w':World} {A:Option Addr} {m c r:Nat} {f:Cfg→Bool} (h:Dn w A m c r f) (hb:Below w.heap.size w w'):Dn w' A m c r f:=⟨(h.rd.below hb).mono hb.size,h.len,h.rt,h.mc,h.lm,h.d⟩
theorem Dn.valid {w:World} {A:Option Addr} {m c r:Nat} {f:Cfg→Bool} (h:Dn w A m c r f):Valid (cn f).1 r:=by
 have:=cn_valid h.d
 rw [h.rt] at this
 exact this
theorem Dn.den {w:World} {A:Option Addr} {m c r:Nat} {f:Cfg→Bool} (h:Dn w A m c r f):Den (cn f).1 r=f:=by
 have:=cn_den h.d
 rw [h.rt] at this
 exact this
theorem Dn.lt {w:World} {A:Option Addr} {m c r:Nat} {f:Cfg→Bool} (h:Dn w A m c r f):r<m+2:=by
 have:=h.valid.lt
 rw [h.len] at this
 exact this
def Dn.da (A:Option Addr) (m c r:Nat) (f:Cfg→Bool):DA:=⟨A,m,c,up (cn f).1,(r:Int)⟩
theorem Dn.ok {w:World} {A:Option Addr} {m c r:Nat} {f:Cfg→Bool} (h:Dn w A m c r f):DOk w (Dn.da A m c r f):=by
 have hl:=h.len
 have hm:=h.lm
 have hr:=h.lt
 have hwi:Wi (up (cn f).1):=wi_up h.valid.good.ord (by omega)
 have hrd:=h.rd
 have hmc:=h.mc
 have e:(up (cn f).1).length=m:=by rw [up_len,hl]
 unfold Dn.da
 generalize up (cn f).1=l at *
 have h1:m≤9223372036854775800:=by omega
 have h2:(-9223372036854775808:Int)≤(r:Int):=by omega
 have h3:(r:Int)≤9223372036854775807:=by omega
 exact { rd:=hrd,wi:=hwi,len:=e,lm:=h1,mc:=hmc,ri:=⟨h2,h3⟩ }
theorem Dn.chk {w:World} {A:Option Addr} {m c r:Nat} {f:Cfg→Bool} (h:Dn w A m c r f):chk (up (cn f).1) (r:Int)=0 :=
 chk_ok.2 ⟨_,r,rfl,rfl,h.valid,by rw [h.len];exact h.lm⟩
def BinOk (w w':World) (h:Cfg→Bool) (e:Ending):Prop:=(∃ (A:Option Addr) (m c r:Nat),e=.returned (.tuple #[.agg #[.slice A m c,.int .i64 (r:Int)],.int .i64 0])∧Dn w' A m c r h∧Fr A w.heap.size)∧Below w.heap.size w w'
def two (A0 A1:Option Addr) (m0 c0 r0 m1 c1 r1:Nat) (N0 N1:List Br):Ca where
 A t:=if t=0 then A0 else if t=1 then A1 else none
 m t:=if t=0 then m0 else if t=1 then m1 else 0
 c t:=if t=0 then c0 else if t=1 then c1 else 0
 r t:=if t=0 then r0 else if t=1 then r1 else 0
 N t:=if t=0 then N0 else if t=1 then N1 else []
theorem two_ok {w:World} {A0 A1:Option Addr} {m0 c0 r0 m1 c1 r1:Nat} {N0 N1:List Br} (h0:Rd w w.heap.size A0 (up N0)) (h1:Rd w w.heap.size A1 (up N1)) (l0:N0.length=m0) (l1:N1.length=m1) (b0:m0≤4096) (b1:m1≤4096) (o0:Ord N0) (o1:Ord N1) (q0:r0<m0+2) (q1:r1<m1+2):(two A0 A1 m0 c0 r0 m1 c1 r1 N0 N1).Ok 2 w:=by
 refine ⟨fun t ht=>?_,fun t=>?_,fun t=>?_,fun t=>?_,fun t=>?_,fun t ht=>?_⟩
 ·obtain rfl | rfl:t=0∨t=1:=by omega
  ·exact h0
  ·exact h1
 ·unfold two;simp only;split
  ·exact l0
  ·split
   ·exact l1
   ·rfl
 ·unfold two;simp only;split
  ·exact b0
  ·split
   ·exact b1
   ·omega
 ·unfold two;simp only;split
  ·exact o0
  ·split
   ·exact o1
   ·exact good_nil.ord
 ·unfold two;simp only;split
  ·exact q0
  ·split
   ·exact q1
   ·omega
 ·unfold two
  simp only
  rw [if_neg (by omega),if_neg (by omega),if_neg (by omega),if_neg (by omega),if_neg (by omega),if_neg (by omega),if_neg (by omega),if_neg (by omega)]
  exact ⟨rfl,rfl,rfl,rfl⟩
theorem two_pr {A0 A1:Option Addr} {m0 c0 r0 m1 c1 r1:Nat} {N0 N1:List Br} (q0:r0<m0+2) (q1:r1<m1+2) (hp:(m0+2)*(m1+2)≤4096):∀ k,k≤3→(two A0 A1 m0 c0 r0 m1 c1 r1 N0 N1).pr k≤1000000000000:=by
 intro k hk
 have h1:(r0+1)*(r1+1)≤(m0+2)*(m1+2):=Nat.mul_le_mul (by omega) (by omega)
 have h2:r0+1≤(r0+1)*(r1+1):=Nat.le_mul_of_pos_right _ (by omega)
 obtain rfl | rfl | rfl | rfl:k=0∨k=1∨k=2∨k=3:=by omega
 ·show 1≤_;omega
 ·show 1*(r0+1)≤_;omega
 ·show 1*(r0+1)*(r1+1)≤_;rw [Nat.one_mul];omega
 ·show 1*(r0+1)*(r1+1)*(0+1)≤_;rw [Nat.one_mul];omega
theorem two_same {A0 A1:Option Addr} {m0 c0 r0 m1 c1 r1:Nat} {N0 N1:List Br}:∀ x,x<(two A0 A1 m0 c0 r0 m1 c1 r1 N0 N1).r 1+1→x<(two A0 A1 m0 c0 r0 m1 c1 r1 N0 N1).r 2+1→Den ((two A0 A1 m0 c0 r0 m1 c1 r1 N0 N1).N 1) x=Den ((two A0 A1 m0 c0 r0 m1 c1 r1 N0 N1).N 2) x:=by
 intro x _ h2
 have:x=0:=by
  have h3:(two A0 A1 m0 c0 r0 m1 c1 r1 N0 N1).r 2=0:=rfl
  omega
 subst this
 rw [Den_zero,Den_zero]
def W4 (w:World) (A0 A1:Option Addr) (m0 c0 r0 m1 c1 r1:Nat):World:=((((w.alloc (.cells #[.slice A0 m0 c0,.int .i64 (r0:Int)] 31)).alloc (.cells #[.slice A1 m1 c1,.int .i64 (r1:Int)] 31)).alloc (.cells #[.slice none 0 0,.int .i64 0] 31)).alloc (.cells #[.slice A0 m0 c0,.int .i64 (r0:Int),.slice A1 m1 c1,.int .i64 (r1:Int)] 31))
theorem W4_below (w:World) (A0 A1:Option Addr) (m0 c0 r0 m1 c1 r1:Nat):Below w.heap.size w (W4 w A0 A1 m0 c0 r0 m1 c1 r1):=((((Below.refl _ _).alloc (Nat.le_refl _) _).alloc (by simp) _).alloc (by simp;omega) _).alloc (by simp;omega) _
theorem W4_size (w:World) (A0 A1:Option Addr) (m0 c0 r0 m1 c1 r1:Nat):(W4 w A0 A1 m0 c0 r0 m1 c1 r1).heap.size=w.heap.size+1+1+1+1:=by simp [W4]
theorem W4_res (w:World) (A0 A1:Option Addr) (m0 c0 r0 m1 c1 r1:Nat):Blk (W4 w A0 A1 m0 c0 r0 m1 c1 r1) (w.heap.size+1+1) 2 zc:=by
 have h:=(Blk.new (w:=(w.alloc (.cells #[.slice A0 m0 c0,.int .i64 (r0:Int)] 31)).alloc (.cells #[.slice A1 m1 c1,.int .i64 (r1:Int)] 31)) (H:=w.heap.size+1+1) (by simp) [.slice none 0 0,.int .i64 0] 31).alloc (by simp) (.cells #[.slice A0 m0 c0,.int .i64 (r0:Int),.slice A1 m1 c1,.int .i64 (r1:Int)] 31)
 exact h.congr (fun i hi=>by
  obtain rfl | rfl:i=0∨i=1:=by simp at hi;omega
  all_goals rfl)
theorem W4_args (w:World) (A0 A1:Option Addr) (m0 c0 r0 m1 c1 r1:Nat):Blk (W4 w A0 A1 m0 c0 r0 m1 c1 r1) (w.heap.size+1+1+1) 4 (fun i=>[Value.slice A0 m0 c0,.int .i64 (r0:Int),.slice A1 m1 c1,.int .i64 (r1:Int)].getD i undef) :=
 Blk.new (w:=((w.alloc (.cells #[.slice A0 m0 c0,.int .i64 (r0:Int)] 31)).alloc (.cells #[.slice A1 m1 c1,.int .i64 (r1:Int)] 31)).alloc (.cells #[.slice none 0 0,.int .i64 0] 31)) (by simp) [.slice A0 m0 c0,.int .i64 (r0:Int),.slice A1 m1 c1,.int .i64 (r1:Int)] 31
theorem bin_call (f T:Nat) (op:Bool→Bool→Bool) (hop:∀ p q,tt T p q false=op p q) (hT:T<256) (hTt:T∈tabs) (hf:Op3 f T) (m0 c0 m1 c1 r0 r1:Nat) (A0 A1:Option Addr) (fa fb:Cfg→Bool) (w:World) (h0:Dn w A0 m0 c0 r0 fa) (h1:Dn w A1 m1 c1 r1 fb) (hin:Ins w 0)
  (hsz:(cn (fun x=>op (fa x) (fb x))).1.length≤4096) (hpr:(m0+2)*(m1+2)≤4096) :
  Calls Tryz.prog 54 #[.func (.func f) #[] #[],.slice (some ⟨w.heap.size+1+1+1,0,none⟩) 2 2] (W4 w A0 A1 m0 c0 r0 m1 c1 r1) (fun e w'=>OpOk (W4 w A0 A1 m0 c0 r0 m1 c1 r1) w' (cn (fun x=>op (fa x) (fb x))).1 (cn (fun x=>op (fa x) (fb x))).2 e):=by
 have hb:=W4_below w A0 A1 m0 c0 r0 m1 c1 r1
 have ha:=W4_args w A0 A1 m0 c0 r0 m1 c1 r1
 have hbs:w.heap.size+1+1+1<(W4 w A0 A1 m0 c0 r0 m1 c1 r1).heap.size:=by rw [W4_size];omega
 have hinw:=hin.below hb
 have k0:=h0.below hb
 have k1:=h1.below hb
 have rd0:=k0.rd
 have rd1:=k1.rd
 have l0:=h0.len
 have l1:=h1.len
 have o0:=h0.valid.good.ord
 have o1:=h1.valid.good.ord
 have d0:=h0.den
 have d1:=h1.den
 have ok0:=k0.ok
 have ok1:=k1.ok
 have ck0:=h0.chk
 have ck1:=h1.chk
 have lt0:=h0.lt
 have lt1:=h1.lt
 have lm0:=h0.lm
 have lm1:=h1.lm
 unfold Dn.da at ok0 ok1
 generalize W4 w A0 A1 m0 c0 r0 m1 c1 r1=W at *
 clear k0 k1 h0 h1 hb
 have hcn:cn (fun x=>op (fa x) (fb x))=put 64 (fun x=>op (fa x) (fb x)) []:=rfl
 generalize cn (fun x=>op (fa x) (fb x))=R at *
 generalize (cn fa).1=N0 at *
 generalize (cn fb).1=N1 at *
 have hD:(two A0 A1 m0 c0 r0 m1 c1 r1 N0 N1).Ok 2 W:=two_ok rd0 rd1 l0 l1 lm0 lm1 o0 o1 lt0 lt1
 have hfx:fx T ((two A0 A1 m0 c0 r0 m1 c1 r1 N0 N1).N 0) ((two A0 A1 m0 c0 r0 m1 c1 r1 N0 N1).N 1) ((two A0 A1 m0 c0 r0 m1 c1 r1 N0 N1).N 2) ((two A0 A1 m0 c0 r0 m1 c1 r1 N0 N1).r 0) ((two A0 A1 m0 c0 r0 m1 c1 r1 N0 N1).r 1) ((two A0 A1 m0 c0 r0 m1 c1 r1 N0 N1).r 2)=fun x=>op (fa x) (fb x):=by
  show fx T N0 N1 [] r0 r1 0=_
  funext x
  unfold fx
  rw [d0,d1,Den_zero,hop]
 have hres:put 64 (fx T ((two A0 A1 m0 c0 r0 m1 c1 r1 N0 N1).N 0) ((two A0 A1 m0 c0 r0 m1 c1 r1 N0 N1).N 1) ((two A0 A1 m0 c0 r0 m1 c1 r1 N0 N1).N 2) ((two A0 A1 m0 c0 r0 m1 c1 r1 N0 N1).r 0) ((two A0 A1 m0 c0 r0 m1 c1 r1 N0 N1).r 1) ((two A0 A1 m0 c0 r0 m1 c1 r1 N0 N1).r 2)) []=(R.1,R.2):=by
  rw [hfx,← hcn]
 have hsame:=two_same (A0:=A0) (A1:=A1) (m0:=m0) (c0:=c0) (r0:=r0) (m1:=m1) (c1:=c1) (r1:=r1) (N0:=N0) (N1:=N1)
 have hpr3:=two_pr (A0:=A0) (A1:=A1) (c0:=c0) (c1:=c1) (N0:=N0) (N1:=N1) lt0 lt1 hpr
 have hca:CArgs W (w.heap.size+1+1+1) 2 (two A0 A1 m0 c0 r0 m1 c1 r1 N0 N1):=by
  intro t ht
  obtain rfl | rfl:t=0∨t=1:=by omega
  ·exact ⟨(ha 0 (by omega)).1,(ha 1 (by omega)).1⟩
  ·exact ⟨(ha 2 (by omega)).1,(ha 3 (by omega)).1⟩
 have hdo:∀ d∈[(⟨A0,m0,c0,up N0,(r0:Int)⟩:DA),⟨A1,m1,c1,up N1,(r1:Int)⟩],DOk W d:=by
  intro d hd
  simp only [List.mem_cons,List.not_mem_nil,or_false] at hd
  rcases hd with rfl | rfl
  ·exact ok0
  ·exact ok1
 have hck:chkAll [(⟨A0,m0,c0,up N0,(r0:Int)⟩:DA),⟨A1,m1,c1,up N1,(r1:Int)⟩]=0:=by
  refine chkAll_ok (fun d hd=>?_)
  simp only [List.mem_cons,List.not_mem_nil,or_false] at hd
  rcases hd with rfl | rfl
  ·exact ck0
  ·exact ck1
 have hdc:∀ k (hk:k<[(⟨A0,m0,c0,up N0,(r0:Int)⟩:DA),⟨A1,m1,c1,up N1,(r1:Int)⟩].length),W.cell? ⟨w.heap.size+1+1+1,k*2,none⟩=some (.slice [(⟨A0,m0,c0,up N0,(r0:Int)⟩:DA),⟨A1,m1,c1,up N1,(r1:Int)⟩][k].A [(⟨A0,m0,c0,up N0,(r0:Int)⟩:DA),⟨A1,m1,c1,up N1,(r1:Int)⟩][k].m [(⟨A0,m0,c0,up N0,(r0:Int)⟩:DA),⟨A1,m1,c1,up N1,(r1:Int)⟩][k].c)∧W.cell? ⟨w.heap.size+1+1+1,k*2+1,none⟩=some (.int .i64 [(⟨A0,m0,c0,up N0,(r0:Int)⟩:DA),⟨A1,m1,c1,up N1,(r1:Int)⟩][k].r):=by
  intro k hk
  obtain rfl | rfl:k=0∨k=1:=by simp at hk;omega
  ·exact ⟨(ha 0 (by omega)).1,(ha 1 (by omega)).1⟩
  ·exact ⟨(ha 2 (by omega)).1,(ha 3 (by omega)).1⟩
 exact checked_ok (w.heap.size+1+1+1) 2 f T 2 (two A0 A1 m0 c0 r0 m1 c1 r1 N0 N1) [⟨A0,m0,c0,up N0,(r0:Int)⟩,⟨A1,m1,c1,up N1,(r1:Int)⟩] W (by omega) hbs hT hTt hinw hsame R.1 R.2 hres hsz hf hD hca hpr3 rfl hdo hdc hck
theorem and_ok (m0 c0 m1 c1 r0 r1:Nat) (A0 A1:Option Addr) (fa fb:Cfg→Bool) (w:World) (h0:Hid (Dn w A0 m0 c0 r0 fa)) (h1:Hid (Dn w A1 m1 c1 r1 fb)) (hin:Hid (Ins w 0))
  (hsz:Hid ((cn (fun x=>and (fa x) (fb x))).1.length≤4096)) (hpr:Hid ((m0+2)*(m1+2)≤4096)) :
  Calls Tryz.prog 25 #[.agg #[.slice A0 m0 c0,.int .i64 (r0:Int)],.agg #[.slice A1 m1 c1,.int .i64 (r1:Int)]] w (fun e w'=>BinOk w w' (fun x=>and (fa x) (fb x)) e):=by
 have hc0:=bin_call 55 136 (fun p q=>and p q) (fun p q=>tt_and p q false) (by omega) (by unfold tabs;simp) and_op m0 c0 m1 c1 r0 r1 A0 A1 fa fb w h0.out h1.out hin.out hsz.out hpr.out
 have hd:D64 (fun x=>and (fa x) (fb x)):=d64_bin _ h0.out.d h1.out.d
 have HD:=hid hd
 have hs0:=hsz.out
 clear hd hsz h0 h1
 generalize hR:cn (fun x=>and (fa x) (fb x))=R at hc0 hs0
 obtain ⟨MR,rr⟩:=R
 have HR:=hid hR
 have hcall:=hid hc0
 have HSZ:=hid hs0
 clear hR hc0 hs0
 simp only at hcall HSZ
 have hres0:=hid (W4_res w A0 A1 m0 c0 r0 m1 c1 r1)
 have HB1:=hid (W4_below w A0 A1 m0 c0 r0 m1 c1 r1)
 have HS1:=hid (W4_size w A0 A1 m0 c0 r0 m1 c1 r1)
 go_enter Tryz.func25,Tryz.ntmps25
 go_wp2_with (go_at_call 54;refine hcall.out.mono ?_;rintro e w3 ⟨⟨A,c,rfl,hc,hrd,hfr⟩,hb3⟩;have HRB3:=hid (hres0.out.below (by simp) hb3);obtain ⟨y0,z0⟩:=HRB3.out 0 (by simp);obtain ⟨y1,z1⟩:=HRB3.out 1 (by simp);have HRD:=hid hrd;have HFR:=hid hfr;have HC:=hid hc;have HB3:=hid (HB1.out.trans (hb3.mono HB1.out.size));clear hrd hfr hc hb3)
 have hfr:Fr A (w.heap.size+1+1+1):=HFR.out.mono (by rw [HS1.out];omega)
 have hbl:Below w.heap.size w ((w3.setCell ⟨w.heap.size+1+1,0,none⟩ (.slice A MR.length c)).setCell ⟨w.heap.size+1+1,1,none⟩ (.int .i64 (rr:Int))):=(HB3.out.setCell (by simp;omega) _).setCell (by simp;omega) _
 have hr2:Rd ((w3.setCell ⟨w.heap.size+1+1,0,none⟩ (.slice A MR.length c)).setCell ⟨w.heap.size+1+1,1,none⟩ (.int .i64 (rr:Int))) ((w3.setCell ⟨w.heap.size+1+1,0,none⟩ (.slice A MR.length c)).setCell ⟨w.heap.size+1+1,1,none⟩ (.int .i64 (rr:Int))).heap.size A (up MR):=by
  have h:=(HRD.out.setF (n:=0) hfr (.slice A MR.length c)).setF (n:=1) hfr (.int .i64 (rr:Int))
  simpa [World.setCell] using h
 have hdn:Dn ((w3.setCell ⟨w.heap.size+1+1,0,none⟩ (.slice A MR.length c)).setCell ⟨w.heap.size+1+1,1,none⟩ (.int .i64 (rr:Int))) A MR.length c rr (fun x=>and (fa x) (fb x)) :=
  ⟨by rw [HR.out];exact hr2,by rw [HR.out],by rw [HR.out],HC.out,HSZ.out,HD.out⟩
 refine bodyPost_ret (v:=.tuple #[.agg #[.slice A MR.length c,.int .i64 (rr:Int)],.int .i64 0]) ?_ rfl ⟨⟨A,_,c,_,rfl,hdn,hfr.mono (by omega)⟩,hbl⟩
 rw [results_cell_tmp rfl]
 go_simp
theorem or_ok (m0 c0 m1 c1 r0 r1:Nat) (A0 A1:Option Addr) (fa fb:Cfg→Bool) (w:World) (h0:Hid (Dn w A0 m0 c0 r0 fa)) (h1:Hid (Dn w A1 m1 c1 r1 fb)) (hin:Hid (Ins w 0))
  (hsz:Hid ((cn (fun x=>or (fa x) (fb x))).1.length≤4096)) (hpr:Hid ((m0+2)*(m1+2)≤4096)) :
  Calls Tryz.prog 26 #[.agg #[.slice A0 m0 c0,.int .i64 (r0:Int)],.agg #[.slice A1 m1 c1,.int .i64 (r1:Int)]] w (fun e w'=>BinOk w w' (fun x=>or (fa x) (fb x)) e):=by
 have hc0:=bin_call 56 238 (fun p q=>or p q) (fun p q=>tt_or p q false) (by omega) (by unfold tabs;simp) or_op m0 c0 m1 c1 r0 r1 A0 A1 fa fb w h0.out h1.out hin.out hsz.out hpr.out
 have hd:D64 (fun x=>or (fa x) (fb x)):=d64_bin _ h0.out.d h1.out.d
 have HD:=hid hd
 have hs0:=hsz.out
 clear hd hsz h0 h1
 generalize hR:cn (fun x=>or (fa x) (fb x))=R at hc0 hs0
 obtain ⟨MR,rr⟩:=R
 have HR:=hid hR
 have hcall:=hid hc0
 have HSZ:=hid hs0
 clear hR hc0 hs0
 simp only at hcall HSZ
 have hres0:=hid (W4_res w A0 A1 m0 c0 r0 m1 c1 r1)
 have HB1:=hid (W4_below w A0 A1 m0 c0 r0 m1 c1 r1)
 have HS1:=hid (W4_size w A0 A1 m0 c0 r0 m1 c1 r1)
 go_enter Tryz.func26,Tryz.ntmps26
 go_wp2_with (go_at_call 54;refine hcall.out.mono ?_;rintro e w3 ⟨⟨A,c,rfl,hc,hrd,hfr⟩,hb3⟩;have HRB3:=hid (hres0.out.below (by simp) hb3);obtain ⟨y0,z0⟩:=HRB3.out 0 (by simp);obtain ⟨y1,z1⟩:=HRB3.out 1 (by simp);have HRD:=hid hrd;have HFR:=hid hfr;have HC:=hid hc;have HB3:=hid (HB1.out.trans (hb3.mono HB1.out.size));clear hrd hfr hc hb3)
 have hfr:Fr A (w.heap.size+1+1+1):=HFR.out.mono (by rw [HS1.out];omega)
 have hbl:Below w.heap.size w ((w3.setCell ⟨w.heap.size+1+1,0,none⟩ (.slice A MR.length c)).setCell ⟨w.heap.size+1+1,1,none⟩ (.int .i64 (rr:Int))):=(HB3.out.setCell (by simp;omega) _).setCell (by simp;omega) _
 have hr2:Rd ((w3.setCell ⟨w.heap.size+1+1,0,none⟩ (.slice A MR.length c)).setCell ⟨w.heap.size+1+1,1,none⟩ (.int .i64 (rr:Int))) ((w3.setCell ⟨w.heap.size+1+1,0,none⟩ (.slice A MR.length c)).setCell ⟨w.heap.size+1+1,1,none⟩ (.int .i64 (rr:Int))).heap.size A (up MR):=by
  have h:=(HRD.out.setF (n:=0) hfr (.slice A MR.length c)).setF (n:=1) hfr (.int .i64 (rr:Int))
  simpa [World.setCell] using h
 have hdn:Dn ((w3.setCell ⟨w.heap.size+1+1,0,none⟩ (.slice A MR.length c)).setCell ⟨w.heap.size+1+1,1,none⟩ (.int .i64 (rr:Int))) A MR.length c rr (fun x=>or (fa x) (fb x)) :=
  ⟨by rw [HR.out];exact hr2,by rw [HR.out],by rw [HR.out],HC.out,HSZ.out,HD.out⟩
 refine bodyPost_ret (v:=.tuple #[.agg #[.slice A MR.length c,.int .i64 (rr:Int)],.int .i64 0]) ?_ rfl ⟨⟨A,_,c,_,rfl,hdn,hfr.mono (by omega)⟩,hbl⟩
 rw [results_cell_tmp rfl]
 go_simp
def brc (L:Nat→Br) (i:Nat):Value:=if i % 3=0 then .int .i64 ((L (i / 3)).1:Int) else if i % 3=1 then .int .i64 ((L (i / 3)).2.1:Int) else .int .i64 ((L (i / 3)).2.2:Int)
theorem brc0 (L:Nat→Br) (j:Nat):brc L (j*3)=.int .i64 ((L j).1:Int):=by unfold brc;rw [if_pos (by omega),show j*3 / 3=j by omega]
theorem brc1 (L:Nat→Br) (j:Nat):brc L (j*3+1)=.int .i64 ((L j).2.1:Int):=by unfold brc;rw [if_neg (by omega),if_pos (by omega),show (j*3+1) / 3=j by omega]
theorem brc2 (L:Nat→Br) (j:Nat):brc L (j*3+2)=.int .i64 ((L j).2.2:Int):=by unfold brc;rw [if_neg (by omega),if_neg (by omega),show (j*3+2) / 3=j by omega]
def brs (M:List Br) (j:Nat):Br:=(bv M j,bl M j,bh M j)
theorem Blk.rd {w:World} {g m:Nat} {L:Nat→Br} {M:List Br} (h:Blk w g (m*3) (brc L)) (hl:M.length=m) (he:∀ j,j<m→L j=brs M j):Rd w w.heap.size (some ⟨g,0,none⟩) (up M):=fun h0=>by
 rw [up_len] at h0
 refine ⟨g,0,rfl,h.lt (by omega),fun j hj=>?_⟩
 rw [up_len] at hj
 have e:=he j (by omega)
 have c0:=(h (j*3) (by omega)).1
 have c1:=(h (j*3+1) (by omega)).1
 have c2:=(h (j*3+2) (by omega)).1
 rw [brc0,e] at c0
 rw [brc1,e] at c1
 rw [brc2,e] at c2
 rw [iv_up,il_up,ih_up,Nat.zero_add]
 exact ⟨c0,c1,c2⟩
theorem flat_get (M:List Br) (i:Nat) (hi:i<M.length*3):(flat M)[i]? = some (brc (brs M) i):=by
 obtain ⟨f0,f1,f2⟩:=flat_at M (i / 3) (by omega)
 have h3:i=i / 3*3∨i=i / 3*3+1∨i=i / 3*3+2:=by omega
 generalize i / 3=j at *
 rcases h3 with rfl | rfl | rfl
 ·rw [f0,brc0];rfl
 ·rw [f1,brc1];rfl
 ·rw [f2,brc2];rfl
theorem own_blk {w:World} {base g m cap:Nat} {M:List Br} (h:w.ownsRow base 80 3 (.slice (some ⟨g,0,none⟩) m cap) m (flat M)) (hl:M.length=m):Blk w g (m*3) (brc (brs M)):=fun i hi=>by
 subst hl
 refine ⟨?_,?_⟩
 ·rw [h.cellAt i (by omega)]
  exact flat_get M i hi
 ·rcases h.2 with ⟨e,_⟩ | ⟨g',cap',cur,e,_,hh,_⟩
  ·cases e
  ·injection e with e1
   injection e1 with e2
   injection e2 with e3
   subst e3
   exact frozen_of_row w g i _ _ hh
theorem run_append_none (base:Nat) (t ty e:TypeId) (i:TypeInfo) (size:Nat) (P:Program) (w:World) (ht:P.underlying t=some (.slice e)) (hi:P.info? e=some i)
  (v:Value) (n c:Nat) (A:Option Addr) (xs:List Value) (hown:w.ownsRow base e size v n xs) :
  (Builtin.append_ #[t,t] ty #[v,.slice A 0 c]).run P w=.ok v w:=by
 rcases hown.2 with ⟨rfl,rfl⟩ | ⟨g,cap,cur,rfl,_,_,hnc,_⟩
 ·rcases A with _ | ad <;> simp [Builtin.append_,run_underlying ht,sizeOf,typeInfo,hi,Builtin.lenOf,Builtin.firstCells,loadCells,loadCellsFrom]
 ·rcases A with _ | ad <;> simp [Builtin.append_,run_underlying ht,sizeOf,typeInfo,hi,Builtin.lenOf,Builtin.firstCells,hnc,storeCells,loadCells,loadCellsFrom]
theorem flat_one (M:List Br):∀ u∈flat M,u.oneCell'=true:=by
 intro u hu
 unfold flat at hu
 rw [List.mem_flatMap] at hu
 obtain ⟨b,_,hb⟩:=hu
 simp only [List.mem_cons,List.not_mem_nil,or_false] at hb
 rcases hb with rfl | rfl | rfl <;> rfl
theorem rd_news {w:World} {B b o:Nat} {M:List Br} (h:Rd w B (some ⟨b,o,none⟩) (up M)):∀ j u,(flat M)[j]? = some u→w.cell? ((⟨b,o,none⟩:Addr).add j)=some u:=fun j u hu=>by
 have hadd:(⟨b,o,none⟩:Addr).add j=⟨b,o+j,none⟩:=by unfold Addr.add;split <;> simp_all
 have hj:j<M.length*3:=by
  have:=List.getElem?_eq_some_iff.1 hu
  obtain ⟨h1,_⟩:=this
  rw [flat_len] at h1
  exact h1
 have hm:0<(up M).length:=by rw [up_len];omega
 obtain ⟨b',o',e,_,hc⟩:=h hm
 injection e with e1
 injection e1 with e2 e3
 subst e2
 subst e3
 obtain ⟨c0,c1,c2⟩:=hc (j / 3) (by rw [up_len];omega)
 rw [iv_up] at c0
 rw [il_up] at c1
 rw [ih_up] at c2
 rw [flat_get M j hj] at hu
 injection hu with hu
 rw [hadd,← hu]
 have h3:j=j / 3*3∨j=j / 3*3+1∨j=j / 3*3+2:=by omega
 generalize j / 3=q at *
 rcases h3 with rfl | rfl | rfl
 ·rw [brc0];exact c0
 ·rw [brc1,← Nat.add_assoc];exact c1
 ·rw [brc2,← Nat.add_assoc];exact c2
def ClOk (w w':World) (M:List Br) (e:Ending):Prop:=(∃ A c,e=.returned (.slice A M.length c)∧M.length≤c∧Fr A w.heap.size∧(0<M.length→∃ g,A=some ⟨g,0,none⟩∧w.heap.size≤g∧Blk w' g (M.length*3) (brc (brs M))))∧Below w.heap.size w w'
theorem clone_some (b o c m:Nat) (M:List Br) (w:World) (hrd:Hid (Rd w w.heap.size (some ⟨b,o,none⟩) (up M))) (hl:Hid (M.length=m)) (hm:m≤5000) (hp:0<m) :
  Calls Tryz.prog 57 #[.slice (some ⟨b,o,none⟩) m c] w (fun e w'=>ClOk w w' M e):=by
 obtain ⟨i0,hi,hz0,hz1,hz2⟩:=info_parts Tryz.infoBr
 have hen:=fun W:World=>Lib.run_eql_slice_nil (P:=Tryz.prog) W 29 80 (some ⟨b,o,none⟩) m c 0 0 Tryz.underlying29
 have hown:Hid ((w.alloc (.cells #[] 80)).ownsRow w.heap.size 80 3 (.slice (some ⟨w.heap.size,0,none⟩) 0 0) 0 []) :=
  ⟨rfl,.inr ⟨w.heap.size,0,#[],rfl,Nat.le_refl _,heap_alloc_new _ _,Nat.le_refl _,Nat.zero_le _,rfl,rfl⟩⟩
 have b1:=(Below.refl w.heap.size w).alloc (Nat.le_refl _) (.cells #[] 80)
 have hnews:=rd_news (((hrd.out.below b1).mono b1.size))
 have HNW:=hid hnews
 have HB1:=hid b1
 have hfl:(flat M).length=m*3:=by rw [flat_len,hl.out]
 have HFL:=hid hfl
 clear hnews b1 hfl
 go_enter Tryz.func57,Tryz.ntmps57
 go_wp2_with (at_builtin;refine wpList_append_lies _ (by rfl) _ _ _ (by rfl) w.heap.size 80 i0 _ 3 24 Tryz.underlying29 hi hz0 hz1 hz2 rfl (by omega) (.slice (some ⟨w.heap.size,0,none⟩) 0 0) 0 [] (by rfl) hown.out ⟨b,o,none⟩ m c (flat M) (by rfl) HFL.out HNW.out (flat_one M) hp (by simp only [maxLen];omega) (by omega) (by simp) _ rfl ?_;intro g cap w1 hown1 hgrow hat hlt;have HO:=hid hown1;have HG:=hid hgrow;have HAT:=hid hat;clear hown1 hgrow hat hlt)
 go_ret
 have hown1:=HO.out
 rw [Nat.zero_add,List.nil_append] at hown1
 have hge:w.heap.size≤g:=by
  rcases HAT.out with e | e
  ·simp [Value.ownBlock] at e;omega
  ·rw [e];simp
 have hcap:m≤cap:=by
  rcases hown1.2 with ⟨e,_⟩ | ⟨g',cap',cur,e,_,_,h3,_⟩
  ·cases e
  ·injection e with _ _ e3;omega
 have hbl:Below w.heap.size w w1:=HB1.out.trans ⟨HG.out.os,HG.out.tape,HG.out.output,HG.out.size,fun k hk=>HG.out.block k (Nat.lt_of_lt_of_le hk HB1.out.size) (fun e=>by simp [Value.ownBlock] at e;omega)⟩
 refine ⟨⟨some ⟨g,0,none⟩,cap,by rw [hl.out];rfl,by rw [hl.out];exact hcap,fun b0 o0 e0=>?_,fun _=>⟨g,rfl,hge,?_⟩⟩,hbl⟩
 ·injection e0 with e1;injection e1 with e2;omega
 ·rw [hl.out];exact own_blk hown1 hl.out
theorem clone_nil (c:Nat) (w:World) :
  Calls Tryz.prog 57 #[.slice none 0 c] w (fun e w'=>ClOk w w' [] e):=by
 have hen:=fun W:World=>Lib.run_eql_slice_nil (P:=Tryz.prog) W 29 80 none 0 c 0 0 Tryz.underlying29
 go_enter Tryz.func57,Tryz.ntmps57
 go_wp2
 go_ret
 exact ⟨⟨none,0,rfl,Nat.le_refl _,fun _ _ e=>(by cases e),fun h=>absurd h (by simp)⟩,Below.refl _ _⟩
theorem clone_zero (ad:Addr) (c:Nat) (w:World) :
  Calls Tryz.prog 57 #[.slice (some ad) 0 c] w (fun e w'=>ClOk w w' [] e):=by
 obtain ⟨i0,hi,hz0,hz1,hz2⟩:=info_parts Tryz.infoBr
 have hen:=fun W:World=>Lib.run_eql_slice_nil (P:=Tryz.prog) W 29 80 (some ad) 0 c 0 0 Tryz.underlying29
 have hown:Hid ((w.alloc (.cells #[] 80)).ownsRow w.heap.size 80 3 (.slice (some ⟨w.heap.size,0,none⟩) 0 0) 0 []) :=
  ⟨rfl,.inr ⟨w.heap.size,0,#[],rfl,Nat.le_refl _,heap_alloc_new _ _,Nat.le_refl _,Nat.zero_le _,rfl,rfl⟩⟩
 have hrun:=run_append_none w.heap.size 29 29 80 i0 3 Tryz.prog _ Tryz.underlying29 hi _ 0 c (some ad) [] hown.out
 have b1:=(Below.refl w.heap.size w).alloc (Nat.le_refl _) (.cells #[] 80)
 have HB1:=hid b1
 clear b1
 go_enter Tryz.func57,Tryz.ntmps57
 go_wp2
 go_ret
 exact ⟨⟨some ⟨w.heap.size,0,none⟩,0,rfl,Nat.le_refl _,fun b0 o0 e=>(by injection e with e1;injection e1 with e2;omega),fun h=>absurd h (by simp)⟩,HB1.out⟩
theorem clone_any (A:Option Addr) (c m:Nat) (M:List Br) (w:World) (hrd:Rd w w.heap.size A (up M)) (hl:M.length=m) (hm:m≤5000) :
  Calls Tryz.prog 57 #[.slice A m c] w (fun e w'=>ClOk w w' M e):=by
 rcases Nat.eq_zero_or_pos m with h0 | h0
 ·subst h0
  obtain rfl:=List.eq_nil_of_length_eq_zero hl
  rcases A with _ | ad
  ·exact clone_nil c w
  ·exact clone_zero ad c w
 ·obtain ⟨b,o,rfl,_,_⟩:=hrd (by rw [up_len];omega)
  exact clone_some b o c m M w hrd hl hm h0
end Go.Proofs.YtpaednfinlaioaaGreatDoor
namespace Go.Proofs.YtpaednfinlaioaaGreatDoor
open Go.Lib (hid)
open Go.RowKit Dg St
attribute [local go_sem ↓] Go.wp_at_zero Go.wp_at_succ
theorem compl_st (n:Nat) (w:World) (hn:n≤1000000) :
  Calls Tryz.prog 58 #[.int .i64 (n:Int)] w fun e w'=>e=.returned (.int .i64 ((cm n:Nat):Int))∧w=w':=complement_any n w hn
def nk (M:List Br) (k j:Nat):Br:=if j<k then cb (brs M j) else brs M j
theorem nk_step (M:List Br) (k m:Nat) (hk:k<m):∀ i,i<m*3→fup (fup (brc (nk M k)) (k*3+1) (.int .i64 ((cm (bl M k):Nat):Int))) (k*3+2) (.int .i64 ((cm (bh M k):Nat):Int)) i=brc (nk M (k+1)) i:=by
 intro i _
 have h3:i=i / 3*3∨i=i / 3*3+1∨i=i / 3*3+2:=by omega
 generalize i / 3=q at *
 have hne:∀ q,q≠k→nk M (k+1) q=nk M k q:=fun q hq=>by
  unfold nk
  by_cases h:q<k
  ·rw [if_pos h,if_pos (by omega)]
  ·rw [if_neg h,if_neg (by omega)]
 have hk0:nk M k k=brs M k:=if_neg (by omega)
 have hk1:nk M (k+1) k=cb (brs M k):=if_pos (by omega)
 rcases h3 with rfl | rfl | rfl
 ·rw [fup_ne _ _ (by omega),fup_ne _ _ (by omega),brc0,brc0]
  by_cases e:q=k
  ·subst e;rw [hk0,hk1];rfl
  ·rw [hne q e]
 ·rw [fup_ne _ _ (by omega)]
  by_cases e:q=k
  ·subst e;rw [fup_same,brc1,hk1];rfl
  ·rw [fup_ne _ _ (by omega),brc1,brc1,hne q e]
 ·by_cases e:q=k
  ·subst e;rw [fup_same,brc2,hk1];rfl
  ·rw [fup_ne _ _ (by omega),fup_ne _ _ (by omega),brc2,brc2,hne q e]
theorem alloc_set_cell (wr:World) (x y z:Int) (T:Nat) (a:Addr) (v:Value):((wr.setCell a v).alloc (.cells #[.int .i64 x,.int .i64 y,.int .i64 z] T)).drew.cell? ⟨wr.heap.size,1,none⟩=some (.int .i64 y)∧((wr.setCell a v).alloc (.cells #[.int .i64 x,.int .i64 y,.int .i64 z] T)).drew.cell? ⟨wr.heap.size,2,none⟩=some (.int .i64 z):=by
 have h:=Blk.new (w:=wr.setCell a v) (H:=wr.heap.size) (by simp [World.setCell]) [.int .i64 x,.int .i64 y,.int .i64 z] T
 exact ⟨(h 1 (by simp)).1,(h 2 (by simp)).1⟩
theorem alloc_set_cell2 (wr:World) (x y z:Int) (T:Nat) (a b:Addr) (v u:Value):(((wr.setCell a v).setCell b u).alloc (.cells #[.int .i64 x,.int .i64 y,.int .i64 z] T)).drew.cell? ⟨wr.heap.size,1,none⟩=some (.int .i64 y)∧(((wr.setCell a v).setCell b u).alloc (.cells #[.int .i64 x,.int .i64 y,.int .i64 z] T)).drew.cell? ⟨wr.heap.size,2,none⟩=some (.int .i64 z):=by
 have h:=Blk.new (w:=(wr.setCell a v).setCell b u) (H:=wr.heap.size) (by simp [World.setCell]) [.int .i64 x,.int .i64 y,.int .i64 z] T
 exact ⟨(h 1 (by simp)).1,(h 2 (by simp)).1⟩
structure Ns (w wr:World) (H g m k:Nat) (A:Option Addr) (c r:Nat) (M:List Br):Prop where
 hH:w.heap.size=H
 sz:H+1<wr.heap.size
 bel:Below H w wr
 x:Blk wr H 2 (fun i=>[Value.slice A m c,.int .i64 (r:Int)].getD i undef)
 res:Blk wr (H+1) 2 zc
 row:0<m→Blk wr g (m*3) (brc (nk M k))∧H+1<g
theorem Ns.step {w wr:World} {H g m k c r:Nat} {A:Option Addr} {M:List Br} (h:Ns w wr H g m k A c r M) (hk:k<m) (L U:Nat) (hst:∀ i,i<m*3→fup (fup (brc (nk M k)) (k*3+1) (.int .i64 ((cm L:Nat):Int))) (k*3+2) (.int .i64 ((cm U:Nat):Int)) i=brc (nk M (k+1)) i) (o:Obj) :
  Ns w ((((wr.setCell ⟨g,k*3+1,none⟩ (.int .i64 ((cm L:Nat):Int))).setCell ⟨g,k*3+2,none⟩ (.int .i64 ((cm U:Nat):Int))).alloc o).drew) H g m (k+1) A c r M:=by
 obtain ⟨hr,hg⟩:=h.row (by omega)
 have hs:H+1<((wr.setCell ⟨g,k*3+1,none⟩ (.int .i64 ((cm L:Nat):Int))).setCell ⟨g,k*3+2,none⟩ (.int .i64 ((cm U:Nat):Int))).heap.size:=by
  have:=h.sz
  simpa [World.setCell] using this
 have b0:Below H w ((wr.setCell ⟨g,k*3+1,none⟩ (.int .i64 ((cm L:Nat):Int))).setCell ⟨g,k*3+2,none⟩ (.int .i64 ((cm U:Nat):Int))):=(h.bel.setCell (by simp;omega) _).setCell (by simp;omega) _
 have d:=fun (a:World) (b n:Nat) F (hb:Blk a b n F)=>hb.keep (w':=a.drew) rfl
 refine ⟨h.hH,?_,below_drewN (b0.alloc (by omega) o) 1,d _ _ _ _ (((h.x.other (by simp;omega) _).other (by simp;omega) _).alloc (by omega) o),d _ _ _ _ (((h.res.other (by simp;omega) _).other (by simp;omega) _).alloc (by omega) o),fun _=>⟨d _ _ _ _ ((((hr.set (i:=k*3+1) (by omega) _).set (i:=k*3+2) (by omega) _).congr hst).alloc (by omega) o),hg⟩⟩
 exact Nat.lt_of_lt_of_le hs ((Below.refl _ _).alloc (Nat.le_refl _) o).size
theorem not_ok (m c r:Nat) (A:Option Addr) (f:Cfg→Bool) (w:World) (h0:Hid (Dn w A m c r f)) :
  Calls Tryz.prog 27 #[.agg #[.slice A m c,.int .i64 (r:Int)]] w (fun e w'=>BinOk w w' (fun x=>!f x) e):=by
 have hcn:=cn_not h0.out.d
 have hdn:=d64_not h0.out.d
 have hok:=h0.out.ok
 have hck:=h0.out.chk
 have hlm:=h0.out.lm
 have hlt:=h0.out.lt
 have hlen:=h0.out.len
 have hrt:=h0.out.rt
 have hrd:=h0.out.rd
 have hmc:=h0.out.mc
 have hord:=h0.out.valid.good.ord
 unfold Dn.da at hok
 rw [hrt] at hcn
 clear h0
 have hc2:Hid (cn (fun x=>!f x)=((cn f).1.map cb,cm r)):=hcn
 clear hcn
 generalize (cn f).1=M at *
 have HDN:=hid hdn
 have HORD:=hid hord
 have HLEN:=hid hlen
 have HMC:=hid hmc
 have hw0:Hid (Ns w ((w.alloc (.cells #[.slice A m c,.int .i64 (r:Int)] 31)).alloc (.cells #[.slice none 0 0,.int .i64 0] 31)) w.heap.size 0 0 0 A c r M∨True):=.inr trivial
 have b2:=((Below.refl w.heap.size w).alloc (Nat.le_refl _) (.cells #[.slice A m c,.int .i64 (r:Int)] 31)).alloc (by simp) (.cells #[.slice none 0 0,.int .i64 0] 31)
 have hok2:=hok.below b2
 have hx2:Hid (Blk ((w.alloc (.cells #[.slice A m c,.int .i64 (r:Int)] 31)).alloc (.cells #[.slice none 0 0,.int .i64 0] 31)) w.heap.size 2 (fun i=>[Value.slice A m c,.int .i64 (r:Int)].getD i undef)):=(Blk.new (w:=w) rfl [.slice A m c,.int .i64 (r:Int)] _).alloc (by simp) _
 have hr2:Hid (Blk ((w.alloc (.cells #[.slice A m c,.int .i64 (r:Int)] 31)).alloc (.cells #[.slice none 0 0,.int .i64 0] 31)) (w.heap.size+1) 2 zc) :=
  (Blk.new (w:=w.alloc _) (by simp) [.slice none 0 0,.int .i64 0] _).congr (fun i hi=>by
   obtain rfl | rfl:i=0∨i=1:=by simp at hi;omega
   all_goals rfl)
 have HB2:=hid b2
 have HOK2:=hid hok2
 have HCK:=hid hck
 have HOK:=hid hok
 have HRD:=hid hrd
 clear b2 hok2 hok hck hrd hord hdn hlen hmc hw0 hrt
 have hm5:m≤5000:=by omega
 have hlm4:=hid hlm
 go_enter Tryz.func27,Tryz.ntmps27
 go_wp2_with (first
  | (go_at_call 39;refine (check_any (up M) (r:Int) m c A _ HOK2.out.rd HOK2.out.wi HOK2.out.len HOK2.out.lm HOK2.out.mc HOK2.out.ri).mono ?_;rintro e w2 ⟨rfl,hb2⟩;have hck0:=HCK.out;rw [hck0];have HB3:=hid (HB2.out.trans (hb2.mono HB2.out.size));have HX3:=hid (hx2.out.below (by simp) hb2);have HR3:=hid (hr2.out.below (by simp) hb2);have hx0:w2.cell? ⟨w.heap.size,0,none⟩=some (.slice A m c):=(HX3.out 0 (by simp)).1;have hsz2:w.heap.size+1<w2.heap.size:=HR3.out.lt (by omega);have HSZ2:=hid hsz2;clear hb2 hck0 hsz2)
  | (go_at_call 57;refine (clone_any A c m M _ ((HRD.out.below HB3.out).mono HB3.out.size) HLEN.out hm5).mono ?_;rintro e w3 ⟨⟨A',c',rfl,hc',hfr',hrow⟩,hb3⟩;rw [HLEN.out];have HB4:=hid (HB3.out.trans (hb3.mono HB3.out.size));have HX4:=hid (HX3.out.below (by simp) hb3);have HR4:=hid (HR3.out.below (by omega) hb3);have HC':=hid hc';have HFR:=hid hfr';have HROW:=hid hrow;have HSZ3:=hid hb3.size;clear hb3 hc' hfr' hrow hx0))
 generalize hHH:w.heap.size=H at *
 have hst0:∃ g,Hid (Ns w w3 H g m 0 A c r M)∧Hid (0<m→A'=some ⟨g,0,none⟩):=by
  rcases Nat.eq_zero_or_pos m with h0 | h0
  ·exact ⟨0,⟨hHH,by have:=HSZ2.out;have:=HSZ3.out;omega,HB4.out,HX4.out,HR4.out,fun h=>by omega⟩,fun h=>by omega⟩
  ·obtain ⟨g,e,hg,hb⟩:=HROW.out (by rw [HLEN.out];exact h0)
   rw [HLEN.out] at hb
   exact ⟨g,⟨hHH,by have:=HSZ2.out;have:=HSZ3.out;omega,HB4.out,HX4.out,HR4.out,fun _=>⟨hb.congr (fun i _=>by unfold brc nk;simp),by have:=HSZ2.out;omega⟩⟩,fun _=>e⟩
 obtain ⟨g,hst0,hAg⟩:=hst0
 clear HROW HX4 HR4 HX3 HR3 hx2 hr2
 go_loopw [19] (fun i wr=>∃ k:Nat,k≤m∧i=.int .i64 (k:Int)∧Hid (Ns w wr H g m k A c r M)) (fun i _=>m - (intOf i).toNat)
 case atStart=>exact ⟨0,Nat.zero_le _,rfl,hst0.out⟩
 case round =>
  obtain ⟨k,hk,rfl,hst⟩:=hrel
  by_cases hlt':k<m
  ·obtain rfl:=hAg.out (by omega)
   obtain ⟨hrow,hgH⟩:=hst.out.row (by omega)
   obtain ⟨d0,f0⟩:=hrow (k*3) (by omega)
   obtain ⟨d1,f1⟩:=hrow (k*3+1) (by omega)
   obtain ⟨d2,f2⟩:=hrow (k*3+2) (by omega)
   have hnk:nk M k k=brs M k:=if_neg (by omega)
   rw [brc0,hnk] at d0
   rw [brc1,hnk] at d1
   rw [brc2,hnk] at d2
   have d0':wr.cell? ⟨g,k*3,none⟩=some (.int .i64 ((bv M k:Nat):Int)):=d0
   have d1':wr.cell? ⟨g,k*3+1,none⟩=some (.int .i64 ((bl M k:Nat):Int)):=d1
   have d2':wr.cell? ⟨g,k*3+2,none⟩=some (.int .i64 ((bh M k:Nat):Int)):=d2
   clear d0 d1 d2 hnk
   obtain ⟨q1,q2,q3,_,_⟩:=HORD.out k (by rw [HLEN.out];exact hlt')
   have hgl:g<wr.heap.size:=hrow.lt (by omega)
   have hgn:¬ g=wr.heap.size:=by omega
   have HROW:=hid hrow
   have HSTEP:=hid (nk_step M k m hlt')
   clear hrow
   have i1:(0:Int)≤(k:Int):=by omega
   have i2:(k:Int)<(m:Int):=by omega
   generalize bv M k=V at *
   generalize bl M k=L at *
   generalize bh M k=U at *
   have HNS:=hid (hst.out.step (by omega) L U HSTEP.out (.cells #[.int .i64 (V:Int),.int .i64 (L:Int),.int .i64 (U:Int)] 80))
   have hL:L≤1000000:=by omega
   have hU:U≤1000000:=by omega
   have HKEEP:=hid (alloc_set_cell wr (V:Int) (L:Int) (U:Int) 80)
   have HKEEP2:=hid (alloc_set_cell2 wr (V:Int) (L:Int) (U:Int) 80)
   go_wp2
   clear d0' q1 q2 q3
   go_region_held3 (fun w'=>w'.cell? ⟨wr.heap.size,1,none⟩=some (.int .i64 (L:Int))∧w'.cell? ⟨wr.heap.size,2,none⟩=some (.int .i64 (U:Int))) (first | (with_reducible exact HKEEP.out _ _) | (with_reducible exact HKEEP2.out _ _ _ _) | go_keep) ((go_at_call 58;(with_reducible refine (compl_st _ _ (by first | exact hL | exact hU)).mono ?_);rintro e w' ⟨rfl,rfl⟩))
   all_goals
    go_wp2
    go_roundw
    case rel=>exact ⟨k+1,by omega,by go_num,HNS.out⟩
    case measure=>simp [intOf];omega
  ·obtain rfl:k=m:=by omega
   have hlm:Hid ((M.map cb).length=k):=by rw [List.length_map];exact HLEN.out
   have hx1':wr.cell? ⟨H,1,none⟩=some (.int .i64 (r:Int)):=(hst.out.x 1 (by omega)).1
   obtain ⟨y0,z0⟩:=hst.out.res 0 (by omega)
   obtain ⟨y1,z1⟩:=hst.out.res 1 (by omega)
   have hsz:=hst.out.sz
   have hfr:Fr A' (H+2):=HFR.out.mono (by have:=HSZ2.out;omega)
   have hrd2:Rd wr wr.heap.size A' (up (M.map cb)):=fun h0=>by
    rw [up_len,hlm.out] at h0
    rw [hAg.out h0]
    obtain ⟨hb,_⟩:=hst.out.row h0
    refine (hb.rd hlm.out (fun j hj=>?_)) (by rw [up_len,hlm.out];exact h0)
    show (if j<k then cb (brs M j) else brs M j)=_
    rw [if_pos hj]
    have hj2:j<M.length:=by rw [HLEN.out];exact hj
    have e:brs (M.map cb) j=(bv M j,cm (bl M j),cm (bh M j)):=by
     unfold brs
     rw [cb_bv hj2,cb_bl hj2,cb_bh hj2]
    rw [e]
    rfl
   have hr3:Rd ((wr.setCell ⟨H+1,0,none⟩ (.slice A' k c')).setCell ⟨H+1,1,none⟩ (.int .i64 ((cm r:Nat):Int))) ((wr.setCell ⟨H+1,0,none⟩ (.slice A' k c')).setCell ⟨H+1,1,none⟩ (.int .i64 ((cm r:Nat):Int))).heap.size A' (up (M.map cb)):=by
    have h:=(hrd2.setF (n:=0) hfr (.slice A' k c')).setF (n:=1) hfr (.int .i64 ((cm r:Nat):Int))
    simpa [World.setCell] using h
   have hbl:Below H w ((wr.setCell ⟨H+1,0,none⟩ (.slice A' k c')).setCell ⟨H+1,1,none⟩ (.int .i64 ((cm r:Nat):Int))):=(hst.out.bel.setCell (by simp) _).setCell (by simp) _
   have hcc:k≤c':=by have:=HC'.out;rw [HLEN.out] at this;exact this
   have hdn:Dn ((wr.setCell ⟨H+1,0,none⟩ (.slice A' k c')).setCell ⟨H+1,1,none⟩ (.int .i64 ((cm r:Nat):Int))) A' k c' (cm r) (fun x=>!f x):=⟨by rw [hc2.out];exact hr3,by rw [hc2.out];exact hlm.out,by rw [hc2.out],hcc,hlm4.out,HDN.out⟩
   have HDNF:=hid hdn
   have HBL:=hid hbl
   have HF:=hid hfr
   clear hr3 hbl hfr hrd2 hdn hcc
   have hr6:r≤1000000:=by omega
   go_wp2_with (go_at_call 58;(with_reducible refine (compl_st r _ hr6).mono ?_);rintro e w' ⟨rfl,rfl⟩)
   refine bodyPost_ret (v:=.tuple #[.agg #[.slice A' k c',.int .i64 ((cm r:Nat):Int)],.int .i64 0]) ?_ rfl ⟨⟨A',_,c',_,rfl,HDNF.out,by rw [hHH];exact HF.out.mono (by omega)⟩,by rw [hHH];exact HBL.out⟩
   rw [results_cell_tmp rfl]
   go_simp
end Go.Proofs.YtpaednfinlaioaaGreatDoor
namespace Go.Proofs.YtpaednfinlaioaaGreatDoor
open Go.Lib (hid)
open Go.RowKit Dg St
def fk (v:Nat) (b:Bool) (M:List Br) (k j:Nat):Br:=if j<k then fxb v b (brs M j) else brs M j
structure Fs (w wr:World) (H g m:Nat) (A:Option Addr) (c r:Nat) (L:Nat→Br):Prop where
 hH:w.heap.size=H
 sz:H+1<wr.heap.size
 bel:Below H w wr
 x:Blk wr H 2 (fun i=>[Value.slice A m c,.int .i64 (r:Int)].getD i undef)
 res:Blk wr (H+1) 2 zc
 row:0<m→Blk wr g (m*3) (brc L)∧H+1<g
theorem Fs.alloc {w wr:World} {H g m c r:Nat} {A:Option Addr} {L:Nat→Br} (h:Fs w wr H g m A c r L) (o:Obj):Fs w (wr.alloc o) H g m A c r L:=by
 have b:=(Below.refl wr.heap.size wr).alloc (Nat.le_refl _) o
 exact ⟨h.hH,Nat.lt_of_lt_of_le h.sz b.size,h.bel.alloc (by have:=h.sz;omega) o,h.x.alloc (by omega) o,h.res.alloc (by omega) o,fun hm=>⟨(h.row hm).1.alloc (by omega) o,(h.row hm).2⟩⟩
theorem Fs.set {w wr:World} {H g m c r i:Nat} {A:Option Addr} {L L':Nat→Br} (h:Fs w wr H g m A c r L) (hm:0<m) (hi:i<m*3) (u:Value) (hL:∀ j,fup (brc L) i u j=brc L' j):Fs w (wr.setCell ⟨g,i,none⟩ u) H g m A c r L':=by
 obtain ⟨hr,hg⟩:=h.row hm
 exact ⟨h.hH,by have:=h.sz;simpa [World.setCell] using this,h.bel.setCell (by simp;omega) u,h.x.other (by simp;omega) u,h.res.other (by simp;omega) u,fun _=>⟨(hr.set hi u).congr (fun j _=>hL j),hg⟩⟩
theorem Fs.same {w wr:World} {H g m c r:Nat} {A:Option Addr} {L L':Nat→Br} (h:Fs w wr H g m A c r L) (hL:∀ j,brc L j=brc L' j):Fs w wr H g m A c r L' :=
 ⟨h.hH,h.sz,h.bel,h.x,h.res,fun hm=>⟨(h.row hm).1.congr (fun j _=>hL j),(h.row hm).2⟩⟩
def one (A0:Option Addr) (m0 c0 r0:Nat) (N0:List Br):Ca where
 A t:=if t=0 then A0 else none
 m t:=if t=0 then m0 else 0
 c t:=if t=0 then c0 else 0
 r t:=if t=0 then r0 else 0
 N t:=if t=0 then N0 else []
end Go.Proofs.YtpaednfinlaioaaGreatDoor
namespace Go.Proofs.YtpaednfinlaioaaGreatDoor
open Go.Lib (hid)
open Go.RowKit Dg St
attribute [local go_sem ↓] Go.wp_at_zero Go.wp_at_succ
end Go.Proofs.YtpaednfinlaioaaGreatDoor
namespace Go.Proofs.YtpaednfinlaioaaGreatDoor
open Go.Lib (hid)
open Go.RowKit Dg St
def lk (M:List Br) (k i:Nat):Value:=if i<k+2 then .int .u64 ((Lst M i:Nat):Int) else .int .u64 0
theorem lk_step (M:List Br) (k:Nat):∀ i,fup (lk M k) (k+2) (.int .u64 ((Lst M (k+2):Nat):Int)) i=lk M (k+1) i:=by
 intro i
 by_cases e:i=k+2
 ·subst e
  rw [fup_same]
  exact (if_pos (by omega)).symm
 ·rw [fup_ne _ _ e]
  unfold lk
  by_cases h:i<k+2
  ·rw [if_pos h,if_pos (by omega)]
  ·rw [if_neg h,if_neg (by omega)]
structure Ls (w wr:World) (H L m k:Nat) (A:Option Addr) (c r:Nat) (M:List Br):Prop where
 hH:w.heap.size=H
 bel:Below H w wr
 x:Blk wr H 2 (fun i=>[Value.slice A m c,.int .i64 (r:Int)].getD i undef)
 row:Blk wr L (m+2) (lk M k)
 hl:H<L
theorem Ls.step {w wr:World} {H L m k c r nq:Nat} {A:Option Addr} {M:List Br} (h:Ls w wr H L m k A c r M) (hk:k<m) (u:Value) (hu:u=.int .u64 ((Lst M (k+2):Nat):Int)) (o:Obj) :
  Ls w (((wr.alloc o).drewN nq).setCell ⟨L,k+2,none⟩ u) H L m (k+1) A c r M:=by
 subst hu
 have hl:=h.hl
 have hs:H≤wr.heap.size:=by have:=h.row.lt (by omega);omega
 have b0:Below H w ((wr.alloc o).drewN nq):=below_drewN (h.bel.alloc hs o) nq
 have d:=fun (a:World) (b n:Nat) F (hb:Blk a b n F)=>hb.keep (w':=a.drewN nq) rfl
 exact ⟨h.hH,b0.setCell (by simp;omega) _,(d _ _ _ _ (h.x.alloc (by omega) o)).other (by simp;omega) _,((d _ _ _ _ (h.row.alloc (by omega) o)).set (i:=k+2) (by omega) _).congr (fun i _=>lk_step M k i),hl⟩
def hk2 (M:List Br) (d k i:Nat):Value:=if i<k+2 then .int .u64 ((cnt d (Den M i) / 2:Nat):Int) else .int .u64 0
theorem hk_step (M:List Br) (d k:Nat):∀ i,fup (hk2 M d k) (k+2) (.int .u64 ((cnt d (Den M (k+2)) / 2:Nat):Int)) i=hk2 M d (k+1) i:=by
 intro i
 by_cases e:i=k+2
 ·subst e
  rw [fup_same]
  exact (if_pos (by omega)).symm
 ·rw [fup_ne _ _ e]
  unfold hk2
  by_cases h:i<k+2
  ·rw [if_pos h,if_pos (by omega)]
  ·rw [if_neg h,if_neg (by omega)]
structure Ks (w wr:World) (H L m k d:Nat) (A:Option Addr) (c r:Nat) (M:List Br):Prop where
 hH:w.heap.size=H
 bel:Below H w wr
 x:Blk wr H 2 (fun i=>[Value.slice A m c,.int .i64 (r:Int)].getD i undef)
 row:Blk wr L (m+2) (hk2 M d k)
 hl:H<L
theorem Ks.step {w wr:World} {H L m k d c r nq:Nat} {A:Option Addr} {M:List Br} (h:Ks w wr H L m k d A c r M) (hk:k<m) (u:Value) (hu:u=.int .u64 ((cnt d (Den M (k+2)) / 2:Nat):Int)) (o:Obj) :
  Ks w (((wr.alloc o).drewN nq).setCell ⟨L,k+2,none⟩ u) H L m (k+1) d A c r M:=by
 subst hu
 have hl:=h.hl
 have hs:H≤wr.heap.size:=by have:=h.row.lt (by omega);omega
 have b0:Below H w ((wr.alloc o).drewN nq):=below_drewN (h.bel.alloc hs o) nq
 have d:=fun (a:World) (b n:Nat) F (hb:Blk a b n F)=>hb.keep (w':=a.drewN nq) rfl
 exact ⟨h.hH,b0.setCell (by simp;omega) _,(d _ _ _ _ (h.x.alloc (by omega) o)).other (by simp;omega) _,((d _ _ _ _ (h.row.alloc (by omega) o)).set (i:=k+2) (by omega) _).congr (fun i _=>hk_step M _ k i),hl⟩
theorem rconstant_any (b:Bool) (w:World) :
  Calls Tryz.prog 34 #[.bool b] w fun e w'=>e=.returned (.agg #[.slice none 0 0,.int .i64 (if b then 1 else 0)])∧Below w.heap.size w w':=by
 have b1:=fun x y=>(Below.refl w.heap.size w).alloc (Nat.le_refl _) (.cells #[x,y] 31)
 rcases b with _ | _
 ·go_enter Tryz.func34,Tryz.ntmps34
  go_wp2
  refine bodyPost_ret (v:=.agg #[.slice none 0 0,.int .i64 0]) ?_ rfl ⟨rfl,?_⟩
  ·rw [results_cell1 rfl]
   go_simp
  ·exact b1 _ _
 ·go_enter Tryz.func34,Tryz.ntmps34
  go_wp2
  refine bodyPost_ret (v:=.agg #[.slice none 0 0,.int .i64 1]) ?_ rfl ⟨rfl,?_⟩
  ·rw [results_cell1 rfl]
   go_simp
  ·exact b1 _ _
theorem rvar_ok (v:Nat) (w:World) (hv:v<64) :
  Calls Tryz.prog 29 #[.int .i64 (v:Int)] w fun e w'=>∃ A,e=.returned (.tuple #[.agg #[.slice A 1 1,.int .i64 2],.int .i64 0])∧Rd w' w'.heap.size A (up [(v,0,1)])∧Below w.heap.size w w':=by
 have b1:=fun x y=>(Below.refl w.heap.size w).alloc (Nat.le_refl _) (.cells #[x,y] 31)
 have hn:¬ (v:Int)<0:=by omega
 have hn2:¬ 63<v:=by omega
 have hn3:¬ (63:Int)<(v:Int):=by omega
 go_enter Tryz.func29,Tryz.ntmps29
 go_wp2
 refine bodyPost_ret (v:=.tuple #[.agg #[.slice (some ⟨w.heap.size+1,0,none⟩) 1 1,.int .i64 2],.int .i64 0]) ?_ rfl ⟨_,rfl,fun hp=>⟨w.heap.size+1,0,rfl,by simp,fun j hj=>?_⟩,?_⟩
 ·rw [results_cell_tmp rfl]
  go_simp
 ·rw [up_len] at hj
  obtain rfl:j=0:=by simpa using hj
  rw [iv_up,il_up,ih_up]
  refine ⟨?_,?_,?_⟩ <;> (go_simp;simp [bv,bl,bh])
 ·exact (b1 _ _).alloc (by simp) _
theorem rsame_len (A A':Option Addr) (c c' n:Nat) (l l':List Bi) (r:Int) (w:World) (hl:Hid (l.length=n)) (hl':Hid (l'.length=n)) (hn:n≤9223372036854775800) (hr:Hid (Rd w w.heap.size A l)) (hr':Hid (Rd w w.heap.size A' l')) :
  Calls Tryz.prog 17 #[.agg #[.slice A n c,.int .i64 r],.agg #[.slice A' n c',.int .i64 r]] w fun e w'=>e=.returned (.bool (decide (l=l')))∧Below w.heap.size w w':=by
 have b1:=((Below.refl w.heap.size w).alloc (Nat.le_refl _) (.cells #[.slice A n c,.int .i64 r] 31)).alloc (by simp) (.cells #[.slice A' n c',.int .i64 r] 31)
 have hx1:Hid (Blk ((w.alloc (.cells #[.slice A n c,.int .i64 r] 31)).alloc (.cells #[.slice A' n c',.int .i64 r] 31)) w.heap.size 2 (fun i=>[Value.slice A n c,.int .i64 r].getD i undef)):=(Blk.new (w:=w) rfl [.slice A n c,.int .i64 r] 31).alloc (by simp) _
 have hy1:Hid (Blk ((w.alloc (.cells #[.slice A n c,.int .i64 r] 31)).alloc (.cells #[.slice A' n c',.int .i64 r] 31)) (w.heap.size+1) 2 (fun i=>[Value.slice A' n c',.int .i64 r].getD i undef)):=Blk.new (w:=w.alloc _) (by simp) [.slice A' n c',.int .i64 r] 31
 have HR:=hid ((hr.out.below b1).mono b1.size)
 have HR':=hid ((hr'.out.below b1).mono b1.size)
 have HB1:=hid b1
 have hrr:(r != r)=false:=by simp
 have hnn:((n:Int) != (n:Int))=false:=by simp
 clear b1
 go_enter Tryz.func17,Tryz.ntmps17
 go_wp2
 generalize ((w.alloc (.cells #[.slice A n c,.int .i64 r] 31)).alloc (.cells #[.slice A' n c',.int .i64 r] 31))=w3 at *
 have hb0:=Below.refl w3.heap.size w3
 have HX:=hx1
 have HY:=hy1
 generalize hHH:w.heap.size=H at *
 go_loopw [5] (fun i wr=>∃ k m:Nat,k≤n∧i=.int .i64 k∧Hid (EqTo l l' k)∧wr=w3.drewN m) (fun i _=>n - (intOf i).toNat)
 case atStart=>exact ⟨0,0,Nat.zero_le _,rfl,fun j hj=>absurd hj (by omega),rfl⟩
 case round =>
  obtain ⟨k,m,hk,rfl,hno,rfl⟩:=hrel
  have x0:w3.cell? ⟨H,0,none⟩=some (.slice A n c):=(HX.out 0 (by omega)).1
  have y0:w3.cell? ⟨H+1,0,none⟩=some (.slice A' n c'):=(HY.out 0 (by omega)).1
  by_cases hlt:k<n
  ·obtain ⟨b,o,e,hb,hc⟩:=HR.out (by rw [hl.out];omega)
   obtain ⟨b',o',e',hb',hc'⟩:=HR'.out (by rw [hl'.out];omega)
   subst e
   subst e'
   obtain ⟨c1,c2,c3⟩:=hc k (by rw [hl.out];exact hlt)
   obtain ⟨d1,d2,d3⟩:=hc' k (by rw [hl'.out];exact hlt)
   have hnx:iv l k=iv l' k∧il l k=il l' k∧ih l k=ih l' k→EqTo l l' (k+1):=fun he j hj=>by
    rcases Nat.lt_or_ge j k with h | h
    ·exact hno.out j h
    ·rw [show j=k by omega];exact he
   have hne:¬ (iv l k=iv l' k∧il l k=il l' k∧ih l k=ih l' k)→l≠l':=fun h e=>h (by rw [e];exact ⟨rfl,rfl,rfl⟩)
   have HNX:=hid hnx
   have HNE:=hid hne
   have HB0:=hid hb0
   clear hnx hne hc hc' hb0
   generalize iv l k=V at *
   generalize il l k=L at *
   generalize ih l k=U at *
   generalize iv l' k=V' at *
   generalize il l' k=L' at *
   generalize ih l' k=U' at *
   have i1:(0:Int)≤(k:Int):=by omega
   have i2:(k:Int)<(n:Int):=by omega
   have heq:=fun W:World=>run_neq_br W V L U V' L' U'
   by_cases q:V=V'∧L=L'∧U=U'
   ·have hq:(V == V'&&(L == L'&&U == U'))=true:=by simp [q.1,q.2.1,q.2.2]
    have HN:=hid (HNX.out q)
    rw [hq] at heq
    clear q hq HNX HNE
    go_wp2
    go_quiet (fail)
    go_wp2
    go_roundw
    case rel=>exact ⟨k+1,_,by omega,by go_num,HN,rfl⟩
    case measure=>simp [intOf];omega
   ·have hq:(V == V'&&(L == L'&&U == U'))=false:=by
     rcases h:(V == V'&&(L == L'&&U == U')) with _ | _
     ·rfl
     ·simp at h;exact absurd h q
    have HN:=hid (HNE.out q)
    rw [hq] at heq
    clear q hq HNX HNE
    go_wp2
    go_quiet (fail)
    go_wp2
    go_ret
    exact ⟨ret_bool (decide_eq_false HN.out).symm,by rw [hHH];exact below_drewN (below_drewN HB1.out _) _⟩
  ·obtain rfl:k=n:=by omega
   have hy:Hid (l=l'):=EqTo.all (hl.out.trans hl'.out.symm) (by rw [hl.out];exact hno.out)
   have HB0:=hid hb0
   clear hb0
   go_wp2
   go_ret
   exact ⟨ret_bool (decide_eq_true hy.out).symm,by rw [hHH];exact below_drewN HB1.out _⟩
theorem rsame_any (A A':Option Addr) (c c' n n':Nat) (l l':List Bi) (r r':Int) (w:World) (hl:Hid (l.length=n)) (hl':Hid (l'.length=n')) (hn:n≤9223372036854775800) (hr:Hid (Rd w w.heap.size A l)) (hr':Hid (Rd w w.heap.size A' l')) :
  Calls Tryz.prog 17 #[.agg #[.slice A n c,.int .i64 r],.agg #[.slice A' n' c',.int .i64 r']] w fun e w'=>e=.returned (.bool (decide (r=r')&&decide (l=l')))∧Below w.heap.size w w':=by
 by_cases q:r=r'
 ·subst q
  by_cases h:n=n'
  ·subst h
   refine (rsame_len A A' c c' n l l' r w hl hl' hn hr hr').mono ?_
   rintro e w' ⟨rfl,hb⟩
   exact ⟨ret_bool (by simp),hb⟩
  ·have hne:Hid (l≠l'):=fun e=>h (by rw [← hl.out,← hl'.out,e])
   have hd:((n:Int) != (n':Int))=true:=bne_iff_ne.2 (by omega)
   have hrr:(r != r)=false:=by simp
   have b1:=((Below.refl w.heap.size w).alloc (Nat.le_refl _) (.cells #[.slice A n c,.int .i64 r] 31)).alloc (by simp) (.cells #[.slice A' n' c',.int .i64 r] 31)
   have HB1:=hid b1
   clear h b1
   go_enter Tryz.func17,Tryz.ntmps17
   go_wp2
   go_ret
   exact ⟨ret_bool (by rw [decide_eq_false hne.out];simp),HB1.out⟩
 ·have hq:(r != r')=true:=bne_iff_ne.2 q
  have HQ:Hid (decide (r=r')=false):=decide_eq_false q
  have b1:=((Below.refl w.heap.size w).alloc (Nat.le_refl _) (.cells #[.slice A n c,.int .i64 r] 31)).alloc (by simp) (.cells #[.slice A' n' c',.int .i64 r'] 31)
  have HB1:=hid b1
  clear q b1
  go_enter Tryz.func17,Tryz.ntmps17
  go_wp2
  go_ret
  exact ⟨ret_bool (by rw [HQ.out];simp),HB1.out⟩
theorem rlevel_ok (m c n:Nat) (r:Int) (A:Option Addr) (M:List Br) (w:World) (hrd:Hid (Rd w w.heap.size A (up M))) (hl:Hid (M.length=m)) (hm:m≤1000000) (hn:n<m+2) :
  Calls Tryz.prog 119 #[.agg #[.slice A m c,.int .i64 r],.int .i64 (n:Int)] w fun e w'=>e=.returned (.int .i64 ((lev M n:Nat):Int))∧Below w.heap.size w w':=by
 have b1:=(Below.refl w.heap.size w).alloc (Nat.le_refl _) (.cells #[.slice A m c,.int .i64 r] 31)
 have hrd1:=hid ((hrd.out.below b1).mono b1.size)
 have HB1:=hid b1
 by_cases h2:n<2
 ·have HL:Hid (lev M n=64):=lev_const h2
  clear b1
  go_enter Tryz.func119,Tryz.ntmps119
  go_wp2
  go_ret
  exact ⟨ret_i (by rw [HL.out];rfl),HB1.out⟩
 ·obtain ⟨k,rfl⟩:∃ k,n=k+2:=⟨n - 2,by omega⟩
  have hkm:k<m:=by omega
  have HL:Hid (lev M (k+2)=bv M k):=lev_two k
  obtain ⟨b,o,e,hb,hc⟩:=hrd.out (by rw [up_len,hl.out];omega)
  subst e
  obtain ⟨d0,_,_⟩:=hc k (by rw [up_len,hl.out];exact hkm)
  rw [iv_up] at d0
  have hbn:¬ b=w.heap.size:=by omega
  have i1:(0:Int)≤(k:Int):=by omega
  have i2:(k:Int)<(m:Int):=by omega
  clear b1 hc
  generalize hV:bv M k=V at *
  have HV:=hid hV
  clear hV
  go_enter Tryz.func119,Tryz.ntmps119
  go_wp2
  go_ret
  exact ⟨ret_i (by rw [HL.out]),HB1.out⟩
def rcon (op x y:Nat):Nat:=if op=0 then x*y else if op=1 then max x y else (x+y) % 2
theorem rcons_ok (g op x y:Nat) (w:World) (hop:w.cell? ⟨g,4,none⟩=some (.int .i64 (op:Int))) (ho:op≤2) (hx:x<2) (hy:y<2) :
  Calls Tryz.prog 127 #[.pointer (some ⟨g,0,none⟩),.int .i64 (x:Int),.int .i64 (y:Int)] w fun e w'=>e=.returned (.int .i64 ((rcon op x y:Nat):Int))∧w=w':=by
 obtain rfl | rfl | rfl:op=0∨op=1∨op=2:=by omega
 all_goals
  obtain rfl | rfl:x=0∨x=1:=by omega
  all_goals
   obtain rfl | rfl:y=0∨y=1:=by omega
   all_goals
    go_enter Tryz.func127,Tryz.ntmps127
    go_wp2
    go_ret
    exact ⟨rfl,rfl⟩
theorem rsides_ok (m c n v:Nat) (r:Int) (A:Option Addr) (M:List Br) (w:World) (hrd:Hid (Rd w w.heap.size A (up M))) (hl:Hid (M.length=m)) (hm:m≤1000000) (hn:n<m+2) (hv:v<64) :
  Calls Tryz.prog 128 #[.agg #[.slice A m c,.int .i64 r],.int .i64 (n:Int),.int .i64 (v:Int)] w fun e w'=>e=.returned (.tuple #[.int .i64 ((sd M v n false:Nat):Int),.int .i64 ((sd M v n true:Nat):Int)])∧Below w.heap.size w w':=by
 have b1:=(Below.refl w.heap.size w).alloc (Nat.le_refl _) (.cells #[.slice A m c,.int .i64 r] 31)
 have hrd1:=hid ((hrd.out.below b1).mono b1.size)
 have hx1:=hid (Blk.new (w:=w) rfl [.slice A m c,.int .i64 r] 31)
 have HB1:=hid b1
 clear b1
 by_cases h:2≤n∧bv M (n - 2)=v
 ·obtain ⟨h2,hv2⟩:=h
  obtain ⟨k,rfl⟩:∃ k,n=k+2:=⟨n - 2,by omega⟩
  rw [Nat.add_sub_cancel] at hv2
  have hkm:k<m:=by omega
  have hlv:lev M (k+2)=v:=(lev_two k).trans hv2
  have hne:(((lev M (k+2):Nat):Int) != (v:Int))=false:=by rw [hlv];simp
  have HS:Hid (sd M v (k+2) false=bl M k∧sd M v (k+2) true=bh M k):=by
   unfold sd
   rw [Nat.add_sub_cancel]
   exact ⟨(if_pos ⟨by omega,hv2⟩).trans rfl,(if_pos ⟨by omega,hv2⟩).trans rfl⟩
  have HQ:Hid (k<M.length):=by rw [hl.out];exact hkm
  have HLV:=hid (rlevel_ok m c (k+2) r A M _ hrd1 hl hm hn)
  clear hlv hv2 h2
  generalize lev M (k+2)=lv at *
  obtain ⟨b,o,e,hb,hc⟩:=hrd.out (by rw [up_len,hl.out];omega)
  subst e
  obtain ⟨_,d1,d2⟩:=hc k (by rw [up_len,hl.out];exact hkm)
  rw [il_up] at d1
  rw [ih_up] at d2
  have D1:=hid d1
  have D2:=hid d2
  clear d1 d2 hc
  generalize bl M k=LL at *
  generalize bh M k=UU at *
  go_enter Tryz.func128,Tryz.ntmps128
  go_wp2_with (go_at_call 119;refine HLV.out.mono ?_;rintro e w2 ⟨rfl,hb2⟩;have HB2:=hid (HB1.out.trans (hb2.mono HB1.out.size));have hx0:w2.cell? ⟨w.heap.size,0,none⟩=some (.slice (some ⟨b,o,none⟩) m c):=((hx1.out.below (by simp) hb2) 0 (by simp)).1;clear hb2)
  have d1:=(HB2.out.cell (p:=⟨b,o+k*3+1,none⟩) hb).trans D1.out
  have d2:=(HB2.out.cell (p:=⟨b,o+k*3+2,none⟩) hb).trans D2.out
  have i1:(0:Int)≤(k:Int):=by omega
  have i2:(k:Int)<(m:Int):=by omega
  go_quiet (fail)
  go_wp2
  go_ret2
  exact ⟨by rw [HS.out.1,HS.out.2];rfl,below_drewN HB2.out _⟩
 ·have hne:((lev M n:Nat):Int)≠(v:Int):=fun e=>h (by
   by_cases h2:n<2
   ·rw [lev_const h2] at e;omega
   ·refine ⟨by omega,?_⟩
    have:lev M n=bv M (n - 2):=by unfold lev;rw [if_neg h2]
    omega)
  have hq:(((lev M n:Nat):Int) != (v:Int))=true:=bne_iff_ne.2 hne
  have HS:Hid (sd M v n false=n∧sd M v n true=n):=by unfold sd;rw [if_neg h,if_neg h];exact ⟨rfl,rfl⟩
  clear h hne
  have HLV:=hid (rlevel_ok m c n r A M _ hrd1 hl hm hn)
  generalize lev M n=lv at *
  go_enter Tryz.func128,Tryz.ntmps128
  go_wp2_with (go_at_call 119;refine HLV.out.mono ?_;rintro e w2 ⟨rfl,hb2⟩;have HB2:=hid (HB1.out.trans (hb2.mono HB1.out.size));clear hb2)
  go_ret2
  exact ⟨by rw [HS.out.1,HS.out.2];rfl,HB2.out⟩
end Go.Proofs.YtpaednfinlaioaaGreatDoor
