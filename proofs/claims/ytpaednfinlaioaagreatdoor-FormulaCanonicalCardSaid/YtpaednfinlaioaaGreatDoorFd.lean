/-
  Plain mathematics and contracts of package diagram, several texts in one: FHol, FVal.
-/
import Derived.Test.YtpaednfinlaioaaGreatDoorFc
import Derived.Test.YtpaednfinlaioaaGreatDoorMc
set_option maxHeartbeats 8000000
set_option maxRecDepth 100000
namespace Go.Proofs.YtpaednfinlaioaaGreatDoor
open Go.Lib (hid)
open Go.RowKit Dg St
set_option linter.unusedVariables false
set_option linter.unusedSimpArgs false
attribute [local go_sem ↓] Go.wp_at_zero Go.wp_at_succ
theorem fbit {x V:Nat} (hx:x<18446744073709551616):(bits .and .u64 ((x:Int) / 2 ^ V) 1 == 1)=cfg x V:=by
 have e:((x:Int) / 2 ^ V)=((x / 2 ^ V:Nat):Int):=by simp
 have hlt:x / 2 ^ V<18446744073709551616:=Nat.lt_of_le_of_lt (Nat.div_le_self _ _) hx
 rw [e]
 unfold cfg
 rw [Nat.testBit_eq_decide_div_mod_eq]
 clear e
 generalize x / 2 ^ V=y at *
 rw [and_one_u64 _ (by omega) (by omega)]
 rcases Nat.mod_two_eq_zero_or_one y with h | h
 ·rw [decide_eq_false (by omega)]
  have:((y:Int) % 2)=0:=by omega
  rw [this];rfl
 ·rw [decide_eq_true h]
  have:((y:Int) % 2)=1:=by omega
  rw [this];rfl
def vd (l:List Fi) (c:Nat→Bool) (k j:Nat):Value:=.bool (if j<k then val l c j else false)
structure HoI (w wr:World) (g:Nat) (l:List Fi) (c:Nat→Bool) (k:Nat):Prop where
 blk:Blk wr g 512 (vd l c k)
 bel:Below w.heap.size w wr
theorem HoI.next {w wr w':World} {g:Nat} {l:List Fi} {c:Nat→Bool} {k:Nat} (h:HoI w wr g l c k) (hB:Blk w' g 512 (fup (vd l c k) k (.bool (val l c k)))) (hw:Below w.heap.size w w'):HoI w w' g l c (k+1) :=
 ⟨hB.congr fun i _=>by
  show (if i=k then Value.bool (val l c k) else Value.bool (if i<k then val l c i else false))=Value.bool (if i<k+1 then val l c i else false)
  by_cases e:i=k
  ·subst e;rw [if_pos rfl,if_pos (by omega)]
  ·rw [if_neg e]
   by_cases q:i<k
   ·rw [if_pos q,if_pos (by omega)]
   ·rw [if_neg q,if_neg (by omega)],hw⟩
theorem HoI.none {w wr w':World} {g:Nat} {l:List Fi} {c:Nat→Bool} {k:Nat} (h:HoI w wr g l c k) (h0:fo l k=0) (hB:Blk w' g 512 (vd l c k)) (hw:Below w.heap.size w w'):HoI w w' g l c (k+1) :=
 ⟨hB.congr fun i _=>by
  show Value.bool (if i<k then val l c i else false)=Value.bool (if i<k+1 then val l c i else false)
  by_cases q:i<k
  ·rw [if_pos q,if_pos (by omega)]
  ·rw [if_neg q]
   by_cases e:i=k
   ·subst e;rw [if_pos (by omega),val_false l c h0]
   ·rw [if_neg (by omega)],hw⟩
theorem held_new (w:World) (l:List Fi) (c:Nat→Bool):Blk (w.alloc (.cells Tryz.zeroCells82 82)) w.heap.size 512 (vd l c 0):=(used_new w l).congr fun i _=>by unfold usd vd us;rfl
theorem ok_node {l:List Fi} {k:Nat} (h:okN l k):(0≤fo l k∧fo l k≤5)∧(0≤fv l k∧fv l k<64)∧(3≤fo l k→0≤fa l k∧fa l k<(k:Int))∧(4≤fo l k→0≤fb l k∧fb l k<(k:Int)):=by
 have h1:=h.1
 simp only [plN,Bool.and_eq_true,decide_eq_true_eq] at h1
 obtain ⟨⟨⟨⟨⟨⟨a,b⟩,c⟩,d⟩,_⟩,_⟩,_⟩:=h1
 refine ⟨⟨a,b⟩,⟨c,d⟩,fun q=>opN_a h.2 ?_,fun q=>opN_b h.2 ?_⟩
 ·rcases (show fo l k=3∨fo l k=4∨fo l k=5 by omega) with e | e | e <;> rw [e] <;> decide
 ·rcases (show fo l k=4∨fo l k=5 by omega) with e | e <;> rw [e] <;> decide
theorem nat_of {x:Int} {k:Nat} (h:0≤x∧x<(k:Int)):∃ a:Nat,x=(a:Int)∧a<k:=⟨x.toNat,by omega,by omega⟩
theorem fholds_ok (A:Option Addr) (m c:Nat) (l:List Fi) (x:Nat) (w:World) (hl:Hid (l.length=m)) (hr:Hid (Rf w w.heap.size A l)) (hok:Hid (okF l)) (hx:x<18446744073709551616) :
  Calls Tryz.prog 19 #[.slice A m c,.int .u64 (x:Int)] w fun e w'=>e=.returned (.bool (val l (cfg x) (m - 1)))∧Below w.heap.size w w':=by
 have HV:=hid (valid_any A m c l w hl hr)
 rw [decide_eq_true hok.out] at HV
 have h1:1≤m:=by have:=hok.out.1;rw [hl.out] at this;exact this
 have h2:m≤512:=by have:=hok.out.2.1;rw [hl.out] at this;exact this
 have HN:Hid (∀ i,i<m→okN l i):=hid (fun i hi=>hok.out.2.2.1 i (by rw [hl.out];exact hi))
 clear hok
 go_enter Tryz.func19,Tryz.ntmps19
 go_wp2_with (first | (go_at_call 48;refine HV.out.mono ?_;rintro e w1 ⟨rfl,b1⟩))
 have H0:Hid (HoI w (w1.alloc (.cells Tryz.zeroCells82 82)) w1.heap.size l (cfg x) 0):=hid ⟨held_new w1 l _,b1.alloc b1.size _⟩
 have hg:=hid b1.size
 clear b1 HV
 generalize w1.alloc (.cells Tryz.zeroCells82 82)=w0 at *
 generalize w1.heap.size=g at *
 go_loopw [13] (fun i wr=>∃ k:Nat,k≤m∧i=.int .i64 (k:Int)∧Hid (HoI w wr g l (cfg x) k)) (fun i _=>m - (intOf i).toNat)
 case atStart=>exact ⟨0,Nat.zero_le _,rfl,H0⟩
 case round =>
  obtain ⟨k,hk,rfl,hst⟩:=hrel
  clear H0
  by_cases hlt':k<m
  ·have hkl:k<l.length:=by rw [hl.out];exact hlt'
   obtain ⟨b,o,e,hb,hc⟩:=(hr.out.below hst.out.bel) (by omega)
   subst e
   obtain ⟨d0,d1,d2,d3⟩:=hc k hkl
   clear hc
   have i1:(0:Int)≤(k:Int):=by omega
   have i2:(k:Int)<(m:Int):=by omega
   have i3:(k:Int)<512:=by omega
   obtain ⟨⟨o0,o5⟩,⟨v0,v1⟩,oa,ob⟩:=ok_node (HN.out k hlt')
   obtain ⟨V,hV,hV64⟩:=nat_of (k:=64) ⟨v0,v1⟩
   have HVV:=hid hV
   rw [hV] at d1
   clear hV v0 v1
   have hbl:=hst.out.bel.size
   have hgl:=hst.out.blk.lt (by omega)
   have hgn:¬ g=wr.heap.size:=by omega
   have hgn':¬ wr.heap.size=g:=by omega
   have XU:=hst.out.blk
   have HOA:=hid oa
   have HOB:=hid ob
   have HXU:=hid XU
   clear oa ob XU
   have hO:fo l k=0∨fo l k=1∨fo l k=2∨fo l k=3∨fo l k=4∨fo l k=5:=by omega
   clear o0 o5
   generalize hvv:fv l k=VV at *
   rcases hO with hO | hO | hO | hO | hO | hO
   ·rw [hO] at d0
    have HO:=hid hO
    clear hO
    have X1:=hid (HXU.out.alloc (by omega) (.cells #[.int .i64 0,.int .i64 (V:Int),.int .i64 (fa l k),.int .i64 (fb l k)] 58))
    obtain ⟨zk,fk⟩:=X1.out k (by omega)
    have B1:=hid (hst.out.bel.alloc hst.out.bel.size (.cells #[.int .i64 0,.int .i64 (V:Int),.int .i64 (fa l k),.int .i64 (fb l k)] 58))
    go_wp2
    go_roundw
    case rel=>exact ⟨k+1,by omega,by go_num,hid (hst.out.none HO.out X1.out B1.out)⟩
    case measure=>simp [intOf];omega
   ·rw [hO] at d0
    have HO:=hid hO
    clear hO
    have X1:=hid (HXU.out.alloc (by omega) (.cells #[.int .i64 1,.int .i64 (V:Int),.int .i64 (fa l k),.int .i64 (fb l k)] 58))
    obtain ⟨zk,fk⟩:=X1.out k (by omega)
    have B1:=hid (hst.out.bel.alloc hst.out.bel.size (.cells #[.int .i64 1,.int .i64 (V:Int),.int .i64 (fa l k),.int .i64 (fb l k)] 58))
    have HVL:=hid (val_true l (cfg x) HO.out)
    have B2:Hid (Below w.heap.size w (wr.setCell ⟨g,k,none⟩ (.bool true))):=hid (hst.out.bel.setCell (by show w.heap.size≤g;exact hg.out) _)
    go_wp2
    go_roundw
    case rel=>exact ⟨k+1,by omega,by go_num,hid (hst.out.next (by rw [HVL.out];exact (HXU.out.set (i:=k) (by omega) _).alloc (by omega) _) (B2.out.alloc B2.out.size _))⟩
    case measure=>simp [intOf];omega
   ·rw [hO] at d0
    have HO:=hid hO
    clear hO
    have X1:=hid (HXU.out.alloc (by omega) (.cells #[.int .i64 2,.int .i64 (V:Int),.int .i64 (fa l k),.int .i64 (fb l k)] 58))
    obtain ⟨zk,fk⟩:=X1.out k (by omega)
    have B1:=hid (hst.out.bel.alloc hst.out.bel.size (.cells #[.int .i64 2,.int .i64 (V:Int),.int .i64 (fa l k),.int .i64 (fb l k)] 58))
    have hbit:=fbit (V:=V) hx
    have hVi:(0:Int)≤(V:Int):=by omega
    have hVj:(V:Int)<64:=by omega
    have hv2:val l (cfg x) k=cfg x V:=by rw [val_var l (cfg x) HO.out,hvv,HVV.out];rfl
    obtain ⟨bv,hbv⟩:∃ y,cfg x V=y:=⟨_,rfl⟩
    rw [hbv] at hbit hv2
    have HV2:=hid hv2
    clear hv2 hbv
    have HVL:=hid (HV2.out)
    have B2:Hid (Below w.heap.size w (wr.setCell ⟨g,k,none⟩ (.bool bv))):=hid (hst.out.bel.setCell (by show w.heap.size≤g;exact hg.out) _)
    go_wp2
    go_roundw
    case rel=>exact ⟨k+1,by omega,by go_num,hid (hst.out.next (by rw [HVL.out];exact (HXU.out.set (i:=k) (by omega) _).alloc (by omega) _) (B2.out.alloc B2.out.size _))⟩
    case measure=>simp [intOf];omega
   ·rw [hO] at d0
    have HO:=hid hO
    obtain ⟨a,hae,hak⟩:=nat_of (HOA.out (by omega))
    rw [hae] at d2
    have HA:=hid hae
    have i4:(0:Int)≤(a:Int):=by omega
    have i5:(a:Int)<512:=by omega
    clear hO hae
    have X1:=hid (HXU.out.alloc (by omega) (.cells #[.int .i64 3,.int .i64 (V:Int),.int .i64 (a:Int),.int .i64 (fb l k)] 58))
    obtain ⟨zk,fk⟩:=X1.out k (by omega)
    have B1:=hid (hst.out.bel.alloc hst.out.bel.size (.cells #[.int .i64 3,.int .i64 (V:Int),.int .i64 (a:Int),.int .i64 (fb l k)] 58))
    obtain ⟨z0,f0⟩:=X1.out a (by omega)
    unfold vd at z0
    rw [if_pos hak] at z0
    have hv2:val l (cfg x) k=!(val l (cfg x) a):=by
     have:=val_not l (cfg x) HO.out (by rw [HA.out];omega)
     rw [HA.out] at this;exact this
    rcases hbv:val l (cfg x) a with _ | _
    ·rw [hbv] at z0 hv2
     have HV2:=hid hv2
     clear hv2 hbv
     have HVL:=hid (HV2.out)
     have B2:Hid (Below w.heap.size w (wr.setCell ⟨g,k,none⟩ (.bool true))):=hid (hst.out.bel.setCell (by show w.heap.size≤g;exact hg.out) _)
     go_wp2
     go_roundw
     case rel=>exact ⟨k+1,by omega,by go_num,hid (hst.out.next (by rw [HVL.out];exact (HXU.out.set (i:=k) (by omega) _).alloc (by omega) _) (B2.out.alloc B2.out.size _))⟩
     case measure=>simp [intOf];omega
    ·rw [hbv] at z0 hv2
     have HV2:=hid hv2
     clear hv2 hbv
     have HVL:=hid (HV2.out)
     have B2:Hid (Below w.heap.size w (wr.setCell ⟨g,k,none⟩ (.bool false))):=hid (hst.out.bel.setCell (by show w.heap.size≤g;exact hg.out) _)
     go_wp2
     go_roundw
     case rel=>exact ⟨k+1,by omega,by go_num,hid (hst.out.next (by rw [HVL.out];exact (HXU.out.set (i:=k) (by omega) _).alloc (by omega) _) (B2.out.alloc B2.out.size _))⟩
     case measure=>simp [intOf];omega
   ·rw [hO] at d0
    have HO:=hid hO
    obtain ⟨a,hae,hak⟩:=nat_of (HOA.out (by omega))
    rw [hae] at d2
    have HA:=hid hae
    have i4:(0:Int)≤(a:Int):=by omega
    have i5:(a:Int)<512:=by omega
    obtain ⟨q,hqe,hqk⟩:=nat_of (HOB.out (by omega))
    rw [hqe] at d3
    have HQ:=hid hqe
    have i6:(0:Int)≤(q:Int):=by omega
    have i7:(q:Int)<512:=by omega
    clear hO hae hqe
    have X1:=hid (HXU.out.alloc (by omega) (.cells #[.int .i64 4,.int .i64 (V:Int),.int .i64 (a:Int),.int .i64 (q:Int)] 58))
    obtain ⟨zk,fk⟩:=X1.out k (by omega)
    have B1:=hid (hst.out.bel.alloc hst.out.bel.size (.cells #[.int .i64 4,.int .i64 (V:Int),.int .i64 (a:Int),.int .i64 (q:Int)] 58))
    obtain ⟨z0,f0⟩:=X1.out a (by omega)
    unfold vd at z0
    rw [if_pos hak] at z0
    obtain ⟨z1,f1⟩:=X1.out q (by omega)
    unfold vd at z1
    rw [if_pos hqk] at z1
    have hv2:val l (cfg x) k=(val l (cfg x) a&&val l (cfg x) q):=by
     have:=val_and l (cfg x) HO.out (by rw [HA.out];omega) (by rw [HQ.out];omega)
     rw [HA.out,HQ.out] at this;exact this
    rcases hbv:val l (cfg x) a with _ | _
    ·rw [hbv] at z0 hv2
     rcases hbw:val l (cfg x) q with _ | _
     ·rw [hbw] at z1 hv2
      have HV2:=hid hv2
      clear hv2 hbv hbw
      have HVL:=hid (HV2.out)
      have B2:Hid (Below w.heap.size w (wr.setCell ⟨g,k,none⟩ (.bool false))):=hid (hst.out.bel.setCell (by show w.heap.size≤g;exact hg.out) _)
      go_wp2
      go_roundw
      case rel=>exact ⟨k+1,by omega,by go_num,hid (hst.out.next (by rw [HVL.out];exact (HXU.out.set (i:=k) (by omega) _).alloc (by omega) _) (B2.out.alloc B2.out.size _))⟩
      case measure=>simp [intOf];omega
     ·rw [hbw] at z1 hv2
      have HV2:=hid hv2
      clear hv2 hbv hbw
      have HVL:=hid (HV2.out)
      have B2:Hid (Below w.heap.size w (wr.setCell ⟨g,k,none⟩ (.bool false))):=hid (hst.out.bel.setCell (by show w.heap.size≤g;exact hg.out) _)
      go_wp2
      go_roundw
      case rel=>exact ⟨k+1,by omega,by go_num,hid (hst.out.next (by rw [HVL.out];exact (HXU.out.set (i:=k) (by omega) _).alloc (by omega) _) (B2.out.alloc B2.out.size _))⟩
      case measure=>simp [intOf];omega
    ·rw [hbv] at z0 hv2
     rcases hbw:val l (cfg x) q with _ | _
     ·rw [hbw] at z1 hv2
      have HV2:=hid hv2
      clear hv2 hbv hbw
      have HVL:=hid (HV2.out)
      have B2:Hid (Below w.heap.size w (wr.setCell ⟨g,k,none⟩ (.bool false))):=hid (hst.out.bel.setCell (by show w.heap.size≤g;exact hg.out) _)
      go_wp2
      go_roundw
      case rel=>exact ⟨k+1,by omega,by go_num,hid (hst.out.next (by rw [HVL.out];exact (HXU.out.set (i:=k) (by omega) _).alloc (by omega) _) (B2.out.alloc B2.out.size _))⟩
      case measure=>simp [intOf];omega
     ·rw [hbw] at z1 hv2
      have HV2:=hid hv2
      clear hv2 hbv hbw
      have HVL:=hid (HV2.out)
      have B2:Hid (Below w.heap.size w (wr.setCell ⟨g,k,none⟩ (.bool true))):=hid (hst.out.bel.setCell (by show w.heap.size≤g;exact hg.out) _)
      go_wp2
      go_roundw
      case rel=>exact ⟨k+1,by omega,by go_num,hid (hst.out.next (by rw [HVL.out];exact (HXU.out.set (i:=k) (by omega) _).alloc (by omega) _) (B2.out.alloc B2.out.size _))⟩
      case measure=>simp [intOf];omega
   ·rw [hO] at d0
    have HO:=hid hO
    obtain ⟨a,hae,hak⟩:=nat_of (HOA.out (by omega))
    rw [hae] at d2
    have HA:=hid hae
    have i4:(0:Int)≤(a:Int):=by omega
    have i5:(a:Int)<512:=by omega
    obtain ⟨q,hqe,hqk⟩:=nat_of (HOB.out (by omega))
    rw [hqe] at d3
    have HQ:=hid hqe
    have i6:(0:Int)≤(q:Int):=by omega
    have i7:(q:Int)<512:=by omega
    clear hO hae hqe
    have X1:=hid (HXU.out.alloc (by omega) (.cells #[.int .i64 5,.int .i64 (V:Int),.int .i64 (a:Int),.int .i64 (q:Int)] 58))
    obtain ⟨zk,fk⟩:=X1.out k (by omega)
    have B1:=hid (hst.out.bel.alloc hst.out.bel.size (.cells #[.int .i64 5,.int .i64 (V:Int),.int .i64 (a:Int),.int .i64 (q:Int)] 58))
    obtain ⟨z0,f0⟩:=X1.out a (by omega)
    unfold vd at z0
    rw [if_pos hak] at z0
    obtain ⟨z1,f1⟩:=X1.out q (by omega)
    unfold vd at z1
    rw [if_pos hqk] at z1
    have hv2:val l (cfg x) k=(val l (cfg x) a||val l (cfg x) q):=by
     have:=val_or l (cfg x) HO.out (by rw [HA.out];omega) (by rw [HQ.out];omega)
     rw [HA.out,HQ.out] at this;exact this
    rcases hbv:val l (cfg x) a with _ | _
    ·rw [hbv] at z0 hv2
     rcases hbw:val l (cfg x) q with _ | _
     ·rw [hbw] at z1 hv2
      have HV2:=hid hv2
      clear hv2 hbv hbw
      have HVL:=hid (HV2.out)
      have B2:Hid (Below w.heap.size w (wr.setCell ⟨g,k,none⟩ (.bool false))):=hid (hst.out.bel.setCell (by show w.heap.size≤g;exact hg.out) _)
      go_wp2
      go_roundw
      case rel=>exact ⟨k+1,by omega,by go_num,hid (hst.out.next (by rw [HVL.out];exact (HXU.out.set (i:=k) (by omega) _).alloc (by omega) _) (B2.out.alloc B2.out.size _))⟩
      case measure=>simp [intOf];omega
     ·rw [hbw] at z1 hv2
      have HV2:=hid hv2
      clear hv2 hbv hbw
      have HVL:=hid (HV2.out)
      have B2:Hid (Below w.heap.size w (wr.setCell ⟨g,k,none⟩ (.bool true))):=hid (hst.out.bel.setCell (by show w.heap.size≤g;exact hg.out) _)
      go_wp2
      go_roundw
      case rel=>exact ⟨k+1,by omega,by go_num,hid (hst.out.next (by rw [HVL.out];exact (HXU.out.set (i:=k) (by omega) _).alloc (by omega) _) (B2.out.alloc B2.out.size _))⟩
      case measure=>simp [intOf];omega
    ·rw [hbv] at z0 hv2
     rcases hbw:val l (cfg x) q with _ | _
     ·rw [hbw] at z1 hv2
      have HV2:=hid hv2
      clear hv2 hbv hbw
      have HVL:=hid (HV2.out)
      have B2:Hid (Below w.heap.size w (wr.setCell ⟨g,k,none⟩ (.bool true))):=hid (hst.out.bel.setCell (by show w.heap.size≤g;exact hg.out) _)
      go_wp2
      go_roundw
      case rel=>exact ⟨k+1,by omega,by go_num,hid (hst.out.next (by rw [HVL.out];exact (HXU.out.set (i:=k) (by omega) _).alloc (by omega) _) (B2.out.alloc B2.out.size _))⟩
      case measure=>simp [intOf];omega
     ·rw [hbw] at z1 hv2
      have HV2:=hid hv2
      clear hv2 hbv hbw
      have HVL:=hid (HV2.out)
      have B2:Hid (Below w.heap.size w (wr.setCell ⟨g,k,none⟩ (.bool true))):=hid (hst.out.bel.setCell (by show w.heap.size≤g;exact hg.out) _)
      go_wp2
      go_roundw
      case rel=>exact ⟨k+1,by omega,by go_num,hid (hst.out.next (by rw [HVL.out];exact (HXU.out.set (i:=k) (by omega) _).alloc (by omega) _) (B2.out.alloc B2.out.size _))⟩
      case measure=>simp [intOf];omega
  ·obtain rfl:k=m:=by omega
   obtain ⟨z0,f0⟩:=hst.out.blk (k - 1) (by omega)
   unfold vd at z0
   rw [if_pos (by omega)] at z0
   have e1:(k:Int) - 1=((k - 1:Nat):Int):=by omega
   have i1:(0:Int)≤((k - 1:Nat):Int):=by omega
   have i2:((k - 1:Nat):Int)<512:=by omega
   go_wp2
   go_ret
   exact ⟨rfl,hst.out.bel⟩
theorem fholds_any (A:Option Addr) (m c:Nat) (l:List Fi) (x:Nat) (w:World) (hl:Hid (l.length=m)) (hr:Hid (Rf w w.heap.size A l)) (hx:x<18446744073709551616) :
  Calls Tryz.prog 19 #[.slice A m c,.int .u64 (x:Int)] w fun e w'=>e=.returned (.bool (decide (okF l)&&val l (cfg x) (m - 1)))∧Below w.heap.size w w':=by
 by_cases h:okF l
 ·rw [decide_eq_true h]
  exact fholds_ok A m c l x w hl hr h hx
 ·rw [decide_eq_false h]
  have HV:=hid (valid_any A m c l w hl hr)
  rw [decide_eq_false h] at HV
  clear h hr
  go_enter Tryz.func19,Tryz.ntmps19
  go_wp2_with (first | (go_at_call 48;refine HV.out.mono ?_;rintro e w4 ⟨rfl,b4⟩))
  go_ret
  exact ⟨rfl,b4⟩
set_option linter.unusedVariables false
set_option linter.unusedSimpArgs false
attribute [local go_sem ↓] Go.wp_at_zero Go.wp_at_succ
end Go.Proofs.YtpaednfinlaioaaGreatDoor
