/-
  Plain mathematics and contracts of package diagram, several texts in one: DMem, DEq, DChk, DKey, DMany, DWalk, DCheck, DCheck2.
-/
import Derived.Test.YtpaednfinlaioaaGreatDoorProg
import Derived.Test.YtpaednfinlaioaaGreatDoorMa
import Derived.WalkKit
import Derived.WalkSpells
import Derived.WalkLawsBesides
import Derived.Handy
import Derived.Lib.Hide
import Derived.BigQuiet
import Derived.Deep.QuietTactic
import Derived.Deep.Draws
import Derived.Deep.RegionHeld3
import Derived.Deep.DrawnRows
import Derived.StillTailTactics
import Derived.Deep.RegionLaw
import Derived.Deep.LoopGhost
import Derived.Deep.OwnRows
import Derived.Laws.CopyOwn
import Derived.Deep.AppendLies
import Derived.KernelRfl
import Derived.Maps.Own
import Derived.Maps.OwnOps
import Derived.Maps.OwnSet
import Derived.DeepKeys4
import Derived.Laws.EntriesVeiled
set_option maxHeartbeats 4000000
set_option maxRecDepth 100000
namespace Go.Proofs.YtpaednfinlaioaaGreatDoor
open Go.Lib (hid)
open Go.RowKit Dg
abbrev Bi:=Int × Int × Int
def iv (l:List Bi) (k:Nat):Int:=(l.getD k (0,0,0)).1
def il (l:List Bi) (k:Nat):Int:=(l.getD k (0,0,0)).2.1
def ih (l:List Bi) (k:Nat):Int:=(l.getD k (0,0,0)).2.2
def Wi (l:List Bi):Prop:=∀ k,k<l.length→(-9223372036854775808≤iv l k∧iv l k≤9223372036854775807)∧(-9223372036854775808≤il l k∧il l k≤9223372036854775807)∧(-9223372036854775808≤ih l k∧ih l k≤9223372036854775807)
def up (M:List Br):List Bi:=M.map fun b=>((b.1:Int),(b.2.1:Int),(b.2.2:Int))
theorem up_len (M:List Br):(up M).length=M.length:=by unfold up;simp
theorem up_getD (M:List Br) (k:Nat):(up M).getD k (0,0,0)=(((bv M k:Nat):Int),((bl M k:Nat):Int),((bh M k:Nat):Int)):=by
 unfold up bv bl bh
 rw [List.getD_eq_getElem?_getD,List.getD_eq_getElem?_getD,List.getElem?_map]
 cases M[k]? <;> rfl
theorem iv_up (M:List Br) (k:Nat):iv (up M) k=(bv M k:Int):=by unfold iv;rw [up_getD]
theorem il_up (M:List Br) (k:Nat):il (up M) k=(bl M k:Int):=by unfold il;rw [up_getD]
theorem ih_up (M:List Br) (k:Nat):ih (up M) k=(bh M k:Int):=by unfold ih;rw [up_getD]
def Rd (w:World) (B:Nat) (A:Option Addr) (l:List Bi):Prop :=
 0<l.length→∃ b o,A=some ⟨b,o,none⟩∧b<B∧∀ j,j<l.length →
  w.cell? ⟨b,o+j*3,none⟩=some (.int .i64 (iv l j))∧w.cell? ⟨b,o+j*3+1,none⟩=some (.int .i64 (il l j))∧w.cell? ⟨b,o+j*3+2,none⟩=some (.int .i64 (ih l j))
section
variable {w w' : World} {B B' : Nat} {A : Option Addr} {l : List Bi}
theorem Rd.nil:Rd w B A []:=fun h=>absurd h (by simp)
theorem Rd.mono (h:Rd w B A l) (hB:B≤B'):Rd w B' A l:=fun h0=>by
 obtain ⟨b,o,e,hb,hc⟩:=h h0
 exact ⟨b,o,e,by omega,hc⟩
theorem Rd.keep (h:Rd w B A l) (hk:∀ k,k<B→w'.heap[k]? = w.heap[k]?):Rd w' B A l:=fun h0=>by
 obtain ⟨b,o,e,hb,hc⟩:=h h0
 refine ⟨b,o,e,hb,fun j hj=>?_⟩
 obtain ⟨h1,h2,h3⟩:=hc j hj
 refine ⟨?_,?_,?_⟩
 ·rw [World.cell?_of_block (w:=w) (hk _ hb)];exact h1
 ·rw [World.cell?_of_block (w:=w) (hk _ hb)];exact h2
 ·rw [World.cell?_of_block (w:=w) (hk _ hb)];exact h3
theorem Rd.below (h:Rd w B A l) (hb:Below B w w'):Rd w' B A l:=h.keep hb.block
theorem iv_take {n j:Nat} (h:j<n):iv (l.take n) j=iv l j:=by unfold iv;rw [List.getD_eq_getElem?_getD,List.getD_eq_getElem?_getD,List.getElem?_take,if_pos h]
theorem il_take {n j:Nat} (h:j<n):il (l.take n) j=il l j:=by unfold il;rw [List.getD_eq_getElem?_getD,List.getD_eq_getElem?_getD,List.getElem?_take,if_pos h]
theorem ih_take {n j:Nat} (h:j<n):ih (l.take n) j=ih l j:=by unfold ih;rw [List.getD_eq_getElem?_getD,List.getD_eq_getElem?_getD,List.getElem?_take,if_pos h]
theorem Rd.take (h:Rd w B A l) (n:Nat):Rd w B A (l.take n):=fun h0=>by
 obtain ⟨b,o,e,hb,hc⟩:=h (by rw [List.length_take] at h0;omega)
 refine ⟨b,o,e,hb,fun j hj=>?_⟩
 rw [List.length_take] at hj
 rw [iv_take (by omega),il_take (by omega),ih_take (by omega)]
 exact hc j (by omega)
end
theorem below_drewN {B:Nat} {a w:World} (h:Below B a w) (n:Nat):Below B a (w.drewN n):=⟨h.os,h.tape,h.output,h.size,h.block⟩
theorem ret_bool {a b:Bool} (h:a=b):Ending.returned (.bool a)=.returned (.bool b):=by rw [h]
def folB (l:List Bi) (v n:Int):Bool:=if n<2 then (n == 0||n == 1) else if n - 2<(l.length:Int) then decide (v<iv l (n - 2).toNat) else false
theorem fol_const (A:Option Addr) (m c:Nat) (v n:Int) (w:World) (hn:n<2) (h0 : -9223372036854775808≤n) :
  Calls Tryz.prog 101 #[.slice A m c,.int .i64 v,.int .i64 n] w fun e w'=>e=.returned (.bool (n == 0||n == 1))∧w=w':=by
 by_cases h:n=0
 ·subst h
  go_enter Tryz.func101,Tryz.ntmps101
  go_wp2
  go_ret
  exact ⟨rfl,rfl⟩
 ·have hb:(n == 0)=false:=beq_eq_false_iff_ne.2 h
  go_enter Tryz.func101,Tryz.ntmps101
  go_wp2
  go_ret
  exact ⟨ret_bool (by simp [hb]),rfl⟩
theorem fol_out (A:Option Addr) (m c:Nat) (v n:Int) (w:World) (hn:2≤n) (h0:n≤9223372036854775807) (hm:(m:Int)≤n - 2) :
  Calls Tryz.prog 101 #[.slice A m c,.int .i64 v,.int .i64 n] w fun e w'=>e=.returned (.bool false)∧w=w':=by
 go_enter Tryz.func101,Tryz.ntmps101
 go_wp2
 go_ret
 exact ⟨rfl,rfl⟩
theorem fol_in (b o m c k:Nat) (v x:Int) (w:World) (hk:k<m) (hm:m≤9223372036854775800) (hc:w.cell? ⟨b,o+k*3,none⟩=some (.int .i64 x)) :
  Calls Tryz.prog 101 #[.slice (some ⟨b,o,none⟩) m c,.int .i64 v,.int .i64 ((k:Int)+2)] w fun e w'=>e=.returned (.bool (decide (v<x)))∧w=w':=by
 go_enter Tryz.func101,Tryz.ntmps101
 go_wp2
 go_ret
 exact ⟨rfl,rfl⟩
theorem fol_any {B:Nat} {A:Option Addr} {l:List Bi} {w:World} (c m:Nat) (v n:Int) (hr:Rd w B A l) (hl:l.length=m) (hm:m≤9223372036854775800) (h0 : -9223372036854775808≤n) (h1:n≤9223372036854775807) :
  Calls Tryz.prog 101 #[.slice A m c,.int .i64 v,.int .i64 n] w fun e w'=>e=.returned (.bool (folB l v n))∧w=w':=by
 unfold folB
 by_cases hn:n<2
 ·rw [if_pos hn];exact fol_const A m c v n w hn h0
 ·rw [if_neg hn]
  by_cases hi:n - 2<(l.length:Int)
  ·rw [if_pos hi]
   obtain ⟨k,rfl⟩:∃ k:Nat,n=(k:Int)+2:=⟨(n - 2).toNat,by omega⟩
   obtain ⟨b,o,rfl,_,hc⟩:=hr (by omega)
   have e:((k:Int)+2 - 2).toNat=k:=by omega
   rw [e]
   exact fol_in b o m c k v _ w (by omega) hm (hc k (by omega)).1
  ·rw [if_neg hi]
   exact fol_out A m c v n w (by omega) h1 (by omega)
def conB (v:Int):Bool:=decide (0≤v)&&decide (v<64)
theorem con_any (v:Int) (w:World):Calls Tryz.prog 100 #[.int .i64 v] w fun e w'=>e=.returned (.bool (conB v))∧w=w':=by
 by_cases h:0≤v
 ·by_cases h2:v<64
  ·have e:conB v=true:=by simp [conB,h,h2]
   rw [e]
   go_enter Tryz.func100,Tryz.ntmps100
   go_wp2
   go_ret
   exact ⟨rfl,rfl⟩
  ·have e:conB v=false:=by simp [conB,h2]
   rw [e]
   go_enter Tryz.func100,Tryz.ntmps100
   go_wp2
   go_ret
   exact ⟨rfl,rfl⟩
 ·have e:conB v=false:=by simp [conB,h]
  rw [e]
  go_enter Tryz.func100,Tryz.ntmps100
  go_wp2
  go_ret
  exact ⟨rfl,rfl⟩
def ordB (l:List Bi):Nat→Bool
 | 0=>true
 | k+1=>ordB l k&&(conB (iv l k)&&!(il l k == ih l k)&&folB (l.take k) (iv l k) (il l k)&&folB (l.take k) (iv l k) (ih l k))
theorem ordB_false {l:List Bi} {k n:Nat} (h:ordB l (k+1)=false) (hk:k<n):ordB l n=false:=by
 induction n with
 | zero=>omega
 | succ n ih =>
   rcases Nat.lt_or_ge k n with h1 | h1
   ·rw [ordB,ih h1,Bool.false_and]
   ·rw [show n=k by omega];exact h
def Fol (m:Nat) (c:Nat) (A:Option Addr) (v n:Int) (t:Bool) (w:World):Prop :=
 ∀ w':World,Below w.heap.size w w'→Calls Tryz.prog 101 #[.slice A m c,.int .i64 v,.int .i64 n] w' fun e w''=>e=.returned (.bool t)∧w''=w'
theorem ordered_some (b o c n:Nat) (l:List Bi) (w:World) (hw:Hid (Wi l)) (hl:Hid (l.length=n)) (hn:n≤1000000) (hnc:n≤c) (hr:Hid (Rd w w.heap.size (some ⟨b,o,none⟩) l)) :
  Calls Tryz.prog 72 #[.slice (some ⟨b,o,none⟩) n c] w fun e w'=>e=.returned (.bool (ordB l n))∧Below w.heap.size w w':=by
 go_enter Tryz.func72,Tryz.ntmps72
 go_wp2
 go_loopw [7] (fun i wr=>∃ k:Nat,k≤n∧i=.int .i64 k∧Hid (ordB l k=true)∧Hid (Below w.heap.size w wr)) (fun i _=>n - (intOf i).toNat)
 case atStart=>exact ⟨0,Nat.zero_le _,rfl,rfl,Below.refl _ _⟩
 case round =>
  obtain ⟨k,hk,rfl,hok,hbl⟩:=hrel
  by_cases hlt:k<n
  ·obtain ⟨b',o',e,hb,hc⟩:=(hr.out.below hbl.out) (by rw [hl.out];omega)
   injection e with e
   injection e with e1 e2
   subst e1
   subst e2
   obtain ⟨c1,c2,c3⟩:=hc k (by rw [hl.out];exact hlt)
   obtain ⟨⟨v0,v1⟩,⟨l0,l1⟩,⟨h0,h1⟩⟩:=hw.out k (by rw [hl.out];exact hlt)
   have hstep:ordB l (k+1)=(ordB l k&&(conB (iv l k)&&!(il l k == ih l k)&&folB (l.take k) (iv l k) (il l k)&&folB (l.take k) (iv l k) (ih l k))):=rfl
   rw [hok.out,Bool.true_and] at hstep
   have HSTEP:=hid hstep
   have i1:(0:Int)≤(k:Int):=by omega
   have i2:(k:Int)≤(c:Int):=by omega
   have i3:(k:Int)≤(n:Int):=by omega
   have i4:k≤c:=by omega
   have hF:∀ m:Int,-9223372036854775808≤m→m≤9223372036854775807→∀ t,folB (l.take k) (iv l k) m=t→Fol k c (some ⟨b,o,none⟩) (iv l k) m t w:=by
    intro m m0 m1 t ht w' hb'
    rw [← ht]
    exact (fol_any c k (iv l k) m ((hr.out.below hb').take k) (by rw [List.length_take,hl.out];omega) (by omega) m0 m1).mono fun _ _ ⟨a,b⟩=>⟨a,b.symm⟩
   have FL:=fun t ht=>hid (hF (il l k) l0 l1 t ht)
   have FH:=fun t ht=>hid (hF (ih l k) h0 h1 t ht)
   have hCon:∀ t,conB (iv l k)=t→∀ w':World,Calls Tryz.prog 100 #[.int .i64 (iv l k)] w' fun e w''=>e=.returned (.bool t)∧w'=w'':=fun t ht w'=>by rw [← ht];exact con_any _ _
   have hbx:=hbl.out.alloc hbl.out.size (.cells #[.int .i64 (iv l k),.int .i64 (il l k),.int .i64 (ih l k)] 80)
   generalize iv l k=V at *
   generalize il l k=L at *
   generalize ih l k=H at *
   clear hc hstep hF
   rcases q1:conB V with _ | _
   ·have CON:=hid (hCon _ q1)
    have HF:Hid (ordB l (k+1)=false):=show _=_ by rw [HSTEP.out,q1];rfl
    clear hCon q1 FL FH
    go_wp2_with (first | (go_at_call 100;refine (CON.out _).mono ?_;rintro e w' ⟨rfl,rfl⟩))
    go_ret
    exact ⟨ret_bool (ordB_false HF.out hlt).symm,hbx⟩
   ·have CON:=hid (hCon _ q1)
    by_cases q2:L=H
    ·have HF:Hid (ordB l (k+1)=false):=show _=_ by rw [HSTEP.out,q2];simp
     have b2:(L == H)=true:=by rw [q2];simp
     clear hCon q1 FL FH q2
     go_wp2_with (first | (go_at_call 100;refine (CON.out _).mono ?_;rintro e w' ⟨rfl,rfl⟩))
     go_ret
     exact ⟨ret_bool (ordB_false HF.out hlt).symm,hbx⟩
    ·have b2:(L == H)=false:=beq_eq_false_iff_ne.2 q2
     rcases q3:folB (l.take k) V L with _ | _
     ·have F1:=FL _ q3
      have HF:Hid (ordB l (k+1)=false):=show _=_ by rw [HSTEP.out,q3];simp
      clear hCon q1 FL FH q2 q3
      go_wp2_with (first | (go_at_call 100;refine (CON.out _).mono ?_;rintro e w' ⟨rfl,rfl⟩))
      go_quiet ((go_at_call 101;exact Calls.quiet_of_same (F1.out _ (below_drewN hbx _))))
      go_wp2
      go_ret
      exact ⟨ret_bool (ordB_false HF.out hlt).symm,below_drewN hbx _⟩
     ·have F1:=FL _ q3
      rcases q4:folB (l.take k) V H with _ | _
      ·have F2:=FH _ q4
       have HF:Hid (ordB l (k+1)=false):=show _=_ by rw [HSTEP.out,q4];simp
       clear hCon q1 FL FH q3 q4
       go_wp2_with (first | (go_at_call 100;refine (CON.out _).mono ?_;rintro e w' ⟨rfl,rfl⟩))
       have G1:=fun q=>hid (F1.out _ (below_drewN hbx q))
       have G2:=fun q=>hid (F2.out _ (below_drewN hbx q))
       go_quiet ((first | (go_at_call 101;with_reducible exact Calls.quiet_of_same (G1 _).out) | (go_at_call 101;with_reducible exact Calls.quiet_of_same (G2 _).out)))
       go_wp2
       go_ret
       exact ⟨ret_bool (ordB_false HF.out hlt).symm,below_drewN hbx _⟩
      ·have F2:=FH _ q4
       have HT:Hid (ordB l (k+1)=true):=show _=_ by rw [HSTEP.out,q1,q3,q4,b2];rfl
       clear hCon q1 FL FH q3 q4
       go_wp2_with (first | (go_at_call 100;refine (CON.out _).mono ?_;rintro e w' ⟨rfl,rfl⟩))
       have G1:=fun q=>hid (F1.out _ (below_drewN hbx q))
       have G2:=fun q=>hid (F2.out _ (below_drewN hbx q))
       go_quiet ((first | (go_at_call 101;with_reducible exact Calls.quiet_of_same (G1 _).out) | (go_at_call 101;with_reducible exact Calls.quiet_of_same (G2 _).out)))
       go_wp2
       go_roundw
       case rel=>exact ⟨k+1,by omega,by go_num,HT,below_drewN hbx _⟩
       case measure=>simp [intOf];omega
  ·obtain rfl:k=n:=by omega
   go_wp2
   go_ret
   exact ⟨ret_bool hok.out.symm,hbl.out⟩
theorem still_tail {P:Program} {id:Nat} {Q:Exit→Act→World→Prop} {a:Act} {w:World} {l:List Oper} (n:Nat) (hm:P.follows .mixedOrders=true) (hB:Region.lexTailB .any l.toArray n=true)
  (h:wpStill P l.toArray w.drew (fun a'=>wpList P l.toArray Q (l.drop n) a' w.drew) (l.take n) a):(Code.region id l.toArray true).wp P Q a w:=wp_region_still_tail n hm hB h
def V3 (b:Bi):Value:=.agg #[.int .i64 b.1,.int .i64 b.2.1,.int .i64 b.2.2]
theorem run_eql_br (w:World) (a b c x y z:Int) :
  (binOp .eql 80 (.agg #[.int .i64 a,.int .i64 b,.int .i64 c]) (.agg #[.int .i64 x,.int .i64 y,.int .i64 z])).run Tryz.prog w=.ok (.bool (a == x&&(b == y&&c == z))) w:=by
 have hf:Tryz.prog.underlying 80=some (.struct (Tryz.prog.fieldsOf 80)):=by kernel_rfl
 have hfl : (Tryz.prog.fieldsOf 80).toList.map (fun f => (f.name, f.type, f.offset)) = [("Var", 3, 0), ("Low", 3, 1), ("High", 3, 2)] := by kernel_rfl
 have hs:Tryz.prog.stoodInHeld 80=false:=by kernel_rfl
 have hu:=Tryz.underlying3
 rw [run_eql_struct,run_equalIn_agg w 9999 _ _ _ hf hs]
 rcases hl:(Tryz.prog.fieldsOf 80).toList with _ | ⟨f0,_ | ⟨f1,_ | ⟨f2,_ | ⟨f3,fs⟩⟩⟩⟩ <;> rw [hl] at hfl <;> simp at hfl
 obtain ⟨⟨n0,t0,o0⟩,⟨n1,t1,o1⟩,⟨n2,t2,o2⟩⟩:=hfl
 have p0:∀ (w:World) (a b c:Int),(part 3 #[Value.int .i64 a,.int .i64 b,.int .i64 c] 0).run Tryz.prog w=.ok (.int .i64 a) w:=fun w a b c=>by kernel_rfl
 have p1:∀ (w:World) (a b c:Int),(part 3 #[Value.int .i64 a,.int .i64 b,.int .i64 c] 1).run Tryz.prog w=.ok (.int .i64 b) w:=fun w a b c=>by kernel_rfl
 have p2:∀ (w:World) (a b c:Int),(part 3 #[Value.int .i64 a,.int .i64 b,.int .i64 c] 2).run Tryz.prog w=.ok (.int .i64 c) w:=fun w a b c=>by kernel_rfl
 have q:∀ (w:World) (a b:Int),(Op.equalIn 9999 3 (.int .i64 a) (.int .i64 b)).run Tryz.prog w=.ok (a == b) w:=fun w a b=>run_equalIn_int w 9998 _ _ _ a b hu
 simp only [Op.eqFields,n0,n1,n2,t0,t1,t2,o0,o1,o2,ne_eq,not_false_eq_true,String.reduceEq,if_true,Sem.run_bind,p0,q,Result.andThen_ok]
 rcases h1:(a == x) with _ | _
 ·simp
 ·rcases h2:(b == y) with _ | _
  ·simp [p1,q,h2]
  ·rcases h3:(c == z) with _ | _
   ·simp [p1,p2,q,h2,h3]
   ·simp [p1,p2,q,h2,h3]
def NotIn (l:List Bi) (x:Bi) (k:Nat):Prop:=∀ j,j<k→¬ (x.1=iv l j∧x.2.1=il l j∧x.2.2=ih l j)
def idxB (l:List Bi) (x:Bi):Int:=if x∈l then (l.idxOf x:Int) else -1
theorem bi_at {l:List Bi} {k:Nat} (hk:k<l.length):l[k]=(iv l k,il l k,ih l k):=by
 unfold iv il ih
 simp only [List.getD_eq_getElem?_getD,List.getElem?_eq_getElem hk,Option.getD_some]
theorem NotIn.not {l:List Bi} {x:Bi} (h:NotIn l x l.length):x∉l:=by
 intro hin
 obtain ⟨k,hk,e⟩:=List.getElem_of_mem hin
 rw [bi_at hk] at e
 subst e
 exact h k hk ⟨rfl,rfl,rfl⟩
theorem NotIn.idx {l:List Bi} {x:Bi} {k:Nat} (h:NotIn l x k) (hk:k<l.length) (h1:x.1=iv l k) (h2:x.2.1=il l k) (h3:x.2.2=ih l k):idxB l x=(k:Int):=by
 have e:l[k]=x:=by rw [bi_at hk,← h1,← h2,← h3]
 have hin:x∈l:=by rw [← e];exact List.getElem_mem hk
 unfold idxB
 rw [if_pos hin]
 have hi:l.idxOf x<l.length:=List.idxOf_lt_length_iff.2 hin
 have hx:l[l.idxOf x]=x:=List.getElem_idxOf hi
 congr 1
 rcases Nat.lt_trichotomy (l.idxOf x) k with hlt | heq | hgt
 ·rw [bi_at hi] at hx
  exact absurd ⟨(congrArg Prod.fst hx).symm,(congrArg (fun b=>b.2.1) hx).symm,(congrArg (fun b=>b.2.2) hx).symm⟩ (h _ hlt)
 ·exact heq
 ·have:=List.not_of_lt_findIdx (xs:=l) (p:=(· == x)) hgt
  rw [e] at this
  simp at this
theorem index_some (b o c n:Nat) (l:List Bi) (x y z:Int) (w:World) (hl:Hid (l.length=n)) (hn:n≤1000000) (hr:Hid (Rd w w.heap.size (some ⟨b,o,none⟩) l)) :
  Calls Tryz.prog 118 #[.slice (some ⟨b,o,none⟩) n c,.agg #[.int .i64 x,.int .i64 y,.int .i64 z]] w fun e w'=>e=.returned (.int .i64 (idxB l (x,y,z)))∧Below w.heap.size w w':=by
 have hb0:=(Below.refl w.heap.size w).alloc (Nat.le_refl _) (.cells #[.int .i64 x,.int .i64 y,.int .i64 z] 80)
 go_enter Tryz.func118,Tryz.ntmps118
 go_wp2
 go_loopw [8] (fun i wr=>∃ k m:Nat,k≤n∧i=.int .i64 k∧Hid (NotIn l (x,y,z) k)∧wr=(w.alloc (.cells #[.int .i64 x,.int .i64 y,.int .i64 z] 80)).drewN m) (fun i _=>n - (intOf i).toNat)
 case atStart=>exact ⟨0,0,Nat.zero_le _,rfl,fun j hj=>absurd hj (by omega),rfl⟩
 case round =>
  obtain ⟨k,m,hk,rfl,hno,rfl⟩:=hrel
  by_cases hlt:k<n
  ·obtain ⟨b',o',e,hb,hc⟩:=hr.out (by rw [hl.out];omega)
   injection e with e
   injection e with e1 e2
   subst e1
   subst e2
   obtain ⟨c1,c2,c3⟩:=hc k (by rw [hl.out];exact hlt)
   have hks:k<l.length:=by rw [hl.out];exact hlt
   have HKS:=hid hks
   have hidx:=fun h1 h2 h3=>hno.out.idx (x:=(x,y,z)) hks h1 h2 h3
   have hnx:∀ hne:¬ (x=iv l k∧y=il l k∧z=ih l k),NotIn l (x,y,z) (k+1):=fun hne j hj=>by
    rcases Nat.lt_or_ge j k with h | h
    ·exact hno.out j h
    ·rw [show j=k by omega];exact hne
   have HNX:=hid hnx
   have HIDX:=hid hidx
   clear hnx hidx hc hks
   generalize iv l k=V at *
   generalize il l k=L at *
   generalize ih l k=H at *
   have hbne:¬ b=w.heap.size:=by omega
   have i1:(0:Int)≤(k:Int):=by omega
   have i2:(k:Int)<(n:Int):=by omega
   have heq:=fun W:World=>run_eql_br W x y z V L H
   by_cases q:x=V∧y=L∧z=H
   ·have hq:(x == V&&(y == L&&z == H))=true:=by simp [q.1,q.2.1,q.2.2]
    have HI:Hid (idxB l (x,y,z)=(k:Int)):=HIDX.out q.1 q.2.1 q.2.2
    rw [hq] at heq
    clear q hq
    go_wp2
    go_quiet (fail)
    go_wp2
    go_ret
    rw [HI.out]
    exact ⟨rfl,below_drewN (below_drewN hb0 _) _⟩
   ·have hq:(x == V&&(y == L&&z == H))=false:=by
     rcases h:(x == V&&(y == L&&z == H)) with _ | _
     ·rfl
     ·simp at h;exact absurd h q
    have HN:=hid (HNX.out q)
    rw [hq] at heq
    clear q hq
    go_wp2
    go_quiet (fail)
    go_wp2
    go_roundw
    case rel=>exact ⟨k+1,_,by omega,by go_num,HN,rfl⟩
    case measure=>simp [intOf];omega
  ·obtain rfl:k=n:=by omega
   have hnot:Hid ((x,y,z)∉l):=NotIn.not (by rw [hl.out];exact hno.out)
   go_wp2
   go_ret
   have e:idxB l (x,y,z) = -1:=if_neg hnot.out
   rw [e]
   exact ⟨rfl,below_drewN hb0 _⟩
theorem index_none (A:Option Addr) (c:Nat) (x y z:Int) (w:World) :
  Calls Tryz.prog 118 #[.slice A 0 c,.agg #[.int .i64 x,.int .i64 y,.int .i64 z]] w fun e w'=>e=.returned (.int .i64 (-1))∧Below w.heap.size w w':=by
 have hb0:=(Below.refl w.heap.size w).alloc (Nat.le_refl _) (.cells #[.int .i64 x,.int .i64 y,.int .i64 z] 80)
 go_enter Tryz.func118,Tryz.ntmps118
 go_wp2
 go_rounds 1
 go_ret
 exact ⟨rfl,hb0⟩
theorem index_any {B:Nat} {A:Option Addr} {l:List Bi} {w:World} (c n:Nat) (x y z:Int) (hr:Rd w B A l) (hB:B≤w.heap.size) (hl:l.length=n) (hn:n≤1000000) :
  Calls Tryz.prog 118 #[.slice A n c,.agg #[.int .i64 x,.int .i64 y,.int .i64 z]] w fun e w'=>e=.returned (.int .i64 (idxB l (x,y,z)))∧Below w.heap.size w w':=by
 rcases Nat.eq_zero_or_pos n with h0 | h0
 ·have e:l=[]:=List.eq_nil_of_length_eq_zero (by omega)
  subst e
  subst h0
  exact index_none A c x y z w
 ·obtain ⟨b,o,rfl,hb,hc⟩:=hr (by omega)
  exact index_some b o c n l x y z w hl hn (fun _=>⟨b,o,rfl,by omega,hc⟩)
theorem idxB_ge (l:List Bi) (x:Bi):decide (0≤idxB l x)=decide (x∈l):=by
 unfold idxB
 by_cases h:x∈l
 ·rw [if_pos h,decide_eq_true h];simp
 ·rw [if_neg h,decide_eq_false h];rfl
theorem contains_any {B:Nat} {A:Option Addr} {l:List Bi} {w:World} (c n:Nat) (x y z:Int) (t:Bool) (hr:Rd w B A l) (hB:B≤w.heap.size) (hl:l.length=n) (hn:n≤1000000) (ht:decide ((x,y,z)∈l)=t) :
  Calls Tryz.prog 102 #[.slice A n c,.agg #[.int .i64 x,.int .i64 y,.int .i64 z]] w fun e w'=>e=.returned (.bool t)∧Below w.heap.size w w':=by
 have hb0:=(Below.refl w.heap.size w).alloc (Nat.le_refl _) (.cells #[.int .i64 x,.int .i64 y,.int .i64 z] 80)
 have hr1:Rd w w.heap.size A l:=hr.mono hB
 have HR:Hid (Rd (w.alloc (.cells #[.int .i64 x,.int .i64 y,.int .i64 z] 80)) w.heap.size A l):=hr1.below hb0
 obtain ⟨zi,hzi⟩:∃ zi,idxB l (x,y,z)=zi:=⟨_,rfl⟩
 have hge:=idxB_ge l (x,y,z)
 rw [hzi,ht] at hge
 have HI:=hid hzi
 have HL:=hid hl
 clear hr hr1 hzi ht hl
 rcases t with _ | _
 ·have h1:¬ 0≤zi:=by simpa using hge
  clear hge
  go_enter Tryz.func102,Tryz.ntmps102
  go_wp2_with (first
   | (go_at_call 118;refine (index_any c n x y z HR.out (by simp) HL.out hn).mono ?_;rintro e w1 ⟨rfl,hb1⟩;rw [HI.out]))
  go_ret
  exact ⟨ret_bool (by simp [h1]),hb0.trans (hb1.mono (by simp))⟩
 ·have h1:0≤zi:=by simpa using hge
  clear hge
  go_enter Tryz.func102,Tryz.ntmps102
  go_wp2_with (first
   | (go_at_call 118;refine (index_any c n x y z HR.out (by simp) HL.out hn).mono ?_;rintro e w1 ⟨rfl,hb1⟩;rw [HI.out]))
  go_ret
  exact ⟨ret_bool (by simp),hb0.trans (hb1.mono (by simp))⟩
theorem nodup_step {l:List Bi} {k:Nat} (hk:k<l.length):(l.take (k+1)).Nodup↔(l.take k).Nodup∧(iv l k,il l k,ih l k)∉l.take k:=by
 rw [List.take_succ_eq_append_getElem hk,bi_at hk,List.nodup_append]
 constructor
 ·rintro ⟨h1,_,h2⟩
  exact ⟨h1,fun hin=>h2 _ hin _ (by simp) rfl⟩
 ·rintro ⟨h1,h2⟩
  refine ⟨h1,by simp,fun a ha b hb e=>?_⟩
  rw [List.mem_singleton] at hb
  subst hb
  subst e
  exact h2 ha
theorem nodup_take {l:List Bi} (k:Nat) (h:¬ (l.take k).Nodup):¬ l.Nodup:=fun hn=>h (hn.sublist (List.take_sublist k l))
theorem distinct_few (b o c n:Nat) (l:List Bi) (w:World) (hl:Hid (l.length=n)) (hn:n≤16) (hnc:n≤c) (hr:Hid (Rd w w.heap.size (some ⟨b,o,none⟩) l)) :
  Calls Tryz.prog 73 #[.slice (some ⟨b,o,none⟩) n c] w fun e w'=>e=.returned (.bool (decide l.Nodup))∧Below w.heap.size w w':=by
 have hdec:decide ((n:Int)≤16)=true:=decide_eq_true (by omega)
 go_enter Tryz.func73,Tryz.ntmps73
 go_wp2
 go_loopw [13] (fun i wr=>∃ k:Nat,k≤n∧i=.int .i64 k∧Hid ((l.take k).Nodup)∧Hid (Below w.heap.size w wr)) (fun i _=>n - (intOf i).toNat)
 case atStart=>exact ⟨0,Nat.zero_le _,rfl,by simp [Hid],Below.refl _ _⟩
 case round =>
  obtain ⟨k,hk,rfl,hok,hbl⟩:=hrel
  by_cases hlt:k<n
  ·obtain ⟨b',o',e,hb,hc⟩:=(hr.out.below hbl.out) (by rw [hl.out];omega)
   injection e with e
   injection e with e1 e2
   subst e1
   subst e2
   obtain ⟨c1,c2,c3⟩:=hc k (by rw [hl.out];exact hlt)
   have hnd:=nodup_step (l:=l) (k:=k) (by rw [hl.out];exact hlt)
   have hbx:=hbl.out.alloc hbl.out.size (.cells #[.int .i64 (iv l k),.int .i64 (il l k),.int .i64 (ih l k)] 80)
   have HCN:∀ t,decide ((iv l k,il l k,ih l k)∈l.take k)=t→∀ w':World,Below w.heap.size w w'→Calls Tryz.prog 102 #[.slice (some ⟨b,o,none⟩) k c,.agg #[.int .i64 (iv l k),.int .i64 (il l k),.int .i64 (ih l k)]] w' fun e w''=>e=.returned (.bool t)∧Below w'.heap.size w' w'' :=
    fun t ht w' hb'=>contains_any c k _ _ _ t ((hr.out.below hb').take k) hb'.size (by rw [List.length_take,hl.out];omega) (by omega) ht
   have HND:=hid hnd
   have HHC:=hid HCN
   clear hnd HCN hc
   generalize iv l k=V at *
   generalize il l k=L at *
   generalize ih l k=H at *
   have i1:(0:Int)≤(k:Int):=by omega
   have i2:(k:Int)≤(c:Int):=by omega
   have i3:(k:Int)≤(n:Int):=by omega
   have i4:k≤c:=by omega
   by_cases hin:(V,L,H)∈l.take k
   ·have CN:=hid (HHC.out _ (decide_eq_true hin))
    have hno:¬ l.Nodup:=nodup_take (k+1) (fun h=>(HND.out.1 h).2 hin)
    have HNO:=hid hno
    clear hin hno
    go_wp2
    refine still_tail 4 (by kernel_rfl) (by kernel_rfl) ?_
    simp only [List.take_succ_cons,List.take_zero,List.drop_succ_cons,List.drop_zero]
    repeat still_step
    refine wpStill_nil ?_
    go_wp2_with (first | (go_at_call 102;refine (CN.out _ hbx.drew).mono ?_;rintro e w3 ⟨rfl,hb3⟩))
    have hb4:=hbx.drew.trans (hb3.mono hbx.drew.size)
    go_ret
    exact ⟨ret_bool (decide_eq_false HNO.out).symm,hb4⟩
   ·have CN:=hid (HHC.out _ (decide_eq_false hin))
    have hyes:Hid ((l.take (k+1)).Nodup):=HND.out.2 ⟨hok.out,hin⟩
    clear hin
    go_wp2
    refine still_tail 4 (by kernel_rfl) (by kernel_rfl) ?_
    simp only [List.take_succ_cons,List.take_zero,List.drop_succ_cons,List.drop_zero]
    repeat still_step
    refine wpStill_nil ?_
    go_wp2_with (first | (go_at_call 102;refine (CN.out _ hbx.drew).mono ?_;rintro e w3 ⟨rfl,hb3⟩))
    have hb4:=hbx.drew.trans (hb3.mono hbx.drew.size)
    go_roundw
    case rel=>exact ⟨k+1,by omega,by go_num,hyes,hb4⟩
    case measure=>simp [intOf];omega
  ·obtain rfl:k=n:=by omega
   have hyes:l.Nodup:=by have:=hok.out;rwa [List.take_of_length_le (by rw [hl.out];exact Nat.le_refl _)] at this
   have HY:=hid hyes
   clear hyes
   go_wp2
   go_ret
   exact ⟨ret_bool (decide_eq_true HY.out).symm,hbl.out⟩
end Go.Proofs.YtpaednfinlaioaaGreatDoor
namespace Go.Proofs.YtpaednfinlaioaaGreatDoor
open Go.Lib (hid)
open Go.RowKit Dg Go.Maps
theorem Tryz.laidOut:laidOutB Tryz.prog=true:=by kernel_rfl
theorem Tryz.rowBr:(80:TypeId)<Tryz.prog.types.size:=of_decide_eq_true (by kernel_rfl)
theorem Tryz.keyed:Keyed Tryz.prog 80:=Keyed.of_law (deep_law_laid Tryz.laidOut (m:=2) (by omega) Tryz.rowBr (by kernel_rfl) (by kernel_rfl))
theorem Tryz.keyType:Tryz.prog.keyType 80=true:=by kernel_rfl
theorem Tryz.cellsBr:Tryz.prog.cellsOf 80=3:=by kernel_rfl
theorem Tryz.cellsInt:Tryz.prog.cellsOf 3=1:=by kernel_rfl
def kb (b:Bi):Lit:=.string (keyBytes [.int .i64 b.1,.int .i64 b.2.1,.int .i64 b.2.2])
theorem key_br {a b c:Int} (ha:(Lit.int .i64 a).wf=true) (hb:(Lit.int .i64 b).wf=true) (hc:(Lit.int .i64 c).wf=true) :
  keyOf Tryz.prog 80 (.agg #[.int .i64 a,.int .i64 b,.int .i64 c])=some (kb (a,b,c)):=by
 obtain ⟨m,hm⟩:∃ m,Tryz.prog.types.size=m+1:=⟨Tryz.prog.types.size - 1,by have h:(80:Nat)<Tryz.prog.types.size:=Tryz.rowBr;omega⟩
 unfold keyOf
 simp only [Tryz.underlying80]
 rw [if_pos (by simp [Tryz.keyType,Value.formed,Tryz.underlying80,Tryz.cellsBr]),hm]
 unfold Program.keyLits
 simp only [Tryz.underlying80,Value.cells]
 rw [if_pos (by rw [Tryz.cellsBr];exact ⟨rfl,by simp⟩)]
 simp [Tryz.cellsInt,Program.keyLits,Tryz.underlying3,ha,hb,hc,kb]
def I64 (a:Int):Prop:=-9223372036854775808≤a∧a≤9223372036854775807
def I3 (b:Bi):Prop:=I64 b.1∧I64 b.2.1∧I64 b.2.2
theorem wf64 {a:Int} (h:I64 a):(Lit.int .i64 a).wf=true:=by
 obtain ⟨h1,h2⟩:=h
 exact WalkArith.wf_i64 (by omega)
theorem key_i3 {b:Bi} (h:I3 b):keyOf Tryz.prog 80 (V3 b)=some (kb b):=key_br (wf64 h.1) (wf64 h.2.1) (wf64 h.2.2)
theorem kb_inj {a b:Bi} (ha:I3 a) (hb:I3 b) (h:kb a=kb b):a=b:=by
 have e:=Tryz.keyed.inj (key_i3 ha) (by rw [h];exact key_i3 hb)
 unfold V3 at e
 simp only [Value.agg.injEq,Array.mk.injEq,List.cons.injEq,Value.int.injEq,true_and,and_true] at e
 exact Prod.ext e.1 (Prod.ext e.2.1 e.2.2)
theorem kb_key {b:Bi} (h:I3 b):WideAt.IsKeyLit (kb b):=Tryz.keyed.key (key_i3 h)
theorem run_make_hint {P:Program} (t k e:TypeId) (kd:IntKind) (n:Int) (ht:P.underlying t=some (.map k e)) (w:World) :
  (Instr.makeMap t (some (.int kd n))).run P w=.ok (.map (some w.heap.size)) (w.alloc (.map #[] 0)):=by
 simp [Instr.makeMap,run_underlying ht];rfl
structure SeenInv (l:List Bi) (k:Nat) (D:DataW Unit):Prop where
 tidy:Tidy D
 has:∀ x,I3 x→Maps.has D (kb x)=decide (x∈l.take k)
 le:Maps.size D≤k
 eq:Maps.size D=k↔(l.take k).Nodup
theorem SeenInv.start (l:List Bi):SeenInv l 0 (.map []):=⟨tidy_empty,fun x _=>by simp [has_eq],by simp [size_eq],by simp [size_eq]⟩
theorem SeenInv.step {l:List Bi} {k:Nat} {D:DataW Unit} (h:SeenInv l k D) (hk:k<l.length) (hw:I3 (iv l k,il l k,ih l k)) (d:DataW Unit):SeenInv l (k+1) (D.put (kb (iv l k,il l k,ih l k)) d):=by
 have hhas:=h.has _ hw
 have hsz:=size_put (k:=kb (iv l k,il l k,ih l k)) h.tidy d
 have hnd:=nodup_step hk
 have htk:l.take (k+1)=l.take k++[(iv l k,il l k,ih l k)]:=by rw [List.take_succ_eq_append_getElem hk,bi_at hk]
 refine ⟨h.tidy.put (kb_key hw) d,fun x hx=>?_,?_,?_⟩
 ·by_cases e:x=(iv l k,il l k,ih l k)
  ·subst e
   rw [has_put_same h.tidy.isMap (kb_key hw),htk]
   simp
  ·rw [has_put_other (fun e2=>e (kb_inj hx hw e2)),h.has x hx,htk]
   simp [e]
 ·rw [hsz];have:=h.le;split <;> omega
 ·rw [hsz,hnd,hhas]
  have hle:=h.le
  by_cases hin:(iv l k,il l k,ih l k)∈l.take k
  ·rw [decide_eq_true hin,if_pos rfl]
   exact ⟨fun e=>by omega,fun e=>absurd hin e.2⟩
  ·rw [decide_eq_false hin,if_neg (by simp)]
   exact ⟨fun e=>⟨h.eq.1 (by omega),hin⟩,fun e=>by rw [h.eq.2 e.1]⟩
theorem wi_i3 {l:List Bi} (h:Wi l) {k:Nat} (hk:k<l.length):I3 (iv l k,il l k,ih l k):=h k hk
theorem distinct_many (b o c n:Nat) (l:List Bi) (w:World) (hw:Hid (Wi l)) (hl:Hid (l.length=n)) (hn:n≤1000000) (h16:16<n) (hr:Hid (Rd w w.heap.size (some ⟨b,o,none⟩) l)) :
  Calls Tryz.prog 73 #[.slice (some ⟨b,o,none⟩) n c] w fun e w'=>e=.returned (.bool (decide l.Nodup))∧Below w.heap.size w w':=by
 have hdec:decide ((n:Int)≤16)=false:=decide_eq_false (by omega)
 have hmk:=fun W:World=>run_make_hint (P:=Tryz.prog) 135 80 4 .i64 (n:Int) Tryz.underlying135 W
 have O0:Hid ((w.alloc (.map #[] 0)).ownsMap Tryz.prog 80 (plainElem (H:=Unit) Tryz.prog 4) w.heap.size 0 (.map [])):=World.ownsMap_made _ _ _ _
 have hb0:=(Below.refl w.heap.size w).alloc (Nat.le_refl _) (.map #[] 0)
 go_enter Tryz.func73,Tryz.ntmps73
 go_wp2
 go_loopw [29] (fun i wr=>∃ (k:Nat) (D:DataW Unit),k≤n∧i=.int .i64 k∧Hid (SeenInv l k D)∧Hid (wr.ownsMap Tryz.prog 80 (plainElem Tryz.prog 4) w.heap.size k D)∧Hid (Below w.heap.size w wr)) (fun i _=>n - (intOf i).toNat)
 case atStart=>exact ⟨0,_,Nat.zero_le _,rfl,SeenInv.start l,O0,hb0⟩
 case round =>
  obtain ⟨k,D,hk,rfl,hst,hown,hbl⟩:=hrel
  by_cases hlt:k<n
  ·obtain ⟨b',o',e,hb,hc⟩:=(hr.out.below hbl.out) (by rw [hl.out];omega)
   injection e with e
   injection e with e1 e2
   subst e1
   subst e2
   obtain ⟨c1,c2,c3⟩:=hc k (by rw [hl.out];exact hlt)
   have hi3:=wi_i3 hw.out (k:=k) (by rw [hl.out];exact hlt)
   have hnx:=fun d=>hst.out.step (by rw [hl.out];exact hlt) hi3 d
   have hkey:=key_i3 hi3
   have hbx:=hbl.out.alloc hbl.out.size (.cells #[.int .i64 (iv l k),.int .i64 (il l k),.int .i64 (ih l k)] 80)
   have HNX:=hid hnx
   have HKEY:=hid hkey
   clear hc hnx hkey hi3
   generalize iv l k=V at *
   generalize il l k=L at *
   generalize ih l k=H at *
   go_wp2_with (first
    | (at_mapUpdate;refine wpList_mapUpdate_own _ rfl _ _ _ 135 rfl 80 4 Tryz.keyed Tryz.underlying135 _ w.heap.size k D rfl (hown.out.alloc _) (by unfold maxLen;omega) _ _ (kb (V,L,H)) rfl rfl HKEY.out _ [] (plainElem_bool Tryz.underlying4 true) ?_;intro w1 hown1 hgrow1;have HO1:=hid hown1;clear hown1))
   go_roundw
   case rel=>exact ⟨k+1,_,by omega,by go_num,HNX.out _,HO1.out,hbx.grown hgrow1 hbx.size (fun j hj=>by cases hj;exact Nat.le_refl _)⟩
   case measure=>simp [intOf];omega
  ·obtain rfl:k=n:=by omega
   have hle:=hst.out.le
   have heq:=hst.out.eq
   rw [List.take_of_length_le (by rw [hl.out];exact Nat.le_refl _)] at heq
   have HEQ:=hid heq
   clear heq
   go_wp2_with (first
    | (at_len;refine wpList_len_own _ rfl _ 135 rfl 80 4 Tryz.underlying135 _ w.heap.size _ D rfl hown.out ?_))
   go_ret
   refine ⟨ret_bool ?_,hbl.out⟩
   by_cases h:l.Nodup
   ·rw [decide_eq_true h,HEQ.out.2 h];simp
   ·have h2:¬ Maps.size D=k:=fun e=>h (HEQ.out.1 e)
    rw [decide_eq_false h]
    exact beq_eq_false_iff_ne.2 (by omega)
end Go.Proofs.YtpaednfinlaioaaGreatDoor
namespace Go.Proofs.YtpaednfinlaioaaGreatDoor
open Go.Lib (hid)
open Go.RowKit Dg
def clo (gN gD gL:Nat):Value:=.func (Fn.func 103) #[] #[.pointer (some ⟨gN,0,none⟩),.pointer (some ⟨gD,0,none⟩),.pointer (some ⟨gL,0,none⟩)]
structure LvEnv (w:World) (B gN gD gL:Nat) (A:Option Addr) (m c:Nat) (M:List Br) (s:Nat):Prop where
 next:w.heap[gN]? = some (.cells #[.int .i64 (s:Int)] 3 (0,0))
 d:w.cell? ⟨gD,0,none⟩=some (.slice A m c)
 lv:w.cell? ⟨gL,0,none⟩=some (clo gN gD gL)
 rd:Rd w B A (up M)
 bn:B≤gN
 dn:gD≠gN
 ln:gL≠gN
 ld:gD<w.heap.size
 ll:gL<w.heap.size
theorem LvEnv.ltN {w:World} {B gN gD gL m c s:Nat} {A:Option Addr} {M:List Br} (h:LvEnv w B gN gD gL A m c M s):gN<w.heap.size:=by
 rcases Nat.lt_or_ge gN w.heap.size with hlt | hge
 ·exact hlt
 ·have:=h.next;rw [Array.getElem?_eq_none hge] at this;cases this
theorem LvEnv.grown {w w':World} {B gN gD gL m c s t:Nat} {A:Option Addr} {M:List Br} (h:LvEnv w B gN gD gL A m c M s) (hg:w.grownBy w' (some gN)) (hn:w'.heap[gN]? = some (.cells #[.int .i64 (t:Int)] 3 (0,0))):LvEnv w' B gN gD gL A m c M t :=
 ⟨hn,hg.cell h.d (fun e=>by injection e with e;exact h.dn e),hg.cell h.lv (fun e=>by injection e with e;exact h.ln e),h.rd.keep (fun k hk=>hg.block k (by have:=h.ltN;have:=h.bn;omega) (fun e=>by injection e with e;have:=h.bn;omega)),h.bn,h.dn,h.ln,Nat.lt_of_lt_of_le h.ld hg.size,Nat.lt_of_lt_of_le h.ll hg.size⟩
theorem LvEnv.keep {w w':World} {B gN gD gL m c s:Nat} {A:Option Addr} {M:List Br} (h:LvEnv w B gN gD gL A m c M s) (hb:Below w.heap.size w w'):LvEnv w' B gN gD gL A m c M s :=
 ⟨(hb.block gN h.ltN).trans h.next,(hb.cell (p:=⟨gD,0,none⟩) h.ld).trans h.d,(hb.cell (p:=⟨gL,0,none⟩) h.ll).trans h.lv,h.rd.keep (fun k hk=>hb.block k (by have:=h.ltN;have:=h.bn;omega)),h.bn,h.dn,h.ln,Nat.lt_of_lt_of_le h.ld hb.size,Nat.lt_of_lt_of_le h.ll hb.size⟩
theorem below_grown {w w':World} (hb:Below w.heap.size w w') (row:Option Nat):w.grownBy w' row:=⟨hb.os,hb.tape,hb.output,hb.size,fun k hk _=>hb.block k hk⟩
def LvQ (w:World) (B gN gD gL:Nat) (A:Option Addr) (m c:Nat) (M:List Br) (r:Option Nat) (e:Ending) (w':World):Prop :=
 match r with
 | some t=>e=.returned (.bool true)∧LvEnv w' B gN gD gL A m c M t∧w.grownBy w' (some gN)
 | none=>e=.returned (.bool false)∧w.grownBy w' (some gN)
theorem next_set {w:World} {gN t:Nat} {x:Value} (h:w.heap[gN]? = some (.cells #[x] t (0,0))) (y:Value):(w.setCell ⟨gN,0,none⟩ y).heap[gN]? = some (.cells #[y] t (0,0)):=by
 simp [World.setCell,Array.getElem?_modify,h]
theorem grown_set (w:World) (gN i:Nat) (y:Value):w.grownBy (w.setCell ⟨gN,i,none⟩ y) (some gN) :=
 ⟨rfl,rfl,rfl,by simp [World.setCell],fun k _ hne=>Below.heap_setCell _ _ _ _ (fun e=>hne (by rw [e]))⟩
theorem grown_trans {w w1 w2:World} {row:Option Nat} (h:w.grownBy w1 row) (k:w1.grownBy w2 row):w.grownBy w2 row :=
 ⟨k.os.trans h.os,k.tape.trans h.tape,k.output.trans h.output,Nat.le_trans h.size k.size,fun i hi hne=>(k.block i (Nat.lt_of_lt_of_le hi h.size) hne).trans (h.block i hi hne)⟩
theorem leave_any (M:List Br) (hO:Hid (Ord M)) (B gN gD gL m c:Nat) (A:Option Addr) (hm:Hid (M.length=m)) (hm2:m≤1000000) :
  ∀ (f n s:Nat) (w:World),n<f→n<m+2→2≤s→s≤m+2→LvEnv w B gN gD gL A m c M s →
    Calls Tryz.prog 103 #[.int .i64 (n:Int),.pointer (some ⟨gN,0,none⟩),.pointer (some ⟨gD,0,none⟩),.pointer (some ⟨gL,0,none⟩)] w (LvQ w B gN gD gL A m c M (wk M f n s)):=by
 intro f
 induction f with
 | zero=>intro n s w h1;omega
 | succ f ih =>
   intro n s w hf hn hs hsm henv
   have IH:=hid ih
   clear ih
   have cN:w.cell? ⟨gN,0,none⟩=some (.int .i64 (s:Int)):=by simp [World.cell?,henv.next]
   have HENV:=hid henv
   by_cases hns:n<s
   ·rw [wk_skip M hns]
    go_enter Tryz.func103,Tryz.ntmps103
    go_wp2
    go_ret
    exact ⟨rfl,HENV.out,World.grownBy.refl _ _⟩
   ·obtain ⟨k,rfl⟩:∃ k,n=k+2:=⟨n - 2,by omega⟩
    have hk:k<m:=by omega
    obtain ⟨b,o,rfl,hbB,hc⟩:=henv.rd (by rw [up_len,hm.out];omega)
    obtain ⟨c1,c2,c3⟩:=hc k (by rw [up_len,hm.out];exact hk)
    rw [iv_up] at c1
    rw [il_up] at c2
    rw [ih_up] at c3
    obtain ⟨o1,o2,o3,_,_⟩:=hO.out k (by rw [hm.out];exact hk)
    have cD:=henv.d
    have cL:w.cell? ⟨gL,0,none⟩=some (.func (Fn.func 103) #[] #[.pointer (some ⟨gN,0,none⟩),.pointer (some ⟨gD,0,none⟩),.pointer (some ⟨gL,0,none⟩)]):=henv.lv
    have lD:=henv.ld
    have lL:=henv.ll
    have lN:=henv.ltN
    have hbw:b<w.heap.size:=by have:=henv.bn;omega
    have hb1:=(Below.refl w.heap.size w).alloc (Nat.le_refl _) (.cells #[.int .i64 ((bv M k:Nat):Int),.int .i64 ((bl M k:Nat):Int),.int .i64 ((bh M k:Nat):Int)] 80)
    have IH1:=hid (IH.out (bl M k) s _ (by omega) (by omega) hs hsm (henv.keep hb1))
    have IH2:=fun t w' ht htm (he:LvEnv w' B gN gD gL (some ⟨b,o,none⟩) m c M t)=>hid (IH.out (bh M k) t w' (by omega) (by omega) ht htm he)
    have hge:=fun t ht=>wk_ge (M:=M) f (bl M k) s t ht
    have N1:=fun h=>wk_no1 (M:=M) (f:=f) (k:=k) (s:=s) hns h
    have N2:=fun t h h2=>wk_no2 (M:=M) (f:=f) (k:=k) (s:=s) (t:=t) hns h h2
    have N3:=fun t u h h2 h3=>wk_no3 (M:=M) (f:=f) (k:=k) (s:=s) (t:=t) (u:=u) hns h h2 h3
    have N4:=fun t h h2=>wk_br (M:=M) (f:=f) (k:=k) (s:=s) (t:=t) (by omega) h h2
    have hle:=fun t ht=>wk_le (M:=M) f (bl M k) s t ht (by rw [hm.out];omega) (by rw [hm.out];omega)
    rw [hm.out] at hle
    have HOW:=hid (And.intro N1 (And.intro N2 (And.intro N3 N4)))
    clear henv hc N1 N2 N3 N4
    generalize bv M k=V at *
    generalize bl M k=L at *
    generalize bh M k=H at *
    rcases h1:wk M f L s with _ | t
    ·have HW:=HOW.out.1 h1
     rw [HW]
     rw [h1] at IH1
     have HG0:Hid (w.grownBy (w.alloc (.cells #[.int .i64 (V:Int),.int .i64 (L:Int),.int .i64 (H:Int)] 80)) (some gN)):=below_grown hb1 _
     clear HOW h1 IH2 hge hle HW
     go_enter Tryz.func103,Tryz.ntmps103
     go_wp2_with fail
     refine IH1.out.mono ?_
     rintro e w2 ⟨rfl,hg2⟩
     have HG2:=hid (grown_trans HG0.out hg2)
     clear hg2
     go_wp2_with fail
     go_ret
     exact ⟨rfl,HG2.out⟩
    ·rw [h1] at IH1
     rcases h2:wk M f H t with _ | u
     ·have HW:=HOW.out.2.1 t h1 h2
      rw [HW]
      clear HOW HW
      have hst:=hge t h1
      have htm:=hle t h1
      have E1:∀ w2:World,(w.alloc (.cells #[.int .i64 (V:Int),.int .i64 (L:Int),.int .i64 (H:Int)] 80)).grownBy w2 (some gN)→w2.cell? ⟨w.heap.size,2,none⟩=some (.int .i64 (H:Int)):=fun w2 hg=>hg.cell (a:=⟨w.heap.size,2,none⟩) (by simp) (fun e=>by injection e with e;have e:w.heap.size=gN:=e;omega)
      have HE1:=hid E1
      have HG0:Hid (w.grownBy (w.alloc (.cells #[.int .i64 (V:Int),.int .i64 (L:Int),.int .i64 (H:Int)] 80)) (some gN)):=below_grown hb1 _
      clear h1 E1 hge hle
      go_enter Tryz.func103,Tryz.ntmps103
      go_wp2_with fail
      refine IH1.out.mono ?_
      rintro e w2 ⟨rfl,henv2,hg2⟩
      have c6:=HE1.out w2 hg2
      have c7:w2.cell? ⟨gL,0,none⟩=some (.func (Fn.func 103) #[] #[.pointer (some ⟨gN,0,none⟩),.pointer (some ⟨gD,0,none⟩),.pointer (some ⟨gL,0,none⟩)]):=henv2.lv
      have c8:w2.cell? ⟨gN,0,none⟩=some (.int .i64 (t:Int)):=by simp [World.cell?,henv2.next]
      have J:=IH2 t w2 (by omega) htm henv2
      have HV2:=hid henv2
      have HG2:=hid (grown_trans HG0.out hg2)
      clear henv2 hg2
      go_wp2_with fail
      rw [h2] at J
      clear h2 IH2
      refine J.out.mono ?_
      rintro e w3 ⟨rfl,hg3⟩
      have HG3:=hid (grown_trans HG2.out hg3)
      clear hg3 c6 c7 c8
      go_wp2_with fail
      go_ret
      exact ⟨rfl,HG3.out⟩
     ·by_cases hu:k+2=u
      ·subst hu
       have HW:=HOW.out.2.2.2 t h1 h2
       rw [HW]
       clear HOW HW
       have hst:=hge t h1
       have htm:=hle t h1
       have E1:∀ w2:World,(w.alloc (.cells #[.int .i64 (V:Int),.int .i64 (L:Int),.int .i64 (H:Int)] 80)).grownBy w2 (some gN)→w2.cell? ⟨w.heap.size,2,none⟩=some (.int .i64 (H:Int)):=fun w2 hg=>hg.cell (a:=⟨w.heap.size,2,none⟩) (by simp) (fun e=>by injection e with e;have e:w.heap.size=gN:=e;omega)
       have HE1:=hid E1
       have HG0:Hid (w.grownBy (w.alloc (.cells #[.int .i64 (V:Int),.int .i64 (L:Int),.int .i64 (H:Int)] 80)) (some gN)):=below_grown hb1 _
       clear h1 E1 hge hle
       go_enter Tryz.func103,Tryz.ntmps103
       go_wp2_with fail
       refine IH1.out.mono ?_
       rintro e w2 ⟨rfl,henv2,hg2⟩
       have c6:=HE1.out w2 hg2
       have c7:w2.cell? ⟨gL,0,none⟩=some (.func (Fn.func 103) #[] #[.pointer (some ⟨gN,0,none⟩),.pointer (some ⟨gD,0,none⟩),.pointer (some ⟨gL,0,none⟩)]):=henv2.lv
       have c8:w2.cell? ⟨gN,0,none⟩=some (.int .i64 (t:Int)):=by simp [World.cell?,henv2.next]
       have J:=IH2 t w2 (by omega) htm henv2
       have HV2:=hid henv2
       have HG2:=hid (grown_trans HG0.out hg2)
       clear henv2 hg2
       go_wp2_with fail
       rw [h2] at J
       clear h2 IH2
       refine J.out.mono ?_
       rintro e w3 ⟨rfl,henv3,hg3⟩
       have HG3:=hid (grown_trans HG2.out hg3)
       have c9:w3.cell? ⟨gN,0,none⟩=some (.int .i64 ((k+2:Nat):Int)):=by simp [World.cell?,henv3.next]
       have c10:w3.frozen? ⟨gN,0,none⟩=false:=by simp [World.frozen?,henv3.next]
       have HV3:=hid henv3
       clear hg3 c6 c7 c8 henv3
       go_wp2_with fail
       go_ret
       have e3:(k:Int)+3=((k+3:Nat):Int):=by omega
       have hg4:=grown_set w3 gN 0 (.int .i64 ((k:Int)+3))
       refine ⟨rfl,HV3.out.grown hg4 ?_,grown_trans HG3.out hg4⟩
       rw [← e3]
       exact next_set HV3.out.next _
      ·have HW:=HOW.out.2.2.1 t u h1 h2 hu
       rw [HW]
       clear HOW HW
       have hst:=hge t h1
       have htm:=hle t h1
       have E1:∀ w2:World,(w.alloc (.cells #[.int .i64 (V:Int),.int .i64 (L:Int),.int .i64 (H:Int)] 80)).grownBy w2 (some gN)→w2.cell? ⟨w.heap.size,2,none⟩=some (.int .i64 (H:Int)):=fun w2 hg=>hg.cell (a:=⟨w.heap.size,2,none⟩) (by simp) (fun e=>by injection e with e;have e:w.heap.size=gN:=e;omega)
       have HE1:=hid E1
       have HG0:Hid (w.grownBy (w.alloc (.cells #[.int .i64 (V:Int),.int .i64 (L:Int),.int .i64 (H:Int)] 80)) (some gN)):=below_grown hb1 _
       clear h1 E1 hge hle
       go_enter Tryz.func103,Tryz.ntmps103
       go_wp2_with fail
       refine IH1.out.mono ?_
       rintro e w2 ⟨rfl,henv2,hg2⟩
       have c6:=HE1.out w2 hg2
       have c7:w2.cell? ⟨gL,0,none⟩=some (.func (Fn.func 103) #[] #[.pointer (some ⟨gN,0,none⟩),.pointer (some ⟨gD,0,none⟩),.pointer (some ⟨gL,0,none⟩)]):=henv2.lv
       have c8:w2.cell? ⟨gN,0,none⟩=some (.int .i64 (t:Int)):=by simp [World.cell?,henv2.next]
       have J:=IH2 t w2 (by omega) htm henv2
       have HV2:=hid henv2
       have HG2:=hid (grown_trans HG0.out hg2)
       clear henv2 hg2
       go_wp2_with fail
       rw [h2] at J
       clear h2 IH2
       refine J.out.mono ?_
       rintro e w3 ⟨rfl,henv3,hg3⟩
       have HG3:=hid (grown_trans HG2.out hg3)
       have c9:w3.cell? ⟨gN,0,none⟩=some (.int .i64 (u:Int)):=by simp [World.cell?,henv3.next]
       have hne:(((k+2:Nat):Int) != (u:Int))=true:=by simp;omega
       clear hg3 c6 c7 c8 henv3
       go_wp2_with fail
       go_ret
       exact ⟨rfl,HG3.out⟩
theorem walked_any (M:List Br) (hO:Ord M) (m c r:Nat) (A:Option Addr) (w:World) (hm:Hid (M.length=m)) (hm2:m≤1000000) (hr:r<m+2) (hrd:Rd w w.heap.size A (up M)) :
  Calls Tryz.prog 74 #[.agg #[.slice A m c,.int .i64 (r:Int)]] w fun e w'=>e=.returned (.bool (wk M (r+1) r 2).isSome)∧Below w.heap.size w w':=by
 have b1:=(Below.refl w.heap.size w).alloc (Nat.le_refl _) (.cells #[.slice A m c,.int .i64 (r:Int)] 31)
 have b2:=b1.alloc b1.size (.cells #[.int .i64 2] 3)
 have b3:=b2.alloc b2.size (.cells #[clo (w.heap.size+1) w.heap.size (w.heap.size+1+1)] 132)
 have henv:LvEnv (((w.alloc (.cells #[.slice A m c,.int .i64 (r:Int)] 31)).alloc (.cells #[.int .i64 2] 3)).alloc (.cells #[clo (w.heap.size+1) w.heap.size (w.heap.size+1+1)] 132)) w.heap.size (w.heap.size+1) w.heap.size (w.heap.size+1+1) A m c M 2:=by
  refine ⟨?_,?_,?_,hrd.below b3,by omega,by omega,by omega,by simp;omega,by simp⟩
  ·have e1:=heap_alloc_new (w.alloc (.cells #[.slice A m c,.int .i64 (r:Int)] 31)) (.cells #[.int .i64 2] 3)
   rw [show (w.alloc (.cells #[.slice A m c,.int .i64 (r:Int)] 31)).heap.size=w.heap.size+1 by simp] at e1
   exact (Below.heap_alloc _ _ _ (by simp)).trans e1
  ·go_simp
  ·unfold clo;go_simp
 have L:=hid (leave_any M hO w.heap.size (w.heap.size+1) w.heap.size (w.heap.size+1+1) m c A hm hm2 (r+1) r 2 _ (by omega) hr (by omega) (by omega) henv)
 have b3':=hid b3
 clear henv b3
 unfold clo at L b3'
 go_enter Tryz.func74,Tryz.ntmps74
 go_wp2_with fail
 refine L.out.mono ?_
 intro e w4 hq
 rcases hk:wk M (r+1) r 2 with _ | t
 ·rw [hk] at hq
  obtain ⟨rfl,hg⟩:=hq
  have HB:=hid (b3'.out.grown hg b3'.out.size (fun q hq=>by injection hq with hq;omega))
  have HK:=hid hk
  clear hg hk
  go_wp2_with fail
  go_ret
  exact ⟨ret_bool (by rw [HK.out];rfl),HB.out⟩
 ·rw [hk] at hq
  obtain ⟨rfl,_,hg⟩:=hq
  have HB:=hid (b3'.out.grown hg b3'.out.size (fun q hq=>by injection hq with hq;omega))
  have HK:=hid hk
  clear hg hk
  go_wp2_with fail
  go_ret
  exact ⟨ret_bool (by rw [HK.out];rfl),HB.out⟩
def rootB (n:Nat) (r:Int):Bool:=if n=0 then (r == 0||r == 1) else r == (n:Int)+1
theorem rooted_any (A:Option Addr) (m c:Nat) (r:Int) (w:World) (hm:m≤1000000) :
  Calls Tryz.prog 71 #[.agg #[.slice A m c,.int .i64 r]] w fun e w'=>e=.returned (.bool (rootB m r))∧Below w.heap.size w w':=by
 have b1:=(Below.refl w.heap.size w).alloc (Nat.le_refl _) (.cells #[.slice A m c,.int .i64 r] 31)
 rcases Nat.eq_zero_or_pos m with h0 | h0
 ·subst h0
  by_cases hr:r=0
  ·subst hr
   go_enter Tryz.func71,Tryz.ntmps71
   go_wp2
   go_ret
   exact ⟨rfl,b1⟩
  ·have hb:(r == 0)=false:=beq_eq_false_iff_ne.2 hr
   go_enter Tryz.func71,Tryz.ntmps71
   go_wp2
   go_ret
   exact ⟨ret_bool (by simp [rootB,hb]),b1⟩
 ·have h1:((m:Int) == 0)=false:=beq_eq_false_iff_ne.2 (by omega)
  go_enter Tryz.func71,Tryz.ntmps71
  go_wp2
  go_ret
  refine ⟨ret_bool ?_,b1⟩
  unfold rootB
  rw [if_neg (by omega)]
  congr 1
  omega
theorem ordered_none (A:Option Addr) (c:Nat) (w:World) :
  Calls Tryz.prog 72 #[.slice A 0 c] w fun e w'=>e=.returned (.bool true)∧Below w.heap.size w w':=by
 go_enter Tryz.func72,Tryz.ntmps72
 go_wp2
 go_rounds 1
 go_ret
 exact ⟨rfl,Below.refl _ _⟩
theorem distinct_none (A:Option Addr) (c:Nat) (w:World) :
  Calls Tryz.prog 73 #[.slice A 0 c] w fun e w'=>e=.returned (.bool true)∧Below w.heap.size w w':=by
 go_enter Tryz.func73,Tryz.ntmps73
 go_wp2
 go_rounds 1
 go_ret
 exact ⟨rfl,Below.refl _ _⟩
theorem ordered_any {A:Option Addr} {l:List Bi} {w:World} (c n:Nat) (t:Bool) (hr:Rd w w.heap.size A l) (hw:Wi l) (hl:l.length=n) (hn:n≤1000000) (hnc:n≤c) (ht:ordB l n=t) :
  Calls Tryz.prog 72 #[.slice A n c] w fun e w'=>e=.returned (.bool t)∧Below w.heap.size w w':=by
 subst ht
 rcases Nat.eq_zero_or_pos n with h0 | h0
 ·subst h0;exact ordered_none A c w
 ·obtain ⟨b,o,rfl,_,_⟩:=hr (by omega)
  exact ordered_some b o c n l w hw hl hn hnc hr
theorem distinct_any {A:Option Addr} {l:List Bi} {w:World} (c n:Nat) (t:Bool) (hr:Rd w w.heap.size A l) (hw:Wi l) (hl:l.length=n) (hn:n≤1000000) (hnc:n≤c) (ht:decide l.Nodup=t) :
  Calls Tryz.prog 73 #[.slice A n c] w fun e w'=>e=.returned (.bool t)∧Below w.heap.size w w':=by
 subst ht
 rcases Nat.eq_zero_or_pos n with h0 | h0
 ·subst h0
  have e:l=[]:=List.eq_nil_of_length_eq_zero hl
  subst e
  exact distinct_none A c w
 ·obtain ⟨b,o,rfl,_,_⟩:=hr (by omega)
  rcases Nat.lt_or_ge 16 n with h | h
  ·exact distinct_many b o c n l w hw hl hn h hr
  ·exact distinct_few b o c n l w hl h hnc hr
def dn (l:List Bi):List Br:=l.map fun b=>(b.1.toNat,b.2.1.toNat,b.2.2.toNat)
theorem dn_len (l:List Bi):(dn l).length=l.length:=by unfold dn;simp
theorem dn_getD (l:List Bi) (k:Nat):(dn l).getD k (0,0,0)=((iv l k).toNat,(il l k).toNat,(ih l k).toNat):=by
 unfold dn iv il ih
 rw [List.getD_eq_getElem?_getD,List.getD_eq_getElem?_getD,List.getElem?_map]
 cases l[k]? <;> rfl
theorem dn_up (M:List Br):dn (up M)=M:=by
 unfold dn up
 rw [List.map_map]
 have e:((fun b:Bi=>(b.1.toNat,b.2.1.toNat,b.2.2.toNat))∘fun b:Br=>((b.1:Int),(b.2.1:Int),(b.2.2:Int)))=id:=by
  funext b
  simp
 rw [e,List.map_id]
structure Rng (l:List Bi) (k:Nat):Prop where
 v0:0≤iv l k
 v1:iv l k<64
 l0:0≤il l k
 h0:0≤ih l k
 ne:il l k≠ih l k
 fl:folB (l.take k) (iv l k) (il l k)=true
 fh:folB (l.take k) (iv l k) (ih l k)=true
theorem fol_nonneg {l:List Bi} {v n:Int} (h:folB l v n=true):0≤n:=by
 unfold folB at h
 split at h
 ·rw [Bool.or_eq_true,beq_iff_eq,beq_iff_eq] at h;omega
 ·omega
theorem ordB_all {l:List Bi} {n:Nat} (h:ordB l n=true):∀ k,k<n→Rng l k:=by
 induction n with
 | zero=>intro k hk;omega
 | succ n ih =>
   unfold ordB at h
   rw [Bool.and_eq_true] at h
   intro k hk
   rcases Nat.lt_or_ge k n with h1 | h1
   ·exact ih h.1 k h1
   ·obtain rfl:k=n:=by omega
    have h2:=h.2
    simp only [Bool.and_eq_true,Bool.not_eq_true',conB,decide_eq_true_eq] at h2
    obtain ⟨⟨⟨⟨a,b⟩,c⟩,d⟩,e⟩:=h2
    exact ⟨a,b,fol_nonneg d,fol_nonneg e,by simpa using c,d,e⟩
theorem ordB_up {l:List Bi} (h:ordB l l.length=true):l=up (dn l):=by
 apply List.ext_getElem
 ·rw [up_len,dn_len]
 ·intro k h1 h2
  have r:=ordB_all h k h1
  rw [bi_at h1,bi_at h2,iv_up,il_up,ih_up]
  unfold bv bl bh
  rw [dn_getD]
  have a:=r.v0
  have b:=r.l0
  have c:=r.h0
  refine Prod.ext ?_ (Prod.ext ?_ ?_)
  ·show iv l k=((iv l k).toNat:Int);omega
  ·show il l k=((il l k).toNat:Int);omega
  ·show ih l k=((ih l k).toNat:Int);omega
theorem fol_lev {M:List Br} {k v n:Nat} (hk:k≤M.length) (h:folB ((up M).take k) (v:Int) (n:Int)=true):n<k+2∧(v<lev M n∨64≤v):=by
 unfold folB at h
 split at h
 ·next hn =>
  refine ⟨by omega,?_⟩
  rw [lev_const (by omega)];omega
 ·next hn =>
  split at h
  ·next hi =>
   rw [List.length_take,up_len] at hi
   obtain ⟨j,rfl⟩:∃ j,n=j+2:=⟨n - 2,by omega⟩
   have e:(((j+2:Nat):Int) - 2).toNat=j:=by omega
   rw [e,iv_take (by omega),iv_up,decide_eq_true_eq] at h
   rw [lev_br]
   exact ⟨by omega,by omega⟩
  ·cases h
theorem ordB_ord {M:List Br} (h:ordB (up M) M.length=true):Ord M∧Red M:=by
 constructor
 ·intro k hk
  have r:=ordB_all h k hk
  have a:=r.v1
  have f1:=r.fl
  have f2:=r.fh
  rw [iv_up] at a f1 f2
  rw [il_up] at f1
  rw [ih_up] at f2
  obtain ⟨g1,g2⟩:=fol_lev (by omega) f1
  obtain ⟨g3,g4⟩:=fol_lev (by omega) f2
  exact ⟨by omega,g1,g3,by omega,by omega⟩
 ·intro k hk
  have r:=(ordB_all h k hk).ne
  rw [il_up,ih_up] at r
  omega
theorem ord_ordB {M:List Br} (hO:Ord M) (hR:Red M):∀ n,n≤M.length→ordB (up M) n=true:=by
 intro n
 induction n with
 | zero=>intro _;rfl
 | succ n ih =>
   intro hn
   obtain ⟨a,b,c,d,e⟩:=hO n (by omega)
   have hr:=hR n (by omega)
   have key:∀ m,m<n+2→bv M n<lev M m→folB ((up M).take n) (bv M n:Int) (m:Int)=true:=by
    intro m hm hl
    unfold folB
    by_cases h2:m<2
    ·rw [if_pos (by omega),Bool.or_eq_true,beq_iff_eq,beq_iff_eq];omega
    ·rw [if_neg (by omega),if_pos (by rw [List.length_take,up_len];omega)]
     obtain ⟨j,rfl⟩:∃ j,m=j+2:=⟨m - 2,by omega⟩
     rw [lev_br] at hl
     have e:(((j+2:Nat):Int) - 2).toNat=j:=by omega
     rw [e,iv_take (by omega),iv_up,decide_eq_true_eq]
     omega
   show (ordB (up M) n&&_)=true
   rw [ih (by omega),Bool.true_and,iv_up,il_up,ih_up,key _ b d,key _ c e]
   simp [conB]
   omega
def chk (l:List Bi) (r:Int):Int :=
 if 4096<l.length then 2 else if rootB l.length r&&ordB l l.length&&decide l.Nodup&&(wk (dn l) (r.toNat+1) r.toNat 2).isSome then 0 else 20
theorem up_inj {M M':List Br} (h:up M=up M'):M=M':=by rw [← dn_up M,h,dn_up]
theorem nodup_up {M:List Br}:(up M).Nodup↔M.Nodup:=by
 unfold up List.Nodup
 rw [List.pairwise_map]
 constructor
 ·intro h
  refine h.imp ?_
  intro a b hab e
  exact hab (by rw [e])
 ·intro h
  refine h.imp ?_
  intro a b hab e
  apply hab
  simp only [Prod.mk.injEq] at e
  refine Prod.ext ?_ (Prod.ext ?_ ?_) <;> omega
theorem rootB_nat {n:Nat} {r:Int} (h:rootB n r=true):0≤r∧r.toNat<n+2∧((n=0∧r.toNat<2)∨(0<n∧r.toNat=n+1)):=by
 unfold rootB at h
 split at h
 ·rw [Bool.or_eq_true,beq_iff_eq,beq_iff_eq] at h
  omega
 ·rw [beq_iff_eq] at h
  omega
theorem chk_ok {l:List Bi} {r:Int}:chk l r=0↔∃ (M:List Br) (n:Nat),l=up M∧r=(n:Int)∧Valid M n∧M.length≤4096:=by
 unfold chk
 constructor
 ·intro h
  split at h
  ·cases h
  ·next hl =>
   split at h
   ·next hc =>
    simp only [Bool.and_eq_true,decide_eq_true_eq] at hc
    obtain ⟨⟨⟨c1,c2⟩,c3⟩,c4⟩:=hc
    have e:=ordB_up c2
    rw [e] at c2 c3
    rw [up_len] at c2
    obtain ⟨r0,r1,r2⟩:=rootB_nat c1
    obtain ⟨o1,o2⟩:=ordB_ord c2
    refine ⟨dn l,r.toNat,e,by omega,⟨⟨o1,o2,nodup_up.1 c3⟩,by rw [dn_len];omega,?_⟩,by rw [dn_len];omega⟩
    rcases hk:wk (dn l) (r.toNat+1) r.toNat 2 with _ | t
    ·rw [hk] at c4;cases c4
    ·congr 1
     rw [dn_len]
     rcases r2 with ⟨h0,h2⟩ | ⟨h0,h2⟩
     ·rw [wk_skip _ h2] at hk;injection hk with hk;omega
     ·obtain ⟨u,_,_,e3⟩:=wk_walk (by omega) hk
      omega
   ·cases h
 ·rintro ⟨M,n,rfl,rfl,hv,hlen⟩
  rw [up_len,if_neg (by omega),dn_up]
  have hO:=ord_ordB hv.good.ord hv.good.red M.length (Nat.le_refl _)
  have hN:=nodup_up.2 hv.good.nodup
  have hW:=hv.walk
  have hR:rootB M.length (n:Int)=true:=by
   unfold rootB
   rcases hv.root with ⟨h1,h2⟩ | ⟨h1,h2⟩
   ·subst h1
    rw [if_pos List.length_nil,Bool.or_eq_true,beq_iff_eq,beq_iff_eq];omega
   ·rw [if_neg (by omega),beq_iff_eq];omega
  have hn:((n:Int)).toNat=n:=by omega
  rw [hO,hR,decide_eq_true hN,hn,hW]
  rfl
theorem ret_i {a b:Int} (h:a=b):Ending.returned (.int .i64 a)=.returned (.int .i64 b):=by rw [h]
theorem box_cells {w w2:World} {x y:Value} {t:TypeId} (h:Below (w.alloc (.cells #[x,y] t)).heap.size (w.alloc (.cells #[x,y] t)) w2):w2.cell? ⟨w.heap.size,0,none⟩=some x∧w2.cell? ⟨w.heap.size,1,none⟩=some y:=by
 constructor
 ·rw [h.cell (p:=⟨w.heap.size,0,none⟩) (by simp)];go_simp
 ·rw [h.cell (p:=⟨w.heap.size,1,none⟩) (by simp)];go_simp
theorem box_more {w w2 w3:World} {x y:Value} {o:Obj} (h:Below (w.alloc o).heap.size (w.alloc o) w2) (h3:Below w2.heap.size w2 w3) (d1:w2.cell? ⟨w.heap.size,0,none⟩=some x) (d2:w2.cell? ⟨w.heap.size,1,none⟩=some y) :
  w3.cell? ⟨w.heap.size,0,none⟩=some x∧w3.cell? ⟨w.heap.size,1,none⟩=some y:=by
 have hs:w.heap.size<w2.heap.size:=by have:=h.size;simp at this;omega
 exact ⟨(h3.cell (p:=⟨w.heap.size,0,none⟩) hs).trans d1,(h3.cell (p:=⟨w.heap.size,1,none⟩) hs).trans d2⟩
theorem check_any (l:List Bi) (r:Int) (m c:Nat) (A:Option Addr) (w:World) (hrd:Hid (Rd w w.heap.size A l)) (hw:Hid (Wi l)) (hl:Hid (l.length=m)) (hm:m≤9223372036854775800) (hmc:m≤c) (hr:Hid (I64 r)) :
  Calls Tryz.prog 39 #[.agg #[.slice A m c,.int .i64 r]] w fun e w'=>e=.returned (.int .i64 (chk l r))∧Below w.heap.size w w':=by
 have b1:=(Below.refl w.heap.size w).alloc (Nat.le_refl _) (.cells #[.slice A m c,.int .i64 r] 31)
 by_cases hbig:4096<m
 ·have e:Hid (chk l r=2):=show _=_ by unfold chk;rw [if_pos (by rw [hl.out];exact hbig)]
  go_enter Tryz.func39,Tryz.ntmps39
  go_wp2
  go_ret
  exact ⟨ret_i e.out.symm,b1⟩
 ·have hm2:m≤1000000:=by omega
  have hdec:decide (4096<(m:Int))=false:=decide_eq_false (by omega)
  have hchk:chk l r=if rootB m r&&ordB l m&&decide l.Nodup&&(wk (dn l) (r.toNat+1) r.toNat 2).isSome then 0 else 20:=by unfold chk;rw [if_neg (by rw [hl.out];exact hbig),hl.out]
  have HC:=hid hchk
  clear hchk hbig
  have K1:∀ w',Calls Tryz.prog 71 #[.agg #[.slice A m c,.int .i64 r]] w' fun e w''=>e=.returned (.bool (rootB m r))∧Below w'.heap.size w' w'':=fun w'=>rooted_any A m c r w' hm2
  have K2:∀ t,ordB l m=t→∀ w',Below w.heap.size w w'→Calls Tryz.prog 72 #[.slice A m c] w' fun e w''=>e=.returned (.bool t)∧Below w'.heap.size w' w'':=fun t ht w' hb=>ordered_any c m t ((hrd.out.below hb).mono hb.size) hw.out hl.out hm2 hmc ht
  have K3:∀ t,decide l.Nodup=t→∀ w',Below w.heap.size w w'→Calls Tryz.prog 73 #[.slice A m c] w' fun e w''=>e=.returned (.bool t)∧Below w'.heap.size w' w'':=fun t ht w' hb=>distinct_any c m t ((hrd.out.below hb).mono hb.size) hw.out hl.out hm2 hmc ht
  rcases q1:rootB m r with _ | _
  ·have e:Hid (chk l r=20):=show _=_ by rw [HC.out,q1];rfl
   rw [q1] at K1
   have G1:=hid K1
   clear K1 K2 K3 q1 HC
   go_enter Tryz.func39,Tryz.ntmps39
   go_wp2_with fail
   refine (G1.out _).mono ?_
   rintro e' w2 ⟨rfl,h2⟩
   have b2:=b1.trans (h2.mono b1.size)
   go_wp2_with fail
   go_ret
   exact ⟨ret_i e.out.symm,b2⟩
  ·rcases q2:ordB l m with _ | _
   ·have e:Hid (chk l r=20):=show _=_ by rw [HC.out,q1,q2];rfl
    rw [q1] at K1
    have G1:=hid K1
    have G2:=hid (K2 _ q2)
    clear K1 K2 K3 q1 q2 HC
    go_enter Tryz.func39,Tryz.ntmps39
    go_wp2_with fail
    refine (G1.out _).mono ?_
    rintro e' w2 ⟨rfl,h2⟩
    have b2:=b1.trans (h2.mono b1.size)
    obtain ⟨d1,d2⟩:=box_cells h2
    go_wp2_with fail
    refine (G2.out _ b2).mono ?_
    rintro e' w3 ⟨rfl,h3⟩
    have b3:=b2.trans (h3.mono b2.size)
    go_wp2_with fail
    go_ret
    exact ⟨ret_i e.out.symm,b3⟩
   ·rcases q3:decide l.Nodup with _ | _
    ·have e:Hid (chk l r=20):=show _=_ by rw [HC.out,q1,q2,q3];rfl
     rw [q1] at K1
     have G1:=hid K1
     have G2:=hid (K2 _ q2)
     have G3:=hid (K3 _ q3)
     clear K1 K2 K3 q1 q2 q3 HC
     go_enter Tryz.func39,Tryz.ntmps39
     go_wp2_with fail
     refine (G1.out _).mono ?_
     rintro e' w2 ⟨rfl,h2⟩
     have b2:=b1.trans (h2.mono b1.size)
     obtain ⟨d1,d2⟩:=box_cells h2
     go_wp2_with fail
     refine (G2.out _ b2).mono ?_
     rintro e' w3 ⟨rfl,h3⟩
     have b3:=b2.trans (h3.mono b2.size)
     obtain ⟨d3,d4⟩:=box_more h2 h3 d1 d2
     go_wp2_with fail
     refine (G3.out _ b3).mono ?_
     rintro e' w4 ⟨rfl,h4⟩
     have b4:=b3.trans (h4.mono b3.size)
     go_wp2_with fail
     go_ret
     exact ⟨ret_i e.out.symm,b4⟩
    ·have e0:Hid (chk l r=if (wk (dn l) (r.toNat+1) r.toNat 2).isSome then 0 else 20):=show _=_ by rw [HC.out,q1,q2,q3];rfl
     have eu:=ordB_up (l:=l) (by rw [hl.out];exact q2)
     have hO:Ord (dn l):=by
      have q2':=q2
      rw [eu,← hl.out,← dn_len l] at q2'
      exact (ordB_ord q2').1
     obtain ⟨r0,r1,_⟩:=rootB_nat q1
     obtain ⟨rn,rfl⟩:∃ rn:Nat,r=(rn:Int):=⟨r.toNat,by omega⟩
     have K4:∀ w',Below w.heap.size w w'→Calls Tryz.prog 74 #[.agg #[.slice A m c,.int .i64 (rn:Int)]] w' fun e w''=>e=.returned (.bool (wk (dn l) (rn+1) rn 2).isSome)∧Below w'.heap.size w' w'':=fun w' hb=>by
      have h:=(hrd.out.below hb).mono hb.size
      rw [eu] at h
      exact walked_any (dn l) hO m c rn A w' (show (dn l).length=m by rw [dn_len,hl.out]) hm2 (by omega) h
     have hrn:((rn:Int)).toNat=rn:=by omega
     rw [hrn] at e0
     rw [q1] at K1
     have G1:=hid K1
     have G2:=hid (K2 _ q2)
     have G3:=hid (K3 _ q3)
     rcases q4:(wk (dn l) (rn+1) rn 2).isSome with _ | _
     ·rw [q4] at K4
      have e:Hid (chk l (rn:Int)=20):=show _=_ by rw [e0.out,q4];rfl
      have G4:=hid K4
      clear K1 K2 K3 K4 q1 q2 q3 q4 HC e0 eu hO r0 r1 hrn
      go_enter Tryz.func39,Tryz.ntmps39
      go_wp2_with fail
      refine (G1.out _).mono ?_
      rintro e' w2 ⟨rfl,h2⟩
      have b2:=b1.trans (h2.mono b1.size)
      obtain ⟨d1,d2⟩:=box_cells h2
      go_wp2_with fail
      refine (G2.out _ b2).mono ?_
      rintro e' w3 ⟨rfl,h3⟩
      have b3:=b2.trans (h3.mono b2.size)
      obtain ⟨d3,d4⟩:=box_more h2 h3 d1 d2
      go_wp2_with fail
      refine (G3.out _ b3).mono ?_
      rintro e' w4 ⟨rfl,h4⟩
      have b4:=b3.trans (h4.mono b3.size)
      obtain ⟨d5,d6⟩:=box_more (h2.trans (h3.mono h2.size)) h4 d3 d4
      go_wp2_with fail
      refine (G4.out _ b4).mono ?_
      rintro e' w5 ⟨rfl,h5⟩
      have b5:=b4.trans (h5.mono b4.size)
      go_wp2_with fail
      go_ret
      exact ⟨ret_i e.out.symm,b5⟩
     ·rw [q4] at K4
      have e:Hid (chk l (rn:Int)=0):=show _=_ by rw [e0.out,q4];rfl
      have G4:=hid K4
      clear K1 K2 K3 K4 q1 q2 q3 q4 HC e0 eu hO r0 r1 hrn
      go_enter Tryz.func39,Tryz.ntmps39
      go_wp2_with fail
      refine (G1.out _).mono ?_
      rintro e' w2 ⟨rfl,h2⟩
      have b2:=b1.trans (h2.mono b1.size)
      obtain ⟨d1,d2⟩:=box_cells h2
      go_wp2_with fail
      refine (G2.out _ b2).mono ?_
      rintro e' w3 ⟨rfl,h3⟩
      have b3:=b2.trans (h3.mono b2.size)
      obtain ⟨d3,d4⟩:=box_more h2 h3 d1 d2
      go_wp2_with fail
      refine (G3.out _ b3).mono ?_
      rintro e' w4 ⟨rfl,h4⟩
      have b4:=b3.trans (h4.mono b3.size)
      obtain ⟨d5,d6⟩:=box_more (h2.trans (h3.mono h2.size)) h4 d3 d4
      go_wp2_with fail
      refine (G4.out _ b4).mono ?_
      rintro e' w5 ⟨rfl,h5⟩
      have b5:=b4.trans (h5.mono b4.size)
      go_wp2_with fail
      go_ret
      exact ⟨ret_i e.out.symm,b5⟩
end Go.Proofs.YtpaednfinlaioaaGreatDoor
