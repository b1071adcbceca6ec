/-
  Plain mathematics and contracts of package diagram, several texts in one: NNum, NMem, NLeaf, NInv, NAddTo, NSubFrom, NCanon, NAdd, NCmp, DOf.
-/
import Derived.Test.YtpaednfinlaioaaGreatDoorProg
import Derived.WalkKit
import Derived.WalkSpells
import Derived.WalkLawsBesides
import Derived.Handy
import Derived.Lib.Hide
import Derived.BigQuiet
import Derived.Deep.QuietTactic
import Derived.Deep.Draws
import Derived.Deep.RegionHeld3
import Derived.Deep.DrawnRows
import Derived.StillTailTactics
import Derived.Deep.RegionLaw
import Derived.Deep.LoopGhost
import Derived.Deep.OwnRows
import Derived.Laws.CopyOwn
import Derived.Deep.AppendLies
import Derived.KernelRfl
namespace Go.Proofs.YtpaednfinlaioaaGreatDoor.Nn
namespace Nt
def val:List Nat→Nat
 | []=>0
 | x::xs=>x+4294967296*val xs
def Wf (l:List Nat):Prop:=∀ x∈l,x<4294967296
def dg (n:Nat):List Nat:=if h:n=0 then [] else n % 4294967296::dg (n / 4294967296)
termination_by n
decreasing_by exact Nat.div_lt_self (by omega) (by omega)
theorem dg_zero:dg 0=[]:=by rw [dg];simp
theorem dg_pos {n:Nat} (h:n≠0):dg n=n % 4294967296::dg (n / 4294967296):=by rw [dg];simp [h]
theorem val_nil:val []=0:=rfl
theorem val_cons (x:Nat) (l:List Nat):val (x::l)=x+4294967296*val l:=rfl
theorem wf_nil:Wf []:=by intro x hx;cases hx
theorem wf_cons {x:Nat} {l:List Nat}:Wf (x::l)↔x<4294967296∧Wf l:=by
 unfold Wf;simp
theorem wf_append {l m:List Nat}:Wf (l++m)↔Wf l∧Wf m:=by
 unfold Wf;simp only [List.mem_append]
 exact ⟨fun h=>⟨fun x hx=>h x (.inl hx),fun x hx=>h x (.inr hx)⟩,fun h x hx=>hx.elim (h.1 x) (h.2 x)⟩
theorem Wf.take {l:List Nat} (h:Wf l) (n:Nat):Wf (l.take n):=fun x hx=>h x (List.mem_of_mem_take hx)
theorem Wf.drop {l:List Nat} (h:Wf l) (n:Nat):Wf (l.drop n):=fun x hx=>h x (List.mem_of_mem_drop hx)
theorem Wf.getD {l:List Nat} (h:Wf l) (i:Nat):l.getD i 0<4294967296:=by
 rw [List.getD_eq_getElem?_getD]
 rcases Nat.lt_or_ge i l.length with hi | hi
 ·rw [List.getElem?_eq_getElem hi];exact h _ (List.getElem_mem hi)
 ·rw [List.getElem?_eq_none hi];simp
theorem val_append (l m:List Nat):val (l++m)=val l+4294967296 ^ l.length*val m:=by
 induction l with
 | nil=>simp [val]
 | cons x l ih =>
   rw [List.cons_append,val_cons,ih,val_cons,List.length_cons,Nat.pow_succ,Nat.mul_add,Nat.mul_comm (4294967296 ^ l.length) 4294967296,Nat.mul_assoc 4294967296]
   omega
theorem val_snoc (l:List Nat) (x:Nat):val (l++[x])=val l+4294967296 ^ l.length*x:=by
 rw [val_append,val_cons,val_nil];simp
theorem val_replicate (n:Nat):val (List.replicate n 0)=0:=by
 induction n with
 | zero=>rfl
 | succ n ih=>rw [List.replicate_succ,val_cons,ih]
def Can (l:List Nat):Prop:=l=[]∨l.getLast?≠some 0
theorem can_cons {x y:Nat} {l:List Nat} (h:Can (x::y::l)):Can (y::l):=by
 rcases h with h | h
 ·cases h
 ·right;rw [List.getLast?_cons_cons] at h;exact h
theorem val_pos {l:List Nat} (hc:Can l) (hl:l≠[]):val l≠0:=by
 induction l with
 | nil=>exact absurd rfl hl
 | cons x l ih =>
   rw [val_cons]
   cases l with
   | nil =>
     rcases hc with h | h
     ·cases h
     ·simp at h;rw [val_nil];omega
   | cons y l =>
     have:=ih (can_cons hc) (by simp)
     omega
theorem dg_val {l:List Nat} (hw:Wf l) (hc:Can l):dg (val l)=l:=by
 induction l with
 | nil=>exact dg_zero
 | cons x l ih =>
   have hp:=val_pos hc (by simp)
   obtain ⟨hx,hwl⟩:=wf_cons.1 hw
   rw [dg_pos hp]
   have e1:val (x::l) % 4294967296=x:=by rw [val_cons];omega
   have e2:val (x::l) / 4294967296=val l:=by rw [val_cons];omega
   rw [e1,e2]
   cases l with
   | nil=>rw [val_nil,dg_zero]
   | cons y l=>rw [ih hwl (can_cons hc)]
theorem dg_cut {l:List Nat} {n:Nat} (hw:Wf l) (hn:n≤l.length) (hz:∀ i,n≤i→i<l.length→l.getD i 0=0) (hl:n=0∨l.getD (n - 1) 0≠0) :
  dg (val l)=l.take n:=by
 have hd:l.drop n=List.replicate (l.length - n) 0:=by
  apply List.ext_getElem
  ·simp
  ·intro i h1 h2
   have:=hz (n+i) (by omega) (by simp at h1;omega)
   rw [List.getD_eq_getElem?_getD,List.getElem?_eq_getElem (by simp at h1;omega)] at this
   simpa using this
 have hv:val l=val (l.take n):=by
  conv=>lhs;rw [← List.take_append_drop n l]
  rw [val_append,hd,val_replicate];simp
 rw [hv]
 apply dg_val (hw.take n)
 rcases hl with h | h
 ·left;subst h;rfl
 ·by_cases h0:n=0
  ·left;subst h0;rfl
  ·right
   rw [List.getLast?_eq_getElem?,List.length_take,Nat.min_eq_left hn,List.getElem?_take]
   rw [if_pos (by omega)]
   rw [List.getD_eq_getElem?_getD] at h
   intro e;rw [e] at h;simp at h
theorem take_snoc {l:List Nat} {k:Nat} (h:k<l.length):l.take (k+1)=l.take k++[l.getD k 0]:=by
 rw [List.take_succ_eq_append_getElem h,List.getD_eq_getElem?_getD,List.getElem?_eq_getElem h];rfl
theorem val_take_succ {l:List Nat} {k:Nat} (h:k<l.length):val (l.take (k+1))=val (l.take k)+4294967296 ^ k*l.getD k 0:=by
 rw [take_snoc h,val_snoc,List.length_take,Nat.min_eq_left (by omega)]
theorem add_step {vx P c a b s m:Nat} (h:vx+P*c=a+b) :
  (vx+P*((s+m+c) % 4294967296))+P*4294967296*((s+m+c) / 4294967296)=(a+P*s)+(b+P*m):=by
 have e:P*((s+m+c) % 4294967296)+P*4294967296*((s+m+c) / 4294967296)=P*s+P*m+P*c:=by
  rw [Nat.mul_assoc,← Nat.mul_add,Nat.mod_add_div,Nat.mul_add,Nat.mul_add]
 omega
theorem sub_step {vx P c a b s m d c':Nat} (h:vx+b=a+P*c) (hd:d+m+c=s+4294967296*c') :
  (vx+P*d)+(b+P*m)=(a+P*s)+P*4294967296*c':=by
 have e:P*d+P*m+P*c=P*s+P*4294967296*c':=by
  rw [Nat.mul_assoc,← Nat.mul_add,← Nat.mul_add,hd,Nat.mul_add]
 omega
theorem mul_step {vx P c a b s m f:Nat} (h:vx+P*c=a+f*b) :
  (vx+P*((m*f+s+c) % 4294967296))+P*4294967296*((m*f+s+c) / 4294967296)=(a+P*s)+f*(b+P*m):=by
 have e:P*((m*f+s+c) % 4294967296)+P*4294967296*((m*f+s+c) / 4294967296)=P*(m*f)+P*s+P*c:=by
  rw [Nat.mul_assoc,← Nat.mul_add,Nat.mod_add_div,Nat.mul_add,Nat.mul_add]
 have e2:f*(b+P*m)=f*b+P*(m*f):=by
  rw [Nat.mul_add,Nat.mul_left_comm,Nat.mul_comm f m]
 omega
end Nt
end Go.Proofs.YtpaednfinlaioaaGreatDoor.Nn
namespace Go.Proofs.YtpaednfinlaioaaGreatDoor.Nn
open Go.RowKit Nt
def nth (l:List Nat) (k:Nat):Nat:=l.getD k 0
theorem nth_lt {l:List Nat} (h:Wf l) (k:Nat):nth l k<4294967296:=h.getD k
def U (x:Nat):Value:=.int .u32 (x:Int)
def Rd (w:World) (B:Nat) (A:Option Addr) (l:List Nat):Prop :=
 0<l.length→∃ b o,A=some ⟨b,o,none⟩∧b<B∧∀ j,j<l.length→w.cell? ⟨b,o+j,none⟩=some (.int .u32 ((nth l j:Nat):Int))
def Bk (w:World) (g:Nat) (L:List Nat):Prop:=w.heap[g]? = some (.cells (L.map U).toArray 214 (0,0))
section
variable {w w' : World} {B B' g : Nat} {A : Option Addr} {l L : List Nat}
theorem Rd.nil:Rd w B A []:=fun h=>absurd h (by simp)
theorem Rd.mono (h:Rd w B A l) (hB:B≤B'):Rd w B' A l:=fun h0=>by
 obtain ⟨b,o,e,hb,hc⟩:=h h0
 exact ⟨b,o,e,by omega,hc⟩
theorem Rd.keep (h:Rd w B A l) (hk:∀ k,k<B→w'.heap[k]? = w.heap[k]?):Rd w' B A l:=fun h0=>by
 obtain ⟨b,o,e,hb,hc⟩:=h h0
 exact ⟨b,o,e,hb,fun j hj=>(World.cell?_of_block (w:=w) (hk b hb)).trans (hc j hj)⟩
theorem Rd.below (h:Rd w B A l) (hb:Below B w w'):Rd w' B A l:=h.keep hb.block
theorem Rd.take (h:Rd w B A l) (n:Nat):Rd w B A (l.take n):=fun h0=>by
 rw [List.length_take] at h0
 obtain ⟨b,o,e,hb,hc⟩:=h (by omega)
 refine ⟨b,o,e,hb,fun j hj=>?_⟩
 rw [List.length_take] at hj
 rw [hc j (by omega)]
 unfold nth
 rw [List.getD_eq_getElem?_getD,List.getD_eq_getElem?_getD,List.getElem?_take,if_pos (by omega)]
theorem Bk.lt (h:Bk w g L):g<w.heap.size:=by
 rcases Nat.lt_or_ge g w.heap.size with hlt | hge
 ·exact hlt
 ·unfold Bk at h;rw [Array.getElem?_eq_none hge] at h;cases h
theorem Bk.cell (h:Bk w g L) {i:Nat} (hi:i<L.length):w.cell? ⟨g,i,none⟩=some (.int .u32 ((nth L i:Nat):Int)):=by
 rw [cell_of_row w g i _ _ _ h]
 simp [nth,U,hi]
theorem Bk.frozen (h:Bk w g L) (i:Nat):w.frozen? ⟨g,i,none⟩=false:=frozen_of_row w g i _ _ h
theorem Bk.set_ (h:Bk w g L) (i x:Nat):Bk (w.setCell ⟨g,i,none⟩ (.int .u32 (x:Int))) g (L.set i x):=by
 have:=heap_setCell_same w g i _ _ (.int .u32 (x:Int)) h
 unfold Bk
 rw [this]
 simp [U,List.map_set]
theorem Bk.keep (h:Bk w g L) (hk:w'.heap[g]? = w.heap[g]?):Bk w' g L:=hk.trans h
theorem Bk.drew (h:Bk w g L):Bk w.drew g L:=h
theorem Bk.drewN (h:Bk w g L) (n:Nat):Bk (w.drewN n) g L:=h
theorem Bk.rd (h:Bk w g L) (hB:g<B):Rd w B (some ⟨g,0,none⟩) L:=fun _=>⟨g,0,rfl,hB,fun j hj=>by rw [Nat.zero_add];exact h.cell hj⟩
theorem Bk.below (h:Bk w g L) (hb:Below B w w') (hg:g<B):Bk w' g L:=h.keep (hb.block g hg)
end
structure Upd (g:Nat) (w w':World):Prop where
 os:w'.os=w.os
 tape:w'.tape=w.tape
 output:w'.output=w.output
 size:w'.heap.size=w.heap.size
 block:∀ k,k≠g→w'.heap[k]? = w.heap[k]?
section
variable {w w' w'' : World} {g B : Nat}
theorem Upd.refl (g:Nat) (w:World):Upd g w w:=⟨rfl,rfl,rfl,rfl,fun _ _=>rfl⟩
theorem Upd.trans (h:Upd g w w') (k:Upd g w' w''):Upd g w w'' :=
 ⟨k.os.trans h.os,k.tape.trans h.tape,k.output.trans h.output,k.size.trans h.size,fun i hi=>(k.block i hi).trans (h.block i hi)⟩
theorem Upd.drewN (h:Upd g w w') (n:Nat):Upd g w (w'.drewN n):=⟨h.os,h.tape,h.output,h.size,h.block⟩
theorem Upd.drew (h:Upd g w w'):Upd g w w'.drew:=⟨h.os,h.tape,h.output,h.size,h.block⟩
theorem Upd.set_ (h:Upd g w w') (i:Nat) (u:Value):Upd g w (w'.setCell ⟨g,i,none⟩ u) :=
 h.trans ⟨rfl,rfl,rfl,by simp [World.setCell],fun k hk=>Below.heap_setCell _ _ _ _ hk⟩
theorem Upd.below (h:Upd g w w') (hg:B≤g):Below B w w' :=
 ⟨h.os,h.tape,h.output,by rw [h.size];exact Nat.le_refl _,fun k hk=>h.block k (by omega)⟩
theorem Upd.cell (h:Upd g w w') {a:Addr} (ha:a.block≠g):w'.cell? a=w.cell? a:=World.cell?_of_block (w:=w) (h.block _ ha)
end
def dif (x y c:Nat):Nat:=(x+8589934592 - y - c) % 4294967296
def brw (x y c:Nat):Nat:=if x<y+c then 1 else 0
theorem dif_lt (x y c:Nat):dif x y c<4294967296:=by unfold dif;omega
theorem brw_le (x y c:Nat):brw x y c≤1:=by unfold brw;split <;> omega
theorem dif_brw {x y c:Nat} (hx:x<4294967296) (hy:y<4294967296) (hc:c≤1):dif x y c+y+c=x+4294967296*brw x y c:=by
 unfold dif brw;split <;> omega
theorem join_or {hi lo:Nat} (hh:hi<4294967296) (hlo:lo<4294967296):bits BinOp.or IntKind.u64 ((hi:Int)*4294967296) (lo:Int)=((hi*4294967296+lo:Nat):Int):=by
 have e:(hi:Int)*4294967296=((hi*4294967296:Nat):Int):=by omega
 rw [e,u64_or_nat _ _ (by omega) (by omega),nat_join 32 _ _ (by omega) (by omega)]
theorem ret_bool {a b:Bool} (h:a=b):Ending.returned (.bool a)=.returned (.bool b):=by rw [h]
structure Cut (l:List Nat) (n:Nat):Prop where
 le:n≤l.length
 zero:∀ i,n≤i→i<l.length→nth l i=0
theorem Cut.all (l:List Nat):Cut l l.length:=⟨Nat.le_refl _,fun i h1 h2=>by omega⟩
theorem Cut.step {l:List Nat} {n:Nat} (h:Cut l n) (hp:0<n) (hz:nth l (n - 1)=0):Cut l (n - 1) :=
 ⟨by have:=h.le;omega,fun i h1 h2=>by
  rcases Nat.lt_or_ge i n with hi | hi
  ·have e:i=n - 1:=by omega
   rw [e];exact hz
  ·exact h.zero i hi h2⟩
theorem Cut.dg {l:List Nat} {n:Nat} (h:Cut l n) (hw:Wf l) (hs:n=0∨nth l (n - 1)≠0):Nt.dg (val l)=l.take n:=dg_cut hw h.le h.zero hs
theorem dg_val_take {l:List Nat} (hw:Wf l):dg (val l)=l.take (dg (val l)).length:=by
 have:∃ n,n≤l.length∧dg (val l)=l.take n:=by
  induction l with
  | nil=>exact ⟨0,by simp,by rw [val_nil,dg_zero];rfl⟩
  | cons x l ih =>
    obtain ⟨hx,hl⟩:=wf_cons.1 hw
    obtain ⟨n,hn,e⟩:=ih hl
    by_cases h0:val (x::l)=0
    ·exact ⟨0,by simp,by rw [h0,dg_zero];rfl⟩
    ·refine ⟨n+1,by simp;omega,?_⟩
     rw [dg_pos h0,List.take_succ_cons,← e]
     have e1:val (x::l) % 4294967296=x:=by rw [val_cons];omega
     have e2:val (x::l) / 4294967296=val l:=by rw [val_cons];omega
     rw [e1,e2]
 obtain ⟨n,hn,e⟩:=this
 have hl:(dg (val l)).length=n:=by rw [e,List.length_take];omega
 rw [hl];exact e
theorem Rd.dg {w:World} {B:Nat} {A:Option Addr} {l:List Nat} (h:Rd w B A l) (hw:Wf l):Rd w B A (Nt.dg (val l)):=by
 rw [dg_val_take hw];exact h.take _
end Go.Proofs.YtpaednfinlaioaaGreatDoor.Nn
namespace Go.Proofs.YtpaednfinlaioaaGreatDoor.Nn
open Nt
theorem nth_take {l:List Nat} {k j:Nat} (h:j<k):nth (l.take k) j=nth l j:=by
 unfold nth;rw [List.getD_eq_getElem?_getD,List.getD_eq_getElem?_getD,List.getElem?_take,if_pos h]
theorem nth_drop (l:List Nat) (o j:Nat):nth (l.drop o) j=nth l (o+j):=by
 unfold nth;rw [List.getD_eq_getElem?_getD,List.getD_eq_getElem?_getD,List.getElem?_drop]
theorem nth_sub {l:List Nat} {o n j:Nat} (h:j<n):nth ((l.drop o).take n) j=nth l (o+j):=by rw [nth_take h,nth_drop]
theorem nth_ge {l:List Nat} {k:Nat} (h:l.length≤k):nth l k=0:=by
 unfold nth;rw [List.getD_eq_getElem?_getD,List.getElem?_eq_none h];rfl
theorem take_step (l:List Nat) (k:Nat):val (l.take (k+1))=val (l.take k)+4294967296 ^ k*nth l k:=by
 rcases Nat.lt_or_ge k l.length with h | h
 ·exact val_take_succ h
 ·rw [nth_ge h,List.take_of_length_le (by omega),List.take_of_length_le (by omega)];simp
theorem splice_zero (L:List Nat) (o:Nat):splice L o []=L:=by unfold splice;simp
theorem length_spl {L X:List Nat} {o:Nat} (h:o+X.length≤L.length):(splice L o X).length=L.length:=length_splice L o X h
theorem nth_spl {L X:List Nat} {o j:Nat} (h:o+X.length≤L.length) (hj:o+X.length≤j):nth (splice L o X) j=nth L j:=by
 unfold nth splice
 rw [List.getD_eq_getElem?_getD,List.getD_eq_getElem?_getD,List.getElem?_append_right (by simp;omega),List.getElem?_append_right (by simp;omega),List.getElem?_drop]
 congr 2
 simp
 omega
theorem spl_set {L X:List Nat} {o:Nat} (x:Nat) (h:o+X.length<L.length):(splice L o X).set (o+X.length) x=splice L o (X++[x]):=by
 unfold splice
 rw [List.set_append_right _ _ (by simp;omega)]
 have e:o+X.length - (L.take o).length=X.length:=by simp;omega
 rw [e,List.set_append_right _ _ (Nat.le_refl _),Nat.sub_self]
 rw [List.drop_eq_getElem_cons h,List.set_cons_zero]
 simp [Nat.add_assoc]
structure AddInv (S M:List Nat) (k:Nat) (X:List Nat) (c:Nat):Prop where
 len:X.length=k
 wf:Wf X
 c1:c≤1
 eq:val X+4294967296 ^ k*c=val (S.take k)+val (M.take k)
theorem AddInv.start (S M:List Nat):AddInv S M 0 [] 0:=⟨rfl,wf_nil,by omega,by simp [val]⟩
theorem AddInv.step {S M:List Nat} {k:Nat} {X:List Nat} {c:Nat} (h:AddInv S M k X c) (hS:Wf S) (hM:Wf M) :
  AddInv S M (k+1) (X++[(nth S k+nth M k+c) % 4294967296]) ((nth S k+nth M k+c) / 4294967296):=by
 have h1:=nth_lt hS k
 have h2:=nth_lt hM k
 have h3:=h.c1
 refine ⟨by simp [h.len],wf_append.2 ⟨h.wf,wf_cons.2 ⟨by omega,wf_nil⟩⟩,by omega,?_⟩
 rw [val_snoc,h.len,take_step,take_step,Nat.pow_succ]
 exact add_step h.eq
theorem AddInv.done {S M:List Nat} {k:Nat} {X:List Nat} {c:Nat} (h:AddInv S M k X c) (hS:Wf S) (hk:k≤S.length) (hm:M.length≤k) (hc:c=0∨k=S.length) :
  (X++S.drop k).length=S.length∧Wf (X++S.drop k)∧val (X++S.drop k)+4294967296 ^ S.length*c=val S+val M:=by
 have e:val S=val (S.take k)+4294967296 ^ k*val (S.drop k):=by
  conv=>lhs;rw [← List.take_append_drop k S]
  rw [val_append,List.length_take,Nat.min_eq_left hk]
 have q:=h.eq
 rw [List.take_of_length_le hm] at q
 refine ⟨by simp [h.len];omega,wf_append.2 ⟨h.wf,hS.drop k⟩,?_⟩
 rw [val_append,h.len,e]
 rcases hc with rfl | rfl
 ·simp at q ⊢;omega
 ·simp [val] at q ⊢;omega
structure SubInv (S M:List Nat) (k:Nat) (X:List Nat) (c:Nat):Prop where
 len:X.length=k
 wf:Wf X
 c1:c≤1
 eq:val X+val (M.take k)=val (S.take k)+4294967296 ^ k*c
theorem SubInv.start (S M:List Nat):SubInv S M 0 [] 0:=⟨rfl,wf_nil,by omega,by simp [val]⟩
theorem SubInv.step {S M:List Nat} {k:Nat} {X:List Nat} {c:Nat} (h:SubInv S M k X c) (hS:Wf S) (hM:Wf M) :
  SubInv S M (k+1) (X++[dif (nth S k) (nth M k) c]) (brw (nth S k) (nth M k) c):=by
 have h1:=nth_lt hS k
 have h2:=nth_lt hM k
 have h3:=h.c1
 refine ⟨by simp [h.len],wf_append.2 ⟨h.wf,wf_cons.2 ⟨dif_lt _ _ _,wf_nil⟩⟩,brw_le _ _ _,?_⟩
 rw [val_snoc,h.len,take_step,take_step,Nat.pow_succ]
 exact sub_step h.eq (dif_brw h1 h2 h3)
theorem SubInv.done {S M:List Nat} {k:Nat} {X:List Nat} {c:Nat} (h:SubInv S M k X c) (hS:Wf S) (hk:k≤S.length) (hm:M.length≤k) (hc:c=0∨k=S.length) :
  (X++S.drop k).length=S.length∧Wf (X++S.drop k)∧val (X++S.drop k)+val M=val S+4294967296 ^ S.length*c:=by
 have e:val S=val (S.take k)+4294967296 ^ k*val (S.drop k):=by
  conv=>lhs;rw [← List.take_append_drop k S]
  rw [val_append,List.length_take,Nat.min_eq_left hk]
 have q:=h.eq
 rw [List.take_of_length_le hm] at q
 refine ⟨by simp [h.len];omega,wf_append.2 ⟨h.wf,hS.drop k⟩,?_⟩
 rw [val_append,h.len,e]
 rcases hc with rfl | rfl
 ·simp at q ⊢;omega
 ·simp [val] at q ⊢;omega
structure MulInv (S M:List Nat) (f k:Nat) (X:List Nat) (c:Nat):Prop where
 len:X.length=k
 wf:Wf X
 c1:c≤4294967295
 eq:val X+4294967296 ^ k*c=val (S.take k)+f*val (M.take k)
theorem MulInv.start (S M:List Nat) (f:Nat):MulInv S M f 0 [] 0:=⟨rfl,wf_nil,by omega,by simp [val]⟩
theorem mul_bound {x f:Nat} (hx:x<4294967296) (hf:f<4294967296):x*f≤18446744065119617025 :=
 Nat.le_trans (Nat.mul_le_mul (show x≤4294967295 by omega) (show f≤4294967295 by omega)) (by omega)
theorem MulInv.step {S M:List Nat} {f k:Nat} {X:List Nat} {c:Nat} (h:MulInv S M f k X c) (hS:Wf S) (hM:Wf M) (hf:f<4294967296) :
  MulInv S M f (k+1) (X++[(nth M k*f+nth S k+c) % 4294967296]) ((nth M k*f+nth S k+c) / 4294967296):=by
 have h1:=nth_lt hS k
 have h2:=nth_lt hM k
 have h3:=h.c1
 have h4:=mul_bound h2 hf
 refine ⟨by simp [h.len],wf_append.2 ⟨h.wf,wf_cons.2 ⟨by omega,wf_nil⟩⟩,by omega,?_⟩
 rw [val_snoc,h.len,take_step,take_step,Nat.pow_succ]
 exact mul_step h.eq
end Go.Proofs.YtpaednfinlaioaaGreatDoor.Nn
namespace Go.Proofs.YtpaednfinlaioaaGreatDoor.Nn
open Go.RowKit Nt
def Added (w:World) (g o n:Nat) (L M:List Nat) (e:Ending) (w':World):Prop :=
 ∃ X c,e=.returned (.int .u32 ((c:Nat):Int))∧X.length=n∧Wf X∧c≤1∧val X+4294967296 ^ n*c=val ((L.drop o).take n)+val M∧Bk w' g (splice L o X)∧Upd g w w'
def AddSt (w wr:World) (g o n:Nat) (L M:List Nat) (k c:Nat):Prop :=
 ∃ X,AddInv ((L.drop o).take n) M k X c∧Bk wr g (splice L o X)∧Upd g w wr
section
variable {w wr : World} {g o n k q : Nat} {L M : List Nat}
theorem AddSt.start (h:Bk w g L):AddSt w w g o n L M 0 0:=⟨[],AddInv.start _ _,by rw [splice_zero];exact h,Upd.refl _ _⟩
theorem AddSt.cell (h:AddSt w wr g o n L M k q) (hon:o+n≤L.length) (hk:k<n):wr.cell? ⟨g,o+k,none⟩=some (.int .u32 ((nth L (o+k):Nat):Int)):=by
 obtain ⟨X,hi,hb,_⟩:=h
 have hl:=hi.len
 rw [hb.cell (by rw [length_spl (by omega)];omega),nth_spl (by omega) (by omega)]
theorem AddSt.frozen (h:AddSt w wr g o n L M k q) (i:Nat):wr.frozen? ⟨g,i,none⟩=false:=by
 obtain ⟨X,_,hb,_⟩:=h
 exact hb.frozen i
theorem AddSt.far (h:AddSt w wr g o n L M k q) {a:Addr} (ha:a.block≠g):wr.cell? a=w.cell? a:=by
 obtain ⟨X,_,_,hu⟩:=h
 exact hu.cell ha
theorem AddSt.step (h:AddSt w wr g o n L M k q) (hL:Wf L) (hM:Wf M) (hon:o+n≤L.length) (hk:k<n) (d:Nat) :
  AddSt w ((wr.setCell ⟨g,o+k,none⟩ (.int .u32 (((nth L (o+k):Int)+(nth M k:Int)+(q:Int)) % 4294967296))).drewN d) g o n L M (k+1) ((nth L (o+k)+nth M k+q) / 4294967296):=by
 obtain ⟨X,hi,hb,hu⟩:=h
 have hl:=hi.len
 have e:((nth L (o+k):Int)+(nth M k:Int)+(q:Int)) % 4294967296=(((nth L (o+k)+nth M k+q) % 4294967296:Nat):Int):=by omega
 have hs:=hi.step ((hL.drop o).take n) hM
 rw [nth_sub hk] at hs
 refine ⟨_,hs,?_,(hu.set_ _ _).drewN d⟩
 rw [e]
 have:=hb.set_ (o+k) ((nth L (o+k)+nth M k+q) % 4294967296)
 rw [← hl,spl_set _ (by omega),hl] at this
 exact this.drewN d
theorem AddSt.done (h:AddSt w wr g o n L M k q) (hL:Wf L) (hon:o+n≤L.length) (hk:k≤n) (hm:M.length≤k) (hq:q=0∨k=n) :
  Added w g o n L M (.returned (.int .u32 ((q:Nat):Int))) wr:=by
 obtain ⟨X,hi,hb,hu⟩:=h
 have hn:((L.drop o).take n).length=n:=by simp;omega
 obtain ⟨e1,e2,e3⟩:=hi.done ((hL.drop o).take n) (by rw [hn];exact hk) hm (by rw [hn];exact hq)
 rw [hn] at e1 e3
 refine ⟨_,q,rfl,e1,e2,hi.c1,e3,?_,hu⟩
 have e:splice L o (X++((L.drop o).take n).drop k)=splice L o X:=by
  have hl:=hi.len
  unfold splice
  congr 1
  rw [List.append_assoc]
  congr 1
  apply List.ext_getElem?
  intro i
  rw [List.getElem?_append]
  simp only [List.length_drop,List.length_take,List.length_append,List.getElem?_drop,List.getElem?_take]
  split
  ·rw [if_pos (by omega)];congr 1;omega
  ·congr 1;omega
 rw [e];exact hb
end
def Subbed (w:World) (g o n:Nat) (L M:List Nat) (e:Ending) (w':World):Prop :=
 ∃ X c,e=.returned (.tuple #[])∧X.length=n∧Wf X∧c≤1∧val X+val M=val ((L.drop o).take n)+4294967296 ^ n*c∧Bk w' g (splice L o X)∧Upd g w w'
def SubSt (w wr:World) (g o n:Nat) (L M:List Nat) (k c:Nat):Prop :=
 ∃ X,SubInv ((L.drop o).take n) M k X c∧Bk wr g (splice L o X)∧Upd g w wr
section
variable {w wr : World} {g o n k q : Nat} {L M : List Nat}
theorem SubSt.start (h:Bk w g L):SubSt w w g o n L M 0 0:=⟨[],SubInv.start _ _,by rw [splice_zero];exact h,Upd.refl _ _⟩
theorem SubSt.cell (h:SubSt w wr g o n L M k q) (hon:o+n≤L.length) (hk:k<n):wr.cell? ⟨g,o+k,none⟩=some (.int .u32 ((nth L (o+k):Nat):Int)):=by
 obtain ⟨X,hi,hb,_⟩:=h
 have hl:=hi.len
 rw [hb.cell (by rw [length_spl (by omega)];omega),nth_spl (by omega) (by omega)]
theorem SubSt.frozen (h:SubSt w wr g o n L M k q) (i:Nat):wr.frozen? ⟨g,i,none⟩=false:=by
 obtain ⟨X,_,hb,_⟩:=h
 exact hb.frozen i
theorem SubSt.far (h:SubSt w wr g o n L M k q) {a:Addr} (ha:a.block≠g):wr.cell? a=w.cell? a:=by
 obtain ⟨X,_,_,hu⟩:=h
 exact hu.cell ha
theorem SubSt.step (h:SubSt w wr g o n L M k q) (hL:Wf L) (hM:Wf M) (hon:o+n≤L.length) (hk:k<n) (d:Nat) :
  SubSt w ((wr.setCell ⟨g,o+k,none⟩ (.int .u32 ((dif (nth L (o+k)) (nth M k) q:Nat):Int))).drewN d) g o n L M (k+1) (brw (nth L (o+k)) (nth M k) q):=by
 obtain ⟨X,hi,hb,hu⟩:=h
 have hl:=hi.len
 have hs:=hi.step ((hL.drop o).take n) hM
 rw [nth_sub hk] at hs
 refine ⟨_,hs,?_,(hu.set_ _ _).drewN d⟩
 have:=hb.set_ (o+k) (dif (nth L (o+k)) (nth M k) q)
 rw [← hl,spl_set _ (by omega),hl] at this
 exact this.drewN d
theorem SubSt.done (h:SubSt w wr g o n L M k q) (hL:Wf L) (hon:o+n≤L.length) (hk:k≤n) (hm:M.length≤k) (hq:q=0∨k=n) :
  Subbed w g o n L M (.returned (.tuple #[])) wr:=by
 obtain ⟨X,hi,hb,hu⟩:=h
 have hn:((L.drop o).take n).length=n:=by simp;omega
 obtain ⟨e1,e2,e3⟩:=hi.done ((hL.drop o).take n) (by rw [hn];exact hk) hm (by rw [hn];exact hq)
 rw [hn] at e1 e3
 refine ⟨_,q,rfl,e1,e2,hi.c1,e3,?_,hu⟩
 have e:splice L o (X++((L.drop o).take n).drop k)=splice L o X:=by
  have hl:=hi.len
  unfold splice
  congr 1
  rw [List.append_assoc]
  congr 1
  apply List.ext_getElem?
  intro i
  rw [List.getElem?_append]
  simp only [List.length_drop,List.length_take,List.length_append,List.getElem?_drop,List.getElem?_take]
  split
  ·rw [if_pos (by omega)];congr 1;omega
  ·congr 1;omega
 rw [e];exact hb
end
def Num (w:World) (v:Value) (N:Nat):Prop:=∃ A c,v=.slice A (dg N).length c∧(dg N).length≤c∧Rd w w.heap.size A (dg N)
theorem Num.below {w w':World} {v:Value} {N:Nat} (h:Num w v N) (hb:Below w.heap.size w w'):Num w' v N:=by
 obtain ⟨A,c,rfl,hc,hr⟩:=h
 exact ⟨A,c,rfl,hc,(hr.below hb).mono hb.size⟩
theorem Num.nil (w:World):Num w (.slice none 0 0) 0:=⟨none,0,by rw [dg_zero];rfl,by rw [dg_zero];simp,by rw [dg_zero];exact Rd.nil⟩
def lim (N:Nat):Nat:=if (dg N).length≤1024 then N else 0
theorem ret_i {a b:Int} (h:a=b):Ending.returned (.int .i64 a)=.returned (.int .i64 b):=by rw [h]
def Qt (w w':World):Prop:=∃ n,w'=w.drewN n
theorem Qt.refl (w:World):Qt w w:=⟨0,rfl⟩
theorem Qt.more {w w':World} (h:Qt w w') (n:Nat):Qt w (w'.drewN n):=by
 obtain ⟨m,rfl⟩:=h
 exact ⟨m+n,by simp⟩
theorem Qt.cell {w w':World} (h:Qt w w') (a:Addr):w'.cell? a=w.cell? a:=by
 obtain ⟨m,rfl⟩:=h;rfl
theorem Qt.below {w w':World} (h:Qt w w') (B:Nat):Below B w w':=by
 obtain ⟨m,rfl⟩:=h;exact ⟨rfl,rfl,rfl,Nat.le_refl _,fun _ _=>rfl⟩
theorem Qt.size {w w':World} (h:Qt w w'):w'.heap.size=w.heap.size:=by
 obtain ⟨m,rfl⟩:=h;rfl
end Go.Proofs.YtpaednfinlaioaaGreatDoor.Nn
