/-
  Plain mathematics and contracts of package diagram, several texts in one: DTab, DNum, DNum2, DMemo, DSimple, DAll, DSame, DNew, DTruth, DUni, DMap, DBlk.
-/
import Derived.Test.YtpaednfinlaioaaGreatDoorMb
import Derived.Deep.AppendLies
import Derived.Deep.RegionLaw
import Derived.Laws.ResultCell
import Derived.WalkSmall
import Derived.Deep.DrawnRows
import Derived.Test.YtpaednfinlaioaaGreatDoorMa
import Derived.Maps.RangeWalk
import Derived.Maps.Ext
set_option maxHeartbeats 4000000
set_option maxRecDepth 100000
namespace Go.Proofs.YtpaednfinlaioaaGreatDoor
open Go.Lib (hid)
open Go.RowKit Dg Go.Maps
def ub (b:Br):Bi:=((b.1:Int),(b.2.1:Int),(b.2.2:Int))
def Sm (b:Br):Prop:=b.1<1000000∧b.2.1<1000000∧b.2.2<1000000
theorem sm_i3 {b:Br} (h:Sm b):I3 (ub b):=by
 obtain ⟨h1,h2,h3⟩:=h
 exact ⟨⟨by show (-9223372036854775808:Int)≤(b.1:Int);omega,by show (b.1:Int)≤_;omega⟩,⟨by show (-9223372036854775808:Int)≤(b.2.1:Int);omega,by show (b.2.1:Int)≤_;omega⟩,⟨by show (-9223372036854775808:Int)≤(b.2.2:Int);omega,by show (b.2.2:Int)≤_;omega⟩⟩
theorem ub_inj {a b:Br} (h:ub a=ub b):a=b:=by
 unfold ub at h
 simp only [Prod.mk.injEq] at h
 refine Prod.ext ?_ (Prod.ext ?_ ?_) <;> omega
def flat (M:List Br):List Value:=M.flatMap fun b=>[.int .i64 (b.1:Int),.int .i64 (b.2.1:Int),.int .i64 (b.2.2:Int)]
theorem flat_len (M:List Br):(flat M).length=M.length*3:=by
 induction M with
 | nil=>rfl
 | cons b M ih=>rw [flat,List.flatMap_cons,List.length_append,show (M.flatMap fun b=>[Value.int .i64 (b.1:Int),.int .i64 (b.2.1:Int),.int .i64 (b.2.2:Int)]).length=M.length*3 from ih];simp;omega
theorem flat_snoc (M:List Br) (b:Br):flat (M++[b])=flat M++[.int .i64 (b.1:Int),.int .i64 (b.2.1:Int),.int .i64 (b.2.2:Int)]:=by unfold flat;simp
theorem flat_at (M:List Br) (k:Nat) (hk:k<M.length):(flat M)[k*3]? = some (.int .i64 (bv M k:Int))∧(flat M)[k*3+1]? = some (.int .i64 (bl M k:Int))∧(flat M)[k*3+2]? = some (.int .i64 (bh M k:Int)):=by
 induction M generalizing k with
 | nil=>simp at hk
 | cons b M ih =>
   rcases k with _ | k
   ·simp [flat,bv,bl,bh]
   ·have h:=ih k (by simpa using hk)
    have e:flat (b::M)=[.int .i64 (b.1:Int),.int .i64 (b.2.1:Int),.int .i64 (b.2.2:Int)]++flat M:=by unfold flat;simp
    have eb:bv (b::M) (k+1)=bv M k∧bl (b::M) (k+1)=bl M k∧bh (b::M) (k+1)=bh M k:=by unfold bv bl bh;simp
    rw [e,eb.1,eb.2.1,eb.2.2]
    rw [List.getElem?_append_right (by simp;omega),List.getElem?_append_right (by simp;omega),List.getElem?_append_right (by simp;omega)]
    simp only [List.length_cons,List.length_nil]
    rw [show (k+1)*3 - (0+1+1+1)=k*3 by omega,show (k+1)*3+1 - (0+1+1+1)=k*3+1 by omega,show (k+1)*3+2 - (0+1+1+1)=k*3+2 by omega]
    exact h
theorem own_rd {w:World} {base:Nat} {v:Value} {M:List Br} (h:w.ownsRow base 80 3 v M.length (flat M)):∃ A c,v=.slice A M.length c∧M.length≤c∧Rd w w.heap.size A (up M):=by
 rcases h.2 with ⟨rfl,h0⟩ | ⟨g,cap,cur,rfl,_,hh,hnc,_⟩
 ·exact ⟨none,0,by rw [h0],by omega,fun hp=>by rw [up_len] at hp;omega⟩
 ·have hown:w.ownsRow base 80 3 (.slice (some ⟨g,0,none⟩) M.length cap) M.length (flat M):=h
  refine ⟨_,cap,rfl,hnc,fun hp=>⟨g,0,rfl,(World.ownsRow.lt hown g rfl).2,fun j hj=>?_⟩⟩
  rw [up_len] at hj
  obtain ⟨f1,f2,f3⟩:=flat_at M j hj
  rw [iv_up,il_up,ih_up,Nat.zero_add]
  exact ⟨(hown.cellAt (j*3) (by omega)).trans f1,(hown.cellAt (j*3+1) (by omega)).trans f2,(hown.cellAt (j*3+2) (by omega)).trans f3⟩
def Ix (w:World) (b:Nat) (M:List Br):Prop:=∃ (n:Nat) (D:DataW Unit),w.ownsMap Tryz.prog 80 (plainElem Tryz.prog 3) b n D∧n≤M.length ∧
 ∀ x,Sm x→Maps.has D (kb (ub x))=decide (x∈M)∧(x∈M→D.atKey (kb (ub x)) (.lit (.int .i64 0))=.lit (.int .i64 ((M.idxOf x+2:Nat):Int)))
def fnd (M:List Br) (x:Br):Nat:=if x∈M then M.idxOf x+2 else 0
theorem Ix.lookup {w:World} {b:Nat} {M:List Br} (h:Ix w b M) {x y z:Nat} (hx:Sm (x,y,z)) :
  (Instr.lookup 158 (.map (some b)) (.agg #[.int .i64 (x:Int),.int .i64 (y:Int),.int .i64 (z:Int)]) true).run Tryz.prog w=.ok (.tuple #[.int .i64 ((fnd M (x,y,z):Nat):Int),.bool (decide ((x,y,z)∈M))]) w:=by
 obtain ⟨n,D,hown,hn,hD⟩:=h
 obtain ⟨h1,h2⟩:=hD _ hx
 have hz:(zeroValue 3).run Tryz.prog w=.ok (.int .i64 0) w:=by kernel_rfl
 obtain ⟨v,ps,hrun,hv⟩:=hown.look_ok Tryz.keyed Tryz.underlying158 hz (plainElem_int Tryz.underlying3 (by decide)) (key_i3 (sm_i3 hx))
 obtain ⟨c,rfl,hc,_⟩:=plainElem_int_inv Tryz.underlying3 hv
 have hc:=congrArg Prod.fst hc
 simp only at hc
 rw [h1] at hrun
 have e:c=((fnd M (x,y,z):Nat):Int):=by
  unfold fnd
  by_cases hin:(x,y,z)∈M
  ·rw [if_pos hin]
   rw [h2 hin] at hc
   exact (Lit.int.inj (DataW.lit.inj hc)).2.symm
  ·rw [if_neg hin]
   rw [decide_eq_false hin] at h1
   rw [atKey_of_not_has h1] at hc
   exact (Lit.int.inj (DataW.lit.inj hc)).2.symm
 rw [← e]
 exact hrun
theorem Ix.keep {w w':World} {b:Nat} {M:List Br} (h:Ix w b M) (hk:w'.heap[b]? = w.heap[b]?):Ix w' b M:=by
 obtain ⟨n,D,⟨es,clock,hb,F,h1,h2⟩,h3⟩:=h
 exact ⟨n,D,⟨es,clock,hk.trans hb,F,h1,h2⟩,h3⟩
theorem Ix.lt {w:World} {b:Nat} {M:List Br} (h:Ix w b M):b<w.heap.size:=by
 obtain ⟨n,D,hown,_⟩:=h
 exact hown.lt
structure Tb (w:World) (base g o:Nat) (M:List Br) (v:Value) (gi:Option Nat):Prop where
 cn:w.cell? ⟨g,o,none⟩=some v
 ci:w.cell? ⟨g,o+1,none⟩=some (.map gi)
 fn:w.frozen? ⟨g,o,none⟩=false
 fi:w.frozen? ⟨g,o+1,none⟩=false
 own:w.ownsRow base 80 3 v M.length (flat M)
 idx:match gi with | none=>M.length≤16 | some b=>base≤b∧b≠g∧Ix w b M
 vg:v.ownBlock≠some g
 gb:base≤g
theorem ret_nb {a b:Int} {x y:Bool} (h1:a=b) (h2:x=y):Ending.returned (.tuple #[.int .i64 a,.bool x])=.returned (.tuple #[.int .i64 b,.bool y]):=by rw [h1,h2]
theorem find_map (base g o b:Nat) (M:List Br) (v:Value) (x y z:Nat) (w:World) (ht:Hid (Tb w base g o M v (some b))) (hx:Hid (Sm (x,y,z))) :
  Calls Tryz.prog 140 #[.pointer (some ⟨g,o,none⟩),.agg #[.int .i64 (x:Int),.int .i64 (y:Int),.int .i64 (z:Int)]] w fun e w'=>e=.returned (.tuple #[.int .i64 ((fnd M (x,y,z):Nat):Int),.bool (decide ((x,y,z)∈M))])∧Below w.heap.size w w':=by
 have b1:=(Below.refl w.heap.size w).alloc (Nat.le_refl _) (.cells #[.int .i64 (x:Int),.int .i64 (y:Int),.int .i64 (z:Int)] 80)
 have c2:=ht.out.ci
 have hg:g<w.heap.size:=block_lt_of_cell c2
 have hix:=ht.out.idx
 simp only at hix
 have hlk:∀ n:Nat,(Instr.lookup 158 (.map (some b)) (.agg #[.int .i64 (x:Int),.int .i64 (y:Int),.int .i64 (z:Int)]) true).run Tryz.prog ((w.alloc (.cells #[.int .i64 (x:Int),.int .i64 (y:Int),.int .i64 (z:Int)] 80)).drewN n)=.ok (.tuple #[.int .i64 ((fnd M (x,y,z):Nat):Int),.bool (decide ((x,y,z)∈M))]) ((w.alloc (.cells #[.int .i64 (x:Int),.int .i64 (y:Int),.int .i64 (z:Int)] 80)).drewN n):=by
  intro n
  refine Ix.lookup (hix.2.2.keep ?_) hx.out
  exact Below.heap_alloc w _ b hix.2.2.lt
 have hnn:=fun W:World=>Go.run_neq_map_nil (P:=Tryz.prog) W 158 80 3 (some b) Tryz.underlying158
 generalize decide ((x,y,z)∈M)=t at *
 generalize fnd M (x,y,z)=f at *
 clear hix
 go_enter Tryz.func140,Tryz.ntmps140
 go_wp2
 go_quiet (fail)
 go_wp2
 go_ret2
 exact ⟨rfl,below_drewN b1 _⟩
def NoN (M:List Br) (x:Br) (k:Nat):Prop:=∀ j,j<k→¬ (x.1=bv M j∧x.2.1=bl M j∧x.2.2=bh M j)
theorem NoN.not {M:List Br} {x:Br} (h:NoN M x M.length):x∉M:=by
 intro hin
 obtain ⟨k,hk,e⟩:=List.getElem_of_mem hin
 rw [br_at hk] at e
 subst e
 exact h k hk ⟨rfl,rfl,rfl⟩
theorem NoN.idx {M:List Br} {x:Br} {k:Nat} (h:NoN M x k) (hk:k<M.length) (h1:x.1=bv M k) (h2:x.2.1=bl M k) (h3:x.2.2=bh M k):x∈M∧M.idxOf x=k:=by
 have e:M[k]=x:=by rw [br_at hk,← h1,← h2,← h3]
 have hin:x∈M:=by rw [← e];exact List.getElem_mem hk
 have hi:M.idxOf x<M.length:=List.idxOf_lt_length_iff.2 hin
 have hx:M[M.idxOf x]=x:=List.getElem_idxOf hi
 refine ⟨hin,?_⟩
 rcases Nat.lt_trichotomy (M.idxOf x) k with hlt | heq | hgt
 ·rw [br_at hi] at hx
  exact absurd ⟨(congrArg Prod.fst hx).symm,(congrArg (fun b=>b.2.1) hx).symm,(congrArg (fun b=>b.2.2) hx).symm⟩ (h _ hlt)
 ·exact heq
 ·have:=List.not_of_lt_findIdx (xs:=M) (p:=(· == x)) hgt
  rw [e] at this
  simp at this
theorem find_list (base g o:Nat) (M:List Br) (v:Value) (x y z:Nat) (w:World) (ht:Hid (Tb w base g o M v none)) :
  Calls Tryz.prog 140 #[.pointer (some ⟨g,o,none⟩),.agg #[.int .i64 (x:Int),.int .i64 (y:Int),.int .i64 (z:Int)]] w fun e w'=>e=.returned (.tuple #[.int .i64 ((fnd M (x,y,z):Nat):Int),.bool (decide ((x,y,z)∈M))])∧Below w.heap.size w w':=by
 have b1:=(Below.refl w.heap.size w).alloc (Nat.le_refl _) (.cells #[.int .i64 (x:Int),.int .i64 (y:Int),.int .i64 (z:Int)] 80)
 have c2:=ht.out.ci
 have c1:=ht.out.cn
 have hg:g<w.heap.size:=block_lt_of_cell c2
 have hix:=ht.out.idx
 simp only at hix
 obtain ⟨A,c,rfl,hnc,hrd⟩:=own_rd ht.out.own
 obtain ⟨m,hm⟩:∃ m,M.length=m:=⟨_,rfl⟩
 rw [hm] at c1 hix hnc
 have HM:=hid hm
 have HR:=hid hrd
 have hnn:=fun W:World=>Go.run_neq_map_nil (P:=Tryz.prog) W 158 80 3 none Tryz.underlying158
 have R0:=Below.refl (w.heap.size+1) (w.alloc (.cells #[.int .i64 (x:Int),.int .i64 (y:Int),.int .i64 (z:Int)] 80))
 have HB1:=hid b1
 clear hm hrd b1
 go_enter Tryz.func140,Tryz.ntmps140
 go_wp2
 go_loopw [31] (fun i wr=>∃ k:Nat,k≤m∧i=.int .i64 k∧Hid (NoN M (x,y,z) k)∧Hid (Below (w.heap.size+1) (w.alloc (.cells #[.int .i64 (x:Int),.int .i64 (y:Int),.int .i64 (z:Int)] 80)) wr)) (fun i _=>m - (intOf i).toNat)
 case atStart=>exact ⟨0,Nat.zero_le _,rfl,fun j hj=>absurd hj (by omega),R0⟩
 case round =>
  obtain ⟨k,hk,rfl,hno,hbl⟩:=hrel
  have hbb:=HB1.out.trans (hbl.out.mono (Nat.le_succ _))
  by_cases hlt:k<m
  ·obtain ⟨b',o',e,hb,hc⟩:=(HR.out.below hbb) (by rw [up_len,HM.out];omega)
   subst e
   obtain ⟨d1,d2,d3⟩:=hc k (by rw [up_len,HM.out];exact hlt)
   rw [iv_up] at d1
   rw [il_up] at d2
   rw [ih_up] at d3
   have x1:wr.cell? ⟨w.heap.size,0,none⟩=some (.int .i64 (x:Int)):=by rw [hbl.out.cell (p:=⟨w.heap.size,0,none⟩) (Nat.lt_succ_self _)];go_simp
   have x2:wr.cell? ⟨w.heap.size,1,none⟩=some (.int .i64 (y:Int)):=by rw [hbl.out.cell (p:=⟨w.heap.size,1,none⟩) (Nat.lt_succ_self _)];go_simp
   have x3:wr.cell? ⟨w.heap.size,2,none⟩=some (.int .i64 (z:Int)):=by rw [hbl.out.cell (p:=⟨w.heap.size,2,none⟩) (Nat.lt_succ_self _)];go_simp
   have hsz:w.heap.size<wr.heap.size:=by have:=hbl.out.size;simp at this;omega
   have hbne:¬ b'=wr.heap.size:=by have:=hbb.size;omega
   have hidx:=fun h1 h2 h3=>hno.out.idx (x:=(x,y,z)) (by rw [HM.out];exact hlt) h1 h2 h3
   have hnx:∀ hne:¬ (x=bv M k∧y=bl M k∧z=bh M k),NoN M (x,y,z) (k+1):=fun hne j hj=>by
    rcases Nat.lt_or_ge j k with h | h
    ·exact hno.out j h
    ·rw [show j=k by omega];exact hne
   have HNX:=hid hnx
   have HIDX:=hid hidx
   have hbx:=hbl.out.alloc (by omega) (.cells #[.int .i64 ((bv M k:Nat):Int),.int .i64 ((bl M k:Nat):Int),.int .i64 ((bh M k:Nat):Int)] 80)
   clear hnx hidx hc
   generalize bv M k=V at *
   generalize bl M k=L at *
   generalize bh M k=H at *
   have heq:=fun W:World=>run_eql_br W (V:Int) (L:Int) (H:Int) (x:Int) (y:Int) (z:Int)
   by_cases q:x=V∧y=L∧z=H
   ·have hq:((V:Int) == (x:Int)&&((L:Int) == (y:Int)&&(H:Int) == (z:Int)))=true:=by simp [q.1,q.2.1,q.2.2]
    obtain ⟨q1,q2⟩:=HIDX.out q.1 q.2.1 q.2.2
    have HF:Hid (fnd M (x,y,z)=k+2):=show _=_ by unfold fnd;rw [if_pos q1,q2]
    have HT:Hid (decide ((x,y,z)∈M)=true):=decide_eq_true q1
    rw [hq] at heq
    clear q hq q1 q2
    go_wp2
    go_ret2
    exact ⟨ret_nb (by rw [HF.out];rfl) HT.out.symm,HB1.out.trans (hbx.mono (Nat.le_succ _))⟩
   ·have hq:((V:Int) == (x:Int)&&((L:Int) == (y:Int)&&(H:Int) == (z:Int)))=false:=by
     rcases h:((V:Int) == (x:Int)&&((L:Int) == (y:Int)&&(H:Int) == (z:Int))) with _ | _
     ·rfl
     ·simp at h;exact absurd ⟨by omega,by omega,by omega⟩ q
    have HN:=hid (HNX.out q)
    rw [hq] at heq
    clear q hq
    go_wp2
    go_roundw
    case rel=>exact ⟨k+1,by omega,by go_num,HN,hbx⟩
    case measure=>simp [intOf];omega
  ·obtain rfl:k=m:=by omega
   have hnot:Hid ((x,y,z)∉M):=NoN.not (by rw [HM.out];exact hno.out)
   have HF:Hid (fnd M (x,y,z)=0):=show _=_ by unfold fnd;rw [if_neg hnot.out]
   have HBB:=hid hbb
   clear hbb
   go_wp2
   go_ret2
   exact ⟨ret_nb (by rw [HF.out];rfl) (decide_eq_false hnot.out).symm,HBB.out⟩
theorem find_any (base g o:Nat) (M:List Br) (v:Value) (gi:Option Nat) (x y z:Nat) (w:World) (ht:Hid (Tb w base g o M v gi)) (hx:Hid (Sm (x,y,z))) :
  Calls Tryz.prog 140 #[.pointer (some ⟨g,o,none⟩),.agg #[.int .i64 (x:Int),.int .i64 (y:Int),.int .i64 (z:Int)]] w fun e w'=>e=.returned (.tuple #[.int .i64 ((fnd M (x,y,z):Nat):Int),.bool (decide ((x,y,z)∈M))])∧Below w.heap.size w w':=by
 rcases gi with _ | b
 ·exact find_list base g o M v x y z w ht
 ·exact find_map base g o b M v x y z w ht hx
theorem Tryz.infoBr:(Tryz.prog.info? 80).map (fun i=>(i.zero,i.size,i.bytes))=some (some (.agg #[.int .i64 0,.int .i64 0,.int .i64 0]),3,24):=by kernel_rfl
structure Chg (S:Nat→Prop) (w w':World):Prop where
 os:w'.os=w.os
 tape:w'.tape=w.tape
 output:w'.output=w.output
 size:w.heap.size≤w'.heap.size
 block:∀ k,k<w.heap.size→¬ S k→w'.heap[k]? = w.heap[k]?
section
variable {S T : Nat → Prop} {a b c w w' : World} {B : Nat}
theorem Chg.refl (S:Nat→Prop) (w:World):Chg S w w:=⟨rfl,rfl,rfl,Nat.le_refl _,fun _ _ _=>rfl⟩
theorem Chg.trans (h:Chg S a b) (k:Chg T b c) (ht:∀ j,j<a.heap.size→T j→S j):Chg S a c :=
 ⟨k.os.trans h.os,k.tape.trans h.tape,k.output.trans h.output,Nat.le_trans h.size k.size,fun j hj hn=>(k.block j (Nat.lt_of_lt_of_le hj h.size) (fun e=>hn (ht j hj e))).trans (h.block j hj hn)⟩
theorem Chg.mono (h:Chg S a b) (ht:∀ j,j<a.heap.size→S j→T j):Chg T a b:=(Chg.refl T a).trans h ht
theorem Chg.of_below (h:Below a.heap.size a b):Chg S a b:=⟨h.os,h.tape,h.output,h.size,fun j hj _=>h.block j hj⟩
theorem Chg.of_grown {row:Option Nat} (h:a.grownBy b row) (hr:∀ k,row=some k→S k):Chg S a b :=
 ⟨h.os,h.tape,h.output,h.size,fun j hj hn=>h.block j hj (fun e=>hn (hr j e.symm))⟩
theorem Chg.below (h:Chg S a b) (hB:B≤a.heap.size) (hS:∀ k,k<B→¬ S k):Below B a b:=⟨h.os,h.tape,h.output,h.size,fun j hj=>h.block j (Nat.lt_of_lt_of_le hj hB) (hS j hj)⟩
theorem Chg.set (h:Chg S a b) {p:Addr} (hp:S p.block) (u:Value):Chg S a (b.setCell p u) :=
 h.trans ⟨rfl,rfl,rfl,by simp [World.setCell],fun k _ hk=>Below.heap_setCell _ _ _ _ (fun e=>hk e)⟩ (T:=fun k=>k=p.block) (fun j _ e=>e ▸ hp)
theorem Chg.cell (h:Chg S a b) {p:Addr} (hp:p.block<a.heap.size) (hn:¬ S p.block):b.cell? p=a.cell? p:=World.cell?_of_block (h.block _ hp hn)
theorem Chg.frozen (h:Chg S a b) {p:Addr} (hp:p.block<a.heap.size) (hn:¬ S p.block):b.frozen? p=a.frozen? p:=World.frozen?_of_block (h.block _ hp hn)
theorem Chg.drew (h:Chg S a b):Chg S a b.drew:=⟨h.os,h.tape,h.output,h.size,h.block⟩
theorem Chg.alloc (h:Chg S a b) (o:Obj):Chg S a (b.alloc o):=h.trans (Chg.of_below (S:=S) ((Below.refl _ _).alloc (Nat.le_refl _) o)) (fun _ _ e=>e)
end
theorem cell_set_off (w:World) (g i j:Nat) (u:Value) (h:j≠i):(w.setCell ⟨g,i,none⟩ u).cell? ⟨g,j,none⟩=w.cell? ⟨g,j,none⟩:=by
 go_simp
theorem _root_.Go.World.ownsRow.alloc_own {w:World} {base e size n:Nat} {v:Value} {xs:List Value} (h:w.ownsRow base e size v n xs) (o:Obj):(w.drew.alloc o).ownsRow base e size v n xs :=
 h.drew.kept (World.grownBy_alloc _ o none) (by rcases v.ownBlock with _ | _ <;> simp)
theorem _root_.Go.World.ownsRow.alloc_own2 {w:World} {base e size n:Nat} {v:Value} {xs:List Value} (h:w.ownsRow base e size v n xs) (o:Obj):(w.alloc o).drew.ownsRow base e size v n xs :=
 (h.kept (World.grownBy_alloc w o none) (by rcases v.ownBlock with _ | _ <;> simp)).drew
def Numd (w w':World) (base g o:Nat) (v:Value) (gi:Option Nat) (M:List Br):Prop:=∃ v' gi',Tb w' base g o M v' gi' ∧
 Chg (fun k=>k=g∨v.ownBlock=some k∨gi=some k) w w'∧(∀ j,j≠o→j≠o+1→w'.cell? ⟨g,j,none⟩=w.cell? ⟨g,j,none⟩)∧(∀ j,w'.frozen? ⟨g,j,none⟩=w.frozen? ⟨g,j,none⟩) ∧
 (∀ k,v'.ownBlock=some k→v.ownBlock=some k∨w.heap.size≤k)∧(∀ k,gi'=some k→gi=some k∨w.heap.size≤k)
theorem Tb.keep {w w':World} {base g o:Nat} {M:List Br} {v:Value} {gi:Option Nat} (h:Tb w base g o M v gi) (hb:Below w.heap.size w w'):Tb w' base g o M v gi:=by
 have hg:g<w.heap.size:=block_lt_of_cell h.cn
 have hown:w'.ownsRow base 80 3 v M.length (flat M):=h.own.kept (row:=none) ⟨hb.os,hb.tape,hb.output,hb.size,fun k hk _=>hb.block k hk⟩ (by rcases h0:v.ownBlock with _ | _ <;> simp)
 refine ⟨(hb.cell (p:=⟨g,o,none⟩) hg).trans h.cn,(hb.cell (p:=⟨g,o+1,none⟩) hg).trans h.ci,(hb.frozen (p:=⟨g,o,none⟩) hg).trans h.fn,(hb.frozen (p:=⟨g,o+1,none⟩) hg).trans h.fi,hown,?_,h.vg,h.gb⟩
 have hi:=h.idx
 rcases gi with _ | b
 ·exact hi
 ·exact ⟨hi.1,hi.2.1,hi.2.2.keep (hb.block b hi.2.2.lt)⟩
theorem numd_same {w w':World} {base g o:Nat} {M:List Br} {v:Value} {gi:Option Nat} (h:Tb w base g o M v gi) (hb:Below w.heap.size w w'):Numd w w' base g o v gi M :=
 ⟨v,gi,h.keep hb,Chg.of_below hb,fun j _ _=>hb.cell (p:=⟨g,j,none⟩) (block_lt_of_cell (a:=⟨g,o,none⟩) h.cn),fun j=>hb.frozen (p:=⟨g,j,none⟩) (block_lt_of_cell (a:=⟨g,o,none⟩) h.cn),fun _ e=>.inl e,fun _ e=>.inl e⟩
theorem number_old (base g o:Nat) (M:List Br) (v:Value) (gi:Option Nat) (x y z:Nat) (w:World) (ht:Hid (Tb w base g o M v gi)) (hx:Hid (Sm (x,y,z))) (hin:Hid ((x,y,z)∈M)) :
  Calls Tryz.prog 133 #[.pointer (some ⟨g,o,none⟩),.agg #[.int .i64 (x:Int),.int .i64 (y:Int),.int .i64 (z:Int)]] w fun e w'=>e=.returned (.int .i64 (((ins M (x,y,z)).2:Nat):Int))∧Numd w w' base g o v gi (ins M (x,y,z)).1:=by
 rw [ins_in hin.out]
 have hfn:Hid (fnd M (x,y,z)=M.idxOf (x,y,z)+2):=show _=_ by unfold fnd;rw [if_pos hin.out]
 have b1:=(Below.refl w.heap.size w).alloc (Nat.le_refl _) (.cells #[.int .i64 (x:Int),.int .i64 (y:Int),.int .i64 (z:Int)] 80)
 have hT1:Hid (Tb (w.alloc (.cells #[.int .i64 (x:Int),.int .i64 (y:Int),.int .i64 (z:Int)] 80)) base g o M v gi):=ht.out.keep b1
 have HB1:=hid b1
 clear b1
 go_enter Tryz.func133,Tryz.ntmps133
 go_wp2_with (go_at_call 140;refine (find_any base g o M v gi x y z _ hT1 hx).mono ?_;rintro e w2 ⟨rfl,hb2⟩;have HB2:=hid hb2;have ht0:=decide_eq_true hin.out;clear hb2)
 go_ret
 exact ⟨ret_i (by rw [hfn.out]),numd_same ht.out (HB1.out.trans (HB2.out.mono HB1.out.size))⟩
def c3 (x y z:Nat):List Value:=[.int .i64 (x:Int),.int .i64 (y:Int),.int .i64 (z:Int)]
structure Half (w w4:World) (base g o:Nat) (v:Value) (gi:Option Nat) (M:List Br) (x:Br) (v':Value):Prop where
 cn:w4.cell? ⟨g,o,none⟩=some v'
 ci:w4.cell? ⟨g,o+1,none⟩=some (.map gi)
 fn:w4.frozen? ⟨g,o,none⟩=false
 fi:w4.frozen? ⟨g,o+1,none⟩=false
 own:w4.ownsRow base 80 3 v' (M++[x]).length (flat (M++[x]))
 vg:v'.ownBlock≠some g
 gb:base≤g
 gl:g<w.heap.size
 idx:∀ b,gi=some b→base≤b∧b≠g∧v'.ownBlock≠some b∧b<w.heap.size∧Ix w4 b M
 chg:Chg (fun k=>k=g∨v.ownBlock=some k∨gi=some k) w w4
 cel:∀ j,j≠o→j≠o+1→w4.cell? ⟨g,j,none⟩=w.cell? ⟨g,j,none⟩
 frz:∀ j,w4.frozen? ⟨g,j,none⟩=w.frozen? ⟨g,j,none⟩
 ob:∀ k,v'.ownBlock=some k→v.ownBlock=some k∨w.heap.size≤k
theorem half_of {w w2 w3:World} {base g o n cap gn:Nat} {M:List Br} {v:Value} {gi:Option Nat} {x y z:Nat} (h:Tb w base g o M v gi) (hb2:Below w.heap.size w w2) (hn:M.length=n)
  (hown:w3.ownsRow base 80 3 (.slice (some ⟨gn,0,none⟩) (n+1) cap) (n+1) (flat M++c3 x y z)) (hgr:w2.grownBy w3 v.ownBlock) (hat:v.ownBlock=some gn∨w.heap.size≤gn) :
  Half w (w3.setCell ⟨g,o,none⟩ (.slice (some ⟨gn,0,none⟩) (n+1) cap)) base g o v gi M (x,y,z) (.slice (some ⟨gn,0,none⟩) (n+1) cap):=by
 have hg:g<w.heap.size:=block_lt_of_cell (a:=⟨g,o,none⟩) h.cn
 have hgn:gn≠g:=by
  rcases hat with e | e
  ·exact fun e2=>h.vg (by rw [e,e2])
  ·omega
 have far:∀ a:Addr,a.block<w.heap.size→some a.block≠v.ownBlock→w3.cell? a=w.cell? a∧w3.frozen? a=w.frozen? a:=fun a ha hne =>
  ⟨(hgr.cell_far a (Nat.lt_of_lt_of_le ha hb2.size) hne).trans (hb2.cell ha),(hgr.frozen_far a (Nat.lt_of_lt_of_le ha hb2.size) hne).trans (hb2.frozen ha)⟩
 have fg:=fun j=>far ⟨g,j,none⟩ hg (Ne.symm h.vg)
 have hset:=grown_set w3 g o (.slice (some ⟨gn,0,none⟩) (n+1) cap)
 have ix:∀ b,gi=some b→base≤b∧b≠g∧gn≠b∧b<w.heap.size∧Ix (w3.setCell ⟨g,o,none⟩ (.slice (some ⟨gn,0,none⟩) (n+1) cap)) b M:=by
  intro b e
  subst e
  obtain ⟨i1,i2,i3⟩:=h.idx
  have hvb:v.ownBlock≠some b:=by
   intro e2
   obtain ⟨n',D,⟨es,clock,hb,_⟩,_⟩:=i3
   rcases h.own.2 with ⟨rfl,_⟩ | ⟨g',cap',cur,rfl,_,hh,_⟩
   ·simp [Value.ownBlock] at e2
   ·simp [Value.ownBlock] at e2
    rw [e2,hb] at hh
    simp at hh
  refine ⟨i1,i2,?_,i3.lt,i3.keep ?_⟩
  ·rcases hat with e3 | e3
   ·exact fun e4=>hvb (by rw [e3,e4])
   ·have:=i3.lt;omega
  ·rw [Below.heap_setCell _ _ _ _ (by exact i2),hgr.block b (Nat.lt_of_lt_of_le i3.lt hb2.size) (Ne.symm hvb),hb2.block b i3.lt]
 refine ⟨World.cell?_setCell_same _ _ _ ((fg o).1.trans h.cn),?_,?_,?_,?_,?_,h.gb,hg,?_,?_,?_,?_,?_⟩
 ·rw [cell_set_off _ _ _ _ _ (by omega)];exact (fg (o+1)).1.trans h.ci
 ·rw [World.frozen?_setCell];exact (fg o).2.trans h.fn
 ·rw [World.frozen?_setCell];exact (fg (o+1)).2.trans h.fi
 ·rw [flat_snoc,List.length_append,hn]
  exact hown.kept hset (.inr (by simp [Value.ownBlock,hgn]))
 ·simp [Value.ownBlock,hgn]
 ·intro b e
  obtain ⟨i1,i2,i3,i4,i5⟩:=ix b e
  exact ⟨i1,i2,by simp [Value.ownBlock,i3],i4,i5⟩
 ·refine Chg.set ((Chg.of_below hb2).trans (T:=fun k=>v.ownBlock=some k) (Chg.of_grown hgr (fun k e=>e)) (fun j _ e=>.inr (.inl e))) (.inl rfl) _
 ·intro j h1 _
  rw [cell_set_off _ _ _ _ _ h1];exact (fg j).1
 ·intro j
  rw [World.frozen?_setCell];exact (fg j).2
 ·intro k e
  simp [Value.ownBlock] at e
  subst e
  exact hat
theorem below_in {w w1 w2:World} (h1:Below w.heap.size w w1) (h2:Below w1.heap.size w1 w2) (o:Obj):Below w.heap.size w (w2.alloc o).drew :=
 ((h1.trans (h2.mono h1.size)).alloc (Nat.le_trans h1.size h2.size) o).drew
theorem Half.few {w w4:World} {base g o:Nat} {v v':Value} {M:List Br} {x:Br} (h:Half w w4 base g o v none M x v') (hf:M.length<16):Numd w w4 base g o v none (M++[x]) :=
 ⟨v',none,⟨h.cn,h.ci,h.fn,h.fi,h.own,by simp;omega,h.vg,h.gb⟩,h.chg,h.cel,h.frz,h.ob,fun _ e=>.inl e⟩
theorem number_few (base g o n:Nat) (M:List Br) (v:Value) (x y z:Nat) (w:World) (ht:Hid (Tb w base g o M v none)) (hbase:base≤w.heap.size) (hx:Hid (Sm (x,y,z))) (hin:Hid ((x,y,z)∉M)) (hn:Hid (M.length=n)) (hn2:n<16) :
  Calls Tryz.prog 133 #[.pointer (some ⟨g,o,none⟩),.agg #[.int .i64 (x:Int),.int .i64 (y:Int),.int .i64 (z:Int)]] w fun e w'=>e=.returned (.int .i64 (((ins M (x,y,z)).2:Nat):Int))∧Numd w w' base g o v none (ins M (x,y,z)).1:=by
 rw [ins_not hin.out]
 have hfn:Hid (fnd M (x,y,z)=0):=show _=_ by unfold fnd;rw [if_neg hin.out]
 have b1:=(Below.refl w.heap.size w).alloc (Nat.le_refl _) (.cells #[.int .i64 (x:Int),.int .i64 (y:Int),.int .i64 (z:Int)] 80)
 have hT1:Hid (Tb (w.alloc (.cells #[.int .i64 (x:Int),.int .i64 (y:Int),.int .i64 (z:Int)] 80)) base g o M v none):=ht.out.keep b1
 have HB1:=hid b1
 clear b1
 obtain ⟨i0,hi,hz0,hz1,hz2⟩:=info_parts Tryz.infoBr
 have hvl:Hid (∃ A c,v=.slice A n c):=by
  obtain ⟨A,c,e,_⟩:=own_rd ht.out.own
  exact ⟨A,c,by rw [e,hn.out]⟩
 obtain ⟨A,cv,rfl⟩:=hvl.out
 have hvg:(Value.slice A n cv).ownBlock≠some g:=ht.out.vg
 clear hvl
 have hnn:=fun W:World=>Go.run_neq_map_nil (P:=Tryz.prog) W 158 80 3 none Tryz.underlying158
 go_enter Tryz.func133,Tryz.ntmps133
 go_wp2_with (go_at_call 140;refine (find_any base g o M (.slice A n cv) none x y z _ hT1 hx).mono ?_;rintro e w2 ⟨rfl,hb2⟩;have HB2:=hid hb2;have ht0:=decide_eq_false hin.out;have hT2:Hid (Tb w2 base g o M (.slice A n cv) none):=(hT1.out.keep hb2);have c1:=hT2.out.cn;have c2:=hT2.out.ci;have f2:=hT2.out.fi;have HO:Hid (w2.ownsRow base 80 3 (.slice A n cv) n (flat M)):=(by have:=hT2.out.own;rw [hn.out] at this;exact this);have f1:=hT2.out.fn;have x1:w2.cell? ⟨w.heap.size,0,none⟩=some (.int .i64 (x:Int)):=(by rw [hb2.cell (p:=⟨w.heap.size,0,none⟩) (by simp)];go_simp);have x2:w2.cell? ⟨w.heap.size,1,none⟩=some (.int .i64 (y:Int)):=(by rw [hb2.cell (p:=⟨w.heap.size,1,none⟩) (by simp)];go_simp);have x3:w2.cell? ⟨w.heap.size,2,none⟩=some (.int .i64 (z:Int)):=(by rw [hb2.cell (p:=⟨w.heap.size,2,none⟩) (by simp)];go_simp);have hsz:w.heap.size<w2.heap.size:=(by have:=hb2.size;simp at this;omega);have hgl:g<w2.heap.size:=(block_lt_of_cell c1);have hgne:¬ g=w2.heap.size:=(by omega);clear hb2)
 go_region_law ((refine step_append_lies _ (by rfl) _ _ _ (by rfl) base 80 i0 _ 3 24 Tryz.underlying29 hi hz0 hz1 hz2 rfl (by omega) (.slice A n cv) n (flat M) (by rfl) (by first | exact HO.out.alloc_own _ | exact HO.out.alloc_own2 _) _ _ _ (c3 x y z) (by rfl) (by rfl) (World.news_of_block (heap_alloc_new _ _)) (by simp [c3,Value.oneCell']) (by omega) (by simp only [maxLen];omega) (by omega) (by simp;omega) _ rfl ?_;intro gn cap w1 hown hgrow hat hlt;have d1:=(hgrow.cell_far ⟨g,o,none⟩ (by simp;omega) (Ne.symm hvg)).trans (show _=some (Value.slice A n cv) by go_simp);have d2:=(hgrow.cell_far ⟨g,o+1,none⟩ (by simp;omega) (Ne.symm hvg)).trans (show _=some (Value.map none) by go_simp);have e1:=(hgrow.frozen_far ⟨g,o,none⟩ (by simp;omega) (Ne.symm hvg)).trans (show _=false by go_simp)))
 all_goals
  clear c1 c2 f1 f2 x1 x2 x3
  go_wp2
  go_ret
  exact ⟨ret_i (by rw [hn.out];omega),(half_of ht.out (below_in HB1.out HB2.out _) hn.out hown hgrow (hat.imp id (fun e=>by rw [e];simp;omega))).few (by rw [hn.out];omega)⟩
def IxS (M:List Br) (D:DataW Unit):Prop:=∀ x,Sm x→Maps.has D (kb (ub x))=decide (x∈M)∧(x∈M→D.atKey (kb (ub x)) (.lit (.int .i64 0))=.lit (.int .i64 ((M.idxOf x+2:Nat):Int)))
theorem IxS.put {M:List Br} {D:DataW Unit} (h:IxS M D) (hD:IsMap D) {x:Br} (hx:Sm x) (hin:x∉M):IxS (M++[x]) (D.put (kb (ub x)) (.lit (.int .i64 ((M.length+2:Nat):Int)))):=by
 intro y hy
 by_cases e:y=x
 ·subst e
  refine ⟨by rw [has_put_same hD (kb_key (sm_i3 hx))];simp,fun _=>?_⟩
  rw [atKey_put_same hD (kb_key (sm_i3 hx)),List.idxOf_append,if_neg hin]
  simp
 ·have hne:kb (ub y)≠kb (ub x):=fun e2=>e (ub_inj (kb_inj (sm_i3 hy) (sm_i3 hx) e2))
  obtain ⟨h1,h2⟩:=h y hy
  refine ⟨by rw [has_put_other hne,h1];simp [e],fun hm=>?_⟩
  have hm':y∈M:=by
   rcases List.mem_append.1 hm with q | q
   ·exact q
   ·simp at q;exact absurd q e
  rw [atKey_put_other hne,h2 hm',List.idxOf_append,if_pos hm']
theorem Half.put {w w4 w5:World} {base g o b n:Nat} {v v':Value} {M:List Br} {x:Br} {D:DataW Unit} (h:Half w w4 base g o v (some b) M x v') (hx:Sm x) (hin:x∉M) (hD:IsMap D) (hS:IxS M D) (hn:n≤M.length)
  (hown:w5.ownsMap Tryz.prog 80 (plainElem Tryz.prog 3) b (n+1) (D.put (kb (ub x)) (.lit (.int .i64 ((M.length+2:Nat):Int))))) (hg0:w4.drew.grownBy w5 (some b)):Numd w w5 base g o v (some b) (M++[x]):=by
 obtain ⟨i1,i2,i3,i4,_⟩:=h.idx b rfl
 have hg:w4.grownBy w5 (some b):=⟨hg0.os,hg0.tape,hg0.output,hg0.size,hg0.block⟩
 have hg4:g<w4.heap.size:=block_lt_of_cell (a:=⟨g,o,none⟩) h.cn
 have hne:some g≠some b:=fun e=>i2 (Option.some.inj e).symm
 have hc:∀ j,w5.cell? ⟨g,j,none⟩=w4.cell? ⟨g,j,none⟩:=fun j=>hg.cell_far ⟨g,j,none⟩ hg4 hne
 have hf:∀ j,w5.frozen? ⟨g,j,none⟩=w4.frozen? ⟨g,j,none⟩:=fun j=>hg.frozen_far ⟨g,j,none⟩ hg4 hne
 refine ⟨v',some b,⟨(hc o).trans h.cn,(hc (o+1)).trans h.ci,(hf o).trans h.fn,(hf (o+1)).trans h.fi,h.own.kept (w':=w5) (row:=some b) hg (.inr i3),⟨i1,i2,n+1,_,hown,by simp;omega,hS.put hD hx hin⟩,h.vg,h.gb⟩,
  h.chg.trans (T:=fun k=>k=b) (Chg.of_grown hg (fun k e=>(Option.some.inj e).symm)) (fun j _ e=>.inr (.inr (by rw [e]))),fun j h1 h2=>(hc j).trans (h.cel j h1 h2),fun j=>(hf j).trans (h.frz j),h.ob,fun _ e=>.inl e⟩
theorem number_map (base g o n b:Nat) (M:List Br) (v:Value) (x y z:Nat) (w:World) (ht:Hid (Tb w base g o M v (some b))) (hbase:base≤w.heap.size) (hx:Hid (Sm (x,y,z))) (hin:Hid ((x,y,z)∉M)) (hn:Hid (M.length=n)) (hn2:n<1000000) :
  Calls Tryz.prog 133 #[.pointer (some ⟨g,o,none⟩),.agg #[.int .i64 (x:Int),.int .i64 (y:Int),.int .i64 (z:Int)]] w fun e w'=>e=.returned (.int .i64 (((ins M (x,y,z)).2:Nat):Int))∧Numd w w' base g o v (some b) (ins M (x,y,z)).1:=by
 rw [ins_not hin.out]
 have hfn:Hid (fnd M (x,y,z)=0):=show _=_ by unfold fnd;rw [if_neg hin.out]
 have b1:=(Below.refl w.heap.size w).alloc (Nat.le_refl _) (.cells #[.int .i64 (x:Int),.int .i64 (y:Int),.int .i64 (z:Int)] 80)
 have hT1:Hid (Tb (w.alloc (.cells #[.int .i64 (x:Int),.int .i64 (y:Int),.int .i64 (z:Int)] 80)) base g o M v (some b)):=ht.out.keep b1
 have HB1:=hid b1
 clear b1
 obtain ⟨i0,hi,hz0,hz1,hz2⟩:=info_parts Tryz.infoBr
 have hvl:Hid (∃ A c,v=.slice A n c):=by
  obtain ⟨A,c,e,_⟩:=own_rd ht.out.own
  exact ⟨A,c,by rw [e,hn.out]⟩
 obtain ⟨A,cv,rfl⟩:=hvl.out
 have hvg:(Value.slice A n cv).ownBlock≠some g:=ht.out.vg
 clear hvl
 have hnn:=fun W:World=>Go.run_neq_map_nil (P:=Tryz.prog) W 158 80 3 (some b) Tryz.underlying158
 go_enter Tryz.func133,Tryz.ntmps133
 go_wp2_with (go_at_call 140;refine (find_any base g o M (.slice A n cv) (some b) x y z _ hT1 hx).mono ?_;rintro e w2 ⟨rfl,hb2⟩;have HB2:=hid hb2;have ht0:=decide_eq_false hin.out;have hT2:Hid (Tb w2 base g o M (.slice A n cv) (some b)):=(hT1.out.keep hb2);have c1:=hT2.out.cn;have c2:=hT2.out.ci;have f2:=hT2.out.fi;have HO:Hid (w2.ownsRow base 80 3 (.slice A n cv) n (flat M)):=(by have:=hT2.out.own;rw [hn.out] at this;exact this);have f1:=hT2.out.fn;have x1:w2.cell? ⟨w.heap.size,0,none⟩=some (.int .i64 (x:Int)):=(by rw [hb2.cell (p:=⟨w.heap.size,0,none⟩) (by simp)];go_simp);have x2:w2.cell? ⟨w.heap.size,1,none⟩=some (.int .i64 (y:Int)):=(by rw [hb2.cell (p:=⟨w.heap.size,1,none⟩) (by simp)];go_simp);have x3:w2.cell? ⟨w.heap.size,2,none⟩=some (.int .i64 (z:Int)):=(by rw [hb2.cell (p:=⟨w.heap.size,2,none⟩) (by simp)];go_simp);have hsz:w.heap.size<w2.heap.size:=(by have:=hb2.size;simp at this;omega);have hgl:g<w2.heap.size:=(block_lt_of_cell c1);have hgne:¬ g=w2.heap.size:=(by omega);clear hb2)
 go_region_law ((refine step_append_lies _ (by rfl) _ _ _ (by rfl) base 80 i0 _ 3 24 Tryz.underlying29 hi hz0 hz1 hz2 rfl (by omega) (.slice A n cv) n (flat M) (by rfl) (by first | exact HO.out.alloc_own _ | exact HO.out.alloc_own2 _) _ _ _ (c3 x y z) (by rfl) (by rfl) (World.news_of_block (heap_alloc_new _ _)) (by simp [c3,Value.oneCell']) (by omega) (by simp only [maxLen];omega) (by omega) (by simp;omega) _ rfl ?_;intro gn cap w1 hown hgrow hat hlt;have d1:=(hgrow.cell_far ⟨g,o,none⟩ (by simp;omega) (Ne.symm hvg)).trans (show _=some (Value.slice A n cv) by go_simp);have d2:=(hgrow.cell_far ⟨g,o+1,none⟩ (by simp;omega) (Ne.symm hvg)).trans (show _=some (Value.map (some b)) by go_simp);have e1:=(hgrow.frozen_far ⟨g,o,none⟩ (by simp;omega) (Ne.symm hvg)).trans (show _=false by go_simp)))
 all_goals
  have hvw:some w.heap.size≠(Value.slice A n cv).ownBlock:=fun e=>by have:=(ht.out.own.lt w.heap.size e.symm).2;omega
  have hgw:¬ g=w.heap.size:=by have h9:g<w.heap.size:=block_lt_of_cell (a:=⟨g,o,none⟩) ht.out.cn;omega
  have y1:=(hgrow.cell_far ⟨w.heap.size,0,none⟩ (by simp;omega) hvw).trans (show _=some (Value.int .i64 (x:Int)) by go_simp)
  have y2:=(hgrow.cell_far ⟨w.heap.size,1,none⟩ (by simp;omega) hvw).trans (show _=some (Value.int .i64 (y:Int)) by go_simp)
  have y3:=(hgrow.cell_far ⟨w.heap.size,2,none⟩ (by simp;omega) hvw).trans (show _=some (Value.int .i64 (z:Int)) by go_simp)
  have hH:=half_of ht.out (below_in HB1.out HB2.out _) hn.out hown hgrow (hat.imp id (fun e=>by rw [e];simp;omega))
  have HH:=hid hH
  obtain ⟨_,_,_,_,n',D,hmap,hle,hspec⟩:=hH.idx b rfl
  have HS:Hid (IxS M D):=hspec
  have HM:=hid hmap
  have HLE:Hid (n'≤n):=by have:=hn.out;show _≤_;omega
  have hkey:keyOf Tryz.prog 80 (.agg #[.int .i64 (x:Int),.int .i64 (y:Int),.int .i64 (z:Int)])=some (kb (ub (x,y,z))):=key_i3 (sm_i3 hx.out)
  have hpe:=plainElem_int (H:=Unit) (P:=Tryz.prog) (q:=.i64) (a:=(n:Int)+2) Tryz.underlying3 (WalkArith.wf_i64 (by omega))
  have HPE:=hid hpe
  have HKEY:=hid hkey
  clear c1 c2 f1 f2 x1 x2 x3 hH hmap hspec hle hkey hpe hown hgrow hat hlt hvw
  go_wp2
  refine still_tail 6 (by kernel_rfl) (by kernel_rfl) ?_
  simp only [List.take_succ_cons,List.take_zero,List.drop_succ_cons,List.drop_zero]
  repeat still_step
  refine wpStill_nil ?_
  go_wp2_with (first
   | (at_mapUpdate;refine wpList_mapUpdate_own _ rfl _ _ _ 158 rfl 80 3 Tryz.keyed Tryz.underlying158 _ b n' D rfl HM.out.drew (by have:=HLE.out;unfold maxLen;omega) _ _ (kb (ub (x,y,z))) rfl rfl HKEY.out _ [] HPE.out ?_;intro w5 hown5 hgrow5;have HO5:=hid hown5;clear hown5))
  go_ret
  refine ⟨ret_i (by rw [hn.out];omega),HH.out.put hx.out hin.out HM.out.isMap HS.out (by have h1:=hn.out;have h2:=HLE.out;show n'≤M.length;omega) ?_ hgrow5⟩
  have h5:=HO5.out
  rw [show (n:Int)+2=((M.length+2:Nat):Int) by rw [hn.out];omega] at h5
  exact h5
theorem ixs_nil:IxS [] (.map []):=fun x _=>⟨by simp [has_eq],fun h=>absurd h (by simp)⟩
theorem IxS.step {M:List Br} {k:Nat} {D:DataW Unit} (h:IxS (M.take k) D) (hD:IsMap D) (hnd:M.Nodup) (hk:k<M.length) (hs:Sm (bv M k,bl M k,bh M k)):IxS (M.take (k+1)) (D.put (kb (ub (bv M k,bl M k,bh M k))) (.lit (.int .i64 ((k+2:Nat):Int)))):=by
 have e:M.take (k+1)=M.take k++[(bv M k,bl M k,bh M k)]:=by rw [List.take_succ_eq_append_getElem hk,br_at hk]
 have hl:(M.take k).length=k:=by rw [List.length_take];omega
 have hin:(bv M k,bl M k,bh M k)∉M.take k:=by
  have h2:=hnd.sublist (List.take_sublist (k+1) M)
  rw [e,List.nodup_append] at h2
  intro hm
  exact h2.2.2 _ hm _ (by simp) rfl
 have h3:=h.put hD hs hin
 rw [hl] at h3
 rw [e]
 exact h3
def Turn (w4:World) (g o B:Nat):World:=(w4.setCell ⟨g,o+1,none⟩ (.map (some B))).alloc (.map #[] 0)
theorem turn_heap {w4:World} {g o B k:Nat} (hk:k<w4.heap.size) (hne:k≠g):(Turn w4 g o B).heap[k]? = w4.heap[k]?:=by
 unfold Turn
 rw [Below.heap_alloc _ _ _ (by simpa [World.setCell] using hk),Below.heap_setCell _ _ _ _ (by exact hne)]
theorem turn_grown (w4:World) (g o B:Nat):w4.grownBy (Turn w4 g o B) (some g):=grown_trans (grown_set w4 g (o+1) (.map (some B))) (World.grownBy_alloc _ (.map #[] 0) (some g))
theorem turn_cell {w4:World} {g o B j:Nat} (hg:g<w4.heap.size) (hj:j≠o+1):(Turn w4 g o B).cell? ⟨g,j,none⟩=w4.cell? ⟨g,j,none⟩:=by
 unfold Turn
 rw [World.cell?_alloc_lt _ _ _ (by simpa [World.setCell] using hg),cell_set_off _ _ _ _ _ hj]
theorem turn_new {w4:World} {g o B:Nat} {u:Value} (hg:g<w4.heap.size) (hc:w4.cell? ⟨g,o+1,none⟩=some u):(Turn w4 g o B).cell? ⟨g,o+1,none⟩=some (.map (some B)):=by
 unfold Turn
 rw [World.cell?_alloc_lt _ _ _ (by simpa [World.setCell] using hg)]
 exact World.cell?_setCell_same _ _ _ hc
theorem turn_frozen {w4:World} {g o B j:Nat} (hg:g<w4.heap.size):(Turn w4 g o B).frozen? ⟨g,j,none⟩=w4.frozen? ⟨g,j,none⟩:=by
 unfold Turn
 rw [World.frozen?_alloc_old _ _ _ (by simp [World.setCell];omega),World.frozen?_setCell]
theorem Half.rd {w w4:World} {base g o n cap gn:Nat} {v:Value} {M:List Br} {x:Br} (h:Half w w4 base g o v none M x (.slice (some ⟨gn,0,none⟩) (n+1) cap)) (B:Nat):Rd (Turn w4 g o B) w4.heap.size (some ⟨gn,0,none⟩) (up (M++[x])):=by
 obtain ⟨A,c,e,_,hr⟩:=own_rd (h.own.kept (grown_set w4 g (o+1) (.map (some B))) (.inr h.vg))
 injection e with e1 e2 e3
 subst e1
 have hr2:Rd (w4.setCell ⟨g,o+1,none⟩ (.map (some B))) w4.heap.size (some ⟨gn,0,none⟩) (up (M++[x])):=hr.mono (by simp [World.setCell])
 exact hr2.keep (fun k hk=>Below.heap_alloc _ _ _ (by simpa [World.setCell] using hk))
theorem Half.turn {w w4 w5:World} {base g o B n:Nat} {v v':Value} {M:List Br} {x:Br} {D:DataW Unit} (h:Half w w4 base g o v none M x v') (hB:w4.heap.size=B) (hbase:base≤w.heap.size)
  (hb:Below B (Turn w4 g o B) w5) (hown:w5.ownsMap Tryz.prog 80 (plainElem Tryz.prog 3) B n D) (hS:IxS (M++[x]) D) (hn:n≤M.length+1):Numd w w5 base g o v none (M++[x]):=by
 subst hB
 have hg4:g<w4.heap.size:=block_lt_of_cell (a:=⟨g,o,none⟩) h.cn
 have hsz:=h.chg.size
 have hgl:=h.gl
 have hc:∀ j,j≠o+1→w5.cell? ⟨g,j,none⟩=w4.cell? ⟨g,j,none⟩:=fun j hj=>(hb.cell (p:=⟨g,j,none⟩) hg4).trans (turn_cell hg4 hj)
 have hf:∀ j,w5.frozen? ⟨g,j,none⟩=w4.frozen? ⟨g,j,none⟩:=fun j=>(hb.frozen (p:=⟨g,j,none⟩) hg4).trans (turn_frozen hg4)
 have hblk:∀ k,k<w4.heap.size→k≠g→w5.heap[k]? = w4.heap[k]?:=fun k hk hne=>(hb.block k hk).trans (turn_heap hk hne)
 have tg:=turn_grown w4 g o w4.heap.size
 have hgr:w4.grownBy w5 (some g):=⟨hb.os.trans tg.os,hb.tape.trans tg.tape,hb.output.trans tg.output,Nat.le_trans tg.size hb.size,fun k hk hne=>hblk k hk (fun e=>hne (by rw [e]))⟩
 refine ⟨v',some w4.heap.size,⟨(hc o (by omega)).trans h.cn,(hb.cell (p:=⟨g,o+1,none⟩) hg4).trans (turn_new hg4 h.ci),(hf o).trans h.fn,(hf (o+1)).trans h.fi,h.own.kept hgr (.inr h.vg),⟨by omega,by omega,n,D,hown,by simp;omega,hS⟩,h.vg,h.gb⟩,
  h.chg.trans (T:=fun k=>k=g) (Chg.of_grown hgr (fun k e=>(Option.some.inj e).symm)) (fun j _ e=>.inl e),fun j h1 h2=>(hc j h2).trans (h.cel j h1 h2),fun j=>(hf j).trans (h.frz j),h.ob,fun k e=>.inr (by have:=Option.some.inj e;omega)⟩
theorem number_turn (base g o n:Nat) (M:List Br) (v:Value) (x y z:Nat) (w:World) (ht:Hid (Tb w base g o M v none)) (hbase:base≤w.heap.size) (hx:Hid (Sm (x,y,z))) (hin:Hid ((x,y,z)∉M)) (hn:Hid (M.length=n)) (hn2:Hid (n=16)) (hnd:Hid (M.Nodup)) (hsm:Hid (∀ b∈M,Sm b)) :
  Calls Tryz.prog 133 #[.pointer (some ⟨g,o,none⟩),.agg #[.int .i64 (x:Int),.int .i64 (y:Int),.int .i64 (z:Int)]] w fun e w'=>e=.returned (.int .i64 (((ins M (x,y,z)).2:Nat):Int))∧Numd w w' base g o v none (ins M (x,y,z)).1:=by
 rw [ins_not hin.out]
 have hfn:Hid (fnd M (x,y,z)=0):=show _=_ by unfold fnd;rw [if_neg hin.out]
 have b1:=(Below.refl w.heap.size w).alloc (Nat.le_refl _) (.cells #[.int .i64 (x:Int),.int .i64 (y:Int),.int .i64 (z:Int)] 80)
 have hT1:Hid (Tb (w.alloc (.cells #[.int .i64 (x:Int),.int .i64 (y:Int),.int .i64 (z:Int)] 80)) base g o M v none):=ht.out.keep b1
 have HB1:=hid b1
 clear b1
 obtain ⟨i0,hi,hz0,hz1,hz2⟩:=info_parts Tryz.infoBr
 have hvl:Hid (∃ A c,v=.slice A n c):=by
  obtain ⟨A,c,e,_⟩:=own_rd ht.out.own
  exact ⟨A,c,by rw [e,hn.out]⟩
 obtain ⟨A,cv,rfl⟩:=hvl.out
 have hvg:(Value.slice A n cv).ownBlock≠some g:=ht.out.vg
 clear hvl
 have n1:16≤n:=by rw [hn2.out];omega
 have n2:n≤16:=by rw [hn2.out];omega
 have hmm:=@run_makeMap Tryz.prog
 have hnn:=fun W:World=>Go.run_neq_map_nil (P:=Tryz.prog) W 158 80 3 none Tryz.underlying158
 go_enter Tryz.func133,Tryz.ntmps133
 go_wp2_with (go_at_call 140;refine (find_any base g o M (.slice A n cv) none x y z _ hT1 hx).mono ?_;rintro e w2 ⟨rfl,hb2⟩;have HB2:=hid hb2;have ht0:=decide_eq_false hin.out;have hT2:Hid (Tb w2 base g o M (.slice A n cv) none):=(hT1.out.keep hb2);have c1:=hT2.out.cn;have c2:=hT2.out.ci;have f2:=hT2.out.fi;have HO:Hid (w2.ownsRow base 80 3 (.slice A n cv) n (flat M)):=(by have:=hT2.out.own;rw [hn.out] at this;exact this);have f1:=hT2.out.fn;have x1:w2.cell? ⟨w.heap.size,0,none⟩=some (.int .i64 (x:Int)):=(by rw [hb2.cell (p:=⟨w.heap.size,0,none⟩) (by simp)];go_simp);have x2:w2.cell? ⟨w.heap.size,1,none⟩=some (.int .i64 (y:Int)):=(by rw [hb2.cell (p:=⟨w.heap.size,1,none⟩) (by simp)];go_simp);have x3:w2.cell? ⟨w.heap.size,2,none⟩=some (.int .i64 (z:Int)):=(by rw [hb2.cell (p:=⟨w.heap.size,2,none⟩) (by simp)];go_simp);have hsz:w.heap.size<w2.heap.size:=(by have:=hb2.size;simp at this;omega);have hgl:g<w2.heap.size:=(block_lt_of_cell c1);have hgne:¬ g=w2.heap.size:=(by omega);clear hb2)
 go_region_law ((refine step_append_lies _ (by rfl) _ _ _ (by rfl) base 80 i0 _ 3 24 Tryz.underlying29 hi hz0 hz1 hz2 rfl (by omega) (.slice A n cv) n (flat M) (by rfl) (by first | exact HO.out.alloc_own _ | exact HO.out.alloc_own2 _) _ _ _ (c3 x y z) (by rfl) (by rfl) (World.news_of_block (heap_alloc_new _ _)) (by simp [c3,Value.oneCell']) (by omega) (by simp only [maxLen];omega) (by omega) (by simp;omega) _ rfl ?_;intro gn cap w1 hown hgrow hat hlt;have d1:=(hgrow.cell_far ⟨g,o,none⟩ (by simp;omega) (Ne.symm hvg)).trans (show _=some (Value.slice A n cv) by go_simp);have d2:=(hgrow.cell_far ⟨g,o+1,none⟩ (by simp;omega) (Ne.symm hvg)).trans (show _=some (Value.map none) by go_simp);have e1:=(hgrow.frozen_far ⟨g,o,none⟩ (by simp;omega) (Ne.symm hvg)).trans (show _=false by go_simp)))
 all_goals
  have hgl1:g<w1.heap.size:=by have:=hgrow.size;simp at this;omega
  have hgn1:¬ g=w1.heap.size:=by omega
  have e2:=(hgrow.frozen_far ⟨g,o+1,none⟩ (by simp;omega) (Ne.symm hvg)).trans (show _=false by go_simp)
  have hH:=half_of ht.out (below_in HB1.out HB2.out _) hn.out hown hgrow (hat.imp id (fun e=>by rw [e];simp;omega))
  have HH:=hid hH
  have hrd:=hH.rd w1.heap.size
  have hs4:(w1.setCell ⟨g,o,none⟩ (.slice (some ⟨gn,0,none⟩) (n+1) cap)).heap.size=w1.heap.size:=by simp [World.setCell]
  rw [hs4] at hrd
  have HS4:=hid hs4
  have HR:=hid hrd
  have hti:(Turn (w1.setCell ⟨g,o,none⟩ (.slice (some ⟨gn,0,none⟩) (n+1) cap)) g o w1.heap.size).cell? ⟨g,o+1,none⟩=some (.map (some w1.heap.size)):=turn_new (by rw [hs4];exact hgl1) hH.ci
  have HTI:=hid hti
  have O0:Hid ((Turn (w1.setCell ⟨g,o,none⟩ (.slice (some ⟨gn,0,none⟩) (n+1) cap)) g o w1.heap.size).ownsMap Tryz.prog 80 (plainElem (H:=Unit) Tryz.prog 3) w1.heap.size 0 (.map [])):=by
   have:=World.ownsMap_made ((w1.setCell ⟨g,o,none⟩ (.slice (some ⟨gn,0,none⟩) (n+1) cap)).setCell ⟨g,o+1,none⟩ (.map (some w1.heap.size))) Tryz.prog 80 (plainElem (H:=Unit) Tryz.prog 3)
   rw [show ((w1.setCell ⟨g,o,none⟩ (.slice (some ⟨gn,0,none⟩) (n+1) cap)).setCell ⟨g,o+1,none⟩ (.map (some w1.heap.size))).heap.size=w1.heap.size by simp [World.setCell]] at this
   exact this
  have HND:Hid ((M++[(x,y,z)]).Nodup):=by
   show List.Nodup _
   rw [List.nodup_append]
   exact ⟨hnd.out,by simp,fun a ha b hb e=>hin.out (by simp at hb;rw [← hb,← e];exact ha)⟩
  have HSM:Hid (∀ b∈M++[(x,y,z)],Sm b):=fun b hb=>by
   rcases List.mem_append.1 hb with q | q
   ·exact hsm.out b q
   ·simp at q;rw [q];exact hx.out
  have HL:Hid ((M++[(x,y,z)]).length=n+1):=show _=_ by simp [hn.out]
  have HBS:Hid (w1.heap.size≤(Turn (w1.setCell ⟨g,o,none⟩ (.slice (some ⟨gn,0,none⟩) (n+1) cap)) g o w1.heap.size).heap.size):=show _≤_ by simp [Turn,World.setCell]
  have HHX:Hid (M++[(x,y,z)]=M++[(x,y,z)]):=rfl
  clear c1 c2 f1 f2 x1 x2 x3 hH hown hgrow hat hlt hrd hti hs4
  go_wp2
  change Code.wp _ _ _ _ (Turn (w1.setCell ⟨g,o,none⟩ (.slice (some ⟨gn,0,none⟩) (n+1) cap)) g o w1.heap.size)
  generalize hW:Turn (w1.setCell ⟨g,o,none⟩ (.slice (some ⟨gn,0,none⟩) (n+1) cap)) g o w1.heap.size=W at *
  generalize hB:w1.heap.size=B at *
  generalize hMX:M++[(x,y,z)]=MX at *
  have HW:=hid hW
  have HB:=hid hB
  have HMX:=hid hMX
  have HB0:=hid (Below.refl B W)
  clear hW hB hMX HHX
  go_loopw [62] (fun i wr=>∃ (k:Nat) (D:DataW Unit),k≤n+1∧i=.int .i64 k∧Hid (IxS (MX.take k) D)∧Hid (wr.ownsMap Tryz.prog 80 (plainElem Tryz.prog 3) B k D)∧Hid (Below B W wr)) (fun i _=>n+1 - (intOf i).toNat)
  case atStart=>exact ⟨0,_,Nat.zero_le _,rfl,ixs_nil,O0,HB0.out⟩
  case round =>
   obtain ⟨k,D,hk,rfl,hst,hmo,hbl⟩:=hrel
   by_cases hlt:k<n+1
   ·obtain ⟨b',o',e,hb,hc⟩:=(HR.out.below hbl.out) (by rw [up_len,HL.out];omega)
    injection e with e
    injection e with e1 e2
    subst e1
    subst e2
    obtain ⟨c1,c2,c3⟩:=hc k (by rw [up_len,HL.out];exact hlt)
    rw [iv_up] at c1
    rw [il_up] at c2
    rw [ih_up] at c3
    simp only [Nat.zero_add] at c1 c2 c3
    have hkl:k<MX.length:=by rw [HL.out];exact hlt
    have hs3:Sm (bv MX k,bl MX k,bh MX k):=HSM.out _ (by rw [← br_at hkl];exact List.getElem_mem hkl)
    have hnx:=hst.out.step hmo.out.isMap HND.out hkl hs3
    have hkey:keyOf Tryz.prog 80 (.agg #[.int .i64 ((bv MX k:Nat):Int),.int .i64 ((bl MX k:Nat):Int),.int .i64 ((bh MX k:Nat):Int)])=some (kb (ub (bv MX k,bl MX k,bh MX k))):=key_i3 (sm_i3 hs3)
    have hpe:=plainElem_int (H:=Unit) (P:=Tryz.prog) (q:=.i64) (a:=(k:Int)+2) Tryz.underlying3 (WalkArith.wf_i64 (by omega))
    have hbx:=hbl.out.alloc (Nat.le_trans HBS.out hbl.out.size) (.cells #[.int .i64 ((bv MX k:Nat):Int),.int .i64 ((bl MX k:Nat):Int),.int .i64 ((bh MX k:Nat):Int)] 80)
    have ci:wr.cell? ⟨g,o+1,none⟩=some (.map (some B)):=(hbl.out.cell (p:=⟨g,o+1,none⟩) hgl1).trans HTI.out
    have hgw:g<wr.heap.size:=by have h1:=HBS.out;have h2:=hbl.out.size;omega
    have hgw2:¬ g=wr.heap.size:=by omega
    have ck:(wr.alloc (.cells #[.int .i64 ((bv MX k:Nat):Int),.int .i64 ((bl MX k:Nat):Int),.int .i64 ((bh MX k:Nat):Int)] 80)).cell? ⟨g,o+1,none⟩=some (.map (some B)):=(World.cell?_alloc_lt _ _ _ (by exact hgw)).trans ci
    have HNX:=hid hnx
    have HKEY:=hid hkey
    have HPE:=hid hpe
    have hkm:Hid (k<maxLen):=show k<maxLen by unfold maxLen;omega
    have i1:(0:Int)≤(k:Int):=by omega
    have HWR:Hid (IntKind.i64.wrap ((k:Int)+2)=(k:Int)+2):=wrap_small _ (by omega) (by omega)
    have i3:k≤100:=by omega
    have i2:(k:Int)<(n:Int)+1:=by omega
    clear d1 d2 e1 e2 hgl hgne hsz n1 n2
    clear hc hnx hkey hpe hs3 hkl
    generalize bv MX k=V at *
    generalize bl MX k=L at *
    generalize bh MX k=H at *
    go_wp2
    refine still_tail 7 (by kernel_rfl) (by kernel_rfl) ?_
    simp only [List.take_succ_cons,List.take_zero,List.drop_succ_cons,List.drop_zero]
    repeat still_step
    refine wpStill_nil ?_
    go_wp2_with (first
     | (at_mapUpdate;refine wpList_mapUpdate_own _ rfl _ _ _ 158 rfl 80 3 Tryz.keyed Tryz.underlying158 _ B k D rfl (hmo.out.alloc _).drew hkm.out _ (.int .i64 ((k:Int)+2)) (kb (ub (V,L,H))) rfl (by first | rfl | (show Value.int .i64 (IntKind.i64.wrap ((k:Int)+2))=_;rw [HWR.out])) HKEY.out _ [] HPE.out ?_;intro w5 hown5 hgrow5;have HO5:=hid hown5;clear hown5))
    go_roundw
    case rel=>exact ⟨k+1,_,by omega,by go_num,HNX.out,HO5.out,hbx.drew.grown hgrow5 (Nat.le_trans (Nat.le_trans HBS.out hbl.out.size) (by simp)) (fun j hj=>by cases hj;exact Nat.le_refl _)⟩
    case measure=>simp [intOf];omega
   ·have hke:Hid (k=n+1):=show _=_ by omega
    go_wp2
    go_ret
    refine ⟨ret_i (by rw [hn.out];omega),?_⟩
    have h1:=HW.out
    have h2:=HMX.out
    have hS:=hst.out
    rw [List.take_of_length_le (by rw [HL.out,hke.out];exact Nat.le_refl _),← h2] at hS
    exact HH.out.turn HS4.out hbase (by rw [h1];exact hbl.out) hmo.out hS (by have h3:=hn.out;have h4:=hke.out;show k≤M.length+1;omega)
theorem number_any (base g o:Nat) (M:List Br) (v:Value) (gi:Option Nat) (x y z:Nat) (w:World) (ht:Hid (Tb w base g o M v gi)) (hbase:base≤w.heap.size) (hx:Hid (Sm (x,y,z))) (hnd:Hid (M.Nodup)) (hsm:Hid (∀ b∈M,Sm b)) (hlen:M.length<1000000) :
  Calls Tryz.prog 133 #[.pointer (some ⟨g,o,none⟩),.agg #[.int .i64 (x:Int),.int .i64 (y:Int),.int .i64 (z:Int)]] w fun e w'=>e=.returned (.int .i64 (((ins M (x,y,z)).2:Nat):Int))∧Numd w w' base g o v gi (ins M (x,y,z)).1:=by
 by_cases hin:(x,y,z)∈M
 ·exact number_old base g o M v gi x y z w ht hx hin
 ·rcases gi with _ | b
  ·have h16:=ht.out.idx
   simp only at h16
   by_cases h:M.length<16
   ·exact number_few base g o M.length M v x y z w ht hbase hx hin rfl h
   ·exact number_turn base g o M.length M v x y z w ht hbase hx hin rfl (show _=_ by omega) hnd hsm
  ·exact number_map base g o M.length b M v x y z w ht hbase hx hin rfl hlen
def I32 (x:Nat):Value:=.int .i32 (x:Int)
def Ck (w:World) (L:Nat) (E:List Nat):Prop:=w.heap[L]? = some (.cells (E.map I32).toArray 21 (0,0))
theorem Ck.lt {w:World} {L:Nat} {E:List Nat} (h:Ck w L E):L<w.heap.size:=by
 rcases Nat.lt_or_ge L w.heap.size with hlt | hge
 ·exact hlt
 ·unfold Ck at h;rw [Array.getElem?_eq_none hge] at h;cases h
theorem Ck.cell {w:World} {L:Nat} {E:List Nat} (h:Ck w L E) {i:Nat} (hi:i<E.length):w.cell? ⟨L,i,none⟩=some (.int .i32 ((E.getD i 0:Nat):Int)):=by
 rw [cell_of_row w L i _ _ _ h]
 simp [I32,hi]
theorem Ck.frozen {w:World} {L:Nat} {E:List Nat} (h:Ck w L E) (i:Nat):w.frozen? ⟨L,i,none⟩=false:=frozen_of_row w L i _ _ h
theorem Ck.set_ {w:World} {L:Nat} {E:List Nat} (h:Ck w L E) (i x:Nat):Ck (w.setCell ⟨L,i,none⟩ (.int .i32 (x:Int))) L (E.set i x):=by
 have:=heap_setCell_same w L i _ _ (.int .i32 (x:Int)) h
 unfold Ck
 rw [this]
 simp [I32,List.map_set]
structure ML (w:World) (base g o n L:Nat) (E:List Nat):Prop where
 cc:w.cell? ⟨g,o,none⟩=some (.int .i64 (n:Int))
 cl:w.cell? ⟨g,o+2,none⟩=some (.slice (some ⟨L,0,none⟩) n n)
 blk:Ck w L E
 len:E.length=n
 small:∀ e∈E,e<1000000
 ne:L≠g
 bl:base≤L
theorem ret_ib {a b:Int} {x y:Bool} (h1:a=b) (h2:x=y):Ending.returned (.tuple #[.int .i64 a,.bool x])=.returned (.tuple #[.int .i64 b,.bool y]):=by rw [h1,h2]
theorem get_list (base g o n L j:Nat) (E:List Nat) (w:World) (h:Hid (ML w base g o n L E)) (hj:j<n) :
  Calls Tryz.prog 131 #[.pointer (some ⟨g,o,none⟩),.int .i64 (j:Int)] w fun e w'=>e=.returned (.tuple #[.int .i64 (((E.getD j 0:Nat):Int) - 1),.bool (decide (E.getD j 0≠0))])∧Below w.heap.size w w':=by
 have c1:=h.out.cl
 have hjE:j<E.length:=by rw [h.out.len];exact hj
 have c2:=h.out.blk.cell hjE
 have hs:E.getD j 0<1000000:=by
  rw [List.getD_eq_getElem?_getD,List.getElem?_eq_getElem hjE]
  exact h.out.small _ (List.getElem_mem hjE)
 have hnn:=fun W:World=>Go.run_neq_slice_nil (P:=Tryz.prog) W 162 21 (some ⟨L,0,none⟩) n n Tryz.underlying162
 have b1:=Below.refl w.heap.size w
 generalize E.getD j 0=x at *
 have i1:(0:Int)≤(j:Int):=by omega
 have i2:(j:Int)<(n:Int):=by omega
 have i3:(0:Int)≤(x:Int):=by omega
 have i4:(x:Int)<1000000:=by omega
 have hwx:IntKind.i64.wrap (x:Int)=(x:Int):=wrap_small _ (by omega) (by omega)
 have hx0:(((x:Int)) != 0)=decide (x≠0):=by
  rcases Nat.eq_zero_or_pos x with h0 | h0
  ·subst h0;rfl
  ·rw [decide_eq_true (show x≠0 by omega)]
   exact bne_iff_ne.2 (by omega)
 have HX0:=hid hx0
 clear hjE hx0
 go_enter Tryz.func131,Tryz.ntmps131
 go_wp2
 go_quiet (fail)
 go_wp2
 go_ret2
 exact ⟨ret_ib (by omega) HX0.out,below_drewN b1 _⟩
theorem ML.set_ {w:World} {base g o n L j r:Nat} {E:List Nat} (h:ML w base g o n L E) (hr:r<999999):ML (w.setCell ⟨L,j,none⟩ (.int .i32 ((r+1:Nat):Int))) base g o n L (E.set j (r+1)):=by
 refine ⟨?_,?_,h.blk.set_ j (r+1),by rw [List.length_set];exact h.len,fun e he=>?_,h.ne,h.bl⟩
 ·rw [World.cell?_of_block (w:=w) (Below.heap_setCell w ⟨L,j,none⟩ _ g (Ne.symm h.ne))];exact h.cc
 ·rw [World.cell?_of_block (w:=w) (Below.heap_setCell w ⟨L,j,none⟩ _ g (Ne.symm h.ne))];exact h.cl
 ·rcases List.mem_or_eq_of_mem_set he with q | q
  ·exact h.small e q
  ·omega
theorem put_list (base g o n L j r:Nat) (E:List Nat) (w:World) (h:Hid (ML w base g o n L E)) (hj:j<n) (hr:r<999999) :
  Calls Tryz.prog 134 #[.pointer (some ⟨g,o,none⟩),.int .i64 (j:Int),.int .i64 (r:Int)] w fun e w'=>e=.returned (.tuple #[])∧ML w' base g o n L (E.set j (r+1))∧Chg (fun k=>k=L) w w':=by
 have c1:=h.out.cl
 have hjE:j<E.length:=by rw [h.out.len];exact hj
 have c2:=h.out.blk.cell hjE
 have f2:=h.out.blk.frozen j
 have hnn:=fun W:World=>Go.run_neq_slice_nil (P:=Tryz.prog) W 162 21 (some ⟨L,0,none⟩) n n Tryz.underlying162
 have hen:=fun W:World=>Lib.run_eql_slice_nil (P:=Tryz.prog) W 162 21 (some ⟨L,0,none⟩) n n 0 0 Tryz.underlying162
 have HF:Hid (∀ nq,ML ((w.drewN nq).setCell ⟨L,j,none⟩ (.int .i32 ((r+1:Nat):Int))) base g o n L (E.set j (r+1))∧Chg (fun k=>k=L) w ((w.drewN nq).setCell ⟨L,j,none⟩ (.int .i32 ((r+1:Nat):Int)))):=fun nq =>
  ⟨ML.set_ (w:=w.drewN nq) ⟨h.out.cc,h.out.cl,h.out.blk,h.out.len,h.out.small,h.out.ne,h.out.bl⟩ hr,Chg.set (S:=fun k=>k=L) (a:=w) (b:=w.drewN nq) ⟨rfl,rfl,rfl,Nat.le_refl _,fun _ _ _=>rfl⟩ (p:=⟨L,j,none⟩) rfl _⟩
 generalize E.getD j 0=x at *
 have i1:(0:Int)≤(j:Int):=by omega
 have i2:(j:Int)<(n:Int):=by omega
 have hw1:IntKind.i32.wrap (r:Int)=(r:Int):=by rw [IntKind.wrap_i32];omega
 have hw2:IntKind.i32.wrap ((r:Int)+1)=(r:Int)+1:=by rw [IntKind.wrap_i32];omega
 clear hjE
 go_enter Tryz.func134,Tryz.ntmps134
 go_wp2
 go_quiet (fail)
 go_wp2
 obtain ⟨h1,h2⟩:=HF.out nq
 refine bodyPost_ret (results_none rfl _ _ _) rfl ?_
 exact ⟨rfl,h1,h2⟩
end Go.Proofs.YtpaednfinlaioaaGreatDoor
namespace Go.Proofs.YtpaednfinlaioaaGreatDoor
open Go.Lib (hid)
open Go.RowKit Dg
theorem results_cell1 {fn:Func} {p:Tmp} {ty:TypeId} (h:fn.results=#[.cell p ty]) (tmps:Array Value) (P:Program) (w:World) :
  (results fn tmps).run P w=((asAddr (tmps.getD p undef)).run P w).andThen fun a w₁=>(loadVar ty a).run P w₁:=by
 simp only [results,h]
 simp [Sem.run_bind,Result.andThen]
def cmpl (n:Nat):Nat:=if n<2 then 1 - n else n
theorem complement_any (n:Nat) (w:World) (hn:n≤1000000) :
  Calls Tryz.prog 58 #[.int .i64 (n:Int)] w fun e w'=>e=.returned (.int .i64 ((cmpl n:Nat):Int))∧w=w':=by
 unfold cmpl
 by_cases h:n<2
 ·rw [if_pos h]
  have e:Hid (((1 - n:Nat):Int)=1 - (n:Int)):=show _=_ by omega
  go_enter Tryz.func58,Tryz.ntmps58
  go_wp2
  go_ret
  exact ⟨ret_i e.out.symm,rfl⟩
 ·rw [if_neg h]
  go_enter Tryz.func58,Tryz.ntmps58
  go_wp2
  go_ret
  exact ⟨rfl,rfl⟩
theorem constant_any (b:Bool) (w:World) :
  Calls Tryz.prog 63 #[.bool b] w fun e w'=>e=.returned (.agg #[.slice none 0 0,.int .i64 (if b then 1 else 0)])∧Below w.heap.size w w':=by
 have b1:=fun x y=>(Below.refl w.heap.size w).alloc (Nat.le_refl _) (.cells #[x,y] 31)
 rcases b with _ | _
 ·go_enter Tryz.func63,Tryz.ntmps63
  go_wp2
  refine bodyPost_ret (v:=.agg #[.slice none 0 0,.int .i64 0]) ?_ rfl ⟨rfl,?_⟩
  ·rw [results_cell1 rfl]
   go_simp
  ·exact b1 _ _
 ·go_enter Tryz.func63,Tryz.ntmps63
  go_wp2
  refine bodyPost_ret (v:=.agg #[.slice none 0 0,.int .i64 1]) ?_ rfl ⟨rfl,?_⟩
  ·rw [results_cell1 rfl]
   go_simp
  ·exact b1 _ _
def DV (w:World) (v:Value) (M:List Br) (n:Nat):Prop:=∃ A c,v=.agg #[.slice A M.length c,.int .i64 (n:Int)]∧M.length≤c∧Rd w w.heap.size A (up M)∧Valid M n∧M.length≤4096
theorem DV.below {w w':World} {v:Value} {M:List Br} {n:Nat} (h:DV w v M n) (hb:Below w.heap.size w w'):DV w' v M n:=by
 obtain ⟨A,c,e,hc,hr,hv,hl⟩:=h
 exact ⟨A,c,e,hc,(hr.below hb).mono hb.size,hv,hl⟩
theorem wi_up {M:List Br} (h:Ord M) (hl:M.length≤1000000):Wi (up M):=by
 intro k hk
 rw [up_len] at hk
 obtain ⟨h1,h2,h3,_,_⟩:=h k hk
 rw [iv_up,il_up,ih_up]
 omega
def cfg (c:Nat):Cfg:=fun v=>c.testBit v
theorem bit_test {x V:Nat} (hx:x<18446744073709551616):(bits .and .u64 ((x:Int) / 2 ^ V) 1 == 0)=!(cfg x V):=by
 have e:((x:Int) / 2 ^ V)=((x / 2 ^ V:Nat):Int):=by simp
 have hlt:x / 2 ^ V<18446744073709551616:=Nat.lt_of_le_of_lt (Nat.div_le_self _ _) hx
 rw [e]
 unfold cfg
 rw [Nat.testBit_eq_decide_div_mod_eq]
 clear e
 generalize x / 2 ^ V=y at *
 rw [and_one_u64 _ (by omega) (by omega)]
 rcases Nat.mod_two_eq_zero_or_one y with h | h
 ·rw [decide_eq_false (by omega)]
  have:((y:Int) % 2)=0:=by omega
  rw [this];rfl
 ·rw [decide_eq_true h]
  have:((y:Int) % 2)=1:=by omega
  rw [this];rfl
theorem holds_ok (A:Option Addr) (c m n x:Nat) (M:List Br) (w:World) (hrd:Hid (Rd w w.heap.size A (up M))) (hv:Hid (Valid M n)) (hm:Hid (M.length=m)) (hm2:m≤4096) (hmc:m≤c) (hx:x<18446744073709551616) :
  Calls Tryz.prog 20 #[.agg #[.slice A m c,.int .i64 (n:Int)],.int .u64 (x:Int)] w fun e w'=>e=.returned (.bool (Den M n (cfg x)))∧Below w.heap.size w w':=by
 have b1:=(Below.refl w.heap.size w).alloc (Nat.le_refl _) (.cells #[.slice A m c,.int .i64 (n:Int)] 31)
 have hck:Hid (chk (up M) (n:Int)=0):=chk_ok.2 ⟨M,n,rfl,rfl,hv.out,by rw [hm.out];exact hm2⟩
 have hnl:n<m+2:=by have h1:=hv.out.lt;rw [hm.out] at h1;exact h1
 have hwi:Hid (Wi (up M)):=wi_up hv.out.good.ord (by rw [hm.out];omega)
 have hsz:Hid (∀ w2:World,Below (w.alloc (.cells #[.slice A m c,.int .i64 (n:Int)] 31)).heap.size (w.alloc (.cells #[.slice A m c,.int .i64 (n:Int)] 31)) w2→w.heap.size<w2.heap.size):=fun w2 h=>by have:=h.size;simp at this;omega
 have HB1:=hid b1
 clear b1
 go_enter Tryz.func20,Tryz.ntmps20
 go_wp2_with (go_at_call 39;refine (check_any (up M) (n:Int) m c A _ ((hrd.out.below HB1.out).mono HB1.out.size) hwi (show _=_ by rw [up_len,hm.out]) (by omega) hmc (show I64 _ from ⟨by omega,by omega⟩)).mono ?_;rintro e w2 ⟨rfl,hb2⟩;have hz:=hck.out;rw [hz];have HB2:=hid (HB1.out.trans (hb2.mono HB1.out.size));obtain ⟨d1,d2⟩:=box_cells hb2;have hsw:=hsz.out _ hb2;clear hb2 hz)
 have HW0:=hid (Below.refl w2.heap.size w2)
 have HOR:Hid (Ord M):=hv.out.good.ord
 go_loopw [5] (fun nn wr=>∃ k:Nat,k<m+2∧nn=.int .i64 k∧Hid (Den M k (cfg x)=Den M n (cfg x))∧Hid (Below w2.heap.size w2 wr)) (fun nn _=>(intOf nn).toNat)
 case atStart=>exact ⟨n,hnl,rfl,rfl,HW0.out⟩
 case round =>
  obtain ⟨k,hk,rfl,hden,hbl⟩:=hrel
  have hbb:=HB2.out.trans (hbl.out.mono HB2.out.size)
  have e1:wr.cell? ⟨w.heap.size,0,none⟩=some (Value.slice A m c):=(hbl.out.cell (p:=⟨w.heap.size,0,none⟩) hsw).trans d1
  have hsr:w.heap.size<wr.heap.size:=Nat.lt_of_lt_of_le hsw hbl.out.size
  by_cases h2:2≤k
  ·obtain ⟨kk,rfl⟩:∃ kk,k=kk+2:=⟨k - 2,by omega⟩
   have hkm:kk<m:=by omega
   obtain ⟨b',o',e,hb,hc⟩:=(hrd.out.below hbb) (by rw [up_len,hm.out];omega)
   subst e
   obtain ⟨g1,g2,g3⟩:=hc kk (by rw [up_len,hm.out];exact hkm)
   rw [iv_up] at g1
   rw [il_up] at g2
   rw [ih_up] at g3
   obtain ⟨q1,q2,q3,_,_⟩:=HOR.out kk (by rw [hm.out];exact hkm)
   have HST:=hid (Den_br HOR.out (k:=kk) (by rw [hm.out];exact hkm) (cfg x))
   have hbx:=hbl.out.alloc hbl.out.size (.cells #[.int .i64 ((bv M kk:Nat):Int),.int .i64 ((bl M kk:Nat):Int),.int .i64 ((bh M kk:Nat):Int)] 80)
   clear hc h2
   generalize bv M kk=V at *
   generalize bl M kk=L at *
   generalize bh M kk=H at *
   have hbne:¬ b'=wr.heap.size:=by have:=hbb.size;omega
   have i1:(0:Int)≤(V:Int):=by omega
   have HQ2:Hid (L<kk+2∧H<kk+2):=⟨q2,q3⟩
   rcases qb:cfg x V with _ | _
   ·have hbt:(bits .and .u64 ((x:Int) / 2 ^ V) 1 == 0)=true:=by rw [bit_test hx,qb];rfl
    have HD:Hid (Den M L (cfg x)=Den M n (cfg x)):=by show _=_;rw [← hden.out,HST.out,qb];rfl
    clear qb
    go_wp2
    go_roundw
    case rel=>exact ⟨L,by omega,rfl,HD,hbx⟩
    case measure=>simp [intOf];omega
   ·have hbt:(bits .and .u64 ((x:Int) / 2 ^ V) 1 == 0)=false:=by rw [bit_test hx,qb];rfl
    have HD:Hid (Den M H (cfg x)=Den M n (cfg x)):=by show _=_;rw [← hden.out,HST.out,qb];rfl
    clear qb
    go_wp2
    go_roundw
    case rel=>exact ⟨H,by omega,rfl,HD,hbx⟩
    case measure=>simp [intOf];omega
  ·have HK:Hid (Den M k (cfg x)=((k:Int) == 1)):=by
    show _=_
    rcases Nat.lt_or_ge k 1 with h | h
    ·obtain rfl:k=0:=by omega
     rw [Den_zero];rfl
    ·obtain rfl:k=1:=by omega
     rw [Den_one];rfl
   have HBB:=hid hbb
   clear hbb
   go_wp2
   go_ret
   exact ⟨ret_bool (by rw [← hden.out,HK.out]),HBB.out⟩
structure DA where
 A:Option Addr
 m:Nat
 c:Nat
 l:List Bi
 r:Int
structure DOk (w:World) (d:DA):Prop where
 rd:Rd w w.heap.size d.A d.l
 wi:Wi d.l
 len:d.l.length=d.m
 lm:d.m≤9223372036854775800
 mc:d.m≤d.c
 ri:I64 d.r
theorem DOk.below {w w':World} {d:DA} (h:DOk w d) (hb:Below w.heap.size w w'):DOk w' d:=⟨(h.rd.below hb).mono hb.size,h.wi,h.len,h.lm,h.mc,h.ri⟩
def chkAll:List DA→Int
 | []=>0
 | d::ds=>if chk d.l d.r=0 then chkAll ds else chk d.l d.r
theorem chkAll_ok {ds:List DA} (h:∀ d∈ds,chk d.l d.r=0):chkAll ds=0:=by
 induction ds with
 | nil=>rfl
 | cons d ds ih=>unfold chkAll;rw [if_pos (h d (by simp))];exact ih (fun e he=>h e (by simp [he]))
theorem chkAll_at {ds:List DA} {k:Nat} (hk:k<ds.length) (h:∀ j (hj:j<k),chk (ds[j]'(by omega)).l (ds[j]'(by omega)).r=0) (hne:chk ds[k].l ds[k].r≠0):chkAll ds=chk ds[k].l ds[k].r:=by
 induction ds generalizing k with
 | nil=>simp at hk
 | cons d ds ih =>
   unfold chkAll
   rcases k with _ | k
   ·simp at hne ⊢;intro h0;exact absurd h0 hne
   ·have h0:=h 0 (by omega)
    simp at h0
    rw [if_pos h0]
    simp at hne ⊢
    exact ih (by simpa using hk) (fun j hj=>by have:=h (j+1) (by omega);simpa using this) hne
theorem checkAll_any (b n c:Nat) (ds:List DA) (w:World) (hn:Hid (ds.length=n)) (hn2:n≤1000) (hb:b<w.heap.size) (hd:Hid (∀ d∈ds,DOk w d))
  (hc:Hid (∀ k (hk:k<ds.length),w.cell? ⟨b,k*2,none⟩=some (.slice ds[k].A ds[k].m ds[k].c)∧w.cell? ⟨b,k*2+1,none⟩=some (.int .i64 ds[k].r))) :
  Calls Tryz.prog 94 #[.slice (some ⟨b,0,none⟩) n c] w fun e w'=>e=.returned (.int .i64 (chkAll ds))∧Below w.heap.size w w':=by
 have HW0:=hid (Below.refl w.heap.size w)
 go_enter Tryz.func94,Tryz.ntmps94
 go_wp2
 go_loopw [8] (fun i wr=>∃ k:Nat,k≤n∧i=.int .i64 k∧Hid (∀ j (hj:j<k) (hl:j<ds.length),chk ds[j].l ds[j].r=0)∧Hid (Below w.heap.size w wr)) (fun i _=>n - (intOf i).toNat)
 case atStart=>exact ⟨0,Nat.zero_le _,rfl,fun j hj=>absurd hj (by omega),HW0.out⟩
 case round =>
  obtain ⟨k,hk,rfl,hz,hbl⟩:=hrel
  by_cases hlt:k<n
  ·have hkl:k<ds.length:=by rw [hn.out];exact hlt
   obtain ⟨c1,c2⟩:=hc.out k hkl
   have e1:=(hbl.out.cell (p:=⟨b,k*2,none⟩) hb).trans c1
   have e2:=(hbl.out.cell (p:=⟨b,k*2+1,none⟩) hb).trans c2
   have hok:=(hd.out ds[k] (List.getElem_mem hkl)).below hbl.out
   have hat:=chkAll_at hkl (fun j hj=>hz.out j hj (by omega))
   have hnx:chk ds[k].l ds[k].r=0→∀ j (hj:j<k+1) (hl:j<ds.length),chk ds[j].l ds[j].r=0:=fun h j hj hl=>by
    rcases Nat.lt_or_ge j k with q | q
    ·exact hz.out j q hl
    ·obtain rfl:j=k:=by omega
     exact h
   generalize ds[k]=d at *
   obtain ⟨A,m,cc,l,r⟩:=d
   simp only at e1 e2 hat hnx
   have hb1:=hbl.out.alloc hbl.out.size (.cells #[.slice A m cc,.int .i64 r] 31)
   have hok1:DOk (wr.alloc (.cells #[.slice A m cc,.int .i64 r] 31)) ⟨A,m,cc,l,r⟩:=hok.below ((Below.refl _ _).alloc (Nat.le_refl _) _)
   have HOK:=hid hok1
   have HAT:=hid hat
   have HNX:=hid hnx
   have HB1:=hid hb1
   have i1:(0:Int)≤(k:Int):=by omega
   have i2:(k:Int)<(n:Int):=by omega
   have hsz:Hid (∀ w2:World,Below (wr.alloc (.cells #[.slice A m cc,.int .i64 r] 31)).heap.size (wr.alloc (.cells #[.slice A m cc,.int .i64 r] 31)) w2→Below w.heap.size w w2):=fun w2 h=>HB1.out.trans (h.mono HB1.out.size)
   clear c1 c2 hok hok1 hat hnx hb1 hkl
   generalize hq:chk l r=q at *
   have K:Hid (Calls Tryz.prog 39 #[.agg #[.slice A m cc,.int .i64 r]] (wr.alloc (.cells #[.slice A m cc,.int .i64 r] 31)) fun e w'=>e=.returned (.int .i64 q)∧Below (wr.alloc (.cells #[.slice A m cc,.int .i64 r] 31)).heap.size (wr.alloc (.cells #[.slice A m cc,.int .i64 r] 31)) w'):=by
    have:=check_any l r m cc A _ HOK.out.rd HOK.out.wi HOK.out.len HOK.out.lm HOK.out.mc HOK.out.ri
    rw [hq] at this
    exact this
   clear hq
   by_cases q0:q=0
   ·subst q0
    have HN1:=hid (HNX.out rfl)
    clear HNX
    go_wp2_with (go_at_call 39;refine K.out.mono ?_;rintro e w2 ⟨rfl,hb2⟩;have hb3:=hsz.out _ hb2;clear hb2)
    go_roundw
    case rel=>exact ⟨k+1,by omega,by go_num,HN1.out,hb3⟩
    case measure=>simp [intOf];omega
   ·have HE:=hid (HAT.out q0)
    go_wp2_with (go_at_call 39;refine K.out.mono ?_;rintro e w2 ⟨rfl,hb2⟩;have hb3:=hsz.out _ hb2;clear hb2)
    go_ret
    exact ⟨ret_i HE.out.symm,hb3⟩
  ·have hall:Hid (chkAll ds=0):=chkAll_ok (fun d hd2=>by
    obtain ⟨j,hj,e⟩:=List.getElem_of_mem hd2
    rw [← e]
    exact hz.out j (by have:=hn.out;omega) hj)
   go_wp2
   go_ret
   exact ⟨ret_i hall.out.symm,hbl.out⟩
theorem run_neq_br (w:World) (a b c x y z:Int) :
  (binOp .neq 80 (.agg #[.int .i64 a,.int .i64 b,.int .i64 c]) (.agg #[.int .i64 x,.int .i64 y,.int .i64 z])).run Tryz.prog w=.ok (.bool (!(a == x&&(b == y&&c == z)))) w:=by
 have h:=run_eql_br w a b c x y z
 have hf:Tryz.prog.underlying 80=some (.struct (Tryz.prog.fieldsOf 80)):=by kernel_rfl
 rw [run_eql_struct] at h
 rw [run_neq_struct]
 rcases hh:(Op.equalIn 10000 80 (.agg #[.int .i64 a,.int .i64 b,.int .i64 c]) (.agg #[.int .i64 x,.int .i64 y,.int .i64 z])).run Tryz.prog w with _ | _ <;> rw [hh] at h <;> simp [Result.andThen] at h ⊢
 simp [h]
def EqTo (l l':List Bi) (k:Nat):Prop:=∀ j,j<k→iv l j=iv l' j∧il l j=il l' j∧ih l j=ih l' j
theorem EqTo.all {l l':List Bi} (hl:l.length=l'.length) (h:EqTo l l' l.length):l=l':=by
 apply List.ext_getElem hl
 intro k h1 h2
 rw [bi_at h1,bi_at h2]
 obtain ⟨e1,e2,e3⟩:=h k h1
 rw [e1,e2,e3]
theorem equal_same (A A':Option Addr) (c c' n:Nat) (l l':List Bi) (w:World) (hl:Hid (l.length=n)) (hl':Hid (l'.length=n)) (hn:n≤9223372036854775800) (hr:Hid (Rd w w.heap.size A l)) (hr':Hid (Rd w w.heap.size A' l')) :
  Calls Tryz.prog 50 #[.slice A n c,.slice A' n c'] w fun e w'=>e=.returned (.bool (decide (l=l')))∧Below w.heap.size w w':=by
 have hb0:=Below.refl w.heap.size w
 go_enter Tryz.func50,Tryz.ntmps50
 go_wp2
 go_loopw [13] (fun i wr=>∃ k m:Nat,k≤n∧i=.int .i64 k∧Hid (EqTo l l' k)∧wr=w.drewN m) (fun i _=>n - (intOf i).toNat)
 case atStart=>exact ⟨0,0,Nat.zero_le _,rfl,fun j hj=>absurd hj (by omega),rfl⟩
 case round =>
  obtain ⟨k,m,hk,rfl,hno,rfl⟩:=hrel
  by_cases hlt:k<n
  ·obtain ⟨b,o,e,hb,hc⟩:=hr.out (by rw [hl.out];omega)
   obtain ⟨b',o',e',hb',hc'⟩:=hr'.out (by rw [hl'.out];omega)
   subst e
   subst e'
   obtain ⟨c1,c2,c3⟩:=hc k (by rw [hl.out];exact hlt)
   obtain ⟨d1,d2,d3⟩:=hc' k (by rw [hl'.out];exact hlt)
   have hnx:iv l k=iv l' k∧il l k=il l' k∧ih l k=ih l' k→EqTo l l' (k+1):=fun he j hj=>by
    rcases Nat.lt_or_ge j k with h | h
    ·exact hno.out j h
    ·rw [show j=k by omega];exact he
   have hne:¬ (iv l k=iv l' k∧il l k=il l' k∧ih l k=ih l' k)→l≠l':=fun h e=>h (by rw [e];exact ⟨rfl,rfl,rfl⟩)
   have HNX:=hid hnx
   have HNE:=hid hne
   clear hnx hne hc hc'
   generalize iv l k=V at *
   generalize il l k=L at *
   generalize ih l k=H at *
   generalize iv l' k=V' at *
   generalize il l' k=L' at *
   generalize ih l' k=H' at *
   have i1:(0:Int)≤(k:Int):=by omega
   have i2:(k:Int)<(n:Int):=by omega
   have heq:=fun W:World=>run_neq_br W V L H V' L' H'
   by_cases q:V=V'∧L=L'∧H=H'
   ·have hq:(V == V'&&(L == L'&&H == H'))=true:=by simp [q.1,q.2.1,q.2.2]
    have HN:=hid (HNX.out q)
    rw [hq] at heq
    clear q hq HNX HNE
    go_wp2
    go_quiet (fail)
    go_wp2
    go_roundw
    case rel=>exact ⟨k+1,_,by omega,by go_num,HN,rfl⟩
    case measure=>simp [intOf];omega
   ·have hq:(V == V'&&(L == L'&&H == H'))=false:=by
     rcases h:(V == V'&&(L == L'&&H == H')) with _ | _
     ·rfl
     ·simp at h;exact absurd h q
    have HN:=hid (HNE.out q)
    rw [hq] at heq
    clear q hq HNX HNE
    go_wp2
    go_quiet (fail)
    go_wp2
    go_ret
    exact ⟨ret_bool (decide_eq_false HN.out).symm,below_drewN (below_drewN hb0 _) _⟩
  ·obtain rfl:k=n:=by omega
   have hy:Hid (l=l'):=EqTo.all (hl.out.trans hl'.out.symm) (by rw [hl.out];exact hno.out)
   go_wp2
   go_ret
   exact ⟨ret_bool (decide_eq_true hy.out).symm,below_drewN hb0 _⟩
theorem equal_any (A A':Option Addr) (c c' n n':Nat) (l l':List Bi) (w:World) (hl:Hid (l.length=n)) (hl':Hid (l'.length=n')) (hn:n≤9223372036854775800) (hr:Hid (Rd w w.heap.size A l)) (hr':Hid (Rd w w.heap.size A' l')) :
  Calls Tryz.prog 50 #[.slice A n c,.slice A' n' c'] w fun e w'=>e=.returned (.bool (decide (l=l')))∧Below w.heap.size w w':=by
 by_cases h:n=n'
 ·subst h
  exact equal_same A A' c c' n l l' w hl hl' hn hr hr'
 ·have hne:Hid (l≠l'):=fun e=>h (by rw [← hl.out,← hl'.out,e])
  have hd:((n:Int) != (n':Int))=true:=bne_iff_ne.2 (by omega)
  have hd2:¬ ((n:Int)=(n':Int)):=by omega
  have hb0:=Below.refl w.heap.size w
  go_enter Tryz.func50,Tryz.ntmps50
  go_wp2
  go_ret
  exact ⟨ret_bool (decide_eq_false hne.out).symm,hb0⟩
theorem same_any (A A':Option Addr) (c c' n n':Nat) (l l':List Bi) (r r':Int) (w:World) (hl:Hid (l.length=n)) (hl':Hid (l'.length=n')) (hn:n≤9223372036854775800) (hr:Hid (Rd w w.heap.size A l)) (hr':Hid (Rd w w.heap.size A' l')) :
  Calls Tryz.prog 22 #[.agg #[.slice A n c,.int .i64 r],.agg #[.slice A' n' c',.int .i64 r']] w fun e w'=>e=.returned (.bool (decide (r=r')&&decide (l=l')))∧Below w.heap.size w w':=by
 have b1:=((Below.refl w.heap.size w).alloc (Nat.le_refl _) (.cells #[.slice A n c,.int .i64 r] 31)).alloc (by simp) (.cells #[.slice A' n' c',.int .i64 r'] 31)
 have HR:=hid ((hr.out.below b1).mono b1.size)
 have HR':=hid ((hr'.out.below b1).mono b1.size)
 have HB1:=hid b1
 clear b1
 by_cases q:r=r'
 ·have hq:(r == r')=true:=by simp [q]
  have HQ:Hid (decide (r=r')=true):=decide_eq_true q
  clear q
  go_enter Tryz.func22,Tryz.ntmps22
  go_wp2_with (go_at_call 50;refine (equal_any A A' c c' n n' l l' _ hl hl' hn HR HR').mono ?_;rintro e w2 ⟨rfl,hb2⟩;have hb3:=HB1.out.trans (hb2.mono HB1.out.size);clear hb2)
  go_ret
  exact ⟨ret_bool (by rw [HQ.out];simp),hb3⟩
 ·have hq:(r == r')=false:=by simp [q]
  have HQ:Hid (decide (r=r')=false):=decide_eq_false q
  clear q
  go_enter Tryz.func22,Tryz.ntmps22
  go_wp2
  go_ret
  exact ⟨ret_bool (by rw [HQ.out];simp),HB1.out⟩
end Go.Proofs.YtpaednfinlaioaaGreatDoor
namespace Go.Proofs.YtpaednfinlaioaaGreatDoor
open Go.Lib (hid)
open Go.RowKit Dg Go.Maps
theorem Tryz.infoI32:(Tryz.prog.info? 21).map (fun i=>(i.zero,i.size,i.bytes))=some (some (.int .i32 0),1,4):=by kernel_rfl
theorem madeCells_I (n:Nat):madeCells #[Value.int .i32 0] n=((List.replicate n 0).map I32).toArray:=by
 apply Array.ext'
 rw [toList_madeCells_one]
 simp [I32]
theorem new_list (n:Nat) (w:World) (hn:n≤4096) :
  Calls Tryz.prog 123 #[.int .i64 (n:Int)] w fun e w'=>∃ L,e=.returned (.agg #[.int .i64 (n:Int),.map none,.slice (some ⟨L,0,none⟩) n n])∧w.heap.size≤L∧Ck w' L (List.replicate n 0)∧Below w.heap.size w w':=by
 obtain ⟨i0,hi,hz0,hz1,hz2⟩:=info_parts Tryz.infoI32
 have b1:=fun x y z=>(Below.refl w.heap.size w).alloc (Nat.le_refl _) (.cells #[x,y,z] 164)
 go_enter Tryz.func123,Tryz.ntmps123
 go_wp2_with (refine wpList_make_row _ rfl _ _ _ rfl 21 i0 _ Tryz.underlying162 hi hz0 hz1 rfl .i64 .i64 n rfl rfl (by rw [hz2];omega) (by omega) ?_)
 refine bodyPost_ret (v:=.agg #[.int .i64 (n:Int),.map none,.slice (some ⟨w.heap.size+1,0,none⟩) n n]) ?_ rfl ⟨w.heap.size+1,rfl,by omega,?_,?_⟩
 ·rw [results_cell1 rfl]
  go_simp
 ·unfold Ck
  rw [madeCells_I]
  have h:=heap_alloc_new (w.alloc (.cells #[.int .i64 (n:Int),.map none,.slice (some ⟨w.heap.size+1,0,none⟩) n n] 164)) (.cells ((List.replicate n 0).map I32).toArray 21)
  simpa using h
 ·exact (b1 _ _ _).alloc (by simp) _
end Go.Proofs.YtpaednfinlaioaaGreatDoor
namespace Go.Proofs.YtpaednfinlaioaaGreatDoor
open Go.Lib (hid)
open Go.RowKit Dg St
def Op3 (f:Nat) (T:Nat):Prop:=(∀ (args:Array Value) (w:World),Sem.run Tryz.prog (callFunc f args) w=.ok (.enter f args) w)∧∀ (p q r:Bool) (w:World),Calls Tryz.prog f #[.bool p,.bool q,.bool r] w fun e w'=>e=.returned (.bool (tt T p q r))∧w=w'
theorem and_op:Op3 55 136:=by
 refine ⟨fun args w=>by go_simp,?_⟩
 intro p q r w
 cases p <;> cases q <;> cases r <;>
 ·go_enter Tryz.func55,Tryz.ntmps55
  go_wp2
  go_ret
  exact ⟨ret_bool (by rfl),rfl⟩
theorem or_op:Op3 56 238:=by
 refine ⟨fun args w=>by go_simp,?_⟩
 intro p q r w
 cases p <;> cases q <;> cases r <;>
 ·go_enter Tryz.func56,Tryz.ntmps56
  go_wp2
  go_ret
  exact ⟨ret_bool (by rfl),rfl⟩
theorem row_bits:∀ k:Nat,k<8→(bits .and .i64 (k:Int) 1 != 0)=k.testBit 0∧(bits .and .i64 (k:Int) 2 != 0)=k.testBit 1∧(bits .and .i64 (k:Int) 4 != 0)=k.testBit 2:=by decide +kernel
theorem ret_u8 {a b:Int} (h:a=b):Ending.returned (.int .u8 a)=.returned (.int .u8 b):=by rw [h]
theorem row_num:∀ k:Nat,k<8→(k.testBit 0).toNat+2*(k.testBit 1).toNat+4*(k.testBit 2).toNat=k:=by decide +kernel
theorem tstep0:∀ T:Nat,T<256→∀ k:Nat,k<8→T.testBit k=false→T % 2 ^ (k+1)=T % 2 ^ k:=by decide +kernel
theorem tstep1:∀ T:Nat,T<256→∀ k:Nat,k<8→T.testBit k=true→bits .or .u8 ((T % 2 ^ k:Nat):Int) ((2:Int) ^ k % 256)=((T % 2 ^ (k+1):Nat):Int):=by decide +kernel
theorem truth_any (f T:Nat) (hT:Hid (T<256)) (hf:Hid (Op3 f T)) (w:World) :
  Calls Tryz.prog 122 #[.func (.func f) #[] #[]] w fun e w'=>e=.returned (.int .u8 (T:Int))∧w=w':=by
 go_enter Tryz.func122,Tryz.ntmps122
 go_wp2
 go_loopw [3,5] (fun s i wr=>∃ k z:Nat,k≤8∧i=.int .i64 k∧s=.int .u8 (z:Int)∧Hid (z=T % 2 ^ k)∧w=wr) (fun _ i _=>8 - (intOf i).toNat)
 case atStart=>exact ⟨0,0,by omega,rfl,rfl,by show _=_;simp [Nat.mod_one],rfl⟩
 case round =>
  obtain ⟨k,z,hk,rfl,rfl,hz,rfl⟩:=hrel
  by_cases hlt:k<8
  ·obtain ⟨h0,h1,h2⟩:=row_bits k hlt
   have hn:T.testBit k=tt T (k.testBit 0) (k.testBit 1) (k.testBit 2):=by unfold tt;rw [row_num k hlt]
   have hs0:=fun hb=>tstep0 T hT.out k hlt (hn.trans hb)
   have hs1:=fun hb=>tstep1 T hT.out k hlt (hn.trans hb)
   rw [← hz.out] at hs0 hs1
   have HS0:=hid hs0
   have HS1:=hid hs1
   clear hn hs0 hs1
   generalize k.testBit 0=p at *
   generalize k.testBit 1=q at *
   generalize k.testBit 2=r at *
   have hc:=hf.out.2 p q r w
   have hcf:=hf.out.1
   generalize hb:tt T p q r=b at *
   cases b
   ·have HZ:Hid (z=T % 2 ^ (k+1)):=(HS0.out rfl).symm
    clear hb HS0 HS1
    go_wp2_with (refine hc.mono ?_;rintro e w2 ⟨rfl,rfl⟩)
    go_roundw
    case rel=>exact ⟨k+1,z,by omega,by go_num,rfl,HZ,by trivial⟩
    case measure=>simp [intOf];omega
   ·have HZ:=hid (HS1.out rfl)
    clear hb HS0 HS1
    go_wp2_with (refine hc.mono ?_;rintro e w2 ⟨rfl,rfl⟩)
    go_roundw
    case rel=>exact ⟨k+1,T % 2 ^ (k+1),by omega,by go_num,by rw [← HZ.out],rfl,by trivial⟩
    case measure=>simp [intOf];omega
  ·obtain rfl:k=8:=by omega
   have HZ:Hid (z=T):=hz.out.trans (Nat.mod_eq_of_lt hT.out)
   go_wp2
   go_ret
   exact ⟨ret_u8 (congrArg (fun n:Nat=>(n:Int)) HZ.out),rfl⟩
end Go.Proofs.YtpaednfinlaioaaGreatDoor
namespace Go.Proofs.YtpaednfinlaioaaGreatDoor
open Go.Lib (hid)
open Go.RowKit Dg Go.Maps
theorem own_below {w w':World} {base e size n:Nat} {v:Value} {xs:List Value} (h:w.ownsRow base e size v n xs) (hb:Below w.heap.size w w'):w'.ownsRow base e size v n xs :=
 h.kept (row:=none) ⟨hb.os,hb.tape,hb.output,hb.size,fun k hk _=>hb.block k hk⟩ (by rcases h0:v.ownBlock with _ | _ <;> simp)
def unq (M:List Br) (b:Br):List Br × Nat:=if b.2.1=b.2.2 then (M,b.2.1) else ins M b
theorem unq_eq {M:List Br} {x y:Nat}:unq M (x,y,y)=(M,y):=if_pos rfl
theorem unq_ne {M:List Br} {x y z:Nat} (h:y≠z):unq M (x,y,z)=ins M (x,y,z):=if_neg h
def Unq (w w':World) (base:Nat) (v:Value) (M:List Br) (r:Nat) (e:Ending):Prop:=∃ v',e=.returned (.tuple #[v',.int .i64 (r:Int)])∧w'.ownsRow base 80 3 v' M.length (flat M) ∧
 Chg (fun k=>v.ownBlock=some k) w w'∧(∀ k,v'.ownBlock=some k→v.ownBlock=some k∨w.heap.size≤k)
theorem Unq.same {w w':World} {base:Nat} {v:Value} {M:List Br} {r:Nat} (h:w.ownsRow base 80 3 v M.length (flat M)) (hb:Below w.heap.size w w'):Unq w w' base v M r (.returned (.tuple #[v,.int .i64 (r:Int)])) :=
 ⟨v,rfl,own_below h hb,Chg.of_below hb,fun _ e=>.inl e⟩
theorem ret_vi {v:Value} {a b:Int} (h:a=b):Ending.returned (.tuple #[v,.int .i64 a])=.returned (.tuple #[v,.int .i64 b]):=by rw [h]
theorem uni_eq (base m c x y:Nat) (M:List Br) (A:Option Addr) (w:World) (ho:Hid (w.ownsRow base 80 3 (.slice A m c) M.length (flat M))) :
  Calls Tryz.prog 129 #[.slice A m c,.agg #[.int .i64 (x:Int),.int .i64 (y:Int),.int .i64 (y:Int)]] w fun e w'=>Unq w w' base (.slice A m c) (unq M (x,y,y)).1 (unq M (x,y,y)).2 e:=by
 rw [unq_eq]
 have b1:=hid ((Below.refl w.heap.size w).alloc (Nat.le_refl _) (.cells #[.int .i64 (x:Int),.int .i64 (y:Int),.int .i64 (y:Int)] 80))
 have hyy:((y:Int) == (y:Int))=true:=by simp
 go_enter Tryz.func129,Tryz.ntmps129
 go_wp2
 go_quiet (fail)
 go_wp2
 go_ret2
 exact Unq.same ho.out (below_drewN b1.out _)
theorem uni_ne (base m c x y z:Nat) (M:List Br) (A:Option Addr) (w:World) (ho:Hid (w.ownsRow base 80 3 (.slice A m c) M.length (flat M))) (hm:Hid (M.length=m)) (hm2:m<1000000000) (hbase:base≤w.heap.size) (hyz:Hid (y≠z)) :
  Calls Tryz.prog 129 #[.slice A m c,.agg #[.int .i64 (x:Int),.int .i64 (y:Int),.int .i64 (z:Int)]] w fun e w'=>Unq w w' base (.slice A m c) (unq M (x,y,z)).1 (unq M (x,y,z)).2 e:=by
 rw [unq_ne hyz.out]
 have b1:=(Below.refl w.heap.size w).alloc (Nat.le_refl _) (.cells #[.int .i64 (x:Int),.int .i64 (y:Int),.int .i64 (z:Int)] 80)
 have hne:((y:Int) == (z:Int))=false:=beq_eq_false_iff_ne.2 (by have:=hyz.out;omega)
 obtain ⟨i0,hi,hz0,hz1,hz2⟩:=info_parts Tryz.infoBr
 have hrd:Rd w w.heap.size A (up M):=by
  obtain ⟨A',c',e,_,h⟩:=own_rd ho.out
  rw [Value.slice.injEq] at e
  rw [e.1];exact h
 have HR:=hid hrd
 have HB1:=hid b1
 have R0:=Below.refl (w.heap.size+1) (w.alloc (.cells #[.int .i64 (x:Int),.int .i64 (y:Int),.int .i64 (z:Int)] 80))
 clear b1 hrd
 go_enter Tryz.func129,Tryz.ntmps129
 go_wp2
 go_loopw [6] (fun i wr=>∃ k:Nat,k≤m∧i=.int .i64 k∧Hid (NoN M (x,y,z) k)∧Hid (Below (w.heap.size+1) (w.alloc (.cells #[.int .i64 (x:Int),.int .i64 (y:Int),.int .i64 (z:Int)] 80)) wr)) (fun i _=>m - (intOf i).toNat)
 case atStart=>exact ⟨0,Nat.zero_le _,rfl,fun j hj=>absurd hj (by omega),R0⟩
 case round =>
  obtain ⟨k,hk,rfl,hno,hbl⟩:=hrel
  have hbb:=HB1.out.trans (hbl.out.mono (Nat.le_succ _))
  have x1:wr.cell? ⟨w.heap.size,0,none⟩=some (.int .i64 (x:Int)):=by rw [hbl.out.cell (p:=⟨w.heap.size,0,none⟩) (Nat.lt_succ_self _)];go_simp
  have x2:wr.cell? ⟨w.heap.size,1,none⟩=some (.int .i64 (y:Int)):=by rw [hbl.out.cell (p:=⟨w.heap.size,1,none⟩) (Nat.lt_succ_self _)];go_simp
  have x3:wr.cell? ⟨w.heap.size,2,none⟩=some (.int .i64 (z:Int)):=by rw [hbl.out.cell (p:=⟨w.heap.size,2,none⟩) (Nat.lt_succ_self _)];go_simp
  by_cases hlt:k<m
  ·obtain ⟨b',o',e,hb,hc⟩:=(HR.out.below hbb) (by rw [up_len,hm.out];omega)
   subst e
   obtain ⟨d1,d2,d3⟩:=hc k (by rw [up_len,hm.out];exact hlt)
   rw [iv_up] at d1
   rw [il_up] at d2
   rw [ih_up] at d3
   have hidx:=fun h1 h2 h3=>hno.out.idx (x:=(x,y,z)) (by rw [hm.out];exact hlt) h1 h2 h3
   have hnx:∀ hne:¬ (x=bv M k∧y=bl M k∧z=bh M k),NoN M (x,y,z) (k+1):=fun hne j hj=>by
    rcases Nat.lt_or_ge j k with h | h
    ·exact hno.out j h
    ·rw [show j=k by omega];exact hne
   have HNX:=hid hnx
   have HIDX:=hid hidx
   have HBB:=hid hbb
   have i1:(0:Int)≤(k:Int):=by omega
   have i2:(k:Int)<(m:Int):=by omega
   clear hnx hidx hc hbb
   generalize bv M k=V at *
   generalize bl M k=L at *
   generalize bh M k=H at *
   have heq:=fun W:World=>run_eql_br W (V:Int) (L:Int) (H:Int) (x:Int) (y:Int) (z:Int)
   by_cases q:x=V∧y=L∧z=H
   ·have hq:((V:Int) == (x:Int)&&((L:Int) == (y:Int)&&(H:Int) == (z:Int)))=true:=by simp [q.1,q.2.1,q.2.2]
    have HQ:=hid (HIDX.out q.1 q.2.1 q.2.2)
    rw [hq] at heq
    clear q hq
    go_wp2
    go_quiet (fail)
    go_wp2
    go_ret2
    have h:=Unq.same (r:=k+2) ho.out (below_drewN HBB.out (by assumption))
    rw [ins_in HQ.out.1,HQ.out.2]
    first | exact h | exact Unq.same (r:=k+2) ho.out (below_drewN HBB.out _)
   ·have hq:((V:Int) == (x:Int)&&((L:Int) == (y:Int)&&(H:Int) == (z:Int)))=false:=by
     rcases h:((V:Int) == (x:Int)&&((L:Int) == (y:Int)&&(H:Int) == (z:Int))) with _ | _
     ·rfl
     ·simp at h;exact absurd ⟨by omega,by omega,by omega⟩ q
    have HN:=hid (HNX.out q)
    rw [hq] at heq
    clear q hq
    go_wp2
    go_quiet (fail)
    go_wp2
    go_roundw
    case rel=>exact ⟨k+1,by omega,by go_num,HN,below_drewN hbl.out _⟩
    case measure=>simp [intOf];omega
  ·obtain rfl:k=m:=by omega
   have hnot:Hid ((x,y,z)∉M):=NoN.not (by rw [hm.out];exact hno.out)
   have HBB:=hid hbb
   have hown:wr.ownsRow base 80 3 (.slice A k c) k (flat M):=by
    have:=own_below ho.out HBB.out
    rwa [hm.out] at this
   have HO:=hid hown
   clear hbb hown
   go_wp2_with (refine wpList_append_lies _ rfl _ _ _ rfl base 80 i0 _ 3 24 Tryz.underlying29 hi hz0 hz1 hz2 rfl (by omega) (.slice A k c) k (flat M) rfl (HO.out.alloc _) _ _ _ (c3 x y z) rfl rfl (World.news_of_block (heap_alloc_new _ _)) (by simp [c3,Value.oneCell']) (by omega) (by simp only [maxLen];omega) (by omega) (by have:=HBB.out.size;simp;omega) _ rfl ?_;intro gn cap w1 hown hgrow hat hlt')
   go_ret2
   rw [ins_not hnot.out]
   have hl:(M++[(x,y,z)]).length=k+1:=by rw [List.length_append,hm.out];rfl
   refine ⟨.slice (some ⟨gn,0,none⟩) (k+1) cap,ret_vi (by show (k:Int)+1+1=((M.length+2:Nat):Int);rw [hm.out];omega),?_,?_,?_⟩
   ·show w1.ownsRow base 80 3 (.slice (some ⟨gn,0,none⟩) (k+1) cap) (M++[(x,y,z)]).length (flat (M++[(x,y,z)]))
    rw [hl,flat_snoc]
    exact hown
   ·exact (Chg.of_below (HBB.out.alloc HBB.out.size _)).trans (T:=fun q=>(Value.slice A k c).ownBlock=some q) (Chg.of_grown hgrow (fun q e=>e)) (fun j _ e=>e)
   ·intro q e
    simp only [Value.ownBlock,Option.some.injEq] at e
    subst e
    rcases hat with e | e
    ·exact .inl e
    ·refine .inr ?_
     rw [e];have:=HBB.out.size;simp;omega
theorem uni_any (base x y z:Nat) (v:Value) (M:List Br) (w:World) (ho:Hid (w.ownsRow base 80 3 v M.length (flat M))) (hm2:Hid (M.length<1000000000)) (hbase:base≤w.heap.size) :
  Calls Tryz.prog 129 #[v,.agg #[.int .i64 (x:Int),.int .i64 (y:Int),.int .i64 (z:Int)]] w fun e w'=>Unq w w' base v (unq M (x,y,z)).1 (unq M (x,y,z)).2 e:=by
 obtain ⟨A,c,rfl,_,_⟩:=own_rd ho.out
 by_cases h:y=z
 ·subst h
  exact uni_eq base _ c x y M A w ho
 ·exact uni_ne base M.length c x y z M A w ho (hid rfl) hm2.out hbase (hid h)
end Go.Proofs.YtpaednfinlaioaaGreatDoor
namespace Go.Proofs.YtpaednfinlaioaaGreatDoor
open Go.Lib (hid)
open Go.RowKit Dg St Go.Maps
theorem Tryz.lawInt:Keyed Tryz.prog 3:=int_keyed Tryz.underlying3
abbrev ck (j:Nat):Lit:=.int .i64 (j:Int)
theorem ck_inj {i j:Nat} (h:ck i=ck j):i=j:=by
 simp only [ck,Lit.int.injEq,true_and] at h;omega
structure MpS (n:Nat) (D:DataW Unit) (E:Nat→Nat):Prop where
 has:∀ j,j<n→Maps.has D (ck j)=decide (E j≠0)
 at':∀ j,j<n→E j≠0→∀ zd,D.atKey (ck j) zd=.lit (.int .i32 ((E j:Int) - 1))
 key:∀ kl,Maps.has D kl=true→∃ j,j<n∧kl=ck j
 small:∀ j,j<n→E j<1000000
structure MP (w:World) (base g o n b:Nat) (D:DataW Unit) (E:Nat→Nat):Prop where
 cc:w.cell? ⟨g,o,none⟩=some (.int .i64 (n:Int))
 cp:w.cell? ⟨g,o+1,none⟩=some (.map (some b))
 cl:w.cell? ⟨g,o+2,none⟩=some (.slice none 0 0)
 fp:w.frozen? ⟨g,o+1,none⟩=false
 fl:w.frozen? ⟨g,o+2,none⟩=false
 own:w.ownsMap Tryz.prog 3 (plainElem Tryz.prog 21) b (Maps.size D) D
 sp:MpS n D E
 ne:b≠g
 bl:base≤b
theorem own_tight {w:World} {k:TypeId} {R:Value→Option (DataW Unit × List MemPlace)} {b n:Nat} {D:DataW Unit} (h:w.ownsMap Tryz.prog k R b n D):w.ownsMap Tryz.prog k R b (Maps.size D) D:=by
 obtain ⟨es,clock,hb,F,hs,hD⟩:=h
 refine ⟨es,clock,hb,F,?_,hD⟩
 rw [hD]
 show es.size≤(((es.toList.map (Go.WideElems.rg Tryz.prog k R)).foldr DataW.insert []):List (Lit × DataW Unit)).length
 rw [length_read];exact Nat.le_refl _
theorem wf_ck {j:Nat} (h:j<9223372036854775808):(Lit.int .i64 (j:Int)).wf=true:=by
 simp [Lit.wf,IntKind.min,IntKind.max,IntKind.signed,IntKind.bits];omega
theorem ck_key {j:Nat} (h:j<9223372036854775808):keyOf Tryz.prog 3 (.int .i64 (j:Int))=some (ck j):=keyOf_int_mk Tryz.underlying3 (wf_ck h)
theorem ck_lit {j:Nat} (h:j<9223372036854775808):WideAt.IsKeyLit (ck j):=Tryz.lawInt.key (ck_key h)
theorem MP.lookup {w:World} {base g o n b j:Nat} {D:DataW Unit} {E:Nat→Nat} (h:MP w base g o n b D E) (hj:j<n) (hn:n≤1000000000000) :
  ∃ c:Int,(Instr.lookup 161 (.map (some b)) (.int .i64 (j:Int)) true).run Tryz.prog w=.ok (.tuple #[.int .i32 c,.bool (decide (E j≠0))]) w∧(E j≠0→c=(E j:Int) - 1)∧-2147483648≤c∧c≤2147483647:=by
 have hz:(zeroValue 21).run Tryz.prog w=.ok (.int .i32 0) w:=by kernel_rfl
 obtain ⟨v,ps,hrun,hv⟩:=h.own.look_ok Tryz.lawInt Tryz.underlying161 hz (plainElem_int Tryz.underlying21 (by decide)) (ck_key (j:=j) (by omega))
 obtain ⟨c,rfl,hc,hw⟩:=plainElem_int_inv Tryz.underlying21 hv
 have hc:=congrArg Prod.fst hc
 simp only at hc
 rw [h.sp.has j hj] at hrun
 refine ⟨c,hrun,fun hne=>?_,?_⟩
 ·rw [h.sp.at' j hj hne] at hc
  exact (Lit.int.inj (DataW.lit.inj hc)).2.symm
 ·have:=Go.bounds_i32 hw
  omega
theorem get_map (base g o n b j:Nat) (D:DataW Unit) (E:Nat→Nat) (w:World) (h:Hid (MP w base g o n b D E)) (hj:j<n) (hn:n≤1000000000000) :
  Calls Tryz.prog 131 #[.pointer (some ⟨g,o,none⟩),.int .i64 (j:Int)] w fun e w'=>(∃ r:Int,(E j≠0→r=(E j:Int) - 1)∧e=.returned (.tuple #[.int .i64 r,.bool (decide (E j≠0))]))∧Below w.heap.size w w':=by
 have c1:=h.out.cl
 have c2:=h.out.cp
 have hnn:=fun W:World=>Go.run_neq_slice_nil (P:=Tryz.prog) W 162 21 none 0 0 Tryz.underlying162
 obtain ⟨c,hlk,hc,hlo,hhi⟩:=h.out.lookup hj hn
 have HC:=hid hc
 have hw:IntKind.i64.wrap c=c:=by rw [IntKind.wrap_i64];omega
 clear hc
 generalize hq:decide (E j≠0)=q at *
 go_enter Tryz.func131,Tryz.ntmps131
 go_wp2
 go_ret2
 exact ⟨⟨c,HC.out,by first | rfl | (rw [hq];rfl)⟩,Below.refl _ _⟩
theorem MpS.put {n j r:Nat} {D:DataW Unit} {E:Nat→Nat} (h:MpS n D E) (hD:IsMap D) (hj:j<n) (hn:n≤1000000000000) (hr:r<999999):MpS n (D.put (ck j) (.lit (.int .i32 (r:Int)))) (upd E j (r+1)):=by
 have hl:=ck_lit (j:=j) (by omega)
 refine ⟨fun i hi=>?_,fun i hi hne zd=>?_,fun kl hk=>?_,fun i hi=>?_⟩
 ·unfold upd
  by_cases e:i=j
  ·subst e
   rw [has_put_same hD hl,if_pos rfl];rfl
  ·rw [has_put_other (fun q=>e (ck_inj q)),if_neg e];exact h.has i hi
 ·unfold upd at hne ⊢
  by_cases e:i=j
  ·subst e
   rw [atKey_put_same hD hl,if_pos rfl]
   congr 2
   push_cast;omega
  ·rw [if_neg e] at hne ⊢
   rw [atKey_put_other (fun q=>e (ck_inj q))]
   exact h.at' i hi hne zd
 ·by_cases e:kl=ck j
  ·exact ⟨j,hj,e⟩
  ·rw [has_put_other e] at hk
   exact h.key kl hk
 ·unfold upd
  split
  ·omega
  ·exact h.small i hi
theorem put_map (base g o n b j r:Nat) (D:DataW Unit) (E:Nat→Nat) (w:World) (h:Hid (MP w base g o n b D E)) (hj:j<n) (hn:n≤1000000000000) (hr:r<999999) (hsz:Maps.size D<n / 8) :
  Calls Tryz.prog 134 #[.pointer (some ⟨g,o,none⟩),.int .i64 (j:Int),.int .i64 (r:Int)] w fun e w'=>e=.returned (.tuple #[])∧(∃ D',MP w' base g o n b D' (upd E j (r+1)))∧Chg (fun k=>k=b) w w':=by
 have c1:=h.out.cl
 have c2:=h.out.cp
 have c3:=h.out.cc
 have hnn:=fun W:World=>Go.run_neq_slice_nil (P:=Tryz.prog) W 162 21 none 0 0 Tryz.underlying162
 have hen:=fun W:World=>Lib.run_eql_slice_nil (P:=Tryz.prog) W 162 21 none 0 0 0 0 Tryz.underlying162
 have hlen:=fun nq ty=>(show (w.drewN nq).ownsMap Tryz.prog 3 (plainElem Tryz.prog 21) b (Maps.size D) D from h.out.own).len Tryz.underlying161 ty
 have hw1:IntKind.i32.wrap (r:Int)=(r:Int):=by rw [IntKind.wrap_i32];omega
 have hq:(n:Int).tdiv 8=((n / 8:Nat):Int):=by rw [Int.tdiv_eq_ediv_of_nonneg (by omega)];omega
 have hge:¬ ((n / 8:Nat):Int)≤((Maps.size D:Nat):Int):=by omega
 have HMP:=h
 have HSZ:=hid hsz
 have HOWN:=hid h.out.own
 have HWF:Hid ((Lit.int .i32 (r:Int)).wf=true):=show _=true by simp [Lit.wf,IntKind.min,IntKind.max,IntKind.signed,IntKind.bits];omega
 generalize Maps.size D=sz at *
 have hn8:n / 8≤n:=Nat.div_le_self _ _
 generalize n / 8=n8 at *
 have hw2:IntKind.i64.wrap (n8:Int)=(n8:Int):=wrap_small _ (by omega) (by omega)
 go_enter Tryz.func134,Tryz.ntmps134
 go_wp2
 go_quiet (fail)
 go_wp2_with (first
  | (at_mapUpdate;refine wpList_mapUpdate_own _ rfl _ _ _ 161 rfl 3 21 Tryz.lawInt Tryz.underlying161 _ b sz D rfl (show (w.drewN nq).ownsMap Tryz.prog 3 (plainElem Tryz.prog 21) b sz D from HOWN.out) (by unfold maxLen;omega) _ _ (ck j) rfl rfl (ck_key (by omega)) _ [] (plainElem_int Tryz.underlying21 HWF.out) ?_;intro w5 hown5 hg5;go_frame))
 go_wp2
 have hch:Chg (fun k=>k=b) w w5:=⟨hg5.os,hg5.tape,hg5.output,hg5.size,fun k hk hne=>hg5.block k hk (fun e=>hne (Option.some.inj e))⟩
 have hgl:g<w.heap.size:=block_lt_of_cell HMP.out.cc
 have hgb:¬ g=b:=fun e=>HMP.out.ne e.symm
 refine bodyPost_end (results_none rfl _ _ _) rfl ?_
 refine ⟨rfl,⟨D.put (ck j) (.lit (.int .i32 (r:Int))),?_⟩,hch⟩
 exact ⟨(hch.cell (p:=⟨g,o,none⟩) hgl hgb).trans HMP.out.cc,(hch.cell (p:=⟨g,o+1,none⟩) hgl hgb).trans HMP.out.cp,(hch.cell (p:=⟨g,o+2,none⟩) hgl hgb).trans HMP.out.cl,
  (hch.frozen (p:=⟨g,o+1,none⟩) hgl hgb).trans HMP.out.fp,(hch.frozen (p:=⟨g,o+2,none⟩) hgl hgb).trans HMP.out.fl,own_tight hown5,HMP.out.sp.put HMP.out.own.isMap hj hn hr,HMP.out.ne,HMP.out.bl⟩
def lst (n:Nat) (E:Nat→Nat) (left:Lit→Bool):List Nat:=(List.range n).map fun j=>if left (ck j) then 0 else E j
theorem lst_len (n:Nat) (E:Nat→Nat) (left:Lit→Bool):(lst n E left).length=n:=by unfold lst;simp
theorem lst_at {n j:Nat} {E:Nat→Nat} {left:Lit→Bool} (h:j<n):(lst n E left).getD j 0=if left (ck j) then 0 else E j:=by
 unfold lst
 rw [List.getD_eq_getElem?_getD,List.getElem?_map,List.getElem?_range h];rfl
theorem lst_get {n i:Nat} {E:Nat→Nat} {left:Lit→Bool} (h:i<(lst n E left).length):(lst n E left)[i]=if left (ck i) then 0 else E i:=by simp [lst]
theorem lst_start {n:Nat} {D:DataW Unit} {E:Nat→Nat} (h:MpS n D E):lst n E (Maps.has D)=List.replicate n 0:=by
 apply List.ext_getElem
 ·rw [lst_len];simp
 ·intro i h1 h2
  rw [lst_get,List.getElem_replicate]
  rw [lst_len] at h1
  rw [h.has i h1]
  by_cases e:E i=0
  ·simp [e]
  ·simp [e]
theorem lst_step {n j:Nat} {E:Nat→Nat} {left:Lit→Bool} (_h:j<n):lst n E (fun z=>left z&&!z.sameKey (ck j))=(lst n E left).set j (E j):=by
 apply List.ext_getElem
 ·rw [List.length_set,lst_len,lst_len]
 ·intro i h1 h2
  rw [List.getElem_set,lst_get,lst_get]
  by_cases e:j=i
  ·subst e
   simp [Lit.sameKey]
  ·have:(ck i).sameKey (ck j)=false:=by
    simp [Lit.sameKey];omega
   rw [if_neg e,this]
   simp
theorem lst_end {n:Nat} {E:Nat→Nat} {left:Lit→Bool} (h:∀ kl,left kl=false) {j:Nat} (hj:j<n):(lst n E left).getD j 0=E j:=by rw [lst_at hj,h];rfl
theorem MP.below {w w':World} {base g o n b:Nat} {D:DataW Unit} {E:Nat→Nat} (h:MP w base g o n b D E) (hb:Below w.heap.size w w'):MP w' base g o n b D E:=by
 have hg:g<w.heap.size:=block_lt_of_cell h.cc
 exact ⟨(hb.cell (p:=⟨g,o,none⟩) hg).trans h.cc,(hb.cell (p:=⟨g,o+1,none⟩) hg).trans h.cp,(hb.cell (p:=⟨g,o+2,none⟩) hg).trans h.cl,(hb.frozen (p:=⟨g,o+1,none⟩) hg).trans h.fp,(hb.frozen (p:=⟨g,o+2,none⟩) hg).trans h.fl,
  h.own.kept (row:=none) ⟨hb.os,hb.tape,hb.output,hb.size,fun k hk _=>hb.block k hk⟩ (by simp),h.sp,h.ne,h.bl⟩
structure Tn (w wr:World) (g o n b L:Nat) (D:DataW Unit) (E:Nat→Nat) (left:Lit→Bool):Prop where
 chg:Chg (fun k=>k=g) w wr
 cc:wr.cell? ⟨g,o,none⟩=some (.int .i64 (n:Int))
 cp:wr.cell? ⟨g,o+1,none⟩=some (.map (some b))
 cl:wr.cell? ⟨g,o+2,none⟩=some (.slice (some ⟨L,0,none⟩) n n)
 fp:wr.frozen? ⟨g,o+1,none⟩=false
 lk:Ck wr L (lst n E left)
 low:∀ i,i<o→wr.cell? ⟨g,i,none⟩=w.cell? ⟨g,i,none⟩∧wr.frozen? ⟨g,i,none⟩=w.frozen? ⟨g,i,none⟩
 hl:∀ kl,left kl=true→Maps.has D kl=true
 hL:w.heap.size≤L
 hg:g<w.heap.size
theorem Tn.grown {w wr w1:World} {g o n b L r:Nat} {D:DataW Unit} {E:Nat→Nat} {left:Lit→Bool} (h:Tn w wr g o n b L D E left) (hg1:wr.grownBy w1 (some r)) (hr:w.heap.size≤r) (hrL:r≠L):Tn w w1 g o n b L D E left:=by
 have hgr:g≠r:=by have:=h.hg;omega
 have hgl:g<wr.heap.size:=block_lt_of_cell h.cc
 have hk:w1.heap[g]? = wr.heap[g]?:=hg1.block g hgl (fun e=>hgr (Option.some.inj e))
 have hc:=fun i=>World.cell?_of_block (w:=wr) (w':=w1) (a:=⟨g,i,none⟩) hk
 have hf:=fun i=>World.frozen?_of_block (w:=wr) (w':=w1) (a:=⟨g,i,none⟩) hk
 exact ⟨⟨hg1.os.trans h.chg.os,hg1.tape.trans h.chg.tape,hg1.output.trans h.chg.output,Nat.le_trans h.chg.size hg1.size,fun k hk hn=>(hg1.block k (Nat.lt_of_lt_of_le hk h.chg.size) (fun e=>by have:=Option.some.inj e;omega)).trans (h.chg.block k hk hn)⟩,
  (hc _).trans h.cc,(hc _).trans h.cp,(hc _).trans h.cl,(hf _).trans h.fp,(hg1.block L h.lk.lt (fun e=>hrL (Option.some.inj e).symm)).trans h.lk,fun i hi=>⟨(hc i).trans (h.low i hi).1,(hf i).trans (h.low i hi).2⟩,h.hl,h.hL,h.hg⟩
theorem Tn.store {w wr:World} {g o n b L i:Nat} {D:DataW Unit} {E:Nat→Nat} {left:Lit→Bool} (h:Tn w wr g o n b L D E left) (hi:i<n):Tn w (wr.setCell ⟨L,i,none⟩ (.int .i32 ((E i:Nat):Int))) g o n b L D E (fun z=>left z&&!z.sameKey (ck i)):=by
 have hgL:g≠L:=by have:=h.hg;have:=h.hL;omega
 have hk:(wr.setCell ⟨L,i,none⟩ (.int .i32 ((E i:Nat):Int))).heap[g]? = wr.heap[g]?:=Below.heap_setCell wr ⟨L,i,none⟩ _ g hgL
 have hc:=fun i=>World.cell?_of_block (w:=wr) (a:=⟨g,i,none⟩) hk
 have hf:=fun i=>World.frozen?_of_block (w:=wr) (a:=⟨g,i,none⟩) hk
 refine ⟨h.chg.trans (T:=fun k=>k=L) ⟨rfl,rfl,rfl,by simp [World.setCell],fun k _ hn=>Below.heap_setCell wr ⟨L,i,none⟩ _ k (fun e=>hn e)⟩ (fun q hq e=>by have:=h.hL;omega),(hc _).trans h.cc,(hc _).trans h.cp,(hc _).trans h.cl,(hf _).trans h.fp,?_,fun i hi=>⟨(hc i).trans (h.low i hi).1,(hf i).trans (h.low i hi).2⟩,fun kl hk=>h.hl kl (by simp only [Bool.and_eq_true] at hk;exact hk.1),h.hL,h.hg⟩
 rw [lst_step hi]
 exact h.lk.set_ i (E i)
theorem ranges_store {w:World} {k:TypeId} {R:Value→Option (DataW Unit × List MemPlace)} {b r n cnt:Nat} {D:DataW Unit} {left:Lit→Bool} (h:w.ranges Tryz.prog k R b r n D left cnt) {p:Addr} (hb:b≠p.block) (hr:r≠p.block) (u:Value):(w.setCell p u).ranges Tryz.prog k R b r n D left cnt :=
 h.kept (row:=some p.block) ⟨rfl,rfl,rfl,by simp [World.setCell],fun q _ hn=>Below.heap_setCell _ _ _ _ (fun e=>hn (by rw [e]))⟩ (fun e=>hb (Option.some.inj e)) (fun e=>hr (Option.some.inj e))
theorem put_turn (base g o n b j r:Nat) (D:DataW Unit) (E:Nat→Nat) (w:World) (h:Hid (MP w base g o n b D E)) (hj:j<n) (hn:n≤1000000000000) (hr:r<999999) (hsz:n / 8≤Maps.size D) (hbs:base≤w.heap.size) :
  Calls Tryz.prog 134 #[.pointer (some ⟨g,o,none⟩),.int .i64 (j:Int),.int .i64 (r:Int)] w fun e w'=>e=.returned (.tuple #[])∧(∃ L l,ML w' base g o n L l∧(∀ i,i<n→upd E j (r+1) i=l.getD i 0)∧w.heap.size≤L)∧Chg (fun k=>k=g) w w'∧(∀ i,i<o→w'.cell? ⟨g,i,none⟩=w.cell? ⟨g,i,none⟩∧w'.frozen? ⟨g,i,none⟩=w.frozen? ⟨g,i,none⟩):=by
 obtain ⟨i0,hi,hz0,hz1,hz2⟩:=info_parts Tryz.infoI32
 have c1:=h.out.cl
 have c2:=h.out.cp
 have c3:=h.out.cc
 have f1:=h.out.fl
 have f2:=h.out.fp
 have hen:=fun W:World=>Lib.run_eql_slice_nil (P:=Tryz.prog) W 162 21 none 0 0 0 0 Tryz.underlying162
 have hlen:=fun nq ty=>(show (w.drewN nq).ownsMap Tryz.prog 3 (plainElem Tryz.prog 21) b (Maps.size D) D from h.out.own).len Tryz.underlying161 ty
 have hw1:IntKind.i32.wrap (r:Int)=(r:Int):=by rw [IntKind.wrap_i32];omega
 have hq:(n:Int).tdiv 8=((n / 8:Nat):Int):=by rw [Int.tdiv_eq_ediv_of_nonneg (by omega)];omega
 have hge:((n / 8:Nat):Int)≤((Maps.size D:Nat):Int):=by omega
 have HMP:=h
 have hgl:g<w.heap.size:=block_lt_of_cell h.out.cc
 have hbl:=h.out.own.lt
 have hn8:n / 8≤n:=Nat.div_le_self _ _
 generalize hsd:Maps.size D=sz at *
 generalize n / 8=n8 at *
 have hw2:IntKind.i64.wrap (n8:Int)=(n8:Int):=wrap_small _ (by omega) (by omega)
 have hgn:¬ g=w.heap.size:=by omega
 go_enter Tryz.func134,Tryz.ntmps134
 go_wp2
 go_quiet (fail)
 have HSP:=hid h.out.sp
 have HBB:∀ nq,Below w.heap.size w ((w.drewN nq).alloc (.cells (madeCells #[Value.int .i32 0] n) 21)):=fun nq=>(Below.alloc (below_drewN (Below.refl w.heap.size w) nq) (Nat.le_refl _) _)
 go_wp2_with (first
  | (refine wpList_make_row _ rfl _ _ _ rfl 21 i0 _ Tryz.underlying162 hi hz0 hz1 rfl .i64 .i64 n rfl rfl (by rw [hz2];omega) (by omega) ?_;have HM3:=hid (HMP.out.below (HBB nq));have HB3:=hid (HBB nq);have HC3:Hid (Ck ((w.drewN nq).alloc (.cells (madeCells #[Value.int .i32 0] n) 21)) w.heap.size (List.replicate n 0)):=(by show _=_;rw [madeCells_I];exact heap_alloc_new _ _);generalize ((w.drewN nq).alloc (.cells (madeCells #[Value.int .i32 0] n) 21))=w3 at *;have k1:=HM3.out.cl;have k2:=HM3.out.cp;have k3:=HM3.out.cc;have k4:=HM3.out.fl;have k5:=HM3.out.fp;have HO3:Hid (w3.ownsMap Tryz.prog 3 (plainElem Tryz.prog 21) b sz D):=(by show _ ;rw [← hsd];exact HM3.out.own))
  | (at_range;refine wpList_range_own _ rfl _ 161 rfl 3 21 Tryz.lawInt Tryz.underlying161 _ b sz D rfl (HO3.out.setCell HMP.out.ne _) ?_;intro w5 hrg5 hg5 hs5))
 go_frame
 have HT4:Hid (Tn w (w3.setCell ⟨g,o+2,none⟩ (.slice (some ⟨w.heap.size,0,none⟩) n n)) g o n b w.heap.size D E (Maps.has D)):=by
  have hgL:g≠w.heap.size:=hgn
  refine ⟨(Chg.of_below (S:=fun k=>k=g) HB3.out).set rfl _,(cell_set_off _ _ _ _ _ (by omega)).trans k3,(cell_set_off _ _ _ _ _ (by omega)).trans k2,World.cell?_setCell_same _ _ _ k1,by rw [World.frozen?_setCell];exact k5,?_,fun i hi=>⟨?_,?_⟩,fun _ h=>h,Nat.le_refl _,hgl⟩
  ·rw [lst_start HSP.out]
   exact (Below.heap_setCell w3 ⟨g,o+2,none⟩ _ w.heap.size (fun e=>hgL e.symm)).trans HC3.out
  ·rw [cell_set_off _ _ _ _ _ (by omega)];exact HB3.out.cell (p:=⟨g,i,none⟩) hgl
  ·rw [World.frozen?_setCell];exact HB3.out.frozen (p:=⟨g,i,none⟩) hgl
 have hL3:w.heap.size<w3.heap.size:=HC3.out.lt
 have hsz4:(w3.setCell ⟨g,o+2,none⟩ (.slice (some ⟨w.heap.size,0,none⟩) n n)).heap.size=w3.heap.size:=by simp [World.setCell]
 rw [hsz4] at hrg5 ⊢
 have HT5:=hid (HT4.out.grown (hg5.but (some w3.heap.size)) (by omega) (by omega))
 have HRG:=hid hrg5
 clear hrg5 hg5 hs5 HT4 HO3 HM3 HC3 HB3 k1 k2 k3 k4 k5 hsz4 c1 c2 c3 f1 f2 hlen
 generalize w3.heap.size=R at *
 generalize hLL:w.heap.size=L at *
 go_loopw [6,7] (fun _ _ wr=>∃ (left:Lit→Bool) (cnt:Nat),Hid (wr.ranges Tryz.prog 3 (plainElem Tryz.prog 21) b R sz D left cnt)∧Hid (Tn w wr g o n b L D E left)) (fun _ _ wr=>wr.rangeLeft b R)
 case atStart=>exact ⟨_,_,HRG.out,HT5.out⟩
 case round =>
  obtain ⟨left,cnt,hrg,hst⟩:=hrel
  have hrl:=hrg.out.lt
  go_wp2_with (first
   | (at_next;refine wpList_next_ranges_ii _ rfl _ rfl 3 21 .i64 .i32 Tryz.lawInt Tryz.underlying3 Tryz.underlying21 b R sz _ _ _ rfl hrg.out ?_ ?_))
  ·intro hc0 hl0
   have k1:=hst.out.cl
   have k2:=hst.out.cp
   have k5:=hst.out.fp
   have hjl:j<(lst n E left).length:=by rw [lst_len];exact hj
   have k6:=hst.out.lk.cell hjl
   have k7:=hst.out.lk.frozen j
   have hnn:=fun W:World=>Go.run_neq_slice_nil (P:=Tryz.prog) W 162 21 (some ⟨L,0,none⟩) n n Tryz.underlying162
   have hw3:IntKind.i32.wrap ((r:Int)+1)=(r:Int)+1:=by rw [IntKind.wrap_i32];omega
   have i1:(0:Int)≤(j:Int):=by omega
   have i2:(j:Int)<(n:Int):=by omega
   have hgL:¬ g=L:=hgn
   have hLg:¬ L=g:=fun e=>hgn e.symm
   generalize (lst n E left).getD j 0=old at k6
   go_wp2
   refine bodyPost_ret (results_none rfl _ _ _) rfl ?_
   have hck1:Ck (wr.setCell ⟨g,o+1,none⟩ (.map none)) L (lst n E left):=(Below.heap_setCell wr ⟨g,o+1,none⟩ _ L hLg).trans hst.out.lk
   have hck2:=hck1.set_ j (r+1)
   have hk:∀ u,((wr.setCell ⟨g,o+1,none⟩ (.map none)).setCell ⟨L,j,none⟩ u).heap[g]? = (wr.setCell ⟨g,o+1,none⟩ (.map none)).heap[g]?:=fun u=>Below.heap_setCell _ ⟨L,j,none⟩ u g hgL
   refine ⟨rfl,⟨L,(lst n E left).set j (r+1),⟨?_,?_,hck2,by rw [List.length_set,lst_len],fun e he=>?_,hLg,by omega⟩,fun i hi=>?_,by omega⟩,?_,fun i hi=>⟨?_,?_⟩⟩
   ·rw [World.cell?_of_block (hk _),cell_set_off _ _ _ _ _ (by omega)];exact hst.out.cc
   ·rw [World.cell?_of_block (hk _),cell_set_off _ _ _ _ _ (by omega)];exact hst.out.cl
   ·rcases List.mem_or_eq_of_mem_set he with q | q
    ·unfold lst at q
     obtain ⟨i,hi,rfl⟩:=List.mem_map.1 q
     rw [hl0,if_neg (by simp)]
     exact HSP.out.small i (List.mem_range.1 hi)
    ·omega
   ·unfold upd
    by_cases e:i=j
    ·subst e
     rw [if_pos rfl,List.getD_eq_getElem?_getD,List.getElem?_set_self hjl];rfl
    ·rw [if_neg e,List.getD_eq_getElem?_getD,List.getElem?_set_ne (fun h=>e h.symm),← List.getD_eq_getElem?_getD,lst_end hl0 hi]
   ·exact (hst.out.chg.set rfl _).trans (T:=fun k=>k=L) ⟨rfl,rfl,rfl,by simp [World.setCell],fun k _ hn=>Below.heap_setCell _ ⟨L,j,none⟩ _ k (fun e=>hn e)⟩ (fun q hq e=>by omega)
   ·rw [World.cell?_of_block (hk _),cell_set_off _ _ _ _ _ (by omega)];exact (hst.out.low i hi).1
   ·rw [World.frozen?_of_block (hk _),World.frozen?_setCell];exact (hst.out.low i hi).2
  ·intro x c w1 cnt1 hwx hwc hlx hat hrg1 hlt hg1 hs1 hen
   obtain ⟨i,hi',e⟩:=HSP.out.key _ (hst.out.hl _ hlx)
   have hhas:=hst.out.hl _ hlx
   rw [e] at hhas hlx hat hrg1
   obtain rfl:x=(i:Int):=(Lit.int.inj e).2
   rw [HSP.out.has i hi',decide_eq_true_iff] at hhas
   have hcc:c=((E i:Nat):Int) - 1:=by
    have h1:=hat (.lit (.int .i32 0))
    rw [HSP.out.at' i hi' hhas] at h1
    exact (Lit.int.inj (DataW.lit.inj h1)).2.symm
   have hsm:=HSP.out.small i hi'
   have HT1:=hid (hst.out.grown hg1 (by have:=hst.out.lk.lt;omega) (by omega))
   have k1:=HT1.out.cl
   have hil:i<(lst n E left).length:=by rw [lst_len];exact hi'
   have k6:=HT1.out.lk.cell hil
   have k7:=HT1.out.lk.frozen i
   have HR1:=hid hrg1
   have HLT:=hid hlt
   have HST:=hid (HT1.out.store hi')
   have HRS:Hid ((w1.setCell ⟨L,i,none⟩ (.int .i32 ((E i:Nat):Int))).ranges Tryz.prog 3 (plainElem Tryz.prog 21) b R sz D (fun z=>left z&&!z.sameKey (ck i)) cnt1):=ranges_store HR1.out (by show b≠L;omega) (by show R≠L;omega) _
   have hw5:IntKind.i32.wrap (c+1)=((E i:Nat):Int):=by rw [IntKind.wrap_i32];omega
   have i1:(0:Int)≤(i:Int):=by omega
   have i2:(i:Int)<(n:Int):=by omega
   clear hcc hat hlx hhas e hrg1 hlt
   generalize (lst n E left).getD i 0=old at k6
   generalize E i=ei at *
   go_wp2
   go_roundw
   case rel=>exact ⟨_,cnt1,HRS.out,HST.out⟩
   case measure=>rw [HRS.out.left_eq,hrg.out.left_eq];exact HLT.out
theorem new_map (n:Nat) (w:World) (hn:4096<n) (hn2:n≤1000000000000) :
  Calls Tryz.prog 123 #[.int .i64 (n:Int)] w fun e w'=>∃ L,e=.returned (.agg #[.int .i64 (n:Int),.map (some L),.slice none 0 0])∧w.heap.size≤L∧w'.ownsMap Tryz.prog 3 (plainElem (H:=Unit) Tryz.prog 21) L 0 (.map [])∧Below w.heap.size w w':=by
 have b1:=fun x y z=>(Below.refl w.heap.size w).alloc (Nat.le_refl _) (.cells #[x,y,z] 164)
 have hmm:=@run_makeMap Tryz.prog
 have i1:¬ (n:Int)≤4096:=by omega
 go_enter Tryz.func123,Tryz.ntmps123
 go_wp2
 refine bodyPost_ret (v:=.agg #[.int .i64 (n:Int),.map (some (w.heap.size+1)),.slice none 0 0]) ?_ rfl ⟨w.heap.size+1,rfl,by omega,?_,?_⟩
 ·rw [results_cell1 rfl]
  go_simp
 ·have h:=World.ownsMap_made (w.alloc (.cells #[.int .i64 (n:Int),.map (some (w.heap.size+1)),.slice none 0 0] 164)) Tryz.prog 3 (plainElem (H:=Unit) Tryz.prog 21)
  simpa using h
 ·exact (b1 _ _ _).alloc (by simp) _
def NewM (w w':World) (n L:Nat) (mv lv:Value):Prop:=w.heap.size≤L ∧
 ((mv=.map none∧lv=.slice (some ⟨L,0,none⟩) n n∧Ck w' L (List.replicate n 0))∨(mv=.map (some L)∧lv=.slice none 0 0∧w'.ownsMap Tryz.prog 3 (plainElem (H:=Unit) Tryz.prog 21) L 0 (.map [])))
theorem new_any (n:Nat) (w:World) (hn:n≤1000000000000) :
  Calls Tryz.prog 123 #[.int .i64 (n:Int)] w fun e w'=>(∃ L mv lv,e=.returned (.agg #[.int .i64 (n:Int),mv,lv])∧NewM w w' n L mv lv)∧Below w.heap.size w w':=by
 by_cases h:n≤4096
 ·refine (new_list n w h).mono ?_
  rintro e w' ⟨L,rfl,h1,h2,h3⟩
  exact ⟨⟨L,_,_,rfl,h1,.inl ⟨rfl,rfl,h2⟩⟩,h3⟩
 ·refine (new_map n w (by omega) hn).mono ?_
  rintro e w' ⟨L,rfl,h1,h2,h3⟩
  exact ⟨⟨L,_,_,rfl,h1,.inr ⟨rfl,rfl,h2⟩⟩,h3⟩
def Mm (w:World) (base g o n b:Nat) (E:Nat→Nat):Prop:=n≤1000000000000∧((∃ l:List Nat,ML w base g o n b l∧∀ j,j<n→E j=l.getD j 0)∨∃ D,MP w base g o n b D E)
theorem Mm.lt {w:World} {base g o n b:Nat} {E:Nat→Nat} (h:Mm w base g o n b E):b<w.heap.size:=by
 rcases h.2 with ⟨l,hl,_⟩ | ⟨D,hm⟩
 ·exact hl.blk.lt
 ·exact hm.own.lt
theorem Mm.ge {w:World} {base g o n b:Nat} {E:Nat→Nat} (h:Mm w base g o n b E):base≤b:=by
 rcases h.2 with ⟨l,hl,_⟩ | ⟨D,hm⟩
 ·exact hl.bl
 ·exact hm.bl
theorem Mm.ne {w:World} {base g o n b:Nat} {E:Nat→Nat} (h:Mm w base g o n b E):b≠g:=by
 rcases h.2 with ⟨l,hl,_⟩ | ⟨D,hm⟩
 ·exact hl.ne
 ·exact hm.ne
theorem Mm.keepC {w w':World} {base g o n b:Nat} {E:Nat→Nat} (h:Mm w base g o n b E) (h0:w'.cell? ⟨g,o,none⟩=w.cell? ⟨g,o,none⟩) (h1:w'.cell? ⟨g,o+1,none⟩=w.cell? ⟨g,o+1,none⟩) (h2:w'.cell? ⟨g,o+2,none⟩=w.cell? ⟨g,o+2,none⟩)
  (f1:w'.frozen? ⟨g,o+1,none⟩=w.frozen? ⟨g,o+1,none⟩) (f2:w'.frozen? ⟨g,o+2,none⟩=w.frozen? ⟨g,o+2,none⟩) (hb:w'.heap[b]? = w.heap[b]?):Mm w' base g o n b E:=by
 refine ⟨h.1,?_⟩
 rcases h.2 with ⟨l,hl,he⟩ | ⟨D,hm⟩
 ·exact .inl ⟨l,⟨h0.trans hl.cc,h2.trans hl.cl,hb.trans hl.blk,hl.len,hl.small,hl.ne,hl.bl⟩,he⟩
 ·obtain ⟨es,clock,hh,hr⟩:=hm.own
  exact .inr ⟨D,⟨h0.trans hm.cc,h1.trans hm.cp,h2.trans hm.cl,f1.trans hm.fp,f2.trans hm.fl,⟨es,clock,hb.trans hh,hr⟩,hm.sp,hm.ne,hm.bl⟩⟩
theorem Mm.keep {w w':World} {base g o n b:Nat} {E:Nat→Nat} (h:Mm w base g o n b E) (hg:w'.heap[g]? = w.heap[g]?) (hb:w'.heap[b]? = w.heap[b]?):Mm w' base g o n b E :=
 h.keepC (World.cell?_of_block (w:=w) hg) (World.cell?_of_block (w:=w) hg) (World.cell?_of_block (w:=w) hg) (World.frozen?_of_block (w:=w) hg) (World.frozen?_of_block (w:=w) hg) hb
theorem get_mm (base g o n b j:Nat) (E:Nat→Nat) (w:World) (h:Hid (Mm w base g o n b E)) (hj:j<n) :
  Calls Tryz.prog 131 #[.pointer (some ⟨g,o,none⟩),.int .i64 (j:Int)] w fun e w'=>(∃ r:Int,(E j≠0→r=(E j:Int) - 1)∧e=.returned (.tuple #[.int .i64 r,.bool (decide (E j≠0))]))∧Below w.heap.size w w':=by
 rcases h.out.2 with ⟨l,hl,he⟩ | ⟨D,hm⟩
 ·refine (get_list base g o n b j l w hl hj).mono ?_
  rintro e w' ⟨rfl,hb⟩
  rw [he j hj]
  exact ⟨⟨_,fun _=>rfl,rfl⟩,hb⟩
 ·exact get_map base g o n b j D E w hm hj h.out.1
theorem put_mm (base g o n b j r:Nat) (E:Nat→Nat) (w:World) (h:Hid (Mm w base g o n b E)) (hj:j<n) (hr:r<999999) :
  Calls Tryz.prog 134 #[.pointer (some ⟨g,o,none⟩),.int .i64 (j:Int),.int .i64 (r:Int)] w fun e w'=>e=.returned (.tuple #[]) ∧
   (∃ b',Mm w' base g o n b' (upd E j (r+1))∧(b'=b∨w.heap.size≤b'))∧Chg (fun k=>k=b∨k=g) w w'∧(∀ i,i<o→w'.cell? ⟨g,i,none⟩=w.cell? ⟨g,i,none⟩∧w'.frozen? ⟨g,i,none⟩=w.frozen? ⟨g,i,none⟩):=by
 have hne:=h.out.ne
 have hn:=h.out.1
 have hlt:=h.out.lt
 have hge:=h.out.ge
 rcases h.out.2 with ⟨l,hl,he⟩ | ⟨D,hm⟩
 ·refine (put_list base g o n b j r l w hl hj hr).mono ?_
  rintro e w' ⟨rfl,hm,hc⟩
  have hg:g<w.heap.size:=block_lt_of_cell hl.cc
  refine ⟨rfl,⟨b,⟨hn,.inl ⟨_,hm,fun i hi=>?_⟩⟩,.inl rfl⟩,hc.mono (fun _ _ e=>.inl e),fun i _=>⟨hc.cell (p:=⟨g,i,none⟩) hg (fun e=>hl.ne e.symm),hc.frozen (p:=⟨g,i,none⟩) hg (fun e=>hl.ne e.symm)⟩⟩
  unfold upd
  by_cases e:i=j
  ·subst e
   rw [if_pos rfl,List.getD_eq_getElem?_getD,List.getElem?_set_self (by rw [hl.len];exact hj)]
   rfl
  ·rw [if_neg e,List.getD_eq_getElem?_getD,List.getElem?_set_ne (fun h=>e h.symm),← List.getD_eq_getElem?_getD]
   exact he i hi
 ·have hg:g<w.heap.size:=block_lt_of_cell hm.cc
  by_cases hs:Maps.size D<n / 8
  ·refine (put_map base g o n b j r D E w hm hj hn hr hs).mono ?_
   rintro e w' ⟨rfl,⟨D',hm'⟩,hc⟩
   exact ⟨rfl,⟨b,⟨hn,.inr ⟨D',hm'⟩⟩,.inl rfl⟩,hc.mono (fun _ _ e=>.inl e),fun i _=>⟨hc.cell (p:=⟨g,i,none⟩) hg (fun e=>hne e.symm),hc.frozen (p:=⟨g,i,none⟩) hg (fun e=>hne e.symm)⟩⟩
  ·refine (put_turn base g o n b j r D E w hm hj hn hr (by omega) (by omega)).mono ?_
   rintro e w' ⟨rfl,⟨L,l,hl,hE,hL⟩,hc,hk⟩
   exact ⟨rfl,⟨L,⟨hn,.inl ⟨l,hl,hE⟩⟩,.inr hL⟩,hc.mono (fun _ _ e=>.inr e),hk⟩
end Go.Proofs.YtpaednfinlaioaaGreatDoor
namespace Go.Proofs.YtpaednfinlaioaaGreatDoor
open Go.Lib (hid)
open Go.RowKit Dg St
def Blk (w:World) (g n:Nat) (F:Nat→Value):Prop:=∀ i,i<n→w.cell? ⟨g,i,none⟩=some (F i)∧w.frozen? ⟨g,i,none⟩=false
def fup (F:Nat→Value) (i:Nat) (v:Value):Nat→Value:=fun j=>if j=i then v else F j
theorem fup_same (F:Nat→Value) (i:Nat) (v:Value):fup F i v i=v:=if_pos rfl
theorem fup_ne (F:Nat→Value) {i j:Nat} (v:Value) (h:j≠i):fup F i v j=F j:=if_neg h
theorem Blk.keep {w w':World} {g n:Nat} {F:Nat→Value} (h:Blk w g n F) (hk:w'.heap[g]? = w.heap[g]?):Blk w' g n F:=fun i hi =>
 ⟨(World.cell?_of_block (w:=w) hk).trans (h i hi).1,(World.frozen?_of_block (w:=w) hk).trans (h i hi).2⟩
theorem Blk.lt {w:World} {g n:Nat} {F:Nat→Value} (h:Blk w g n F) (hn:0<n):g<w.heap.size:=block_lt_of_cell (h 0 hn).1
theorem Blk.below {w w':World} {g n:Nat} {F:Nat→Value} (h:Blk w g n F) (hn:0<n) (hb:Below w.heap.size w w'):Blk w' g n F:=h.keep (hb.block g (h.lt hn))
theorem Blk.alloc {w:World} {g n:Nat} {F:Nat→Value} (h:Blk w g n F) (hn:0<n) (o:Obj):Blk (w.alloc o) g n F:=h.below hn ((Below.refl _ _).alloc (Nat.le_refl _) o)
theorem Blk.other {w:World} {g n:Nat} {F:Nat→Value} (h:Blk w g n F) {p:Addr} (hp:p.block≠g) (u:Value):Blk (w.setCell p u) g n F:=h.keep (Below.heap_setCell _ _ _ _ (fun e=>hp e.symm))
theorem Blk.set {w:World} {g n i:Nat} {F:Nat→Value} (h:Blk w g n F) (hi:i<n) (v:Value):Blk (w.setCell ⟨g,i,none⟩ v) g n (fup F i v):=fun j hj=>by
 refine ⟨?_,by rw [World.frozen?_setCell];exact (h j hj).2⟩
 by_cases e:j=i
 ·subst e
  rw [fup_same]
  exact World.cell?_setCell_same _ _ _ (h j hj).1
 ·rw [fup_ne _ _ e,cell_set_off _ _ _ _ _ e]
  exact (h j hj).1
theorem Blk.congr {w:World} {g n:Nat} {F F':Nat→Value} (h:Blk w g n F) (e:∀ i,i<n→F i=F' i):Blk w g n F':=fun i hi=>⟨(h i hi).1.trans (by rw [e i hi]),(h i hi).2⟩
theorem Blk.new {w:World} {H:Nat} (hH:w.heap.size=H) (l:List Value) (T:Nat):Blk (w.alloc (.cells l.toArray T)) H l.length (fun i=>l.getD i undef):=fun i hi=>by
 subst hH
 have hb:=heap_alloc_new w (.cells l.toArray T)
 refine ⟨?_,frozen_of_row _ _ i _ _ hb⟩
 rw [cell_of_row _ _ i _ _ _ hb]
 simp [hi]
end Go.Proofs.YtpaednfinlaioaaGreatDoor
