/-
  The laws' Input that came in by value, opened: three slices of bytes and two bytes. The listed variables.
-/
import Derived.Test.YtpaednfinlaioaaGreatDoorFRowM
import Derived.Test.YtpaednfinlaioaaGreatDoorFt
import Derived.Test.YtpaednfinlaioaaGreatDoorMl
import Derived.ProofKit
import Derived.OpenShut
import Derived.LaidMore
import Derived.Stop.Joined
import Derived.Stop.LaidErr
import Derived.Lib.LaidTab
import Derived.Lib.SmallJoins
set_option maxRecDepth 100000
namespace Go.Proofs.YtpaednfinlaioaaGreatDoor
open Go.Lib (hid)
open Go.ChangeShapes Go.WideShapes Go.ChangeAt Go.RowKit Go.Deep
section
variable {H : Type} {enc : TypeId × Value → H} {W : World} {base : Nat}
theorem bts_cell {n:Nat} {v:Value} {y:DataW H × List MemPlace} (hf:DataW.trod enc Tryz.prog W base (fun _=>true) true n 22 [v]=some y) :
  ∃ (A:Option Addr) (nn cc:Nat) (l:List Nat),v=.slice A nn cc∧Hid (B8 W W.heap.size A nn l)∧nn≤9223372036854775807:=by
 obtain ⟨a0,m0,c0,hv⟩:=Joins.slice_form Tryz.underlying22 hf
 obtain rfl:v=.slice a0 m0 c0:=by simpa using hv
 rcases open_ints Tryz.underlying22 Tryz.underlying5 (by kernel_rfl) hf with ⟨hcs,_⟩ | ⟨x,l,c,zs,hcs,_,h1,h2,h3,_,h4,h5⟩
 ·simp at hcs
  obtain ⟨rfl,rfl,rfl⟩:=hcs
  exact ⟨none,0,0,[],rfl,hid ⟨rfl,fun x hx=>by simp at hx,fun h=>by omega⟩,by omega⟩
 ·simp at hcs
  obtain ⟨rfl,rfl,rfl⟩:=hcs
  have h3':zs.length=c0:=by rw [h3];simp
  refine ⟨_,m0,c0,(zs.take m0).map Int.toNat,rfl,⟨by simp;omega,fun x hx=>?_,fun h0=>?_⟩,by unfold maxLen at h2;omega⟩
  ·obtain ⟨n,hn,rfl⟩:=List.mem_map.1 hx
   have:=Go.bounds_u8 (h5 n (List.mem_of_mem_take hn))
   omega
  ·obtain ⟨b,o,rfl,hc⟩:=Go.ints_at h4 (by omega)
   refine ⟨b,o,rfl,block_lt_of_cell (hc 0 (by omega)),fun j hj=>?_⟩
   rw [hc j (by omega)]
   have hz:=(Go.bounds_u8 (h5 (zs.getD j 0) (by rw [List.getD_eq_getElem?_getD,List.getElem?_eq_getElem (by omega)];exact List.getElem_mem _))).1
   have e:((zs.take m0).map Int.toNat).getD j 0=(zs.getD j 0).toNat:=by
    rw [List.getD_eq_getElem?_getD,List.getD_eq_getElem?_getD,List.getElem?_map,List.getElem?_take,if_pos (by omega)]
    rw [List.getElem?_eq_getElem (by omega)];rfl
   rw [e,Int.toNat_of_nonneg hz]
theorem byte_cell {n:Nat} {v:Value} {y:DataW H × List MemPlace} (hf:DataW.trod enc Tryz.prog W base (fun _=>true) true n 5 [v]=some y):∃ x:Nat,v=.int .u8 (x:Int)∧x<256:=by
 obtain ⟨b,e1,_,wb⟩:=DataW.trod_int Tryz.underlying5 hf
 have hb:=Go.bounds_u8 wb
 obtain ⟨x,rfl⟩:∃ x:Nat,b=(x:Int):=⟨b.toNat,by omega⟩
 exact ⟨x,by simpa using e1,by omega⟩
theorem array5 {α:Type} {cs:Array α} (h:cs.size=5):∃ a b c d e,cs=#[a,b,c,d,e]:=by
 obtain ⟨l⟩:=cs
 match l,h with
 | [a,b,c,d,e],_=>exact ⟨a,b,c,d,e,rfl⟩
theorem inp_open {r:Reach} {b0:Nat} {v:Value} {d:DataW H} {p:List MemPlace}
  (hv:Value.okWide Tryz.prog W r b0 24 v) (h:DataW.Trod enc Tryz.prog W base (fun _=>true) true 24 v d p) :
  ∃ (A1:Option Addr) (n1 c1:Nat) (l1:List Nat) (A2:Option Addr) (n2 c2:Nat) (l2:List Nat) (x:Nat) (A3:Option Addr) (n3 c3:Nat) (l3:List Nat) (y:Nat),
    v=.agg #[.slice A1 n1 c1,.slice A2 n2 c2,.int .u8 (x:Int),.slice A3 n3 c3,.int .u8 (y:Int)]∧(Hid (B8 W W.heap.size A1 n1 l1)∧n1≤9223372036854775807)∧(Hid (B8 W W.heap.size A2 n2 l2)∧n2≤9223372036854775807)∧x<256∧(Hid (B8 W W.heap.size A3 n3 l3)∧n3≤9223372036854775807)∧y<256:=by
 obtain ⟨cs,rfl,hsz⟩:=okWide_struct Tryz.underlying24 hv
 obtain ⟨a,b,c,d',e,rfl⟩:=array5 (hsz.trans (by kernel_rfl))
 obtain ⟨fuel,hf⟩:=h
 obtain ⟨xs,n,_,_,hl,hlen,hx⟩:=DataW.trod_struct Tryz.underlying24 hf
 have hcs:Tryz.prog.cellsOf 22=1:=by kernel_rfl
 have hcb:Tryz.prog.cellsOf 5=1:=by kernel_rfl
 match xs,hlen with
 | [y0,y1,y2,y3,y4],_ =>
   have z0:=hx 0 _ rfl
   have z1:=hx 1 _ rfl
   have z2:=hx 2 _ rfl
   have z3:=hx 3 _ rfl
   have z4:=hx 4 _ rfl
   simp [Value.cells,hcs,hcb] at z0 z1 z2 z3 z4
   obtain ⟨A1,n1,c1,l1,rfl,q1⟩:=bts_cell z0
   obtain ⟨A2,n2,c2,l2,rfl,q2⟩:=bts_cell z1
   obtain ⟨x,rfl,hx2⟩:=byte_cell z2
   obtain ⟨A3,n3,c3,l3,rfl,q3⟩:=bts_cell z3
   obtain ⟨y,rfl,hy2⟩:=byte_cell z4
   exact ⟨A1,n1,c1,l1,A2,n2,c2,l2,x,A3,n3,c3,l3,y,rfl,q1,q2,hx2,q3,hy2⟩
end
abbrev laidF : List (String × DataW Unit) := [("unicode/utf8.acceptRanges", Rows.laid_unicode_utf8_acceptRanges), ("koine/diagram.inside", Rows.laid_koine_diagram_inside), ("unicode/utf8.first", Rows.laid_unicode_utf8_first)]
theorem ins_of_laidF {W:World} (h:laidMetH Tryz.prog laidF W):Ins W 0:=by
 rw [MakeChecks.laidMetH_plain _ _ _ (by kernel_rfl)] at h
 have hT : Lib.TabIs Tryz.prog W "koine/diagram.inside" .u8 [170, 204, 240] :=
  Lib.tabIs_of_head gIns tIns Tryz.underlying192 Tryz.underlying5 (by kernel_rfl) (by kernel_rfl) h.tail
 exact ⟨hT.cell gIns 0 (by decide),hT.cell gIns 1 (by decide),hT.cell gIns 2 (by decide)⟩
end Go.Proofs.YtpaednfinlaioaaGreatDoor
