/-
  Plain mathematics and contracts of package diagram, several texts in one: FBld.
-/
import Derived.Test.YtpaednfinlaioaaGreatDoorFe
import Derived.Lib.Strings
import Derived.Lib.Builder
import Derived.Lib.AppendStr
import Derived.Lib.UnsafeStr
import Derived.Laws.Externs
set_option maxHeartbeats 2000000
set_option maxRecDepth 100000
namespace Go.Proofs.YtpaednfinlaioaaGreatDoor
open Go.RowKit Dg St
set_option linter.unusedVariables false
set_option linter.unusedSimpArgs false
attribute [local go_sem ↓] Go.wp_at_zero Go.wp_at_succ
structure PrP (w:World) (B g:Nat) (vn vf p:Value) (bs:List Value):Prop where
 base:B≤g
 ex:∃ v,w.heap[g]? = some (.cells #[vn,vf,p,v] 90 (0,0))∧w.ownsRow B 5 1 v bs.length bs∧v.ownBlock≠some g
def PrS (w:World) (B g:Nat) (vn vf:Value) (bs:List Value):Prop:=PrP w B g vn vf (.pointer none) bs∨PrP w B g vn vf (.pointer (some ⟨g,2,none⟩)) bs
def PrK (w w':World) (g:Nat):Prop:=∀ k o,w.heap[k]? = some o→k≠g→(∀ c fz,o≠.cells c 5 fz)→w'.heap[k]? = some o
theorem PrK.refl (w:World) (g:Nat):PrK w w g:=fun _ _ h _ _=>h
theorem PrK.trans {w w' w'':World} {g:Nat} (h:PrK w w' g) (h':PrK w' w'' g):PrK w w'' g:=fun k o hk hg ho=>h' k o (h k o hk hg ho) hg ho
theorem PrK.alloc {a w:World} {g:Nat} (h:PrK a w g) (o:Obj):PrK a (w.alloc o) g:=fun k x hk hb hx=>by
 have h1:=h k x hk hb hx
 have hlt:k<w.heap.size:=(Array.getElem?_eq_some_iff.1 h1).1
 have:=((Below.refl w.heap.size w).alloc (Nat.le_refl _) o).block k hlt
 rw [this];exact h1
theorem PrK.drew {a w:World} {g:Nat} (h:PrK a w g):PrK a w.drew g:=h
theorem PrK.setCell {a w:World} {g:Nat} (h:PrK a w g) (i:Nat) (v:Value):PrK a (w.setCell ⟨g,i,none⟩ v) g:=fun k x hk hb hx=>by
 rw [Below.heap_setCell _ _ _ _ hb];exact h k x hk hb hx
theorem PrK.grown {a w w':World} {g:Nat} {v:Value} {B n:Nat} {xs:List Value} (h:PrK a w g) (hown:w.ownsRow B 5 1 v n xs) (hg:w.grownBy w' v.ownBlock):PrK a w' g:=fun k x hk hb hx=>by
 have h1:=h k x hk hb hx
 have hlt:k<w.heap.size:=(Array.getElem?_eq_some_iff.1 h1).1
 rw [hg.block k hlt ?_]
 ·exact h1
 ·intro e
  rcases hown.2 with ⟨rfl,_⟩ | ⟨q,cap,cur,rfl,_,hq,_⟩
  ·cases e
  ·have e':k=q:=Option.some.inj e
   subst e'
   rw [hq] at h1
   exact hx _ _ (Option.some.inj h1).symm
theorem PrP.cells {w:World} {B g:Nat} {vn vf p:Value} {bs:List Value} (h:PrP w B g vn vf p bs):w.cell? ⟨g,0,none⟩=some vn∧w.cell? ⟨g,1,none⟩=some vf∧w.cell? ⟨g,2,none⟩=some p∧w.frozen? ⟨g,2,none⟩=false∧w.frozen? ⟨g,3,none⟩=false∧w.shape? g=some (90,4)∧g<w.heap.size:=by
 obtain ⟨_,v,hb,_⟩:=h
 refine ⟨?_,?_,?_,?_,?_,?_,?_⟩
 ·rw [cell_of_row _ _ 0 _ _ _ hb];rfl
 ·rw [cell_of_row _ _ 1 _ _ _ hb];rfl
 ·rw [cell_of_row _ _ 2 _ _ _ hb];rfl
 ·exact frozen_of_row _ _ 2 _ _ hb
 ·exact frozen_of_row _ _ 3 _ _ hb
 ·simp [World.shape?,hb]
 ·rcases Nat.lt_or_ge g w.heap.size with h' | h'
  ·exact h'
  ·simp [Array.getElem?_eq_none h'] at hb
theorem PrP.used {w:World} {B g:Nat} {vn vf p:Value} {bs:List Value} (h:PrP w B g vn vf p bs) (q:Value):PrP (w.setCell ⟨g,2,none⟩ q) B g vn vf q bs:=by
 obtain ⟨hB,v,hb,hown,hne⟩:=h
 refine ⟨hB,v,?_,?_,hne⟩
 ·simp [World.setCell,Array.getElem?_modify,hb]
 ·refine hown.kept (row:=some g) ⟨rfl,rfl,rfl,by simp [World.setCell],fun k _ hk=>Below.heap_setCell _ _ _ _ (fun e=>hk (by simp [e]))⟩ ?_
  exact Or.inr hne
theorem PrP.put {B g:Nat} {vn vf p v v':Value} {bs':List Value} {w:World} (hB:B≤g) (hb:w.heap[g]? = some (.cells #[vn,vf,p,v] 90 (0,0))) (hown:w.ownsRow B 5 1 v' bs'.length bs'):PrP (w.setCell ⟨g,3,none⟩ v') B g vn vf p bs':=by
 have hne:v'.ownBlock≠some g:=by
  intro e
  rcases hown.2 with ⟨rfl,_⟩ | ⟨q,cap,cur,rfl,_,hq,_⟩
  ·cases e
  ·have e':q=g:=Option.some.inj e
   subst e'
   rw [hq] at hb
   injection hb with hb
   injection hb with _ h2
   exact absurd h2 (by decide)
 refine ⟨hB,v',?_,?_,hne⟩
 ·simp [World.setCell,Array.getElem?_modify,hb]
 ·exact hown.kept (row:=some g) ⟨rfl,rfl,rfl,by simp [World.setCell],fun k _ hk=>Below.heap_setCell _ _ _ _ (fun e=>hk (by simp [e]))⟩ (Or.inr hne)
theorem typB:Tryz.prog.underlying 86=some (.pointer 88):=by kernel_rfl
theorem typU:Tryz.prog.underlying 153=some .unsafePointer:=by kernel_rfl
theorem infB:(Tryz.prog.info? 88).map (·.size)=some 2:=by kernel_rfl
theorem liesB:liesAt Tryz.prog Tryz.prog.depth 90 (4 / Tryz.prog.cellsOf 90) 2 88 1=true:=by kernel_rfl
theorem ccheck_used (g:Nat) (w:World) (h0:w.cell? ⟨g,2,none⟩=some (.pointer (some ⟨g,2,none⟩))) :
  Calls Tryz.prog 111 #[.pointer (some ⟨g,2,none⟩)] w fun e w'=>e=.returned (.tuple #[])∧w'=w:=by
 obtain ⟨j,hj,hjs⟩:=Option.map_eq_some_iff.1 infB
 have hneq:=fun W:World=>Lib.run_neq_ptr_same W ⟨g,2,none⟩ typB hj
 go_enter Tryz.func111,Tryz.ntmps111
 go_wp2
 go_end0
 exact ⟨rfl,rfl⟩
theorem ccheck_fresh (g:Nat) (w:World) (h0:w.cell? ⟨g,2,none⟩=some (.pointer none)) (hsh:w.shape? g=some (90,4)) (hfz:w.frozen? ⟨g,2,none⟩=false) :
  Calls Tryz.prog 111 #[.pointer (some ⟨g,2,none⟩)] w fun e w'=>e=.returned (.tuple #[])∧w'=w.setCell ⟨g,2,none⟩ (.pointer (some ⟨g,2,none⟩)):=by
 obtain ⟨j,hj,hjs⟩:=Option.map_eq_some_iff.1 infB
 have hneq:=fun W:World=>Lib.run_neq_ptr_same W ⟨g,2,none⟩ typB hj
 go_enter Tryz.func111,Tryz.ntmps111
 go_wp2
 rw [Lib.run_to_unsafe w ⟨g,2,none⟩ typB typU hj (by rw [hjs];decide) hsh (show (2:Nat)<4 by decide)]
 simp only [Result.andThen]
 rw [Oper.upon_value]
 go_wp2
 rw [run_callFunc_extern Tryz.func121 (by kernel_rfl) (by kernel_rfl) (by kernel_rfl) (e:=Extern.AbiNoEscape.same) (by kernel_rfl)]
 rw [Lib.run_noEscape]
 simp only [Result.andThen]
 rw [Oper.upon_value]
 go_wp2
 rw [Lib.run_from_unsafe w ⟨g,2,none⟩ typU typB hj hsh liesB]
 simp only [Result.andThen]
 rw [Oper.upon_value]
 go_wp2
 go_end0
 exact ⟨rfl,rfl⟩
theorem ccheck_any (B g:Nat) (vn vf:Value) (bs:List Value) (w:World) (h:PrS w B g vn vf bs) :
  Calls Tryz.prog 111 #[.pointer (some ⟨g,2,none⟩)] w fun e w'=>e=.returned (.tuple #[])∧PrP w' B g vn vf (.pointer (some ⟨g,2,none⟩)) bs∧Below B w w'∧PrK w w' g∧w'.heap.size=w.heap.size:=by
 rcases h with h | h
 ·obtain ⟨_,_,c2,f2,_,hsh,_⟩:=h.cells
  refine (ccheck_fresh g w c2 hsh f2).mono ?_
  rintro e w' ⟨rfl,rfl⟩
  exact ⟨rfl,h.used _,(Below.refl B w).setCell (p:=⟨g,2,none⟩) h.base _,(PrK.refl w g).setCell 2 _,by simp⟩
 ·obtain ⟨_,_,c2,_⟩:=h.cells
  refine (ccheck_used g w c2).mono ?_
  rintro e w' ⟨rfl,rfl⟩
  exact ⟨rfl,h,Below.refl B _,PrK.refl _ _,rfl⟩
theorem infU8:(Tryz.prog.info? 5).map (fun i=>(i.zero,i.size,i.bytes))=some (some (.int .u8 0),1,1):=by kernel_rfl
theorem wstr_any (B g:Nat) (vn vf:Value) (bs:List Value) (s:ByteArray) (w:World) (h:PrS w B g vn vf bs) (hlen:bs.length+s.size≤140737488355328) (hBw:B≤w.heap.size) :
  Calls Tryz.prog 92 #[.pointer (some ⟨g,2,none⟩),.string s] w fun e w'=>e=.returned (.tuple #[.int .i64 s.size,.nilIface])∧PrS w' B g vn vf (bs++Lib.strCells s)∧Below B w w'∧PrK w w' g∧w.heap.size≤w'.heap.size:=by
 obtain ⟨i0,hi,hz0,hz1,hz2⟩:=info_parts infU8
 go_enter Tryz.func92,Tryz.ntmps92
 go_wp2_with (go_at_call 111;refine (ccheck_any B g vn vf bs _ h).mono ?_)
 rintro e w1 ⟨rfl,h1,hb1,hk1,hs1⟩
 obtain ⟨c0,c1,c2,f2,f3,hsh,hlt⟩:=h1.cells
 obtain ⟨hB,v,hbk,hown,hne⟩:=h1
 have c3:w1.cell? ⟨g,3,none⟩=some v:=by rw [cell_of_row _ _ 3 _ _ _ hbk];rfl
 go_wp2_with (at_builtin;refine Lib.wpList_append_own_string _ rfl _ _ 22 9 rfl B 5 i0 Tryz.underlying22 Tryz.underlying9 hi hz0 hz1 hz2 _ _ _ rfl hown s rfl ?c3 ?c4 ?c5 ?_)
 case c3=>unfold maxLen;omega
 case c4=>omega
 case c5=>omega
 intro v' w2 hown' hgrow _
 have hb2:w2.heap[g]? = some (.cells #[vn,vf,.pointer (some ⟨g,2,none⟩),v] 90 (0,0)):=by
  rw [hgrow.block g hlt (fun e=>hne e.symm)]
  exact hbk
 have d2:w2.cell? ⟨g,2,none⟩=some (.pointer (some ⟨g,2,none⟩)):=by rw [cell_of_row _ _ 2 _ _ _ hb2];rfl
 have d3:w2.cell? ⟨g,3,none⟩=some v:=by rw [cell_of_row _ _ 3 _ _ _ hb2];rfl
 have e3:w2.frozen? ⟨g,3,none⟩=false:=frozen_of_row _ _ 3 _ _ hb2
 have hk2:=(hk1.grown hown hgrow).setCell 3 v'
 have hpp:=PrP.put (p:=.pointer (some ⟨g,2,none⟩)) hB hb2 (bs':=bs++Lib.strCells s) (by simpa [Lib.strCells_length] using hown')
 have hbb:=(hb1.grown hgrow (by omega) (fun k hk=>(hown.lt k hk).1)).setCell (p:=⟨g,3,none⟩) hB v'
 have hsz:=hgrow.size
 clear hgrow hown hbk hb2
 obtain ⟨ao,n',cap,rfl⟩:∃ ao n' cap,v'=.slice ao n' cap:=by
  rcases hown'.2 with ⟨hv,_⟩ | ⟨g,cap,cur,hv,_⟩
  ·exact ⟨_,_,_,hv⟩
  ·exact ⟨_,_,_,hv⟩
 clear hown'
 go_wp2
 go_ret2
 exact ⟨rfl,.inr hpp,hbb,hk2,by simp;omega⟩
end Go.Proofs.YtpaednfinlaioaaGreatDoor
