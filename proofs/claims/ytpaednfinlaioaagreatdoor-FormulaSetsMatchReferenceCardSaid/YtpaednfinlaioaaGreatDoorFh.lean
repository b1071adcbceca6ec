/-
  Plain mathematics and contracts of package diagram, several texts in one: FWrt, FWr2, FPrt.
-/
import Derived.Test.YtpaednfinlaioaaGreatDoorFf
import Derived.Test.YtpaednfinlaioaaGreatDoorFg
import Derived.StillTailTactics
import Derived.RegionTactic
set_option maxHeartbeats 4000000
set_option maxRecDepth 100000
namespace Go.Proofs.YtpaednfinlaioaaGreatDoor
open Go.Lib (hid)
open Go.RowKit Dg St
set_option linter.unusedVariables false
set_option linter.unusedSimpArgs false
attribute [local go_sem ↓] Go.wp_at_zero Go.wp_at_succ
def bc (l:List UInt8):List Value:=l.map fun b=>Value.int .u8 b.toNat
theorem bc_app (a b:List UInt8):bc (a++b)=bc a++bc b:=List.map_append
theorem bc_len (a:List UInt8):(bc a).length=a.length:=by unfold bc;simp
def shF (l:List Fi) (L:List ByteArray):Nat→Nat→Nat→List UInt8
 | 0,_,_=>[]
 | n+1,k,least =>
   let body:=if fo l k=0 then [102,97,108,115,101] else if fo l k=1 then [116,114,117,101] else if fo l k=2 then (sg L (fv l k).toNat).data.toList
    else if fo l k=3 then [33]++shF l L n (fa l k).toNat 3
    else if fo l k=4 then shF l L n (fa l k).toNat 2++[32,38,38,32]++shF l L n (fb l k).toNat 3
    else if fo l k=5 then shF l L n (fa l k).toNat 1++[32,124,124,32]++shF l L n (fb l k).toNat 2 else []
   if stg (fo l k)<least then [40]++body++[41] else body
theorem PrP.alloc {w:World} {B g:Nat} {vn vf p:Value} {bs:List Value} (h:PrP w B g vn vf p bs) (o:Obj):PrP (w.alloc o) B g vn vf p bs:=by
 have hlt:=h.cells.2.2.2.2.2.2
 obtain ⟨hB,v,hb,hown,hne⟩:=h
 exact ⟨hB,v,(((Below.refl w.heap.size w).alloc (Nat.le_refl _) o).block g hlt).trans hb,hown.alloc o,hne⟩
theorem PrS.alloc {w:World} {B g:Nat} {vn vf:Value} {bs:List Value} (h:PrS w B g vn vf bs) (o:Obj):PrS (w.alloc o) B g vn vf bs:=h.elim (fun q=>.inl (q.alloc o)) (fun q=>.inr (q.alloc o))
theorem PrP.drew {w:World} {B g:Nat} {vn vf p:Value} {bs:List Value} (h:PrP w B g vn vf p bs):PrP w.drew B g vn vf p bs:=⟨h.base,h.ex⟩
theorem PrS.drew {w:World} {B g:Nat} {vn vf:Value} {bs:List Value} (h:PrS w B g vn vf bs):PrS w.drew B g vn vf bs:=h.elim (fun q=>.inl q.drew) (fun q=>.inr q.drew)
theorem PrS.c01 {w:World} {B g:Nat} {vn vf:Value} {bs:List Value} (h:PrS w B g vn vf bs):w.cell? ⟨g,0,none⟩=some vn∧w.cell? ⟨g,1,none⟩=some vf∧g<w.heap.size∧B≤g:=by
 rcases h with h | h
 ·exact ⟨h.cells.1,h.cells.2.1,h.cells.2.2.2.2.2.2,h.base⟩
 ·exact ⟨h.cells.1,h.cells.2.1,h.cells.2.2.2.2.2.2,h.base⟩
def WrO (B g:Nat) (vn vf:Value) (w w':World) (bl:List UInt8):Prop:=PrS w' B g vn vf (bc bl)∧Below B w w'∧PrK w w' g∧w.heap.size≤w'.heap.size
structure WrI (w0 w:World) (B g h:Nat) (vn vf:Value) (bl:List UInt8) (bx:Array Value):Prop where
 prs:PrS w B g vn vf (bc bl)
 box:w.heap[h]? = some (.cells bx 58 (0,0))
 bel:Below B w0 w
 kep:PrK w0 w g
 siz:w0.heap.size≤w.heap.size
theorem wri_step {w0 w w':World} {B g h:Nat} {vn vf:Value} {bl bl':List UInt8} {bx:Array Value} (i:Hid (WrI w0 w B g h vn vf bl bx)) (o:WrO B g vn vf w w' bl') (hh:h≠g):Hid (WrI w0 w' B g h vn vf bl' bx) :=
 hid ⟨o.1,o.2.2.1 h _ i.out.box hh (fun c fz e=>by injection e with _ e2;exact absurd e2 (by decide)),i.out.bel.trans o.2.1,i.out.kep.trans o.2.2.1,Nat.le_trans i.out.siz o.2.2.2⟩
theorem wri_drew {w0 w:World} {B g h:Nat} {vn vf:Value} {bl:List UInt8} {bx:Array Value} (i:Hid (WrI w0 w B g h vn vf bl bx)):Hid (WrI w0 w.drew B g h vn vf bl bx) :=
 hid ⟨i.out.prs.drew,i.out.box,i.out.bel.drew,i.out.kep.drew,i.out.siz⟩
theorem wri_out4 {w0 w:World} {B g h:Nat} {vn vf:Value} {bl:List UInt8} {a b c d:Value} (i:Hid (WrI w0 w B g h vn vf bl #[a,b,c,d])):w.cell? ⟨h,0,none⟩=some a∧w.cell? ⟨h,1,none⟩=some b∧w.cell? ⟨h,2,none⟩=some c∧w.cell? ⟨h,3,none⟩=some d:=by
 refine ⟨?_,?_,?_,?_⟩
 ·rw [cell_of_row _ _ 0 _ _ _ i.out.box];rfl
 ·rw [cell_of_row _ _ 1 _ _ _ i.out.box];rfl
 ·rw [cell_of_row _ _ 2 _ _ _ i.out.box];rfl
 ·rw [cell_of_row _ _ 3 _ _ _ i.out.box];rfl
theorem wri_new {w:World} {B g:Nat} {vn vf:Value} {bl:List UInt8} (h:PrS w B g vn vf (bc bl)) (bx:Array Value):Hid (WrI w (w.alloc (.cells bx 58)) B g w.heap.size vn vf bl bx) :=
 hid ⟨h.alloc _,heap_alloc_new _ _,(Below.refl B w).alloc (by have:=h.c01;omega) _,(PrK.refl w g).alloc _,by simp⟩
theorem wri_str {w0 w:World} {B g h:Nat} {vn vf:Value} {bl:List UInt8} {bx:Array Value} (i:Hid (WrI w0 w B g h vn vf bl bx)) (s:ByteArray) (hlen:Hid (bl.length+s.size≤140737488355328)) :
  Calls Tryz.prog 92 #[.pointer (some ⟨g,2,none⟩),.string s] w fun e w'=>e=.returned (.tuple #[.int .i64 s.size,.nilIface])∧WrO B g vn vf w w' (bl++s.data.toList):=by
 have hb:=i.out.prs.c01
 refine (wstr_any B g vn vf (bc bl) s w i.out.prs (by rw [bc_len];exact hlen.out) (by omega)).mono ?_
 rintro e w' ⟨he,h1,h2,h3,h4⟩
 exact ⟨he,by rw [bc_app];exact h1,h2,h3,h4⟩
abbrev WrC (B g:Nat) (vn vf:Value) (w0:World) (k:Nat) (least:Int) (out:List UInt8):Prop:=∀ (W:World) (bl:List UInt8),Below B w0 W→PrS W B g vn vf (bc bl)→bl.length+out.length≤140737488355328 →
 Calls Tryz.prog 52 #[.pointer (some ⟨g,0,none⟩),.int .i64 (k:Int),.int .i64 least] W fun e w'=>e=.returned (.tuple #[])∧WrO B g vn vf W w' (bl++out)
theorem bin_and (B g:Nat) (vn vf:Value) (w:World) (bl oa ob:List UInt8) (v:Int) (a b:Nat) (hP:Hid (PrS w B g vn vf (bc bl))) (HA:Hid (WrC B g vn vf w a 2 oa)) (HB:Hid (WrC B g vn vf w b 3 ob)) (hlen:Hid (bl.length+(oa++[32,38,38,32]++ob).length≤140737488355328)) :
  Calls Tryz.prog 93 #[.pointer (some ⟨g,0,none⟩),.agg #[.int .i64 4,.int .i64 v,.int .i64 (a:Int),.int .i64 (b:Int)],.string ⟨#[38,38]⟩] w fun e w'=>e=.returned (.tuple #[])∧WrO B g vn vf w w' (bl++(oa++[32,38,38,32]++ob)):=by
 have I0:=wri_new hP.out #[.int .i64 4,.int .i64 v,.int .i64 (a:Int),.int .i64 (b:Int)]
 have hgl:=hP.out.c01.2.2.1
 have hh:w.heap.size≠g:=by omega
 have HH:=hid hh
 have h1:Hid (bl.length+oa.length≤140737488355328):=hid (by have:=hlen.out;simp at this;omega)
 have h2:Hid ((bl++oa).length+4≤140737488355328):=hid (by have:=hlen.out;simp at this;simp;omega)
 have h3:Hid ((bl++oa++[32,38,38,32]).length+ob.length≤140737488355328):=hid (by have:=hlen.out;simp at this;simp;omega)
 have HS:∀ W,Calls Tryz.prog 91 #[.int .i64 4] W fun e w'=>e=.returned (.int .i64 2)∧W=w':=fun W=>strength_any 4 W
 have ex:((⟨#[32]⟩++⟨#[38,38]⟩++⟨#[32]⟩:ByteArray))=⟨#[32,38,38,32]⟩:=by rfl
 have EX:=hid ex
 have ES:Hid (ByteArray.size ⟨#[32,38,38,32]⟩=4):=hid rfl
 clear hh hgl hlen hP ex
 go_enter Tryz.func93,Tryz.ntmps93
 go_upto_region 1 with fail
 generalize w.alloc (.cells #[.int .i64 4,.int .i64 v,.int .i64 (a:Int),.int .i64 (b:Int)] 58)=w1 at *
 obtain ⟨x0,x1,x2,x3⟩:=wri_out4 I0
 go_wp2_with fail
 with_reducible refine (HS _).mono ?_
 rintro e w2 ⟨rfl,rfl⟩
 go_wp2_with fail
 with_reducible refine (HA.out _ bl I0.out.bel I0.out.prs h1.out).mono ?_
 rintro e w3 ⟨rfl,b3⟩
 have I1:=wri_step I0 b3 HH.out
 clear x0 x1 x2 x3 b3
 obtain ⟨x0,x1,x2,x3⟩:=wri_out4 I1
 go_wp2_with fail
 have HW:=hid (wri_str I1 (⟨#[32]⟩++⟨#[38,38]⟩++⟨#[32]⟩:ByteArray) (by rw [EX.out,ES.out];exact h2))
 with_reducible refine HW.out.mono ?_
 rintro e w4 ⟨rfl,b4⟩
 rw [EX.out] at b4
 have I2:=wri_step I1 b4 HH.out
 clear x0 x1 x2 x3 b4
 obtain ⟨x0,x1,x2,x3⟩:=wri_out4 I2
 go_wp2_with fail
 with_reducible refine (HB.out _ _ I2.out.bel I2.out.prs h3.out).mono ?_
 rintro e w5 ⟨rfl,b5⟩
 have I3:=wri_step I2 b5 HH.out
 clear x0 x1 x2 x3 b5
 go_wp2
 go_end0
 refine ⟨rfl,?_⟩
 have e:bl++(oa++[32,38,38,32]++ob)=bl++oa++[32,38,38,32]++ob:=by simp
 rw [e]
 exact ⟨I3.out.prs,I3.out.bel,I3.out.kep,I3.out.siz⟩
theorem bin_or (B g:Nat) (vn vf:Value) (w:World) (bl oa ob:List UInt8) (v:Int) (a b:Nat) (hP:Hid (PrS w B g vn vf (bc bl))) (HA:Hid (WrC B g vn vf w a 1 oa)) (HB:Hid (WrC B g vn vf w b 2 ob)) (hlen:Hid (bl.length+(oa++[32,124,124,32]++ob).length≤140737488355328)) :
  Calls Tryz.prog 93 #[.pointer (some ⟨g,0,none⟩),.agg #[.int .i64 5,.int .i64 v,.int .i64 (a:Int),.int .i64 (b:Int)],.string ⟨#[124,124]⟩] w fun e w'=>e=.returned (.tuple #[])∧WrO B g vn vf w w' (bl++(oa++[32,124,124,32]++ob)):=by
 have I0:=wri_new hP.out #[.int .i64 5,.int .i64 v,.int .i64 (a:Int),.int .i64 (b:Int)]
 have hgl:=hP.out.c01.2.2.1
 have hh:w.heap.size≠g:=by omega
 have HH:=hid hh
 have h1:Hid (bl.length+oa.length≤140737488355328):=hid (by have:=hlen.out;simp at this;omega)
 have h2:Hid ((bl++oa).length+4≤140737488355328):=hid (by have:=hlen.out;simp at this;simp;omega)
 have h3:Hid ((bl++oa++[32,124,124,32]).length+ob.length≤140737488355328):=hid (by have:=hlen.out;simp at this;simp;omega)
 have HS:∀ W,Calls Tryz.prog 91 #[.int .i64 5] W fun e w'=>e=.returned (.int .i64 1)∧W=w':=fun W=>strength_any 5 W
 have ex:((⟨#[32]⟩++⟨#[124,124]⟩++⟨#[32]⟩:ByteArray))=⟨#[32,124,124,32]⟩:=by rfl
 have EX:=hid ex
 have ES:Hid (ByteArray.size ⟨#[32,124,124,32]⟩=4):=hid rfl
 clear hh hgl hlen hP ex
 go_enter Tryz.func93,Tryz.ntmps93
 go_upto_region 1 with fail
 generalize w.alloc (.cells #[.int .i64 5,.int .i64 v,.int .i64 (a:Int),.int .i64 (b:Int)] 58)=w1 at *
 obtain ⟨x0,x1,x2,x3⟩:=wri_out4 I0
 go_wp2_with fail
 with_reducible refine (HS _).mono ?_
 rintro e w2 ⟨rfl,rfl⟩
 go_wp2_with fail
 with_reducible refine (HA.out _ bl I0.out.bel I0.out.prs h1.out).mono ?_
 rintro e w3 ⟨rfl,b3⟩
 have I1:=wri_step I0 b3 HH.out
 clear x0 x1 x2 x3 b3
 obtain ⟨x0,x1,x2,x3⟩:=wri_out4 I1
 go_wp2_with fail
 have HW:=hid (wri_str I1 (⟨#[32]⟩++⟨#[124,124]⟩++⟨#[32]⟩:ByteArray) (by rw [EX.out,ES.out];exact h2))
 with_reducible refine HW.out.mono ?_
 rintro e w4 ⟨rfl,b4⟩
 rw [EX.out] at b4
 have I2:=wri_step I1 b4 HH.out
 clear x0 x1 x2 x3 b4
 obtain ⟨x0,x1,x2,x3⟩:=wri_out4 I2
 go_wp2_with fail
 with_reducible refine (HB.out _ _ I2.out.bel I2.out.prs h3.out).mono ?_
 rintro e w5 ⟨rfl,b5⟩
 have I3:=wri_step I2 b5 HH.out
 clear x0 x1 x2 x3 b5
 go_wp2
 go_end0
 refine ⟨rfl,?_⟩
 have e:bl++(oa++[32,124,124,32]++ob)=bl++oa++[32,124,124,32]++ob:=by simp
 rw [e]
 exact ⟨I3.out.prs,I3.out.bel,I3.out.kep,I3.out.siz⟩
theorem WrC.later {B g:Nat} {vn vf:Value} {w0 w1:World} {k:Nat} {least:Int} {out:List UInt8} (h:WrC B g vn vf w0 k least out) (hb:Below B w0 w1):WrC B g vn vf w1 k least out:=fun W bl h1 h2 h3=>h W bl (hb.trans h1) h2 h3
theorem wri_done {w0 w:World} {B g h:Nat} {vn vf:Value} {bl bl':List UInt8} {bx:Array Value} (i:Hid (WrI w0 w B g h vn vf bl' bx)) (e:bl'=bl):WrO B g vn vf w0 w bl:=by
 subst e
 exact ⟨i.out.prs,i.out.bel,i.out.kep,i.out.siz⟩
theorem wr_0n (B g:Nat) (vn:Value) (b o m c k:Nat) (least:Int) (w:World) (bl:List UInt8) (v a bb:Int) (hP:Hid (PrS w B g vn (.slice (some ⟨b,o,none⟩) m c) (bc bl))) (hk:k<m) (hm:m≤1000000)
  (d0:w.cell? ⟨b,o+k*4,none⟩=some (.int .i64 0)) (d1:w.cell? ⟨b,o+k*4+1,none⟩=some (.int .i64 v)) (d2:w.cell? ⟨b,o+k*4+2,none⟩=some (.int .i64 a)) (d3:w.cell? ⟨b,o+k*4+3,none⟩=some (.int .i64 bb)) (hlt:¬ (4:Int)<least) (hlen:Hid (bl.length+[102,97,108,115,101].length≤140737488355328)) :
  Calls Tryz.prog 52 #[.pointer (some ⟨g,0,none⟩),.int .i64 (k:Int),.int .i64 least] w fun e w'=>e=.returned (.tuple #[])∧WrO B g vn (.slice (some ⟨b,o,none⟩) m c) w w' (bl++[102,97,108,115,101]):=by
 have I0:=wri_new hP.out #[.int .i64 0,.int .i64 v,.int .i64 a,.int .i64 bb]
 obtain ⟨p0,p1,hgl,hgB⟩:=hP.out.c01
 have hh:w.heap.size≠g:=by omega
 have HH:=hid hh
 have hls:bl.length+[102,97,108,115,101].length≤140737488355328:=hlen.out
 try simp only [List.length_append,List.length_cons,List.length_nil] at hls
 have HLS:=hid hls
 have HS:∀ W,Calls Tryz.prog 91 #[.int .i64 0] W fun e w'=>e=.returned (.int .i64 4)∧W=w':=fun W=>strength_any 0 W
 have i1:(0:Int)≤(k:Int):=by omega
 have i2:(k:Int)<(m:Int):=by omega
 clear hh hls hlen
 go_enter Tryz.func52,Tryz.ntmps52
 go_upto_region 1 with fail
 clear hP p0 p1 d0 d1 d2 d3
 generalize w.alloc (.cells #[.int .i64 0,.int .i64 v,.int .i64 a,.int .i64 bb] 58)=w1 at *
 obtain ⟨x0,x1,x2,x3⟩:=wri_out4 I0
 go_wp2_with fail
 with_reducible refine (HS _).mono ?_
 rintro e w2 ⟨rfl,rfl⟩
 go_wp2_with fail
 have HW0:=hid (wri_str I0 ⟨#[102,97,108,115,101]⟩ (hid (by have hl:=HLS.out;show _+5≤_;(try simp only [List.length_append,List.length_cons,List.length_nil]);omega)))
 with_reducible refine HW0.out.mono ?_
 rintro e v1 ⟨rfl,b1⟩
 have I1:=wri_step I0 b1 HH.out
 clear x0 x1 x2 x3 b1 HW0
 obtain ⟨x0,x1,x2,x3⟩:=wri_out4 I1
 go_wp2
 go_end0
 exact ⟨rfl,wri_done I1 (by simp)⟩
theorem wr_0p (B g:Nat) (vn:Value) (b o m c k:Nat) (least:Int) (w:World) (bl:List UInt8) (v a bb:Int) (hP:Hid (PrS w B g vn (.slice (some ⟨b,o,none⟩) m c) (bc bl))) (hk:k<m) (hm:m≤1000000)
  (d0:w.cell? ⟨b,o+k*4,none⟩=some (.int .i64 0)) (d1:w.cell? ⟨b,o+k*4+1,none⟩=some (.int .i64 v)) (d2:w.cell? ⟨b,o+k*4+2,none⟩=some (.int .i64 a)) (d3:w.cell? ⟨b,o+k*4+3,none⟩=some (.int .i64 bb)) (hlt:(4:Int)<least) (hlen:Hid (bl.length+([40]++[102,97,108,115,101]++[41]).length≤140737488355328)) :
  Calls Tryz.prog 52 #[.pointer (some ⟨g,0,none⟩),.int .i64 (k:Int),.int .i64 least] w fun e w'=>e=.returned (.tuple #[])∧WrO B g vn (.slice (some ⟨b,o,none⟩) m c) w w' (bl++([40]++[102,97,108,115,101]++[41])):=by
 have I0:=wri_new hP.out #[.int .i64 0,.int .i64 v,.int .i64 a,.int .i64 bb]
 obtain ⟨p0,p1,hgl,hgB⟩:=hP.out.c01
 have hh:w.heap.size≠g:=by omega
 have HH:=hid hh
 have hls:bl.length+([40]++[102,97,108,115,101]++[41]).length≤140737488355328:=hlen.out
 try simp only [List.length_append,List.length_cons,List.length_nil] at hls
 have HLS:=hid hls
 have HS:∀ W,Calls Tryz.prog 91 #[.int .i64 0] W fun e w'=>e=.returned (.int .i64 4)∧W=w':=fun W=>strength_any 0 W
 have i1:(0:Int)≤(k:Int):=by omega
 have i2:(k:Int)<(m:Int):=by omega
 clear hh hls hlen
 go_enter Tryz.func52,Tryz.ntmps52
 go_upto_region 1 with fail
 clear hP p0 p1 d0 d1 d2 d3
 generalize w.alloc (.cells #[.int .i64 0,.int .i64 v,.int .i64 a,.int .i64 bb] 58)=w1 at *
 obtain ⟨x0,x1,x2,x3⟩:=wri_out4 I0
 go_wp2_with fail
 with_reducible refine (HS _).mono ?_
 rintro e w2 ⟨rfl,rfl⟩
 go_wp2_with fail
 have HW0:=hid (wri_str I0 ⟨#[40]⟩ (hid (by have hl:=HLS.out;show _+1≤_;(try simp only [List.length_append,List.length_cons,List.length_nil]);omega)))
 with_reducible refine HW0.out.mono ?_
 rintro e v1 ⟨rfl,b1⟩
 have I1:=wri_step I0 b1 HH.out
 clear x0 x1 x2 x3 b1 HW0
 obtain ⟨x0,x1,x2,x3⟩:=wri_out4 I1
 go_wp2_with fail
 have HW1:=hid (wri_str I1 ⟨#[102,97,108,115,101]⟩ (hid (by have hl:=HLS.out;show _+5≤_;(try simp only [List.length_append,List.length_cons,List.length_nil]);omega)))
 with_reducible refine HW1.out.mono ?_
 rintro e v2 ⟨rfl,b2⟩
 have I2:=wri_step I1 b2 HH.out
 clear x0 x1 x2 x3 b2 HW1
 obtain ⟨x0,x1,x2,x3⟩:=wri_out4 I2
 go_wp2_with fail
 have HW2:=hid (wri_str I2 ⟨#[41]⟩ (hid (by have hl:=HLS.out;show _+1≤_;(try simp only [List.length_append,List.length_cons,List.length_nil]);omega)))
 with_reducible refine HW2.out.mono ?_
 rintro e v3 ⟨rfl,b3⟩
 have I3:=wri_step I2 b3 HH.out
 clear x0 x1 x2 x3 b3 HW2
 go_wp2
 go_end0
 exact ⟨rfl,wri_done I3 (by simp)⟩
theorem wr_1n (B g:Nat) (vn:Value) (b o m c k:Nat) (least:Int) (w:World) (bl:List UInt8) (v a bb:Int) (hP:Hid (PrS w B g vn (.slice (some ⟨b,o,none⟩) m c) (bc bl))) (hk:k<m) (hm:m≤1000000)
  (d0:w.cell? ⟨b,o+k*4,none⟩=some (.int .i64 1)) (d1:w.cell? ⟨b,o+k*4+1,none⟩=some (.int .i64 v)) (d2:w.cell? ⟨b,o+k*4+2,none⟩=some (.int .i64 a)) (d3:w.cell? ⟨b,o+k*4+3,none⟩=some (.int .i64 bb)) (hlt:¬ (4:Int)<least) (hlen:Hid (bl.length+[116,114,117,101].length≤140737488355328)) :
  Calls Tryz.prog 52 #[.pointer (some ⟨g,0,none⟩),.int .i64 (k:Int),.int .i64 least] w fun e w'=>e=.returned (.tuple #[])∧WrO B g vn (.slice (some ⟨b,o,none⟩) m c) w w' (bl++[116,114,117,101]):=by
 have I0:=wri_new hP.out #[.int .i64 1,.int .i64 v,.int .i64 a,.int .i64 bb]
 obtain ⟨p0,p1,hgl,hgB⟩:=hP.out.c01
 have hh:w.heap.size≠g:=by omega
 have HH:=hid hh
 have hls:bl.length+[116,114,117,101].length≤140737488355328:=hlen.out
 try simp only [List.length_append,List.length_cons,List.length_nil] at hls
 have HLS:=hid hls
 have HS:∀ W,Calls Tryz.prog 91 #[.int .i64 1] W fun e w'=>e=.returned (.int .i64 4)∧W=w':=fun W=>strength_any 1 W
 have i1:(0:Int)≤(k:Int):=by omega
 have i2:(k:Int)<(m:Int):=by omega
 clear hh hls hlen
 go_enter Tryz.func52,Tryz.ntmps52
 go_upto_region 1 with fail
 clear hP p0 p1 d0 d1 d2 d3
 generalize w.alloc (.cells #[.int .i64 1,.int .i64 v,.int .i64 a,.int .i64 bb] 58)=w1 at *
 obtain ⟨x0,x1,x2,x3⟩:=wri_out4 I0
 go_wp2_with fail
 with_reducible refine (HS _).mono ?_
 rintro e w2 ⟨rfl,rfl⟩
 go_wp2_with fail
 have HW0:=hid (wri_str I0 ⟨#[116,114,117,101]⟩ (hid (by have hl:=HLS.out;show _+4≤_;(try simp only [List.length_append,List.length_cons,List.length_nil]);omega)))
 with_reducible refine HW0.out.mono ?_
 rintro e v1 ⟨rfl,b1⟩
 have I1:=wri_step I0 b1 HH.out
 clear x0 x1 x2 x3 b1 HW0
 obtain ⟨x0,x1,x2,x3⟩:=wri_out4 I1
 go_wp2
 go_end0
 exact ⟨rfl,wri_done I1 (by simp)⟩
theorem wr_1p (B g:Nat) (vn:Value) (b o m c k:Nat) (least:Int) (w:World) (bl:List UInt8) (v a bb:Int) (hP:Hid (PrS w B g vn (.slice (some ⟨b,o,none⟩) m c) (bc bl))) (hk:k<m) (hm:m≤1000000)
  (d0:w.cell? ⟨b,o+k*4,none⟩=some (.int .i64 1)) (d1:w.cell? ⟨b,o+k*4+1,none⟩=some (.int .i64 v)) (d2:w.cell? ⟨b,o+k*4+2,none⟩=some (.int .i64 a)) (d3:w.cell? ⟨b,o+k*4+3,none⟩=some (.int .i64 bb)) (hlt:(4:Int)<least) (hlen:Hid (bl.length+([40]++[116,114,117,101]++[41]).length≤140737488355328)) :
  Calls Tryz.prog 52 #[.pointer (some ⟨g,0,none⟩),.int .i64 (k:Int),.int .i64 least] w fun e w'=>e=.returned (.tuple #[])∧WrO B g vn (.slice (some ⟨b,o,none⟩) m c) w w' (bl++([40]++[116,114,117,101]++[41])):=by
 have I0:=wri_new hP.out #[.int .i64 1,.int .i64 v,.int .i64 a,.int .i64 bb]
 obtain ⟨p0,p1,hgl,hgB⟩:=hP.out.c01
 have hh:w.heap.size≠g:=by omega
 have HH:=hid hh
 have hls:bl.length+([40]++[116,114,117,101]++[41]).length≤140737488355328:=hlen.out
 try simp only [List.length_append,List.length_cons,List.length_nil] at hls
 have HLS:=hid hls
 have HS:∀ W,Calls Tryz.prog 91 #[.int .i64 1] W fun e w'=>e=.returned (.int .i64 4)∧W=w':=fun W=>strength_any 1 W
 have i1:(0:Int)≤(k:Int):=by omega
 have i2:(k:Int)<(m:Int):=by omega
 clear hh hls hlen
 go_enter Tryz.func52,Tryz.ntmps52
 go_upto_region 1 with fail
 clear hP p0 p1 d0 d1 d2 d3
 generalize w.alloc (.cells #[.int .i64 1,.int .i64 v,.int .i64 a,.int .i64 bb] 58)=w1 at *
 obtain ⟨x0,x1,x2,x3⟩:=wri_out4 I0
 go_wp2_with fail
 with_reducible refine (HS _).mono ?_
 rintro e w2 ⟨rfl,rfl⟩
 go_wp2_with fail
 have HW0:=hid (wri_str I0 ⟨#[40]⟩ (hid (by have hl:=HLS.out;show _+1≤_;(try simp only [List.length_append,List.length_cons,List.length_nil]);omega)))
 with_reducible refine HW0.out.mono ?_
 rintro e v1 ⟨rfl,b1⟩
 have I1:=wri_step I0 b1 HH.out
 clear x0 x1 x2 x3 b1 HW0
 obtain ⟨x0,x1,x2,x3⟩:=wri_out4 I1
 go_wp2_with fail
 have HW1:=hid (wri_str I1 ⟨#[116,114,117,101]⟩ (hid (by have hl:=HLS.out;show _+4≤_;(try simp only [List.length_append,List.length_cons,List.length_nil]);omega)))
 with_reducible refine HW1.out.mono ?_
 rintro e v2 ⟨rfl,b2⟩
 have I2:=wri_step I1 b2 HH.out
 clear x0 x1 x2 x3 b2 HW1
 obtain ⟨x0,x1,x2,x3⟩:=wri_out4 I2
 go_wp2_with fail
 have HW2:=hid (wri_str I2 ⟨#[41]⟩ (hid (by have hl:=HLS.out;show _+1≤_;(try simp only [List.length_append,List.length_cons,List.length_nil]);omega)))
 with_reducible refine HW2.out.mono ?_
 rintro e v3 ⟨rfl,b3⟩
 have I3:=wri_step I2 b3 HH.out
 clear x0 x1 x2 x3 b3 HW2
 go_wp2
 go_end0
 exact ⟨rfl,wri_done I3 (by simp)⟩
theorem wr_2n (B g:Nat) (b o m c k:Nat) (least:Int) (w:World) (bl:List UInt8) (v:Nat) (a bb:Int) (nb no n nc:Nat) (s:ByteArray) (hP:Hid (PrS w B g (.slice (some ⟨nb,no,none⟩) n nc) (.slice (some ⟨b,o,none⟩) m c) (bc bl))) (hk:k<m) (hm:m≤1000000)
  (d0:w.cell? ⟨b,o+k*4,none⟩=some (.int .i64 2)) (d1:w.cell? ⟨b,o+k*4+1,none⟩=some (.int .i64 (v:Int))) (d2:w.cell? ⟨b,o+k*4+2,none⟩=some (.int .i64 a)) (d3:w.cell? ⟨b,o+k*4+3,none⟩=some (.int .i64 bb)) (hlt:¬ (4:Int)<least) (hvn:v<n) (hnB:nb<B) (hs:w.cell? ⟨nb,no+v,none⟩=some (.string s)) (hlen:Hid (bl.length+s.data.toList.length≤140737488355328)) :
  Calls Tryz.prog 52 #[.pointer (some ⟨g,0,none⟩),.int .i64 (k:Int),.int .i64 least] w fun e w'=>e=.returned (.tuple #[])∧WrO B g (.slice (some ⟨nb,no,none⟩) n nc) (.slice (some ⟨b,o,none⟩) m c) w w' (bl++s.data.toList):=by
 have I0:=wri_new hP.out #[.int .i64 2,.int .i64 (v:Int),.int .i64 a,.int .i64 bb]
 obtain ⟨p0,p1,hgl,hgB⟩:=hP.out.c01
 have hh:w.heap.size≠g:=by omega
 have HH:=hid hh
 have hls:bl.length+s.data.toList.length≤140737488355328:=hlen.out
 try simp only [List.length_append,List.length_cons,List.length_nil] at hls
 have HLS:=hid hls
 have HS:∀ W,Calls Tryz.prog 91 #[.int .i64 2] W fun e w'=>e=.returned (.int .i64 4)∧W=w':=fun W=>strength_any 2 W
 have i1:(0:Int)≤(k:Int):=by omega
 have i2:(k:Int)<(m:Int):=by omega
 have HSW:=hid hs
 have HSB:=hid hnB
 have i3:(0:Int)≤(v:Int):=by omega
 have i4:(v:Int)<(n:Int):=by omega
 clear hs
 clear hh hls hlen
 go_enter Tryz.func52,Tryz.ntmps52
 go_upto_region 1 with fail
 clear hP p0 p1 d0 d1 d2 d3
 generalize w.alloc (.cells #[.int .i64 2,.int .i64 (v:Int),.int .i64 a,.int .i64 bb] 58)=w1 at *
 obtain ⟨x0,x1,x2,x3⟩:=wri_out4 I0
 go_wp2_with fail
 with_reducible refine (HS _).mono ?_
 rintro e w2 ⟨rfl,rfl⟩
 go_upto_region 10 with fail
 obtain ⟨p0,p1,_,_⟩:=I0.out.prs.c01
 have hsw:=(I0.out.bel.cell (p:=⟨nb,no+v,none⟩) HSB.out).trans HSW.out
 have ID0:=wri_drew I0
 have HW0:=hid (wri_str ID0 s (hid (by have hl:=HLS.out;have hsl:s.data.toList.length=s.size:=Array.length_toList;(try simp only [List.length_append,List.length_cons,List.length_nil]);omega)))
 refine still_tail 11 (by kernel_rfl) (by kernel_rfl) ?_
 simp only [List.take_succ_cons,List.take_zero,List.drop_succ_cons,List.drop_zero]
 repeat still_step
 refine wpStill_nil ?_
 go_wp2_with fail
 with_reducible refine HW0.out.mono ?_
 rintro e v1 ⟨rfl,b1⟩
 have I1:=wri_step ID0 b1 HH.out
 clear x0 x1 x2 x3 b1 HW0 p0 p1 hsw
 obtain ⟨x0,x1,x2,x3⟩:=wri_out4 I1
 go_wp2
 go_end0
 exact ⟨rfl,wri_done I1 (by simp)⟩
theorem wr_2p (B g:Nat) (b o m c k:Nat) (least:Int) (w:World) (bl:List UInt8) (v:Nat) (a bb:Int) (nb no n nc:Nat) (s:ByteArray) (hP:Hid (PrS w B g (.slice (some ⟨nb,no,none⟩) n nc) (.slice (some ⟨b,o,none⟩) m c) (bc bl))) (hk:k<m) (hm:m≤1000000)
  (d0:w.cell? ⟨b,o+k*4,none⟩=some (.int .i64 2)) (d1:w.cell? ⟨b,o+k*4+1,none⟩=some (.int .i64 (v:Int))) (d2:w.cell? ⟨b,o+k*4+2,none⟩=some (.int .i64 a)) (d3:w.cell? ⟨b,o+k*4+3,none⟩=some (.int .i64 bb)) (hlt:(4:Int)<least) (hvn:v<n) (hnB:nb<B) (hs:w.cell? ⟨nb,no+v,none⟩=some (.string s)) (hlen:Hid (bl.length+([40]++s.data.toList++[41]).length≤140737488355328)) :
  Calls Tryz.prog 52 #[.pointer (some ⟨g,0,none⟩),.int .i64 (k:Int),.int .i64 least] w fun e w'=>e=.returned (.tuple #[])∧WrO B g (.slice (some ⟨nb,no,none⟩) n nc) (.slice (some ⟨b,o,none⟩) m c) w w' (bl++([40]++s.data.toList++[41])):=by
 have I0:=wri_new hP.out #[.int .i64 2,.int .i64 (v:Int),.int .i64 a,.int .i64 bb]
 obtain ⟨p0,p1,hgl,hgB⟩:=hP.out.c01
 have hh:w.heap.size≠g:=by omega
 have HH:=hid hh
 have hls:bl.length+([40]++s.data.toList++[41]).length≤140737488355328:=hlen.out
 try simp only [List.length_append,List.length_cons,List.length_nil] at hls
 have HLS:=hid hls
 have HS:∀ W,Calls Tryz.prog 91 #[.int .i64 2] W fun e w'=>e=.returned (.int .i64 4)∧W=w':=fun W=>strength_any 2 W
 have i1:(0:Int)≤(k:Int):=by omega
 have i2:(k:Int)<(m:Int):=by omega
 have HSW:=hid hs
 have HSB:=hid hnB
 have i3:(0:Int)≤(v:Int):=by omega
 have i4:(v:Int)<(n:Int):=by omega
 clear hs
 clear hh hls hlen
 go_enter Tryz.func52,Tryz.ntmps52
 go_upto_region 1 with fail
 clear hP p0 p1 d0 d1 d2 d3
 generalize w.alloc (.cells #[.int .i64 2,.int .i64 (v:Int),.int .i64 a,.int .i64 bb] 58)=w1 at *
 obtain ⟨x0,x1,x2,x3⟩:=wri_out4 I0
 go_wp2_with fail
 with_reducible refine (HS _).mono ?_
 rintro e w2 ⟨rfl,rfl⟩
 go_wp2_with fail
 have HW0:=hid (wri_str I0 ⟨#[40]⟩ (hid (by have hl:=HLS.out;show _+1≤_;(try simp only [List.length_append,List.length_cons,List.length_nil]);omega)))
 with_reducible refine HW0.out.mono ?_
 rintro e v1 ⟨rfl,b1⟩
 have I1:=wri_step I0 b1 HH.out
 clear x0 x1 x2 x3 b1 HW0
 obtain ⟨x0,x1,x2,x3⟩:=wri_out4 I1
 go_upto_region 10 with fail
 obtain ⟨p0,p1,_,_⟩:=I1.out.prs.c01
 have hsw:=(I1.out.bel.cell (p:=⟨nb,no+v,none⟩) HSB.out).trans HSW.out
 have ID1:=wri_drew I1
 have HW1:=hid (wri_str ID1 s (hid (by have hl:=HLS.out;have hsl:s.data.toList.length=s.size:=Array.length_toList;(try simp only [List.length_append,List.length_cons,List.length_nil]);omega)))
 refine still_tail 11 (by kernel_rfl) (by kernel_rfl) ?_
 simp only [List.take_succ_cons,List.take_zero,List.drop_succ_cons,List.drop_zero]
 repeat still_step
 refine wpStill_nil ?_
 go_wp2_with fail
 with_reducible refine HW1.out.mono ?_
 rintro e v2 ⟨rfl,b2⟩
 have I2:=wri_step ID1 b2 HH.out
 clear x0 x1 x2 x3 b2 HW1 p0 p1 hsw
 obtain ⟨x0,x1,x2,x3⟩:=wri_out4 I2
 go_wp2_with fail
 have HW2:=hid (wri_str I2 ⟨#[41]⟩ (hid (by have hl:=HLS.out;show _+1≤_;(try simp only [List.length_append,List.length_cons,List.length_nil]);omega)))
 with_reducible refine HW2.out.mono ?_
 rintro e v3 ⟨rfl,b3⟩
 have I3:=wri_step I2 b3 HH.out
 clear x0 x1 x2 x3 b3 HW2
 go_wp2
 go_end0
 exact ⟨rfl,wri_done I3 (by simp)⟩
theorem wr_3n (B g:Nat) (vn:Value) (b o m c k:Nat) (least:Int) (w:World) (bl:List UInt8) (v:Int) (a:Nat) (bb:Int) (oa:List UInt8) (hP:Hid (PrS w B g vn (.slice (some ⟨b,o,none⟩) m c) (bc bl))) (hk:k<m) (hm:m≤1000000)
  (d0:w.cell? ⟨b,o+k*4,none⟩=some (.int .i64 3)) (d1:w.cell? ⟨b,o+k*4+1,none⟩=some (.int .i64 v)) (d2:w.cell? ⟨b,o+k*4+2,none⟩=some (.int .i64 (a:Int))) (d3:w.cell? ⟨b,o+k*4+3,none⟩=some (.int .i64 bb)) (hlt:¬ (3:Int)<least) (HA:Hid (WrC B g vn (.slice (some ⟨b,o,none⟩) m c) w a 3 oa)) (hlen:Hid (bl.length+([33]++oa).length≤140737488355328)) :
  Calls Tryz.prog 52 #[.pointer (some ⟨g,0,none⟩),.int .i64 (k:Int),.int .i64 least] w fun e w'=>e=.returned (.tuple #[])∧WrO B g vn (.slice (some ⟨b,o,none⟩) m c) w w' (bl++([33]++oa)):=by
 have I0:=wri_new hP.out #[.int .i64 3,.int .i64 v,.int .i64 (a:Int),.int .i64 bb]
 obtain ⟨p0,p1,hgl,hgB⟩:=hP.out.c01
 have hh:w.heap.size≠g:=by omega
 have HH:=hid hh
 have hls:bl.length+([33]++oa).length≤140737488355328:=hlen.out
 try simp only [List.length_append,List.length_cons,List.length_nil] at hls
 have HLS:=hid hls
 have HS:∀ W,Calls Tryz.prog 91 #[.int .i64 3] W fun e w'=>e=.returned (.int .i64 3)∧W=w':=fun W=>strength_any 3 W
 have i1:(0:Int)≤(k:Int):=by omega
 have i2:(k:Int)<(m:Int):=by omega
 clear hh hls hlen
 go_enter Tryz.func52,Tryz.ntmps52
 go_upto_region 1 with fail
 clear hP p0 p1 d0 d1 d2 d3
 generalize w.alloc (.cells #[.int .i64 3,.int .i64 v,.int .i64 (a:Int),.int .i64 bb] 58)=w1 at *
 obtain ⟨x0,x1,x2,x3⟩:=wri_out4 I0
 go_wp2_with fail
 with_reducible refine (HS _).mono ?_
 rintro e w2 ⟨rfl,rfl⟩
 go_wp2_with fail
 have HW0:=hid (wri_str I0 ⟨#[33]⟩ (hid (by have hl:=HLS.out;show _+1≤_;(try simp only [List.length_append,List.length_cons,List.length_nil]);omega)))
 with_reducible refine HW0.out.mono ?_
 rintro e v1 ⟨rfl,b1⟩
 have I1:=wri_step I0 b1 HH.out
 clear x0 x1 x2 x3 b1 HW0
 obtain ⟨x0,x1,x2,x3⟩:=wri_out4 I1
 go_wp2_with fail
 with_reducible refine (HA.out _ _ I1.out.bel I1.out.prs (by have hl:=HLS.out;(try simp only [List.length_append,List.length_cons,List.length_nil]);omega)).mono ?_
 rintro e v2 ⟨rfl,b2⟩
 have I2:=wri_step I1 b2 HH.out
 clear x0 x1 x2 x3 b2
 obtain ⟨x0,x1,x2,x3⟩:=wri_out4 I2
 go_wp2
 go_end0
 exact ⟨rfl,wri_done I2 (by simp)⟩
theorem wr_3p (B g:Nat) (vn:Value) (b o m c k:Nat) (least:Int) (w:World) (bl:List UInt8) (v:Int) (a:Nat) (bb:Int) (oa:List UInt8) (hP:Hid (PrS w B g vn (.slice (some ⟨b,o,none⟩) m c) (bc bl))) (hk:k<m) (hm:m≤1000000)
  (d0:w.cell? ⟨b,o+k*4,none⟩=some (.int .i64 3)) (d1:w.cell? ⟨b,o+k*4+1,none⟩=some (.int .i64 v)) (d2:w.cell? ⟨b,o+k*4+2,none⟩=some (.int .i64 (a:Int))) (d3:w.cell? ⟨b,o+k*4+3,none⟩=some (.int .i64 bb)) (hlt:(3:Int)<least) (HA:Hid (WrC B g vn (.slice (some ⟨b,o,none⟩) m c) w a 3 oa)) (hlen:Hid (bl.length+([40]++([33]++oa)++[41]).length≤140737488355328)) :
  Calls Tryz.prog 52 #[.pointer (some ⟨g,0,none⟩),.int .i64 (k:Int),.int .i64 least] w fun e w'=>e=.returned (.tuple #[])∧WrO B g vn (.slice (some ⟨b,o,none⟩) m c) w w' (bl++([40]++([33]++oa)++[41])):=by
 have I0:=wri_new hP.out #[.int .i64 3,.int .i64 v,.int .i64 (a:Int),.int .i64 bb]
 obtain ⟨p0,p1,hgl,hgB⟩:=hP.out.c01
 have hh:w.heap.size≠g:=by omega
 have HH:=hid hh
 have hls:bl.length+([40]++([33]++oa)++[41]).length≤140737488355328:=hlen.out
 try simp only [List.length_append,List.length_cons,List.length_nil] at hls
 have HLS:=hid hls
 have HS:∀ W,Calls Tryz.prog 91 #[.int .i64 3] W fun e w'=>e=.returned (.int .i64 3)∧W=w':=fun W=>strength_any 3 W
 have i1:(0:Int)≤(k:Int):=by omega
 have i2:(k:Int)<(m:Int):=by omega
 clear hh hls hlen
 go_enter Tryz.func52,Tryz.ntmps52
 go_upto_region 1 with fail
 clear hP p0 p1 d0 d1 d2 d3
 generalize w.alloc (.cells #[.int .i64 3,.int .i64 v,.int .i64 (a:Int),.int .i64 bb] 58)=w1 at *
 obtain ⟨x0,x1,x2,x3⟩:=wri_out4 I0
 go_wp2_with fail
 with_reducible refine (HS _).mono ?_
 rintro e w2 ⟨rfl,rfl⟩
 go_wp2_with fail
 have HW0:=hid (wri_str I0 ⟨#[40]⟩ (hid (by have hl:=HLS.out;show _+1≤_;(try simp only [List.length_append,List.length_cons,List.length_nil]);omega)))
 with_reducible refine HW0.out.mono ?_
 rintro e v1 ⟨rfl,b1⟩
 have I1:=wri_step I0 b1 HH.out
 clear x0 x1 x2 x3 b1 HW0
 obtain ⟨x0,x1,x2,x3⟩:=wri_out4 I1
 go_wp2_with fail
 have HW1:=hid (wri_str I1 ⟨#[33]⟩ (hid (by have hl:=HLS.out;show _+1≤_;(try simp only [List.length_append,List.length_cons,List.length_nil]);omega)))
 with_reducible refine HW1.out.mono ?_
 rintro e v2 ⟨rfl,b2⟩
 have I2:=wri_step I1 b2 HH.out
 clear x0 x1 x2 x3 b2 HW1
 obtain ⟨x0,x1,x2,x3⟩:=wri_out4 I2
 go_wp2_with fail
 with_reducible refine (HA.out _ _ I2.out.bel I2.out.prs (by have hl:=HLS.out;(try simp only [List.length_append,List.length_cons,List.length_nil]);omega)).mono ?_
 rintro e v3 ⟨rfl,b3⟩
 have I3:=wri_step I2 b3 HH.out
 clear x0 x1 x2 x3 b3
 obtain ⟨x0,x1,x2,x3⟩:=wri_out4 I3
 go_wp2_with fail
 have HW3:=hid (wri_str I3 ⟨#[41]⟩ (hid (by have hl:=HLS.out;show _+1≤_;(try simp only [List.length_append,List.length_cons,List.length_nil]);omega)))
 with_reducible refine HW3.out.mono ?_
 rintro e v4 ⟨rfl,b4⟩
 have I4:=wri_step I3 b4 HH.out
 clear x0 x1 x2 x3 b4 HW3
 go_wp2
 go_end0
 exact ⟨rfl,wri_done I4 (by simp)⟩
theorem wr_4n (B g:Nat) (vn:Value) (b o m c k:Nat) (least:Int) (w:World) (bl:List UInt8) (v:Int) (a bb:Nat) (oa ob:List UInt8) (hP:Hid (PrS w B g vn (.slice (some ⟨b,o,none⟩) m c) (bc bl))) (hk:k<m) (hm:m≤1000000)
  (d0:w.cell? ⟨b,o+k*4,none⟩=some (.int .i64 4)) (d1:w.cell? ⟨b,o+k*4+1,none⟩=some (.int .i64 v)) (d2:w.cell? ⟨b,o+k*4+2,none⟩=some (.int .i64 (a:Int))) (d3:w.cell? ⟨b,o+k*4+3,none⟩=some (.int .i64 (bb:Int))) (hlt:¬ (2:Int)<least) (HA:Hid (WrC B g vn (.slice (some ⟨b,o,none⟩) m c) w a 2 oa)) (HB:Hid (WrC B g vn (.slice (some ⟨b,o,none⟩) m c) w bb 3 ob)) (hlen:Hid (bl.length+(oa++[32,38,38,32]++ob).length≤140737488355328)) :
  Calls Tryz.prog 52 #[.pointer (some ⟨g,0,none⟩),.int .i64 (k:Int),.int .i64 least] w fun e w'=>e=.returned (.tuple #[])∧WrO B g vn (.slice (some ⟨b,o,none⟩) m c) w w' (bl++(oa++[32,38,38,32]++ob)):=by
 have I0:=wri_new hP.out #[.int .i64 4,.int .i64 v,.int .i64 (a:Int),.int .i64 (bb:Int)]
 obtain ⟨p0,p1,hgl,hgB⟩:=hP.out.c01
 have hh:w.heap.size≠g:=by omega
 have HH:=hid hh
 have hls:bl.length+(oa++[32,38,38,32]++ob).length≤140737488355328:=hlen.out
 try simp only [List.length_append,List.length_cons,List.length_nil] at hls
 have HLS:=hid hls
 have HS:∀ W,Calls Tryz.prog 91 #[.int .i64 4] W fun e w'=>e=.returned (.int .i64 2)∧W=w':=fun W=>strength_any 4 W
 have i1:(0:Int)≤(k:Int):=by omega
 have i2:(k:Int)<(m:Int):=by omega
 clear hh hls hlen
 go_enter Tryz.func52,Tryz.ntmps52
 go_upto_region 1 with fail
 clear hP p0 p1 d0 d1 d2 d3
 generalize w.alloc (.cells #[.int .i64 4,.int .i64 v,.int .i64 (a:Int),.int .i64 (bb:Int)] 58)=w1 at *
 obtain ⟨x0,x1,x2,x3⟩:=wri_out4 I0
 go_wp2_with fail
 with_reducible refine (HS _).mono ?_
 rintro e w2 ⟨rfl,rfl⟩
 go_wp2_with fail
 have HW0:=hid (bin_and B g vn (.slice (some ⟨b,o,none⟩) m c) _ _ oa ob v a bb (hid I0.out.prs) (hid (HA.out.later I0.out.bel)) (hid (HB.out.later I0.out.bel)) (hid (by have hl:=HLS.out;(try simp only [List.length_append,List.length_cons,List.length_nil]);omega)))
 with_reducible refine HW0.out.mono ?_
 rintro e v1 ⟨rfl,b1⟩
 have I1:=wri_step I0 b1 HH.out
 clear x0 x1 x2 x3 b1 HW0
 obtain ⟨x0,x1,x2,x3⟩:=wri_out4 I1
 go_wp2
 go_end0
 exact ⟨rfl,wri_done I1 (by simp)⟩
theorem wr_4p (B g:Nat) (vn:Value) (b o m c k:Nat) (least:Int) (w:World) (bl:List UInt8) (v:Int) (a bb:Nat) (oa ob:List UInt8) (hP:Hid (PrS w B g vn (.slice (some ⟨b,o,none⟩) m c) (bc bl))) (hk:k<m) (hm:m≤1000000)
  (d0:w.cell? ⟨b,o+k*4,none⟩=some (.int .i64 4)) (d1:w.cell? ⟨b,o+k*4+1,none⟩=some (.int .i64 v)) (d2:w.cell? ⟨b,o+k*4+2,none⟩=some (.int .i64 (a:Int))) (d3:w.cell? ⟨b,o+k*4+3,none⟩=some (.int .i64 (bb:Int))) (hlt:(2:Int)<least) (HA:Hid (WrC B g vn (.slice (some ⟨b,o,none⟩) m c) w a 2 oa)) (HB:Hid (WrC B g vn (.slice (some ⟨b,o,none⟩) m c) w bb 3 ob)) (hlen:Hid (bl.length+([40]++(oa++[32,38,38,32]++ob)++[41]).length≤140737488355328)) :
  Calls Tryz.prog 52 #[.pointer (some ⟨g,0,none⟩),.int .i64 (k:Int),.int .i64 least] w fun e w'=>e=.returned (.tuple #[])∧WrO B g vn (.slice (some ⟨b,o,none⟩) m c) w w' (bl++([40]++(oa++[32,38,38,32]++ob)++[41])):=by
 have I0:=wri_new hP.out #[.int .i64 4,.int .i64 v,.int .i64 (a:Int),.int .i64 (bb:Int)]
 obtain ⟨p0,p1,hgl,hgB⟩:=hP.out.c01
 have hh:w.heap.size≠g:=by omega
 have HH:=hid hh
 have hls:bl.length+([40]++(oa++[32,38,38,32]++ob)++[41]).length≤140737488355328:=hlen.out
 try simp only [List.length_append,List.length_cons,List.length_nil] at hls
 have HLS:=hid hls
 have HS:∀ W,Calls Tryz.prog 91 #[.int .i64 4] W fun e w'=>e=.returned (.int .i64 2)∧W=w':=fun W=>strength_any 4 W
 have i1:(0:Int)≤(k:Int):=by omega
 have i2:(k:Int)<(m:Int):=by omega
 clear hh hls hlen
 go_enter Tryz.func52,Tryz.ntmps52
 go_upto_region 1 with fail
 clear hP p0 p1 d0 d1 d2 d3
 generalize w.alloc (.cells #[.int .i64 4,.int .i64 v,.int .i64 (a:Int),.int .i64 (bb:Int)] 58)=w1 at *
 obtain ⟨x0,x1,x2,x3⟩:=wri_out4 I0
 go_wp2_with fail
 with_reducible refine (HS _).mono ?_
 rintro e w2 ⟨rfl,rfl⟩
 go_wp2_with fail
 have HW0:=hid (wri_str I0 ⟨#[40]⟩ (hid (by have hl:=HLS.out;show _+1≤_;(try simp only [List.length_append,List.length_cons,List.length_nil]);omega)))
 with_reducible refine HW0.out.mono ?_
 rintro e v1 ⟨rfl,b1⟩
 have I1:=wri_step I0 b1 HH.out
 clear x0 x1 x2 x3 b1 HW0
 obtain ⟨x0,x1,x2,x3⟩:=wri_out4 I1
 go_wp2_with fail
 have HW1:=hid (bin_and B g vn (.slice (some ⟨b,o,none⟩) m c) _ _ oa ob v a bb (hid I1.out.prs) (hid (HA.out.later I1.out.bel)) (hid (HB.out.later I1.out.bel)) (hid (by have hl:=HLS.out;(try simp only [List.length_append,List.length_cons,List.length_nil]);omega)))
 with_reducible refine HW1.out.mono ?_
 rintro e v2 ⟨rfl,b2⟩
 have I2:=wri_step I1 b2 HH.out
 clear x0 x1 x2 x3 b2 HW1
 obtain ⟨x0,x1,x2,x3⟩:=wri_out4 I2
 go_wp2_with fail
 have HW2:=hid (wri_str I2 ⟨#[41]⟩ (hid (by have hl:=HLS.out;show _+1≤_;(try simp only [List.length_append,List.length_cons,List.length_nil]);omega)))
 with_reducible refine HW2.out.mono ?_
 rintro e v3 ⟨rfl,b3⟩
 have I3:=wri_step I2 b3 HH.out
 clear x0 x1 x2 x3 b3 HW2
 go_wp2
 go_end0
 exact ⟨rfl,wri_done I3 (by simp)⟩
theorem wr_5n (B g:Nat) (vn:Value) (b o m c k:Nat) (least:Int) (w:World) (bl:List UInt8) (v:Int) (a bb:Nat) (oa ob:List UInt8) (hP:Hid (PrS w B g vn (.slice (some ⟨b,o,none⟩) m c) (bc bl))) (hk:k<m) (hm:m≤1000000)
  (d0:w.cell? ⟨b,o+k*4,none⟩=some (.int .i64 5)) (d1:w.cell? ⟨b,o+k*4+1,none⟩=some (.int .i64 v)) (d2:w.cell? ⟨b,o+k*4+2,none⟩=some (.int .i64 (a:Int))) (d3:w.cell? ⟨b,o+k*4+3,none⟩=some (.int .i64 (bb:Int))) (hlt:¬ (1:Int)<least) (HA:Hid (WrC B g vn (.slice (some ⟨b,o,none⟩) m c) w a 1 oa)) (HB:Hid (WrC B g vn (.slice (some ⟨b,o,none⟩) m c) w bb 2 ob)) (hlen:Hid (bl.length+(oa++[32,124,124,32]++ob).length≤140737488355328)) :
  Calls Tryz.prog 52 #[.pointer (some ⟨g,0,none⟩),.int .i64 (k:Int),.int .i64 least] w fun e w'=>e=.returned (.tuple #[])∧WrO B g vn (.slice (some ⟨b,o,none⟩) m c) w w' (bl++(oa++[32,124,124,32]++ob)):=by
 have I0:=wri_new hP.out #[.int .i64 5,.int .i64 v,.int .i64 (a:Int),.int .i64 (bb:Int)]
 obtain ⟨p0,p1,hgl,hgB⟩:=hP.out.c01
 have hh:w.heap.size≠g:=by omega
 have HH:=hid hh
 have hls:bl.length+(oa++[32,124,124,32]++ob).length≤140737488355328:=hlen.out
 try simp only [List.length_append,List.length_cons,List.length_nil] at hls
 have HLS:=hid hls
 have HS:∀ W,Calls Tryz.prog 91 #[.int .i64 5] W fun e w'=>e=.returned (.int .i64 1)∧W=w':=fun W=>strength_any 5 W
 have i1:(0:Int)≤(k:Int):=by omega
 have i2:(k:Int)<(m:Int):=by omega
 clear hh hls hlen
 go_enter Tryz.func52,Tryz.ntmps52
 go_upto_region 1 with fail
 clear hP p0 p1 d0 d1 d2 d3
 generalize w.alloc (.cells #[.int .i64 5,.int .i64 v,.int .i64 (a:Int),.int .i64 (bb:Int)] 58)=w1 at *
 obtain ⟨x0,x1,x2,x3⟩:=wri_out4 I0
 go_wp2_with fail
 with_reducible refine (HS _).mono ?_
 rintro e w2 ⟨rfl,rfl⟩
 go_wp2_with fail
 have HW0:=hid (bin_or B g vn (.slice (some ⟨b,o,none⟩) m c) _ _ oa ob v a bb (hid I0.out.prs) (hid (HA.out.later I0.out.bel)) (hid (HB.out.later I0.out.bel)) (hid (by have hl:=HLS.out;(try simp only [List.length_append,List.length_cons,List.length_nil]);omega)))
 with_reducible refine HW0.out.mono ?_
 rintro e v1 ⟨rfl,b1⟩
 have I1:=wri_step I0 b1 HH.out
 clear x0 x1 x2 x3 b1 HW0
 obtain ⟨x0,x1,x2,x3⟩:=wri_out4 I1
 go_wp2
 go_end0
 exact ⟨rfl,wri_done I1 (by simp)⟩
theorem wr_5p (B g:Nat) (vn:Value) (b o m c k:Nat) (least:Int) (w:World) (bl:List UInt8) (v:Int) (a bb:Nat) (oa ob:List UInt8) (hP:Hid (PrS w B g vn (.slice (some ⟨b,o,none⟩) m c) (bc bl))) (hk:k<m) (hm:m≤1000000)
  (d0:w.cell? ⟨b,o+k*4,none⟩=some (.int .i64 5)) (d1:w.cell? ⟨b,o+k*4+1,none⟩=some (.int .i64 v)) (d2:w.cell? ⟨b,o+k*4+2,none⟩=some (.int .i64 (a:Int))) (d3:w.cell? ⟨b,o+k*4+3,none⟩=some (.int .i64 (bb:Int))) (hlt:(1:Int)<least) (HA:Hid (WrC B g vn (.slice (some ⟨b,o,none⟩) m c) w a 1 oa)) (HB:Hid (WrC B g vn (.slice (some ⟨b,o,none⟩) m c) w bb 2 ob)) (hlen:Hid (bl.length+([40]++(oa++[32,124,124,32]++ob)++[41]).length≤140737488355328)) :
  Calls Tryz.prog 52 #[.pointer (some ⟨g,0,none⟩),.int .i64 (k:Int),.int .i64 least] w fun e w'=>e=.returned (.tuple #[])∧WrO B g vn (.slice (some ⟨b,o,none⟩) m c) w w' (bl++([40]++(oa++[32,124,124,32]++ob)++[41])):=by
 have I0:=wri_new hP.out #[.int .i64 5,.int .i64 v,.int .i64 (a:Int),.int .i64 (bb:Int)]
 obtain ⟨p0,p1,hgl,hgB⟩:=hP.out.c01
 have hh:w.heap.size≠g:=by omega
 have HH:=hid hh
 have hls:bl.length+([40]++(oa++[32,124,124,32]++ob)++[41]).length≤140737488355328:=hlen.out
 try simp only [List.length_append,List.length_cons,List.length_nil] at hls
 have HLS:=hid hls
 have HS:∀ W,Calls Tryz.prog 91 #[.int .i64 5] W fun e w'=>e=.returned (.int .i64 1)∧W=w':=fun W=>strength_any 5 W
 have i1:(0:Int)≤(k:Int):=by omega
 have i2:(k:Int)<(m:Int):=by omega
 clear hh hls hlen
 go_enter Tryz.func52,Tryz.ntmps52
 go_upto_region 1 with fail
 clear hP p0 p1 d0 d1 d2 d3
 generalize w.alloc (.cells #[.int .i64 5,.int .i64 v,.int .i64 (a:Int),.int .i64 (bb:Int)] 58)=w1 at *
 obtain ⟨x0,x1,x2,x3⟩:=wri_out4 I0
 go_wp2_with fail
 with_reducible refine (HS _).mono ?_
 rintro e w2 ⟨rfl,rfl⟩
 go_wp2_with fail
 have HW0:=hid (wri_str I0 ⟨#[40]⟩ (hid (by have hl:=HLS.out;show _+1≤_;(try simp only [List.length_append,List.length_cons,List.length_nil]);omega)))
 with_reducible refine HW0.out.mono ?_
 rintro e v1 ⟨rfl,b1⟩
 have I1:=wri_step I0 b1 HH.out
 clear x0 x1 x2 x3 b1 HW0
 obtain ⟨x0,x1,x2,x3⟩:=wri_out4 I1
 go_wp2_with fail
 have HW1:=hid (bin_or B g vn (.slice (some ⟨b,o,none⟩) m c) _ _ oa ob v a bb (hid I1.out.prs) (hid (HA.out.later I1.out.bel)) (hid (HB.out.later I1.out.bel)) (hid (by have hl:=HLS.out;(try simp only [List.length_append,List.length_cons,List.length_nil]);omega)))
 with_reducible refine HW1.out.mono ?_
 rintro e v2 ⟨rfl,b2⟩
 have I2:=wri_step I1 b2 HH.out
 clear x0 x1 x2 x3 b2 HW1
 obtain ⟨x0,x1,x2,x3⟩:=wri_out4 I2
 go_wp2_with fail
 have HW2:=hid (wri_str I2 ⟨#[41]⟩ (hid (by have hl:=HLS.out;show _+1≤_;(try simp only [List.length_append,List.length_cons,List.length_nil]);omega)))
 with_reducible refine HW2.out.mono ?_
 rintro e v3 ⟨rfl,b3⟩
 have I3:=wri_step I2 b3 HH.out
 clear x0 x1 x2 x3 b3 HW2
 go_wp2
 go_end0
 exact ⟨rfl,wri_done I3 (by simp)⟩
set_option linter.unusedVariables false
set_option linter.unusedSimpArgs false
theorem shF_eq (l:List Fi) (L:List ByteArray) (n k least:Nat):shF l L (n+1) k least=(if stg (fo l k)<least then [40]++(if fo l k=0 then [102,97,108,115,101] else if fo l k=1 then [116,114,117,101] else if fo l k=2 then (sg L (fv l k).toNat).data.toList
   else if fo l k=3 then [33]++shF l L n (fa l k).toNat 3
   else if fo l k=4 then shF l L n (fa l k).toNat 2++[32,38,38,32]++shF l L n (fb l k).toNat 3
   else if fo l k=5 then shF l L n (fa l k).toNat 1++[32,124,124,32]++shF l L n (fb l k).toNat 2 else [])++[41] else (if fo l k=0 then [102,97,108,115,101] else if fo l k=1 then [116,114,117,101] else if fo l k=2 then (sg L (fv l k).toNat).data.toList
   else if fo l k=3 then [33]++shF l L n (fa l k).toNat 3
   else if fo l k=4 then shF l L n (fa l k).toNat 2++[32,38,38,32]++shF l L n (fb l k).toNat 3
   else if fo l k=5 then shF l L n (fa l k).toNat 1++[32,124,124,32]++shF l L n (fb l k).toNat 2 else [])):=rfl
def shT (l:List Fi) (L:List ByteArray) (k least:Nat):List UInt8:=shF l L (k+1) k least
theorem ar_ge3 {o:Int} (h:o=3∨o=4∨o=5):1≤ar o:=by rcases h with rfl | rfl | rfl <;> decide
theorem shF_fuel (l:List Fi) (L:List ByteArray) (m:Nat) (HN:∀ i,i<m→okN l i):∀ a,a<m→∀ n least,a<n→shF l L n a least=shT l L a least:=by
 intro a
 induction a using Nat.strongRecOn with
 | _ a ih =>
   intro ha n least hn
   obtain ⟨n,rfl⟩:∃ j,n=j+1:=⟨n - 1,by omega⟩
   unfold shT
   rw [shF_eq,shF_eq]
   have HA:3≤fo l a∧fo l a≤5→∀ x,shF l L n (fa l a).toNat x=shF l L a (fa l a).toNat x:=fun h x=>by
    have:=kid_a (HN a ha) (ar_ge3 (by omega))
    rw [ih _ this.2 (by omega) n x (by omega),ih _ this.2 (by omega) a x this.2]
   have HB:4≤fo l a∧fo l a≤5→∀ x,shF l L n (fb l a).toNat x=shF l L a (fb l a).toNat x:=fun h x=>by
    have:=kid_b (HN a ha) (by rcases (show fo l a=4∨fo l a=5 by omega) with e | e <;> rw [e] <;> decide)
    rw [ih _ this.2 (by omega) n x (by omega),ih _ this.2 (by omega) a x this.2]
   by_cases h3:fo l a=3
   ·have q:=HA (by omega);simp [h3,q]
   by_cases h4:fo l a=4
   ·have q:=HA (by omega);have r:=HB (by omega);simp [h4,q,r]
   by_cases h5:fo l a=5
   ·have q:=HA (by omega);have r:=HB (by omega);simp [h5,q,r]
   rw [if_neg h3,if_neg h4,if_neg h5,if_neg h3,if_neg h4,if_neg h5]
section
variable {l : List Fi} {L : List ByteArray} {m k : Nat}
theorem shT_0 (least:Nat) (h:fo l k=0):shT l L k least=if 4<least then [40]++[102,97,108,115,101]++[41] else [102,97,108,115,101]:=by
 unfold shT;rw [shF_eq,h];rfl
theorem shT_1 (least:Nat) (h:fo l k=1):shT l L k least=if 4<least then [40]++[116,114,117,101]++[41] else [116,114,117,101]:=by
 unfold shT;rw [shF_eq,h];rfl
theorem shT_2 (least:Nat) (h:fo l k=2):shT l L k least=if 4<least then [40]++(sg L (fv l k).toNat).data.toList++[41] else (sg L (fv l k).toNat).data.toList:=by
 unfold shT;rw [shF_eq,h];rfl
theorem shT_3 (least:Nat) (HN:∀ i,i<m→okN l i) (hk:k<m) (h:fo l k=3):shT l L k least=if 3<least then [40]++([33]++shT l L (fa l k).toNat 3)++[41] else [33]++shT l L (fa l k).toNat 3:=by
 have ha:=kid_a (HN k hk) (ar_ge3 (by omega))
 have e:=fun x=>shF_fuel l L m HN (fa l k).toNat (by omega) k x ha.2
 rw [← e,show shT l L k least=shF l L (k+1) k least from rfl,shF_eq,h];rfl
theorem shT_4 (least:Nat) (HN:∀ i,i<m→okN l i) (hk:k<m) (h:fo l k=4):shT l L k least=if 2<least then [40]++(shT l L (fa l k).toNat 2++[32,38,38,32]++shT l L (fb l k).toNat 3)++[41] else shT l L (fa l k).toNat 2++[32,38,38,32]++shT l L (fb l k).toNat 3:=by
 have ha:=kid_a (HN k hk) (ar_ge3 (by omega))
 have hb:=kid_b (HN k hk) (by rw [h];rfl)
 have e:=fun x=>shF_fuel l L m HN (fa l k).toNat (by omega) k x ha.2
 have e':=fun x=>shF_fuel l L m HN (fb l k).toNat (by omega) k x hb.2
 rw [← e,← e',show shT l L k least=shF l L (k+1) k least from rfl,shF_eq,h];rfl
theorem shT_5 (least:Nat) (HN:∀ i,i<m→okN l i) (hk:k<m) (h:fo l k=5):shT l L k least=if 1<least then [40]++(shT l L (fa l k).toNat 1++[32,124,124,32]++shT l L (fb l k).toNat 2)++[41] else shT l L (fa l k).toNat 1++[32,124,124,32]++shT l L (fb l k).toNat 2:=by
 have ha:=kid_a (HN k hk) (ar_ge3 (by omega))
 have hb:=kid_b (HN k hk) (by rw [h];rfl)
 have e:=fun x=>shF_fuel l L m HN (fa l k).toNat (by omega) k x ha.2
 have e':=fun x=>shF_fuel l L m HN (fb l k).toNat (by omega) k x hb.2
 rw [← e,← e',show shT l L k least=shF l L (k+1) k least from rfl,shF_eq,h];rfl
theorem shT_len (HN:∀ i,i<m→okN l i) {C:Nat} (hC:5≤C) (hL:∀ j,(sg L j).size≤C):∀ k,k<m→∀ least,(shT l L k least).length≤(C+6)*ty l k:=by
 intro k
 induction k using Nat.strongRecOn with
 | _ k ih =>
   intro hk least
   obtain ⟨⟨o0,o5⟩,_⟩:=ok_node (HN k hk)
   have ht:=ty_eq l m HN hk
   rcases (show fo l k=0∨fo l k=1∨fo l k=2∨fo l k=3∨fo l k=4∨fo l k=5 by omega) with h | h | h | h | h | h
   ·rw [h,if_neg (by decide),if_neg (by decide)] at ht
    rw [shT_0 least h,ht]
    split <;> simp <;> omega
   ·rw [h,if_neg (by decide),if_neg (by decide)] at ht
    rw [shT_1 least h,ht]
    split <;> simp <;> omega
   ·rw [h,if_neg (by decide),if_neg (by decide)] at ht
    rw [shT_2 least h,ht]
    have:=hL (fv l k).toNat
    have e:(sg L (fv l k).toNat).data.toList.length=(sg L (fv l k).toNat).size:=Array.length_toList
    split <;> simp only [List.length_append,List.length_cons,List.length_nil,e] <;> omega
   ·have ha:=kid_a (HN k hk) (ar_ge3 (by omega))
    have i1:=ih _ ha.2 (by omega) 3
    rw [h,if_pos (by decide),if_neg (by decide)] at ht
    rw [shT_3 least HN hk h,ht]
    generalize (shT l L (fa l k).toNat 3)=X at *
    have e:(C+6)*(1+ty l (fa l k).toNat+0)=(C+6)+(C+6)*ty l (fa l k).toNat:=by rw [Nat.mul_add,Nat.mul_add,Nat.mul_one,Nat.mul_zero,Nat.add_zero]
    rw [e]
    split <;> simp only [List.length_append,List.length_cons,List.length_nil] <;> omega
   ·have ha:=kid_a (HN k hk) (ar_ge3 (by omega))
    have hb:=kid_b (HN k hk) (by rw [h];rfl)
    have i1:=ih _ ha.2 (by omega) 2
    have i2:=ih _ hb.2 (by omega) 3
    rw [h,if_pos (by decide),if_pos (by decide)] at ht
    rw [shT_4 least HN hk h,ht]
    generalize (shT l L (fa l k).toNat 2)=X at *
    generalize (shT l L (fb l k).toNat 3)=Y at *
    have e:(C+6)*(1+ty l (fa l k).toNat+ty l (fb l k).toNat)=(C+6)+(C+6)*ty l (fa l k).toNat+(C+6)*ty l (fb l k).toNat:=by rw [Nat.mul_add,Nat.mul_add,Nat.mul_one]
    rw [e]
    split <;> simp only [List.length_append,List.length_cons,List.length_nil] <;> omega
   ·have ha:=kid_a (HN k hk) (ar_ge3 (by omega))
    have hb:=kid_b (HN k hk) (by rw [h];rfl)
    have i1:=ih _ ha.2 (by omega) 1
    have i2:=ih _ hb.2 (by omega) 2
    rw [h,if_pos (by decide),if_pos (by decide)] at ht
    rw [shT_5 least HN hk h,ht]
    generalize (shT l L (fa l k).toNat 1)=X at *
    generalize (shT l L (fb l k).toNat 2)=Y at *
    have e:(C+6)*(1+ty l (fa l k).toNat+ty l (fb l k).toNat)=(C+6)+(C+6)*ty l (fa l k).toNat+(C+6)*ty l (fb l k).toNat:=by rw [Nat.mul_add,Nat.mul_add,Nat.mul_one]
    rw [e]
    split <;> simp only [List.length_append,List.length_cons,List.length_nil] <;> omega
end
theorem write_step (B g:Nat) (NA:Option Addr) (n nc b o m c:Nat) (l:List Fi) (L:List ByteArray) (w:World) (hl:l.length=m) (hL:L.length=n) (hm:m≤1000000) (hr:Rf w B (some ⟨b,o,none⟩) l) (hs:Rstr w B NA L) (HN:∀ i,i<m→okN l i) (HM:nmdOK l n) (k:Nat) (hk:k<m)
  (HI:∀ j,j<k→∀ least:Nat,WrC B g (.slice NA n nc) (.slice (some ⟨b,o,none⟩) m c) w j (least:Int) (shT l L j least)) (least:Nat):WrC B g (.slice NA n nc) (.slice (some ⟨b,o,none⟩) m c) w k (least:Int) (shT l L k least):=by
 intro W bl hb hP hlen
 obtain ⟨b',o',e,hbB,hc⟩:=(hr.below hb) (by omega)
 injection e with e
 injection e with e1 e2
 subst e1
 subst e2
 obtain ⟨d0,d1,d2,d3⟩:=hc k (by omega)
 have hk2:=HN k hk
 obtain ⟨⟨o0,o5⟩,hv,oa,ob⟩:=ok_node hk2
 have HI2:∀ j,j<k→∀ least:Nat,WrC B g (.slice NA n nc) (.slice (some ⟨b,o,none⟩) m c) W j (least:Int) (shT l L j least):=fun j hj x=>(HI j hj x).later hb
 rcases (show fo l k=0∨fo l k=1∨fo l k=2∨fo l k=3∨fo l k=4∨fo l k=5 by omega) with h | h | h | h | h | h
 ·have e:=shT_0 (L:=L) least h
  rw [h] at d0
  by_cases hp:4<least
  ·rw [e,if_pos hp] at hlen ⊢
   exact wr_0p B g _ b o m c k least W bl _ _ _ (hid hP) hk hm d0 d1 d2 d3 (by omega) (hid hlen)
  ·rw [e,if_neg hp] at hlen ⊢
   exact wr_0n B g _ b o m c k least W bl _ _ _ (hid hP) hk hm d0 d1 d2 d3 (by omega) (hid hlen)
 ·have e:=shT_1 (L:=L) least h
  rw [h] at d0
  by_cases hp:4<least
  ·rw [e,if_pos hp] at hlen ⊢
   exact wr_1p B g _ b o m c k least W bl _ _ _ (hid hP) hk hm d0 d1 d2 d3 (by omega) (hid hlen)
  ·rw [e,if_neg hp] at hlen ⊢
   exact wr_1n B g _ b o m c k least W bl _ _ _ (hid hP) hk hm d0 d1 d2 d3 (by omega) (hid hlen)
 ·have e:=shT_2 (L:=L) least h
  rw [h] at d0
  obtain ⟨V,hV,_⟩:=nat_of (k:=64) hv
  have hVn:=HM k (by omega) h
  rw [hV] at d1 hVn
  rw [hV,Int.toNat_natCast] at e
  obtain ⟨nb,no,en,hnb,hnc⟩:=(hs.below hb) (by omega)
  subst en
  have hsv:=hnc V (by omega)
  by_cases hp:4<least
  ·rw [e,if_pos hp] at hlen ⊢
   exact wr_2p B g b o m c k least W bl V _ _ nb no n nc (sg L V) (hid hP) hk hm d0 d1 d2 d3 (by omega) (by omega) hnb hsv (hid hlen)
  ·rw [e,if_neg hp] at hlen ⊢
   exact wr_2n B g b o m c k least W bl V _ _ nb no n nc (sg L V) (hid hP) hk hm d0 d1 d2 d3 (by omega) (by omega) hnb hsv (hid hlen)
 ·have e:=shT_3 (L:=L) least HN hk h
  rw [h] at d0
  obtain ⟨a,ha,hak⟩:=nat_of (oa (by omega))
  rw [ha] at d2
  rw [ha,Int.toNat_natCast] at e
  by_cases hp:3<least
  ·rw [e,if_pos hp] at hlen ⊢
   exact wr_3p B g _ b o m c k least W bl _ a _ _ (hid hP) hk hm d0 d1 d2 d3 (by omega) (hid (HI2 a hak 3)) (hid hlen)
  ·rw [e,if_neg hp] at hlen ⊢
   exact wr_3n B g _ b o m c k least W bl _ a _ _ (hid hP) hk hm d0 d1 d2 d3 (by omega) (hid (HI2 a hak 3)) (hid hlen)
 ·have e:=shT_4 (L:=L) least HN hk h
  rw [h] at d0
  obtain ⟨a,ha,hak⟩:=nat_of (oa (by omega))
  obtain ⟨bb,hbb,hbk⟩:=nat_of (ob (by omega))
  rw [ha] at d2
  rw [hbb] at d3
  rw [ha,hbb,Int.toNat_natCast,Int.toNat_natCast] at e
  by_cases hp:2<least
  ·rw [e,if_pos hp] at hlen ⊢
   exact wr_4p B g _ b o m c k least W bl _ a bb _ _ (hid hP) hk hm d0 d1 d2 d3 (by omega) (hid (HI2 a hak 2)) (hid (HI2 bb hbk 3)) (hid hlen)
  ·rw [e,if_neg hp] at hlen ⊢
   exact wr_4n B g _ b o m c k least W bl _ a bb _ _ (hid hP) hk hm d0 d1 d2 d3 (by omega) (hid (HI2 a hak 2)) (hid (HI2 bb hbk 3)) (hid hlen)
 ·have e:=shT_5 (L:=L) least HN hk h
  rw [h] at d0
  obtain ⟨a,ha,hak⟩:=nat_of (oa (by omega))
  obtain ⟨bb,hbb,hbk⟩:=nat_of (ob (by omega))
  rw [ha] at d2
  rw [hbb] at d3
  rw [ha,hbb,Int.toNat_natCast,Int.toNat_natCast] at e
  by_cases hp:1<least
  ·rw [e,if_pos hp] at hlen ⊢
   exact wr_5p B g _ b o m c k least W bl _ a bb _ _ (hid hP) hk hm d0 d1 d2 d3 (by omega) (hid (HI2 a hak 1)) (hid (HI2 bb hbk 2)) (hid hlen)
  ·rw [e,if_neg hp] at hlen ⊢
   exact wr_5n B g _ b o m c k least W bl _ a bb _ _ (hid hP) hk hm d0 d1 d2 d3 (by omega) (hid (HI2 a hak 1)) (hid (HI2 bb hbk 2)) (hid hlen)
theorem write_any (B g:Nat) (NA:Option Addr) (n nc b o m c:Nat) (l:List Fi) (L:List ByteArray) (w:World) (hl:l.length=m) (hL:L.length=n) (hm:m≤1000000) (hr:Rf w B (some ⟨b,o,none⟩) l) (hs:Rstr w B NA L) (HN:∀ i,i<m→okN l i) (HM:nmdOK l n):∀ k,k<m→∀ least:Nat,WrC B g (.slice NA n nc) (.slice (some ⟨b,o,none⟩) m c) w k (least:Int) (shT l L k least):=by
 intro k
 induction k using Nat.strongRecOn with
 | _ k ih=>exact fun hk=>write_step B g NA n nc b o m c l L w hl hL hm hr hs HN HM k hk (fun j hj=>ih j hj (by omega))
set_option linter.unusedVariables false
set_option linter.unusedSimpArgs false
attribute [local go_sem ↓] Go.wp_at_zero Go.wp_at_succ
theorem typBp:Tryz.prog.underlying 126=some (.pointer 5):=by kernel_rfl
theorem cellsU8:Tryz.prog.cellsOf 5=1:=by kernel_rfl
theorem bstring_any (B g:Nat) (vn vf:Value) (l:List UInt8) (w:World) (h:PrS w B g vn vf (bc l)) (h0:l≠[]) :
  Calls Tryz.prog 53 #[.pointer (some ⟨g,2,none⟩)] w fun e w'=>e=.returned (.string ⟨l.toArray⟩)∧Below B w w':=by
 obtain ⟨p,hB,v,hbk,hown,hne⟩:∃ p,PrP w B g vn vf p (bc l):=by
  rcases h with h | h
  ·exact ⟨_,h⟩
  ·exact ⟨_,h⟩
 have hl0:l.length≠0:=by simpa using h0
 rw [bc_len] at hown
 obtain ⟨q,cap,cur,rfl,hbg,hg,hnc,hcm,hcs,htake⟩:∃ q cap cur,v=.slice (some ⟨q,0,none⟩) l.length cap∧B≤q∧w.heap[q]? = some (.cells cur 5 (0,0))∧l.length≤cap∧cap≤maxLen∧cur.size=cap*1∧cur.toList.take (l.length*1)=bc l:=by
  rcases hown.2 with ⟨_,hz⟩ | ⟨q,cap,cur,hv,r⟩
  ·exact absurd hz hl0
  ·exact ⟨q,cap,cur,hv,r⟩
 have c1:w.drew.cell? ⟨g,3,none⟩=some (.slice (some ⟨q,0,none⟩) l.length cap):=by
  have:w.drew.heap[g]? = some (.cells #[vn,vf,p,.slice (some ⟨q,0,none⟩) l.length cap] 90 (0,0)):=hbk
  rw [cell_of_row _ _ 3 _ _ _ this];rfl
 have hSD:(Builtin.unsafeSliceData_ #[22] 126 #[.slice (some ⟨q,0,none⟩) l.length cap]).run Tryz.prog w.drew=.ok (.pointer (some ⟨q,0,none⟩)) w.drew :=
  Lib.run_unsafeSliceData_row _ _ _ _ _ _ (by omega)
 have hUS:(Builtin.unsafeString_ #[126,3] 9 #[.pointer (some ⟨q,0,none⟩),.int .i64 l.length]).run Tryz.prog w.drew=.ok (.string ⟨l.toArray⟩) (w.drew.freeze ⟨q,0,none⟩ l.length):=by
  refine Lib.run_unsafeString_row w.drew 126 3 9 5 typBp cellsU8 q cur.size (by have hg':w.drew.heap[q]? = some (.cells cur 5 (0,0)):=hg;simp [World.shape?,hg']) l h0 (by omega) (by unfold maxLen at hcm;omega) ?_
  intro j x hx
  exact hown.cells (g:=q) rfl j (.int .u8 x.toNat) (by simp [bc,hx])
 clear hown h
 go_enter Tryz.func53,Tryz.ntmps53
 go_wp2
 go_region
 all_goals (go_wp2;go_ret;exact ⟨rfl,Lib.below_freeze (Below.drew (Below.refl B w)) (p:=⟨q,0,none⟩) hbg _⟩)
theorem shT_ne {l:List Fi} {L:List ByteArray} {m k:Nat} (HN:∀ i,i<m→okN l i) (hk:k<m) (hL:∀ i,i<L.length→0<(sg L i).size) (HM:∀ i,i<m→fo l i=2→fv l i<(L.length:Int)) (least:Nat):shT l L k least≠[]:=by
 obtain ⟨⟨o0,o5⟩,hv,_⟩:=ok_node (HN k hk)
 rcases (show fo l k=0∨fo l k=1∨fo l k=2∨fo l k=3∨fo l k=4∨fo l k=5 by omega) with h | h | h | h | h | h
 ·rw [shT_0 least h];split <;> simp
 ·rw [shT_1 least h];split <;> simp
 ·rw [shT_2 least h]
  have h1:=HM k hk h
  have h2:=hL (fv l k).toNat (by omega)
  have h3:(sg L (fv l k).toNat).data.toList.length=(sg L (fv l k).toNat).size:=Array.length_toList
  split
  ·simp
  ·intro e
   rw [e] at h3
   simp at h3
   omega
 ·rw [shT_3 least HN hk h];split <;> simp
 ·rw [shT_4 least HN hk h];split <;> simp
 ·rw [shT_5 least HN hk h];split <;> simp
def prtS (L:List ByteArray) (l:List Fi):ByteArray:=if nmsOK L∧okF l∧nmdOK l L.length then ⟨(shT l L (l.length - 1) 0).toArray⟩ else ByteArray.empty
def prtE (L:List ByteArray) (l:List Fi):Int:=if ¬ nmsOK L then 1 else if ¬ (okF l∧nmdOK l L.length) then 30 else 0
theorem fprint_any (NA:Option Addr) (n nc:Nat) (A:Option Addr) (m c:Nat) (l:List Fi) (L:List ByteArray) (w:World) (hl:Hid (l.length=m)) (hL:Hid (L.length=n)) (hm:m≤1000000) (hn:n≤1000000) (hnc:n≤nc) (hmc:m≤c) (hs:Hid (∀ j,(sg L j).size≤1048576)) (hr:Hid (Rf w w.heap.size A l)) (hrs:Hid (Rstr w w.heap.size NA L)) :
  Calls Tryz.prog 23 #[.slice NA n nc,.slice A m c] w fun e w'=>e=.returned (.tuple #[.string (prtS L l),.int .i64 (prtE L l)])∧Below w.heap.size w w':=by
 have HV:=hid (vnames_any NA n nc L w hL hn hnc (hid (fun j=>by have:=hs.out j;omega)) hrs)
 by_cases h1:nmsOK L
 rotate_left
 ·have e1:prtS L l=ByteArray.empty:=if_neg (fun q=>h1 q.1)
  have e2:prtE L l=1:=if_pos h1
  rw [e1,e2]
  rw [decide_eq_false h1] at HV
  clear h1 e1 e2 hr hrs hs
  go_enter Tryz.func23,Tryz.ntmps23
  go_wp2_with fail
  with_reducible refine HV.out.mono ?_
  rintro e w0 ⟨rfl,rfl⟩
  go_wp2
  go_ret2
  exact ⟨rfl,Below.refl _ _⟩
 rw [decide_eq_true h1] at HV
 have HC:=hid (valid_any A m c l w hl hr)
 by_cases h2:okF l
 rotate_left
 ·have e1:prtS L l=ByteArray.empty:=if_neg (fun q=>h2 q.2.1)
  have e2:prtE L l=30:=by unfold prtE;rw [if_neg (fun q=>q h1),if_pos (fun q=>h2 q.1)]
  rw [e1,e2]
  rw [decide_eq_false h2] at HC
  clear h1 h2 e1 e2 hr hrs hs
  go_enter Tryz.func23,Tryz.ntmps23
  go_wp2_with fail
  with_reducible refine HV.out.mono ?_
  rintro e w0 ⟨rfl,rfl⟩
  go_wp2_with fail
  with_reducible refine HC.out.mono ?_
  rintro e w1 ⟨rfl,hb1⟩
  go_wp2
  go_ret2
  exact ⟨rfl,hb1⟩
 rw [decide_eq_true h2] at HC
 have HNA:Hid (∀ W,Below w.heap.size w W→Calls Tryz.prog 51 #[.slice NA n nc,.slice A m c] W fun e w'=>e=.returned (.bool (decide (nmdOK l n)))∧Below W.heap.size W w'):=hid (fun W hW=>named_any NA n nc A m c l W hl hm hn (hid ((hr.out.below hW).mono hW.size)))
 by_cases h3:nmdOK l n
 rotate_left
 ·have e1:prtS L l=ByteArray.empty:=if_neg (fun q=>h3 (by have:=q.2.2;rw [hL.out] at this;exact this))
  have e2:prtE L l=30:=by unfold prtE;rw [if_neg (fun q=>q h1),if_pos (fun q=>h3 (by have:=q.2;rw [hL.out] at this;exact this))]
  rw [e1,e2]
  rw [decide_eq_false h3] at HNA
  clear h1 h2 h3 e1 e2 hr hrs hs
  go_enter Tryz.func23,Tryz.ntmps23
  go_wp2_with fail
  with_reducible refine HV.out.mono ?_
  rintro e w0 ⟨rfl,rfl⟩
  go_wp2_with fail
  with_reducible refine HC.out.mono ?_
  rintro e w1 ⟨rfl,hb1⟩
  have HB1:=hid hb1
  clear hb1
  go_wp2_with fail
  with_reducible refine (HNA.out _ HB1.out).mono ?_
  rintro e w2 ⟨rfl,hb2⟩
  have HB2:=hid (HB1.out.trans (hb2.mono HB1.out.size))
  clear hb2
  go_wp2
  go_ret2
  exact ⟨rfl,HB2.out⟩
 rw [decide_eq_true h3] at HNA
 have e1:prtS L l=⟨(shT l L (m - 1) 0).toArray⟩:=by unfold prtS;rw [if_pos ⟨h1,h2,by rw [hL.out];exact h3⟩,hl.out]
 have e2:prtE L l=0:=by unfold prtE;rw [if_neg (fun q=>q h1),if_neg (fun q=>q ⟨h2,by rw [hL.out];exact h3⟩)]
 rw [e1,e2]
 have h4:1≤m:=by have:=h2.1;rw [hl.out] at this;exact this
 have hN:∀ i,i<m→okN l i:=fun i hi=>h2.2.2.1 i (by rw [hl.out];exact hi)
 obtain ⟨b,o,eA,hb,_⟩:=hr.out (by rw [hl.out];omega)
 subst eA
 have hne:shT l L (m - 1) 0≠[]:=shT_ne hN (by omega) (fun i hi=>(h1.2 i hi).1.1) (fun i hi he=>by rw [hL.out];exact h3 i (by rw [hl.out];exact hi) he) 0
 have hlen:(shT l L (m - 1) 0).length≤140737488355328:=by
  have q1:=shT_len (L:=L) hN (C:=1048576) (by omega) hs.out (m - 1) (by omega) 0
  have q2:=ty_le l h2
  rw [hl.out] at q2
  have q3:(1048576+6)*ty l (m - 1)≤(1048576+6)*m:=Nat.mul_le_mul_left _ q2
  omega
 have HW:Hid (∀ (B g:Nat) (W:World),Below w.heap.size w W→w.heap.size≤B→Rstr W B NA L→Rf W B (some ⟨b,o,none⟩) l→WrC B g (.slice NA n nc) (.slice (some ⟨b,o,none⟩) m c) W (m - 1) 0 (shT l L (m - 1) 0)):=hid (fun B g W hW hB h5 h6=>write_any B g NA n nc b o m c l L W hl.out hL.out hm h6 h5 hN h3 (m - 1) (by omega) 0)
 have HNE:=hid hne
 have HLE:=hid hlen
 clear e1 e2 h1 h2 h3 hne hlen hN
 obtain ⟨k,rfl⟩:∃ k,m=k+1:=⟨m - 1,by omega⟩
 rw [Nat.add_sub_cancel] at HW HNE HLE ⊢
 generalize shT l L k 0=txt at *
 go_enter Tryz.func23,Tryz.ntmps23
 go_wp2_with fail
 with_reducible refine HV.out.mono ?_
 rintro e w0 ⟨rfl,rfl⟩
 go_wp2_with fail
 with_reducible refine HC.out.mono ?_
 rintro e w1 ⟨rfl,hb1⟩
 have HB1:=hid hb1
 clear hb1
 go_wp2_with fail
 with_reducible refine (HNA.out _ HB1.out).mono ?_
 rintro e w2 ⟨rfl,hb2⟩
 have HB2:=hid (HB1.out.trans (hb2.mono HB1.out.size))
 clear hb2
 have HR2:=hid (hr.out.below HB2.out)
 have HS2:=hid (hrs.out.below HB2.out)
 have hPS:PrS (w2.alloc (.cells #[.slice NA n nc,.slice (some ⟨b,o,none⟩) (k+1) c,.pointer none,.slice none 0 0] 90)) w2.heap.size w2.heap.size (.slice NA n nc) (.slice (some ⟨b,o,none⟩) (k+1) c) (bc []) :=
  .inl ⟨Nat.le_refl _,.slice none 0 0,heap_alloc_new _ _,World.ownsRow_nil _ _ _ _,by simp [Value.ownBlock]⟩
 have HW2:=(HW.out w2.heap.size w2.heap.size w2 HB2.out HB2.out.size (HS2.out.mono HB2.out.size) (HR2.out.mono HB2.out.size)) _ [] ((Below.refl _ _).alloc (Nat.le_refl _) _) hPS (by simpa using HLE.out)
 rw [List.nil_append] at HW2
 have HW3:=hid HW2
 clear HW2 hPS HW HC HV HNA
 have HB3:=hid (HB2.out.alloc HB2.out.size (.cells #[.slice NA n nc,.slice (some ⟨b,o,none⟩) (k+1) c,.pointer none,.slice none 0 0] 90))
 go_wp2_with fail
 with_reducible refine HW3.out.mono ?_
 rintro e w4 ⟨rfl,b4⟩
 have HS4:=hid (bstring_any _ _ _ _ txt w4 b4.1 HNE.out)
 have HB4:=hid (HB3.out.trans (b4.2.1.mono HB2.out.size))
 have HZ4:=hid (Nat.le_trans HB3.out.size b4.2.2.2)
 clear b4 HW3
 go_wp2_with fail
 with_reducible refine HS4.out.mono ?_
 rintro e w5 ⟨rfl,b5⟩
 have HB5:=hid (HB4.out.trans (b5.mono HB2.out.size))
 clear b5 HS4
 go_wp2
 go_ret2
 exact ⟨rfl,HB5.out⟩
end Go.Proofs.YtpaednfinlaioaaGreatDoor
