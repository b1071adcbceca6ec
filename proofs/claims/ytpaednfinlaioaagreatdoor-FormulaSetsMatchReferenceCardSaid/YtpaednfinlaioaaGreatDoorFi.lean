/-
  Plain mathematics and contracts of package diagram, several texts in one: FArd, FShw, FSh2.
-/
import Derived.Test.YtpaednfinlaioaaGreatDoorFh
import Derived.Test.YtpaednfinlaioaaGreatDoorFg
import Derived.Deep.RegionHeld3
import Derived.BigQuiet
import Derived.Deep.QuietTactic
set_option maxHeartbeats 8000000
set_option maxRecDepth 100000
namespace Go.Proofs.YtpaednfinlaioaaGreatDoor
open Go.Lib (hid)
open Go.RowKit Dg St
set_option linter.unusedVariables false
set_option linter.unusedSimpArgs false
attribute [local go_sem ↓] Go.wp_at_zero Go.wp_at_succ
def par (s:ByteArray):ByteArray:=⟨#[40]⟩++s++⟨#[41]⟩
theorem around_1 (q c:Nat) (s:ByteArray) (o a:Int) (w:World) (hs:s.size≤4611686018427387904) (hc:w.cell? ⟨q,0,none⟩=some (.int .i64 a)) :
  Calls Tryz.prog 110 #[.string s,.int .i64 o,.slice (some ⟨q,0,none⟩) 1 c] w fun e w'=>e=.returned (.string (if a=o then par s else s))∧w=w':=by
 have hs1:¬ 9223372036854775807<1+s.size:=by omega
 have hs2:¬ 9223372036854775807<1+s.size+1:=by omega
 by_cases h:a=o
 ·have b1:(a == o)=true:=beq_iff_eq.2 h
  rw [if_pos h]
  clear h
  go_enter Tryz.func110,Tryz.ntmps110
  go_wp2
  go_rounds 1
  go_ret
  exact ⟨rfl,rfl⟩
 ·have b1:(a == o)=false:=beq_eq_false_iff_ne.2 h
  rw [if_neg h]
  clear h
  go_enter Tryz.func110,Tryz.ntmps110
  go_wp2
  go_rounds 2
  go_ret
  exact ⟨rfl,rfl⟩
theorem around_2 (q c:Nat) (s:ByteArray) (o a b:Int) (w:World) (hs:s.size≤4611686018427387904) (hc:w.cell? ⟨q,0,none⟩=some (.int .i64 a)) (hd:w.cell? ⟨q,1,none⟩=some (.int .i64 b)) :
  Calls Tryz.prog 110 #[.string s,.int .i64 o,.slice (some ⟨q,0,none⟩) 2 c] w fun e w'=>e=.returned (.string (if a=o∨b=o then par s else s))∧w=w':=by
 have hs1:¬ 9223372036854775807<1+s.size:=by omega
 have hs2:¬ 9223372036854775807<1+s.size+1:=by omega
 by_cases h:a=o
 ·have b1:(a == o)=true:=beq_iff_eq.2 h
  rw [if_pos (.inl h)]
  clear h
  go_enter Tryz.func110,Tryz.ntmps110
  go_wp2
  go_rounds 1
  go_ret
  exact ⟨rfl,rfl⟩
 ·have b1:(a == o)=false:=beq_eq_false_iff_ne.2 h
  by_cases h2:b=o
  ·have b2:(b == o)=true:=beq_iff_eq.2 h2
   rw [if_pos (.inr h2)]
   clear h h2
   go_enter Tryz.func110,Tryz.ntmps110
   go_wp2
   go_rounds 2
   go_ret
   exact ⟨rfl,rfl⟩
  ·have b2:(b == o)=false:=beq_eq_false_iff_ne.2 h2
   rw [if_neg (fun q=>q.elim h h2)]
   clear h h2
   go_enter Tryz.func110,Tryz.ntmps110
   go_wp2
   go_rounds 3
   go_ret
   exact ⟨rfl,rfl⟩
set_option linter.unusedVariables false
set_option linter.unusedSimpArgs false
attribute [local go_sem ↓] Go.wp_at_zero Go.wp_at_succ
theorem bcell {W w1:World} (hb:Below W.heap.size W w1):(∀ b o,b<W.heap.size→w1.cell? ⟨b,o,none⟩=W.cell? ⟨b,o,none⟩)∧(∀ b o,b<W.heap.size→w1.frozen? ⟨b,o,none⟩=W.frozen? ⟨b,o,none⟩) :=
 ⟨fun b o h=>hb.cell (p:=⟨b,o,none⟩) h,fun b o h=>hb.frozen (p:=⟨b,o,none⟩) h⟩
theorem al_0 (w:World) (a:Value) (T:Nat):(w.alloc (.cells #[a] T)).cell? ⟨w.heap.size,0,none⟩=some a:=by rw [cell_of_row _ _ 0 _ _ _ (heap_alloc_new w _)];rfl
theorem al2_0 (w:World) (a b:Value) (T:Nat):(w.alloc (.cells #[a,b] T)).cell? ⟨w.heap.size,0,none⟩=some a:=by rw [cell_of_row _ _ 0 _ _ _ (heap_alloc_new w _)];rfl
theorem al2_1 (w:World) (a b:Value) (T:Nat):(w.alloc (.cells #[a,b] T)).cell? ⟨w.heap.size,1,none⟩=some b:=by rw [cell_of_row _ _ 1 _ _ _ (heap_alloc_new w _)];rfl
theorem al_0d (w:World) (a:Value) (T:Nat):(w.alloc (.cells #[a] T)).drew.cell? ⟨w.heap.size,0,none⟩=some a:=al_0 w a T
theorem al2_0d (w:World) (a b:Value) (T:Nat):(w.alloc (.cells #[a,b] T)).drew.cell? ⟨w.heap.size,0,none⟩=some a:=al2_0 w a b T
theorem al2_1d (w:World) (a b:Value) (T:Nat):(w.alloc (.cells #[a,b] T)).drew.cell? ⟨w.heap.size,1,none⟩=some b:=al2_1 w a b T
theorem al_past (w:World) (o:Obj) (b i:Nat) (h:b<w.heap.size):(w.alloc o).cell? ⟨b,i,none⟩=w.cell? ⟨b,i,none⟩:=World.cell?_alloc_lt w o ⟨b,i,none⟩ h
theorem al_pastd (w:World) (o:Obj) (b i:Nat) (h:b<w.heap.size):(w.alloc o).drew.cell? ⟨b,i,none⟩=w.cell? ⟨b,i,none⟩:=World.cell?_alloc_lt w o ⟨b,i,none⟩ h
theorem al_0s (w:World) (o:Obj) (a:Value) (T:Nat):((w.alloc o).alloc (.cells #[a] T)).cell? ⟨w.heap.size+1,0,none⟩=some a:=by
 have:=al_0 (w.alloc o) a T
 rwa [show (w.alloc o).heap.size=w.heap.size+1 by simp] at this
theorem al2_0s (w:World) (o:Obj) (a b:Value) (T:Nat):((w.alloc o).alloc (.cells #[a,b] T)).cell? ⟨w.heap.size+1,0,none⟩=some a:=by
 have:=al2_0 (w.alloc o) a b T
 rwa [show (w.alloc o).heap.size=w.heap.size+1 by simp] at this
theorem al2_1s (w:World) (o:Obj) (a b:Value) (T:Nat):((w.alloc o).alloc (.cells #[a,b] T)).cell? ⟨w.heap.size+1,1,none⟩=some b:=by
 have:=al2_1 (w.alloc o) a b T
 rwa [show (w.alloc o).heap.size=w.heap.size+1 by simp] at this
theorem al_0sd (w:World) (o:Obj) (a:Value) (T:Nat):((w.alloc o).alloc (.cells #[a] T)).drew.cell? ⟨w.heap.size+1,0,none⟩=some a:=al_0s w o a T
theorem al2_0sd (w:World) (o:Obj) (a b:Value) (T:Nat):((w.alloc o).alloc (.cells #[a,b] T)).drew.cell? ⟨w.heap.size+1,0,none⟩=some a:=al2_0s w o a b T
theorem al2_1sd (w:World) (o:Obj) (a b:Value) (T:Nat):((w.alloc o).alloc (.cells #[a,b] T)).drew.cell? ⟨w.heap.size+1,1,none⟩=some b:=al2_1s w o a b T
theorem ba_app (a b:List UInt8):(⟨(a++b).toArray⟩:ByteArray)=⟨a.toArray⟩++⟨b.toArray⟩:=by
 apply ByteArray.ext
 rw [ByteArray.data_append]
 simp
def txS (l:List Fi) (L:List ByteArray) (k least:Nat):ByteArray:=⟨(shT l L k least).toArray⟩
theorem txS_size (l:List Fi) (L:List ByteArray) (k least:Nat):(txS l L k least).size=(shT l L k least).length:=by unfold txS;simp [ByteArray.size]
theorem shT_par (l:List Fi) (L:List ByteArray) (k least:Nat):shT l L k least=if stg (fo l k)<least then [40]++shT l L k 0++[41] else shT l L k 0:=by
 unfold shT
 rw [shF_eq,shF_eq]
 rw [if_neg (Nat.not_lt_zero (stg (fo l k)))]
theorem txS_par (l:List Fi) (L:List ByteArray) (k least:Nat):txS l L k least=if stg (fo l k)<least then par (txS l L k 0) else txS l L k 0:=by
 unfold txS
 rw [shT_par]
 split
 ·unfold par
  rw [ba_app,ba_app]
 ·rfl
theorem stg_3 {o:Int}:stg o<3↔((4:Int)=o∨(5:Int)=o):=by
 unfold stg
 constructor
 ·intro h
  by_cases h5:o=5
  ·exact .inr h5.symm
  ·rw [if_neg h5] at h
   by_cases h4:o=4
   ·exact .inl h4.symm
   ·rw [if_neg h4] at h
    split at h <;> omega
 ·rintro (h | h) <;> subst h <;> decide
theorem stg_2 {o:Int}:stg o<2↔(5:Int)=o:=by
 unfold stg
 constructor
 ·intro h
  by_cases h5:o=5
  ·exact h5.symm
  ·rw [if_neg h5] at h
   repeat (split at h <;> try omega)
 ·rintro h;subst h;decide
structure ShI (w0 w:World) (b:Nat) (bx:Array Value):Prop where
 box:w.heap[b]? = some (.cells bx 58 (0,0))
 bel:Below w0.heap.size w0 w
theorem shi_new (w:World) (bx:Array Value):Hid (ShI w (w.alloc (.cells bx 58)) w.heap.size bx):=hid ⟨heap_alloc_new _ _,(Below.refl _ _).alloc (Nat.le_refl _) _⟩
theorem shi_step {w0 w w':World} {b:Nat} {bx:Array Value} (i:Hid (ShI w0 w b bx)) (h:Below w.heap.size w w'):Hid (ShI w0 w' b bx):=by
 have hb:b<w.heap.size:=(Array.getElem?_eq_some_iff.1 i.out.box).1
 exact hid ⟨(h.block b hb).trans i.out.box,i.out.bel.trans (h.mono i.out.bel.size)⟩
theorem shi_drew {w0 w:World} {b:Nat} {bx:Array Value} (i:Hid (ShI w0 w b bx)):Hid (ShI w0 w.drew b bx):=shi_step i (Below.refl _ _).drew
theorem shi_alloc {w0 w:World} {b:Nat} {bx:Array Value} (i:Hid (ShI w0 w b bx)) (o:Obj):Hid (ShI w0 (w.alloc o) b bx):=shi_step i ((Below.refl _ _).alloc (Nat.le_refl _) o)
theorem shi_out {w0 w:World} {b fb p1 p2:Nat} {v1 v2 p q r s:Value} (i:Hid (ShI w0 w b #[p,q,r,s])) (h:Hid (fb<w0.heap.size∧w0.cell? ⟨fb,p1,none⟩=some v1∧w0.cell? ⟨fb,p2,none⟩=some v2)) :
  w.cell? ⟨b,2,none⟩=some r∧w.cell? ⟨b,3,none⟩=some s∧w.cell? ⟨fb,p1,none⟩=some v1∧w.cell? ⟨fb,p2,none⟩=some v2:=by
 obtain ⟨_,_,h2,h3⟩:=bx4 i.out.box
 exact ⟨h2,h3,(i.out.bel.cell (p:=⟨fb,p1,none⟩) h.out.1).trans h.out.2.1,(i.out.bel.cell (p:=⟨fb,p2,none⟩) h.out.1).trans h.out.2.2⟩
theorem shi_ne {w0 w:World} {b fb:Nat} {bx:Array Value} {P:Prop} (i:Hid (ShI w0 w b bx)) (h:Hid (fb<w0.heap.size∧P)):¬ b=w.heap.size∧¬ fb=w.heap.size:=by
 have hb:b<w.heap.size:=(Array.getElem?_eq_some_iff.1 i.out.box).1
 have h1:=i.out.bel.size
 have h2:=h.out.1
 omega
abbrev ShC (NA A:Option Addr) (n nc m c:Nat) (w0:World) (k:Nat) (X:ByteArray):Prop:=∀ W:World,Below w0.heap.size w0 W→Calls Tryz.prog 88 #[.slice NA n nc,.slice A m c,.int .i64 (k:Int)] W fun e w'=>e=.returned (.string X)∧Below W.heap.size W w'
theorem sh_0 (NA:Option Addr) (n nc fb o m c k:Nat) (w:World) (v a bb:Int) (hk:k<m) (hm:m≤1000000) (hfb:fb<w.heap.size)
  (d0:w.cell? ⟨fb,o+k*4,none⟩=some (.int .i64 0)) (d1:w.cell? ⟨fb,o+k*4+1,none⟩=some (.int .i64 v)) (d2:w.cell? ⟨fb,o+k*4+2,none⟩=some (.int .i64 a)) (d3:w.cell? ⟨fb,o+k*4+3,none⟩=some (.int .i64 bb)) :
  Calls Tryz.prog 88 #[.slice NA n nc,.slice (some ⟨fb,o,none⟩) m c,.int .i64 (k:Int)] w fun e w'=>e=.returned (.string ⟨#[102,97,108,115,101]⟩)∧Below w.heap.size w w':=by
 have I0:=shi_new w #[.int .i64 0,.int .i64 v,.int .i64 a,.int .i64 bb]
 have i1:(0:Int)≤(k:Int):=by omega
 have i2:(k:Int)<(m:Int):=by omega
 go_enter Tryz.func88,Tryz.ntmps88
 go_wp2
 go_ret
 exact ⟨rfl,I0.out.bel⟩
theorem sh_1 (NA:Option Addr) (n nc fb o m c k:Nat) (w:World) (v a bb:Int) (hk:k<m) (hm:m≤1000000) (hfb:fb<w.heap.size)
  (d0:w.cell? ⟨fb,o+k*4,none⟩=some (.int .i64 1)) (d1:w.cell? ⟨fb,o+k*4+1,none⟩=some (.int .i64 v)) (d2:w.cell? ⟨fb,o+k*4+2,none⟩=some (.int .i64 a)) (d3:w.cell? ⟨fb,o+k*4+3,none⟩=some (.int .i64 bb)) :
  Calls Tryz.prog 88 #[.slice NA n nc,.slice (some ⟨fb,o,none⟩) m c,.int .i64 (k:Int)] w fun e w'=>e=.returned (.string ⟨#[116,114,117,101]⟩)∧Below w.heap.size w w':=by
 have I0:=shi_new w #[.int .i64 1,.int .i64 v,.int .i64 a,.int .i64 bb]
 have i1:(0:Int)≤(k:Int):=by omega
 have i2:(k:Int)<(m:Int):=by omega
 go_enter Tryz.func88,Tryz.ntmps88
 go_wp2
 go_ret
 exact ⟨rfl,I0.out.bel⟩
theorem sh_2 (NA:Option Addr) (n nc fb o m c k:Nat) (w:World) (v:Nat) (a bb:Int) (nb no:Nat) (s:ByteArray) (hNA:NA=some ⟨nb,no,none⟩) (hk:k<m) (hm:m≤1000000) (hfb:fb<w.heap.size)
  (d0:w.cell? ⟨fb,o+k*4,none⟩=some (.int .i64 2)) (d1:w.cell? ⟨fb,o+k*4+1,none⟩=some (.int .i64 (v:Int))) (d2:w.cell? ⟨fb,o+k*4+2,none⟩=some (.int .i64 a)) (d3:w.cell? ⟨fb,o+k*4+3,none⟩=some (.int .i64 bb)) (hv:v<n) (hn:n≤1000000) (hs:w.cell? ⟨nb,no+v,none⟩=some (.string s)) (hnb:nb<w.heap.size) :
  Calls Tryz.prog 88 #[.slice NA n nc,.slice (some ⟨fb,o,none⟩) m c,.int .i64 (k:Int)] w fun e w'=>e=.returned (.string s)∧Below w.heap.size w w':=by
 have I0:=shi_new w #[.int .i64 2,.int .i64 (v:Int),.int .i64 a,.int .i64 bb]
 have i1:(0:Int)≤(k:Int):=by omega
 have i2:(k:Int)<(m:Int):=by omega
 subst hNA
 have i3:(0:Int)≤(v:Int):=by omega
 have i4:(v:Int)<(n:Int):=by omega
 have i5:¬ nb=w.heap.size:=by omega
 go_enter Tryz.func88,Tryz.ntmps88
 go_wp2
 go_ret
 exact ⟨rfl,I0.out.bel⟩
theorem sh_3 (NA:Option Addr) (n nc fb o m c k:Nat) (w:World) (v:Int) (a:Nat) (bb OA:Int) (X Z:ByteArray) (hk:k<m) (hm:m≤1000000) (hfb:fb<w.heap.size)
  (d0:w.cell? ⟨fb,o+k*4,none⟩=some (.int .i64 3)) (d1:w.cell? ⟨fb,o+k*4+1,none⟩=some (.int .i64 v)) (d2:w.cell? ⟨fb,o+k*4+2,none⟩=some (.int .i64 (a:Int))) (d3:w.cell? ⟨fb,o+k*4+3,none⟩=some (.int .i64 bb)) (da:w.cell? ⟨fb,o+a*4,none⟩=some (.int .i64 OA)) (ha:a<m) (HX:Hid (ShC NA (some ⟨fb,o,none⟩) n nc m c w a X)) (hXs:X.size≤1000000000000) (hZs:Z.size≤1000000000000) (hZ:Z=if (4:Int)=OA∨(5:Int)=OA then par X else X) :
  Calls Tryz.prog 88 #[.slice NA n nc,.slice (some ⟨fb,o,none⟩) m c,.int .i64 (k:Int)] w fun e w'=>e=.returned (.string (⟨#[33]⟩++Z))∧Below w.heap.size w w':=by
 have I0:=shi_new w #[.int .i64 3,.int .i64 v,.int .i64 (a:Int),.int .i64 bb]
 have i1:(0:Int)≤(k:Int):=by omega
 have i2:(k:Int)<(m:Int):=by omega
 have HF:Hid (fb<w.heap.size∧w.cell? ⟨fb,o+a*4,none⟩=some (.int .i64 OA)∧w.cell? ⟨fb,o+a*4,none⟩=some (.int .i64 OA)):=hid ⟨hfb,da,da⟩
 have k1:(0:Int)≤(a:Int):=by omega
 have k2:(a:Int)<(m:Int):=by omega
 have HA:Hid (∀ (q c:Nat) (W:World),W.cell? ⟨q,0,none⟩=some (.int .i64 4)→W.cell? ⟨q,1,none⟩=some (.int .i64 5)→Calls Tryz.prog 110 #[.string X,.int .i64 OA,.slice (some ⟨q,0,none⟩) 2 c] W fun e w'=>e=.returned (.string Z)∧W=w'):=hid (fun q c W h1 h2=>by rw [hZ];exact around_2 q c X OA 4 5 W (by omega) h1 h2)
 have hcat:¬ 9223372036854775807<1+Z.size:=by omega
 clear hZ da 
 go_enter Tryz.func88,Tryz.ntmps88
 go_upto_region 10 with fail
 clear d0 d1 d2 d3
 have hgw:=hid (rfl:w.heap.size=w.heap.size)
 generalize w.alloc (.cells #[.int .i64 3,.int .i64 v,.int .i64 (a:Int),.int .i64 bb] 58)=w1 at *
 have I1:=I0
 obtain ⟨n1,n2⟩:=shi_ne I0 HF
 obtain ⟨z2,z3,z4,z5⟩:=shi_out I1 HF
 replace I0:=shi_drew I0
 obtain ⟨x2,x3,y1,y2⟩:=shi_out I0 HF
 go_region_held3 (fun w'=>w'.cell? ⟨w.heap.size,2,none⟩=some (.int .i64 (a:Int))∧w'.cell? ⟨w.heap.size,3,none⟩=some (.int .i64 bb)∧w'.cell? ⟨fb,o+a*4,none⟩=some (.int .i64 OA)∧w'.cell? ⟨fb,o+a*4,none⟩=some (.int .i64 OA)) (first | (refine ⟨?_,?_,?_,?_⟩ <;> (with_reducible assumption)) | go_keep) ((first
  | (go_at_call 88;with_reducible refine (HX.out _ I0.out.bel).mono ?_;rintro e wn1 ⟨rfl,b9⟩;clear x2 x3 y1 y2 n1 n2;replace I0:=shi_step I0 b9;obtain ⟨x2,x3,y1,y2⟩:=shi_out I0 HF;obtain ⟨n1,n2⟩:=shi_ne I0 HF;have hc8:=hid (bcell b9).1;have hc8z:=hid b9.size;clear b9)
  | (go_at_call 88;with_reducible refine (HX.out _ (shi_alloc I0 _).out.bel).mono ?_;rintro e wn1 ⟨rfl,b9⟩;clear x2 x3 y1 y2 n1 n2;replace I0:=shi_step (shi_alloc I0 _) b9;obtain ⟨x2,x3,y1,y2⟩:=shi_out I0 HF;obtain ⟨n1,n2⟩:=shi_ne I0 HF;have hc8:=hid (bcell b9).1;have hc8z:=hid b9.size;clear b9)
  | (go_at_call 88;with_reducible refine (HX.out _ (shi_drew (shi_alloc I1 _)).out.bel).mono ?_;rintro e wn1 ⟨rfl,b9⟩;clear x2 x3 y1 y2 n1 n2;replace I0:=shi_step (shi_drew (shi_alloc I1 _)) b9;obtain ⟨x2,x3,y1,y2⟩:=shi_out I0 HF;obtain ⟨n1,n2⟩:=shi_ne I0 HF;have hc8:=hid (bcell b9).1;have hc8z:=hid b9.size;clear b9)
  | (go_at_call 110;with_reducible refine (HA.out _ _ _ ?_ ?_).mono ?_;(first | (first | exact al_0 _ _ _ | exact al2_0 _ _ _ _ | exact al2_1 _ _ _ _ | exact al_0d _ _ _ | exact al2_0d _ _ _ _ | exact al2_1d _ _ _ _ | exact al_0s _ _ _ _ | exact al2_0s _ _ _ _ _ | exact al2_1s _ _ _ _ _ | exact al_0sd _ _ _ _ | exact al2_0sd _ _ _ _ _ | exact al2_1sd _ _ _ _ _ | (rw [al_past _ _ _ _ (by simp)];first | exact al_0 _ _ _ | exact al2_0 _ _ _ _ | exact al2_1 _ _ _ _ | exact al_0d _ _ _ | exact al2_0d _ _ _ _ | exact al2_1d _ _ _ _ | exact al_0s _ _ _ _ | exact al2_0s _ _ _ _ _ | exact al2_1s _ _ _ _ _ | exact al_0sd _ _ _ _ | exact al2_0sd _ _ _ _ _ | exact al2_1sd _ _ _ _ _) | (rw [al_pastd _ _ _ _ (by simp)];first | exact al_0 _ _ _ | exact al2_0 _ _ _ _ | exact al2_1 _ _ _ _ | exact al_0d _ _ _ | exact al2_0d _ _ _ _ | exact al2_1d _ _ _ _ | exact al_0s _ _ _ _ | exact al2_0s _ _ _ _ _ | exact al2_1s _ _ _ _ _ | exact al_0sd _ _ _ _ | exact al2_0sd _ _ _ _ _ | exact al2_1sd _ _ _ _ _)) | (rw [hc8.out _ _ (by simp)];(first | exact al_0 _ _ _ | exact al2_0 _ _ _ _ | exact al2_1 _ _ _ _ | exact al_0d _ _ _ | exact al2_0d _ _ _ _ | exact al2_1d _ _ _ _ | exact al_0s _ _ _ _ | exact al2_0s _ _ _ _ _ | exact al2_1s _ _ _ _ _ | exact al_0sd _ _ _ _ | exact al2_0sd _ _ _ _ _ | exact al2_1sd _ _ _ _ _ | (rw [al_past _ _ _ _ (by simp)];first | exact al_0 _ _ _ | exact al2_0 _ _ _ _ | exact al2_1 _ _ _ _ | exact al_0d _ _ _ | exact al2_0d _ _ _ _ | exact al2_1d _ _ _ _ | exact al_0s _ _ _ _ | exact al2_0s _ _ _ _ _ | exact al2_1s _ _ _ _ _ | exact al_0sd _ _ _ _ | exact al2_0sd _ _ _ _ _ | exact al2_1sd _ _ _ _ _) | (rw [al_pastd _ _ _ _ (by simp)];first | exact al_0 _ _ _ | exact al2_0 _ _ _ _ | exact al2_1 _ _ _ _ | exact al_0d _ _ _ | exact al2_0d _ _ _ _ | exact al2_1d _ _ _ _ | exact al_0s _ _ _ _ | exact al2_0s _ _ _ _ _ | exact al2_1s _ _ _ _ _ | exact al_0sd _ _ _ _ | exact al2_0sd _ _ _ _ _ | exact al2_1sd _ _ _ _ _))));(first | (first | exact al_0 _ _ _ | exact al2_0 _ _ _ _ | exact al2_1 _ _ _ _ | exact al_0d _ _ _ | exact al2_0d _ _ _ _ | exact al2_1d _ _ _ _ | exact al_0s _ _ _ _ | exact al2_0s _ _ _ _ _ | exact al2_1s _ _ _ _ _ | exact al_0sd _ _ _ _ | exact al2_0sd _ _ _ _ _ | exact al2_1sd _ _ _ _ _ | (rw [al_past _ _ _ _ (by simp)];first | exact al_0 _ _ _ | exact al2_0 _ _ _ _ | exact al2_1 _ _ _ _ | exact al_0d _ _ _ | exact al2_0d _ _ _ _ | exact al2_1d _ _ _ _ | exact al_0s _ _ _ _ | exact al2_0s _ _ _ _ _ | exact al2_1s _ _ _ _ _ | exact al_0sd _ _ _ _ | exact al2_0sd _ _ _ _ _ | exact al2_1sd _ _ _ _ _) | (rw [al_pastd _ _ _ _ (by simp)];first | exact al_0 _ _ _ | exact al2_0 _ _ _ _ | exact al2_1 _ _ _ _ | exact al_0d _ _ _ | exact al2_0d _ _ _ _ | exact al2_1d _ _ _ _ | exact al_0s _ _ _ _ | exact al2_0s _ _ _ _ _ | exact al2_1s _ _ _ _ _ | exact al_0sd _ _ _ _ | exact al2_0sd _ _ _ _ _ | exact al2_1sd _ _ _ _ _)) | (rw [hc8.out _ _ (by simp)];(first | exact al_0 _ _ _ | exact al2_0 _ _ _ _ | exact al2_1 _ _ _ _ | exact al_0d _ _ _ | exact al2_0d _ _ _ _ | exact al2_1d _ _ _ _ | exact al_0s _ _ _ _ | exact al2_0s _ _ _ _ _ | exact al2_1s _ _ _ _ _ | exact al_0sd _ _ _ _ | exact al2_0sd _ _ _ _ _ | exact al2_1sd _ _ _ _ _ | (rw [al_past _ _ _ _ (by simp)];first | exact al_0 _ _ _ | exact al2_0 _ _ _ _ | exact al2_1 _ _ _ _ | exact al_0d _ _ _ | exact al2_0d _ _ _ _ | exact al2_1d _ _ _ _ | exact al_0s _ _ _ _ | exact al2_0s _ _ _ _ _ | exact al2_1s _ _ _ _ _ | exact al_0sd _ _ _ _ | exact al2_0sd _ _ _ _ _ | exact al2_1sd _ _ _ _ _) | (rw [al_pastd _ _ _ _ (by simp)];first | exact al_0 _ _ _ | exact al2_0 _ _ _ _ | exact al2_1 _ _ _ _ | exact al_0d _ _ _ | exact al2_0d _ _ _ _ | exact al2_1d _ _ _ _ | exact al_0s _ _ _ _ | exact al2_0s _ _ _ _ _ | exact al2_1s _ _ _ _ _ | exact al_0sd _ _ _ _ | exact al2_0sd _ _ _ _ _ | exact al2_1sd _ _ _ _ _))));rintro e wnn ⟨rfl,rfl⟩)))
 all_goals
  go_wp2
  go_ret
  exact ⟨rfl,by first | exact I0.out.bel | exact (shi_alloc I0 _).out.bel | exact (shi_alloc (shi_alloc I0 _) _).out.bel⟩
theorem sh_4 (NA:Option Addr) (n nc fb o m c k:Nat) (w:World) (v:Int) (a bb:Nat) (OA OB:Int) (X Z X2 Z2:ByteArray) (hk:k<m) (hm:m≤1000000) (hfb:fb<w.heap.size)
  (d0:w.cell? ⟨fb,o+k*4,none⟩=some (.int .i64 4)) (d1:w.cell? ⟨fb,o+k*4+1,none⟩=some (.int .i64 v)) (d2:w.cell? ⟨fb,o+k*4+2,none⟩=some (.int .i64 (a:Int))) (d3:w.cell? ⟨fb,o+k*4+3,none⟩=some (.int .i64 (bb:Int))) (da:w.cell? ⟨fb,o+a*4,none⟩=some (.int .i64 OA)) (ha:a<m) (HX:Hid (ShC NA (some ⟨fb,o,none⟩) n nc m c w a X)) (hXs:X.size≤1000000000000) (hZs:Z.size≤1000000000000) (db:w.cell? ⟨fb,o+bb*4,none⟩=some (.int .i64 OB)) (hb:bb<m) (HX2:Hid (ShC NA (some ⟨fb,o,none⟩) n nc m c w bb X2)) (hX2s:X2.size≤1000000000000) (hZ2s:Z2.size≤1000000000000) (hZ:Z=if (5:Int)=OA then par X else X) (hZ2:Z2=if (4:Int)=OB∨(5:Int)=OB then par X2 else X2) :
  Calls Tryz.prog 88 #[.slice NA n nc,.slice (some ⟨fb,o,none⟩) m c,.int .i64 (k:Int)] w fun e w'=>e=.returned (.string (Z++⟨#[32,38,38,32]⟩++Z2))∧Below w.heap.size w w':=by
 have I0:=shi_new w #[.int .i64 4,.int .i64 v,.int .i64 (a:Int),.int .i64 (bb:Int)]
 have i1:(0:Int)≤(k:Int):=by omega
 have i2:(k:Int)<(m:Int):=by omega
 have HF:Hid (fb<w.heap.size∧w.cell? ⟨fb,o+a*4,none⟩=some (.int .i64 OA)∧w.cell? ⟨fb,o+bb*4,none⟩=some (.int .i64 OB)):=hid ⟨hfb,da,db⟩
 have k1:(0:Int)≤(a:Int):=by omega
 have k2:(a:Int)<(m:Int):=by omega
 have k3:(0:Int)≤(bb:Int):=by omega
 have k4:(bb:Int)<(m:Int):=by omega
 have HA:Hid (∀ (q c:Nat) (W:World),W.cell? ⟨q,0,none⟩=some (.int .i64 5)→Calls Tryz.prog 110 #[.string X,.int .i64 OA,.slice (some ⟨q,0,none⟩) 1 c] W fun e w'=>e=.returned (.string Z)∧W=w'):=hid (fun q c W h1=>by rw [hZ];exact around_1 q c X OA 5 W (by omega) h1)
 have HA2:Hid (∀ (q c:Nat) (W:World),W.cell? ⟨q,0,none⟩=some (.int .i64 4)→W.cell? ⟨q,1,none⟩=some (.int .i64 5)→Calls Tryz.prog 110 #[.string X2,.int .i64 OB,.slice (some ⟨q,0,none⟩) 2 c] W fun e w'=>e=.returned (.string Z2)∧W=w'):=hid (fun q c W h1 h2=>by rw [hZ2];exact around_2 q c X2 OB 4 5 W (by omega) h1 h2)
 have hcat:¬ 9223372036854775807<Z.size+4:=by omega
 have hcat2:¬ 9223372036854775807<Z.size+4+Z2.size:=by omega
 clear hZ hZ2 da db
 go_enter Tryz.func88,Tryz.ntmps88
 go_upto_region 12 with fail
 clear d0 d1 d2 d3
 have hgw:=hid (rfl:w.heap.size=w.heap.size)
 generalize w.alloc (.cells #[.int .i64 4,.int .i64 v,.int .i64 (a:Int),.int .i64 (bb:Int)] 58)=w1 at *
 have I1:=I0
 obtain ⟨n1,n2⟩:=shi_ne I0 HF
 obtain ⟨z2,z3,z4,z5⟩:=shi_out I1 HF
 replace I0:=shi_drew I0
 obtain ⟨x2,x3,y1,y2⟩:=shi_out I0 HF
 go_region_held3 (fun w'=>w'.cell? ⟨w.heap.size,2,none⟩=some (.int .i64 (a:Int))∧w'.cell? ⟨w.heap.size,3,none⟩=some (.int .i64 (bb:Int))∧w'.cell? ⟨fb,o+a*4,none⟩=some (.int .i64 OA)∧w'.cell? ⟨fb,o+bb*4,none⟩=some (.int .i64 OB)) (first | (refine ⟨?_,?_,?_,?_⟩ <;> (with_reducible assumption)) | go_keep) ((first
  | (go_at_call 88;with_reducible refine (HX.out _ I0.out.bel).mono ?_;rintro e wn1 ⟨rfl,b9⟩;clear x2 x3 y1 y2 n1 n2;replace I0:=shi_step I0 b9;obtain ⟨x2,x3,y1,y2⟩:=shi_out I0 HF;obtain ⟨n1,n2⟩:=shi_ne I0 HF;have hc8:=hid (bcell b9).1;have hc8z:=hid b9.size;clear b9)
  | (go_at_call 88;with_reducible refine (HX.out _ (shi_alloc I0 _).out.bel).mono ?_;rintro e wn1 ⟨rfl,b9⟩;clear x2 x3 y1 y2 n1 n2;replace I0:=shi_step (shi_alloc I0 _) b9;obtain ⟨x2,x3,y1,y2⟩:=shi_out I0 HF;obtain ⟨n1,n2⟩:=shi_ne I0 HF;have hc8:=hid (bcell b9).1;have hc8z:=hid b9.size;clear b9)
  | (go_at_call 88;with_reducible refine (HX.out _ (shi_drew (shi_alloc I1 _)).out.bel).mono ?_;rintro e wn1 ⟨rfl,b9⟩;clear x2 x3 y1 y2 n1 n2;replace I0:=shi_step (shi_drew (shi_alloc I1 _)) b9;obtain ⟨x2,x3,y1,y2⟩:=shi_out I0 HF;obtain ⟨n1,n2⟩:=shi_ne I0 HF;have hc8:=hid (bcell b9).1;have hc8z:=hid b9.size;clear b9)
  | (go_at_call 88;with_reducible refine (HX.out _ (shi_alloc (shi_alloc I0 _) _).out.bel).mono ?_;rintro e wn1 ⟨rfl,b9⟩;clear x2 x3 y1 y2 n1 n2;replace I0:=shi_step (shi_alloc (shi_alloc I0 _) _) b9;obtain ⟨x2,x3,y1,y2⟩:=shi_out I0 HF;obtain ⟨n1,n2⟩:=shi_ne I0 HF;have hc8:=hid (bcell b9).1;have hc8z:=hid b9.size;clear b9)
  | (go_at_call 88;with_reducible refine (HX.out _ (shi_drew (shi_alloc (shi_alloc I1 _) _)).out.bel).mono ?_;rintro e wn1 ⟨rfl,b9⟩;clear x2 x3 y1 y2 n1 n2;replace I0:=shi_step (shi_drew (shi_alloc (shi_alloc I1 _) _)) b9;obtain ⟨x2,x3,y1,y2⟩:=shi_out I0 HF;obtain ⟨n1,n2⟩:=shi_ne I0 HF;have hc8:=hid (bcell b9).1;have hc8z:=hid b9.size;clear b9)
  | (go_at_call 110;with_reducible refine (HA.out _ _ _ ?_).mono ?_;((repeat (first | (rw [hc9.out _ _ (by first | (simp;done) | (simp <;> omega) | (have q:=hc8z.out;(try simp at q);(try simp);omega) | (have q:=hc8z.out;have q':=hc9z.out;(try simp at q);(try simp at q');(try simp);omega))]) | (rw [al_past _ _ _ _ (by first | (simp;done) | (simp <;> omega) | (have q:=hc8z.out;(try simp at q);(try simp);omega) | (have q:=hc8z.out;have q':=hc9z.out;(try simp at q);(try simp at q');(try simp);omega))]) | (rw [al_pastd _ _ _ _ (by first | (simp;done) | (simp <;> omega) | (have q:=hc8z.out;(try simp at q);(try simp);omega) | (have q:=hc8z.out;have q':=hc9z.out;(try simp at q);(try simp at q');(try simp);omega))]) | (rw [hc8.out _ _ (by first | (simp;done) | (simp <;> omega) | (have q:=hc8z.out;(try simp at q);(try simp);omega) | (have q:=hc8z.out;have q':=hc9z.out;(try simp at q);(try simp at q');(try simp);omega))])));(first | exact al_0 _ _ _ | exact al2_0 _ _ _ _ | exact al2_1 _ _ _ _ | exact al_0d _ _ _ | exact al2_0d _ _ _ _ | exact al2_1d _ _ _ _ | exact al_0s _ _ _ _ | exact al2_0s _ _ _ _ _ | exact al2_1s _ _ _ _ _ | exact al_0sd _ _ _ _ | exact al2_0sd _ _ _ _ _ | exact al2_1sd _ _ _ _ _));rintro e wnn ⟨rfl,rfl⟩)
  | (go_at_call 88;with_reducible refine (HX2.out _ I0.out.bel).mono ?_;rintro e wn2 ⟨rfl,b9⟩;clear x2 x3 y1 y2 n1 n2;replace I0:=shi_step I0 b9;obtain ⟨x2,x3,y1,y2⟩:=shi_out I0 HF;obtain ⟨n1,n2⟩:=shi_ne I0 HF;have hc9:=hid (bcell b9).1;have hc9z:=hid b9.size;clear b9)
  | (go_at_call 88;with_reducible refine (HX2.out _ (shi_alloc I0 _).out.bel).mono ?_;rintro e wn2 ⟨rfl,b9⟩;clear x2 x3 y1 y2 n1 n2;replace I0:=shi_step (shi_alloc I0 _) b9;obtain ⟨x2,x3,y1,y2⟩:=shi_out I0 HF;obtain ⟨n1,n2⟩:=shi_ne I0 HF;have hc9:=hid (bcell b9).1;have hc9z:=hid b9.size;clear b9)
  | (go_at_call 88;with_reducible refine (HX2.out _ (shi_drew (shi_alloc I1 _)).out.bel).mono ?_;rintro e wn2 ⟨rfl,b9⟩;clear x2 x3 y1 y2 n1 n2;replace I0:=shi_step (shi_drew (shi_alloc I1 _)) b9;obtain ⟨x2,x3,y1,y2⟩:=shi_out I0 HF;obtain ⟨n1,n2⟩:=shi_ne I0 HF;have hc9:=hid (bcell b9).1;have hc9z:=hid b9.size;clear b9)
  | (go_at_call 88;with_reducible refine (HX2.out _ (shi_alloc (shi_alloc I0 _) _).out.bel).mono ?_;rintro e wn2 ⟨rfl,b9⟩;clear x2 x3 y1 y2 n1 n2;replace I0:=shi_step (shi_alloc (shi_alloc I0 _) _) b9;obtain ⟨x2,x3,y1,y2⟩:=shi_out I0 HF;obtain ⟨n1,n2⟩:=shi_ne I0 HF;have hc9:=hid (bcell b9).1;have hc9z:=hid b9.size;clear b9)
  | (go_at_call 88;with_reducible refine (HX2.out _ (shi_drew (shi_alloc (shi_alloc I1 _) _)).out.bel).mono ?_;rintro e wn2 ⟨rfl,b9⟩;clear x2 x3 y1 y2 n1 n2;replace I0:=shi_step (shi_drew (shi_alloc (shi_alloc I1 _) _)) b9;obtain ⟨x2,x3,y1,y2⟩:=shi_out I0 HF;obtain ⟨n1,n2⟩:=shi_ne I0 HF;have hc9:=hid (bcell b9).1;have hc9z:=hid b9.size;clear b9)
  | (go_at_call 110;with_reducible refine (HA2.out _ _ _ ?_ ?_).mono ?_;((repeat (first | (rw [hc9.out _ _ (by first | (simp;done) | (simp <;> omega) | (have q:=hc8z.out;(try simp at q);(try simp);omega) | (have q:=hc8z.out;have q':=hc9z.out;(try simp at q);(try simp at q');(try simp);omega))]) | (rw [al_past _ _ _ _ (by first | (simp;done) | (simp <;> omega) | (have q:=hc8z.out;(try simp at q);(try simp);omega) | (have q:=hc8z.out;have q':=hc9z.out;(try simp at q);(try simp at q');(try simp);omega))]) | (rw [al_pastd _ _ _ _ (by first | (simp;done) | (simp <;> omega) | (have q:=hc8z.out;(try simp at q);(try simp);omega) | (have q:=hc8z.out;have q':=hc9z.out;(try simp at q);(try simp at q');(try simp);omega))]) | (rw [hc8.out _ _ (by first | (simp;done) | (simp <;> omega) | (have q:=hc8z.out;(try simp at q);(try simp);omega) | (have q:=hc8z.out;have q':=hc9z.out;(try simp at q);(try simp at q');(try simp);omega))])));(first | exact al_0 _ _ _ | exact al2_0 _ _ _ _ | exact al2_1 _ _ _ _ | exact al_0d _ _ _ | exact al2_0d _ _ _ _ | exact al2_1d _ _ _ _ | exact al_0s _ _ _ _ | exact al2_0s _ _ _ _ _ | exact al2_1s _ _ _ _ _ | exact al_0sd _ _ _ _ | exact al2_0sd _ _ _ _ _ | exact al2_1sd _ _ _ _ _));((repeat (first | (rw [hc9.out _ _ (by first | (simp;done) | (simp <;> omega) | (have q:=hc8z.out;(try simp at q);(try simp);omega) | (have q:=hc8z.out;have q':=hc9z.out;(try simp at q);(try simp at q');(try simp);omega))]) | (rw [al_past _ _ _ _ (by first | (simp;done) | (simp <;> omega) | (have q:=hc8z.out;(try simp at q);(try simp);omega) | (have q:=hc8z.out;have q':=hc9z.out;(try simp at q);(try simp at q');(try simp);omega))]) | (rw [al_pastd _ _ _ _ (by first | (simp;done) | (simp <;> omega) | (have q:=hc8z.out;(try simp at q);(try simp);omega) | (have q:=hc8z.out;have q':=hc9z.out;(try simp at q);(try simp at q');(try simp);omega))]) | (rw [hc8.out _ _ (by first | (simp;done) | (simp <;> omega) | (have q:=hc8z.out;(try simp at q);(try simp);omega) | (have q:=hc8z.out;have q':=hc9z.out;(try simp at q);(try simp at q');(try simp);omega))])));(first | exact al_0 _ _ _ | exact al2_0 _ _ _ _ | exact al2_1 _ _ _ _ | exact al_0d _ _ _ | exact al2_0d _ _ _ _ | exact al2_1d _ _ _ _ | exact al_0s _ _ _ _ | exact al2_0s _ _ _ _ _ | exact al2_1s _ _ _ _ _ | exact al_0sd _ _ _ _ | exact al2_0sd _ _ _ _ _ | exact al2_1sd _ _ _ _ _));rintro e wnn ⟨rfl,rfl⟩)))
 all_goals
  go_wp2
  go_ret
  exact ⟨rfl,by first | exact I0.out.bel | exact (shi_alloc I0 _).out.bel | exact (shi_alloc (shi_alloc I0 _) _).out.bel⟩
theorem sh_5 (NA:Option Addr) (n nc fb o m c k:Nat) (w:World) (v:Int) (a bb:Nat) (OA OB:Int) (X Z X2 Z2:ByteArray) (hk:k<m) (hm:m≤1000000) (hfb:fb<w.heap.size)
  (d0:w.cell? ⟨fb,o+k*4,none⟩=some (.int .i64 5)) (d1:w.cell? ⟨fb,o+k*4+1,none⟩=some (.int .i64 v)) (d2:w.cell? ⟨fb,o+k*4+2,none⟩=some (.int .i64 (a:Int))) (d3:w.cell? ⟨fb,o+k*4+3,none⟩=some (.int .i64 (bb:Int))) (da:w.cell? ⟨fb,o+a*4,none⟩=some (.int .i64 OA)) (ha:a<m) (HX:Hid (ShC NA (some ⟨fb,o,none⟩) n nc m c w a X)) (hXs:X.size≤1000000000000) (hZs:Z.size≤1000000000000) (db:w.cell? ⟨fb,o+bb*4,none⟩=some (.int .i64 OB)) (hb:bb<m) (HX2:Hid (ShC NA (some ⟨fb,o,none⟩) n nc m c w bb X2)) (hX2s:X2.size≤1000000000000) (hZ2s:Z2.size≤1000000000000) (hZ:Z=X) (hZ2:Z2=if (5:Int)=OB then par X2 else X2) :
  Calls Tryz.prog 88 #[.slice NA n nc,.slice (some ⟨fb,o,none⟩) m c,.int .i64 (k:Int)] w fun e w'=>e=.returned (.string (X++⟨#[32,124,124,32]⟩++Z2))∧Below w.heap.size w w':=by
 have I0:=shi_new w #[.int .i64 5,.int .i64 v,.int .i64 (a:Int),.int .i64 (bb:Int)]
 have i1:(0:Int)≤(k:Int):=by omega
 have i2:(k:Int)<(m:Int):=by omega
 have HF:Hid (fb<w.heap.size∧w.cell? ⟨fb,o+a*4,none⟩=some (.int .i64 OA)∧w.cell? ⟨fb,o+bb*4,none⟩=some (.int .i64 OB)):=hid ⟨hfb,da,db⟩
 have k1:(0:Int)≤(a:Int):=by omega
 have k2:(a:Int)<(m:Int):=by omega
 have k3:(0:Int)≤(bb:Int):=by omega
 have k4:(bb:Int)<(m:Int):=by omega
 have HA2:Hid (∀ (q c:Nat) (W:World),W.cell? ⟨q,0,none⟩=some (.int .i64 5)→Calls Tryz.prog 110 #[.string X2,.int .i64 OB,.slice (some ⟨q,0,none⟩) 1 c] W fun e w'=>e=.returned (.string Z2)∧W=w'):=hid (fun q c W h1=>by rw [hZ2];exact around_1 q c X2 OB 5 W (by omega) h1)
 have hcat:¬ 9223372036854775807<X.size+4:=by omega
 have hcat2:¬ 9223372036854775807<X.size+4+X2.size:=by omega
 have hcat3:¬ 9223372036854775807<X.size+4+Z2.size:=by omega
 clear hZ hZ2 da db
 go_enter Tryz.func88,Tryz.ntmps88
 go_upto_region 13 with fail
 clear d0 d1 d2 d3
 have hgw:=hid (rfl:w.heap.size=w.heap.size)
 generalize w.alloc (.cells #[.int .i64 5,.int .i64 v,.int .i64 (a:Int),.int .i64 (bb:Int)] 58)=w1 at *
 have I1:=I0
 obtain ⟨n1,n2⟩:=shi_ne I0 HF
 obtain ⟨z2,z3,z4,z5⟩:=shi_out I1 HF
 replace I0:=shi_drew I0
 obtain ⟨x2,x3,y1,y2⟩:=shi_out I0 HF
 go_region_held3 (fun w'=>w'.cell? ⟨w.heap.size,2,none⟩=some (.int .i64 (a:Int))∧w'.cell? ⟨w.heap.size,3,none⟩=some (.int .i64 (bb:Int))∧w'.cell? ⟨fb,o+a*4,none⟩=some (.int .i64 OA)∧w'.cell? ⟨fb,o+bb*4,none⟩=some (.int .i64 OB)) (first | (refine ⟨?_,?_,?_,?_⟩ <;> (with_reducible assumption)) | go_keep) ((first
  | (go_at_call 88;with_reducible refine (HX.out _ I0.out.bel).mono ?_;rintro e wn1 ⟨rfl,b9⟩;clear x2 x3 y1 y2 n1 n2;replace I0:=shi_step I0 b9;obtain ⟨x2,x3,y1,y2⟩:=shi_out I0 HF;obtain ⟨n1,n2⟩:=shi_ne I0 HF;have hc8:=hid (bcell b9).1;have hc8z:=hid b9.size;clear b9)
  | (go_at_call 88;with_reducible refine (HX.out _ (shi_alloc I0 _).out.bel).mono ?_;rintro e wn1 ⟨rfl,b9⟩;clear x2 x3 y1 y2 n1 n2;replace I0:=shi_step (shi_alloc I0 _) b9;obtain ⟨x2,x3,y1,y2⟩:=shi_out I0 HF;obtain ⟨n1,n2⟩:=shi_ne I0 HF;have hc8:=hid (bcell b9).1;have hc8z:=hid b9.size;clear b9)
  | (go_at_call 88;with_reducible refine (HX.out _ (shi_drew (shi_alloc I1 _)).out.bel).mono ?_;rintro e wn1 ⟨rfl,b9⟩;clear x2 x3 y1 y2 n1 n2;replace I0:=shi_step (shi_drew (shi_alloc I1 _)) b9;obtain ⟨x2,x3,y1,y2⟩:=shi_out I0 HF;obtain ⟨n1,n2⟩:=shi_ne I0 HF;have hc8:=hid (bcell b9).1;have hc8z:=hid b9.size;clear b9)
  | (go_at_call 88;with_reducible refine (HX2.out _ I0.out.bel).mono ?_;rintro e wn2 ⟨rfl,b9⟩;clear x2 x3 y1 y2 n1 n2;replace I0:=shi_step I0 b9;obtain ⟨x2,x3,y1,y2⟩:=shi_out I0 HF;obtain ⟨n1,n2⟩:=shi_ne I0 HF;have hc9:=hid (bcell b9).1;have hc9z:=hid b9.size;clear b9)
  | (go_at_call 88;with_reducible refine (HX2.out _ (shi_alloc I0 _).out.bel).mono ?_;rintro e wn2 ⟨rfl,b9⟩;clear x2 x3 y1 y2 n1 n2;replace I0:=shi_step (shi_alloc I0 _) b9;obtain ⟨x2,x3,y1,y2⟩:=shi_out I0 HF;obtain ⟨n1,n2⟩:=shi_ne I0 HF;have hc9:=hid (bcell b9).1;have hc9z:=hid b9.size;clear b9)
  | (go_at_call 88;with_reducible refine (HX2.out _ (shi_drew (shi_alloc I1 _)).out.bel).mono ?_;rintro e wn2 ⟨rfl,b9⟩;clear x2 x3 y1 y2 n1 n2;replace I0:=shi_step (shi_drew (shi_alloc I1 _)) b9;obtain ⟨x2,x3,y1,y2⟩:=shi_out I0 HF;obtain ⟨n1,n2⟩:=shi_ne I0 HF;have hc9:=hid (bcell b9).1;have hc9z:=hid b9.size;clear b9)
  | (go_at_call 110;with_reducible refine (HA2.out _ _ _ ?_).mono ?_;((repeat (first | (rw [hc9.out _ _ (by first | (simp;done) | (simp <;> omega) | (have q:=hc8z.out;(try simp at q);(try simp);omega) | (have q:=hc8z.out;have q':=hc9z.out;(try simp at q);(try simp at q');(try simp);omega))]) | (rw [al_past _ _ _ _ (by first | (simp;done) | (simp <;> omega) | (have q:=hc8z.out;(try simp at q);(try simp);omega) | (have q:=hc8z.out;have q':=hc9z.out;(try simp at q);(try simp at q');(try simp);omega))]) | (rw [al_pastd _ _ _ _ (by first | (simp;done) | (simp <;> omega) | (have q:=hc8z.out;(try simp at q);(try simp);omega) | (have q:=hc8z.out;have q':=hc9z.out;(try simp at q);(try simp at q');(try simp);omega))]) | (rw [hc8.out _ _ (by first | (simp;done) | (simp <;> omega) | (have q:=hc8z.out;(try simp at q);(try simp);omega) | (have q:=hc8z.out;have q':=hc9z.out;(try simp at q);(try simp at q');(try simp);omega))])));(first | exact al_0 _ _ _ | exact al2_0 _ _ _ _ | exact al2_1 _ _ _ _ | exact al_0d _ _ _ | exact al2_0d _ _ _ _ | exact al2_1d _ _ _ _ | exact al_0s _ _ _ _ | exact al2_0s _ _ _ _ _ | exact al2_1s _ _ _ _ _ | exact al_0sd _ _ _ _ | exact al2_0sd _ _ _ _ _ | exact al2_1sd _ _ _ _ _));rintro e wnn ⟨rfl,rfl⟩)))
 all_goals
  go_wp2
  go_ret
  exact ⟨rfl,by first | exact I0.out.bel | exact (shi_alloc I0 _).out.bel | exact (shi_alloc (shi_alloc I0 _) _).out.bel⟩
set_option linter.unusedVariables false
set_option linter.unusedSimpArgs false
attribute [local go_sem ↓] Go.wp_at_zero Go.wp_at_succ
theorem show_any (NA:Option Addr) (n nc fb o m c:Nat) (l:List Fi) (L:List ByteArray) (w:World) (hl:l.length=m) (hL:L.length=n) (hm:m≤1000000) (hn:n≤1000000) (hr:Rf w w.heap.size (some ⟨fb,o,none⟩) l) (hs:Rstr w w.heap.size NA L) (HN:∀ i,i<m→okN l i) (HM:nmdOK l n) (hC:∀ j,(sg L j).size≤1048576) :
  ∀ k,k<m→ty l k≤1000→ShC NA (some ⟨fb,o,none⟩) n nc m c w k (txS l L k 0):=by
 intro k
 induction k using Nat.strongRecOn with
 | _ k ih =>
   intro hk ht W hW
   obtain ⟨b',o',e,hbB,hc⟩:=((hr.below hW).mono hW.size) (by omega)
   injection e with e
   injection e with e1 e2
   subst e1
   subst e2
   obtain ⟨d0,d1,d2,d3⟩:=hc k (by omega)
   obtain ⟨⟨o0,o5⟩,hv,oa,ob⟩:=ok_node (HN k hk)
   have hte:=ty_eq l m HN hk
   have hsz:∀ a,a<m→ty l a≤1000→∀ x,(txS l L a x).size≤1000000000000:=fun a ha h x=>by
    rw [txS_size]
    have q:=shT_len (L:=L) HN (C:=1048576) (by omega) hC a ha x
    have q2:(1048576+6)*ty l a≤(1048576+6)*1000:=Nat.mul_le_mul_left _ h
    omega
   rcases (show fo l k=0∨fo l k=1∨fo l k=2∨fo l k=3∨fo l k=4∨fo l k=5 by omega) with h | h | h | h | h | h
   ·have e:txS l L k 0=⟨#[102,97,108,115,101]⟩:=by unfold txS;rw [shT_0 0 h,if_neg (by omega)]
    rw [h] at d0
    rw [e]
    exact sh_0 NA n nc fb o m c k W _ _ _ hk hm hbB d0 d1 d2 d3
   ·have e:txS l L k 0=⟨#[116,114,117,101]⟩:=by unfold txS;rw [shT_1 0 h,if_neg (by omega)]
    rw [h] at d0
    rw [e]
    exact sh_1 NA n nc fb o m c k W _ _ _ hk hm hbB d0 d1 d2 d3
   ·obtain ⟨V,hV,_⟩:=nat_of (k:=64) hv
    have hVn:=HM k (by omega) h
    rw [hV] at d1 hVn
    have e:txS l L k 0=sg L V:=by unfold txS;rw [shT_2 0 h,if_neg (by omega),hV,Int.toNat_natCast]
    rw [h] at d0
    rw [e]
    obtain ⟨nb,no,en,hnb,hnc⟩:=((hs.below hW).mono hW.size) (by omega)
    exact sh_2 NA n nc fb o m c k W V _ _ nb no (sg L V) en hk hm hbB d0 d1 d2 d3 (by omega) hn (hnc V (by omega)) hnb
   ·obtain ⟨a,ha,hak⟩:=nat_of (oa (by omega))
    have ht2:ty l a≤1000:=by
     rw [if_pos (ar_ge3 (by omega)),ha,Int.toNat_natCast] at hte;omega
    rw [ha] at d2
    rw [h] at d0
    have e:txS l L k 0=⟨#[33]⟩++txS l L a 3:=by unfold txS;rw [shT_3 0 HN hk h,if_neg (by omega),ba_app,ha,Int.toNat_natCast]
    rw [e]
    obtain ⟨da,_⟩:=hc a (by omega)
    refine sh_3 NA n nc fb o m c k W _ a _ (fo l a) (txS l L a 0) (txS l L a 3) hk hm hbB d0 d1 d2 d3 da (by omega) (hid (fun W' hW'=>ih a hak (by omega) ht2 W' (hW.trans (hW'.mono hW.size)))) (hsz a (by omega) ht2 0) (hsz a (by omega) ht2 3) ?_
    rw [txS_par l L a 3]
    simp only [stg_3]
   ·obtain ⟨a,ha,hak⟩:=nat_of (oa (by omega))
    obtain ⟨bb,hbb,hbk⟩:=nat_of (ob (by omega))
    rw [if_pos (ar_ge3 (by omega)),if_pos (by rw [h];rfl),ha,hbb,Int.toNat_natCast,Int.toNat_natCast] at hte
    have ht2:ty l a≤1000:=by omega
    have ht3:ty l bb≤1000:=by omega
    rw [ha] at d2
    rw [hbb] at d3
    rw [h] at d0
    have e:txS l L k 0=txS l L a 2++⟨#[32,38,38,32]⟩++txS l L bb 3:=by unfold txS;rw [shT_4 0 HN hk h,if_neg (by omega),ba_app,ba_app,ha,hbb,Int.toNat_natCast,Int.toNat_natCast]
    rw [e]
    obtain ⟨da,_⟩:=hc a (by omega)
    obtain ⟨db,_⟩:=hc bb (by omega)
    refine sh_4 NA n nc fb o m c k W _ a bb (fo l a) (fo l bb) (txS l L a 0) (txS l L a 2) (txS l L bb 0) (txS l L bb 3) hk hm hbB d0 d1 d2 d3 da (by omega) (hid (fun W' hW'=>ih a hak (by omega) ht2 W' (hW.trans (hW'.mono hW.size)))) (hsz a (by omega) ht2 0) (hsz a (by omega) ht2 2) db (by omega) (hid (fun W' hW'=>ih bb hbk (by omega) ht3 W' (hW.trans (hW'.mono hW.size)))) (hsz bb (by omega) ht3 0) (hsz bb (by omega) ht3 3) ?_ ?_
    ·rw [txS_par l L a 2]
     simp only [stg_2]
    ·rw [txS_par l L bb 3]
     simp only [stg_3]
   ·obtain ⟨a,ha,hak⟩:=nat_of (oa (by omega))
    obtain ⟨bb,hbb,hbk⟩:=nat_of (ob (by omega))
    rw [if_pos (ar_ge3 (by omega)),if_pos (by rw [h];rfl),ha,hbb,Int.toNat_natCast,Int.toNat_natCast] at hte
    have ht2:ty l a≤1000:=by omega
    have ht3:ty l bb≤1000:=by omega
    rw [ha] at d2
    rw [hbb] at d3
    rw [h] at d0
    have e1:txS l L a 1=txS l L a 0:=by rw [txS_par l L a 1,if_neg (by have:=stg_le (fo l a);omega)]
    have e:txS l L k 0=txS l L a 0++⟨#[32,124,124,32]⟩++txS l L bb 2:=by rw [← e1];unfold txS;rw [shT_5 0 HN hk h,if_neg (by omega),ba_app,ba_app,ha,hbb,Int.toNat_natCast,Int.toNat_natCast]
    rw [e]
    obtain ⟨da,_⟩:=hc a (by omega)
    obtain ⟨db,_⟩:=hc bb (by omega)
    refine sh_5 NA n nc fb o m c k W _ a bb (fo l a) (fo l bb) (txS l L a 0) (txS l L a 0) (txS l L bb 0) (txS l L bb 2) hk hm hbB d0 d1 d2 d3 da (by omega) (hid (fun W' hW'=>ih a hak (by omega) ht2 W' (hW.trans (hW'.mono hW.size)))) (hsz a (by omega) ht2 0) (hsz a (by omega) ht2 0) db (by omega) (hid (fun W' hW'=>ih bb hbk (by omega) ht3 W' (hW.trans (hW'.mono hW.size)))) (hsz bb (by omega) ht3 0) (hsz bb (by omega) ht3 2) rfl ?_
    rw [txS_par l L bb 2]
    simp only [stg_2]
theorem qprint_any (NA:Option Addr) (n nc:Nat) (A:Option Addr) (m c:Nat) (l:List Fi) (L:List ByteArray) (w:World) (hl:Hid (l.length=m)) (hL:Hid (L.length=n)) (hm:m≤1000000) (hn:n≤1000000) (hnc:n≤nc) (hs:Hid (∀ j,(sg L j).size≤1048576)) (hr:Hid (Rf w w.heap.size A l)) (hrs:Hid (Rstr w w.heap.size NA L)) :
  Calls Tryz.prog 47 #[.slice NA n nc,.slice A m c] w fun e w'=>e=.returned (.tuple #[.string (prtS L l),.int .i64 (prtE L l)])∧Below w.heap.size w w':=by
 have HV:=hid (qnames_any NA n nc L w hL hn hnc (hid (fun j=>by have:=hs.out j;omega)) hrs)
 by_cases h1:nmsOK L
 rotate_left
 ·have e1:prtS L l=ByteArray.empty:=if_neg (fun q=>h1 q.1)
  have e2:prtE L l=1:=if_pos h1
  rw [e1,e2]
  rw [decide_eq_false h1] at HV
  clear h1 e1 e2 hr hrs hs
  go_enter Tryz.func47,Tryz.ntmps47
  go_wp2_with fail
  with_reducible refine HV.out.mono ?_
  rintro e w0 ⟨rfl,hb0⟩
  go_wp2
  go_ret2
  exact ⟨rfl,hb0⟩
 rw [decide_eq_true h1] at HV
 have HC:Hid (∀ W,Below w.heap.size w W→Calls Tryz.prog 33 #[.slice A m c] W fun e w'=>e=.returned (.int .i64 (chF l))∧Below W.heap.size W w'):=hid (fun W hW=>qcheck_any A m c l W hl (hid ((hr.out.below hW).mono hW.size)))
 by_cases h2:okF l
 rotate_left
 ·have e1:prtS L l=ByteArray.empty:=if_neg (fun q=>h2 q.2.1)
  have e2:prtE L l=30:=by unfold prtE;rw [if_neg (fun q=>q h1),if_pos (fun q=>h2 q.1)]
  rw [e1,e2]
  have e3:chF l=30:=if_neg h2
  rw [e3] at HC
  clear h1 h2 e1 e2 hr hrs hs e3
  go_enter Tryz.func47,Tryz.ntmps47
  go_wp2_with fail
  with_reducible refine HV.out.mono ?_
  rintro e w0 ⟨rfl,hb0⟩
  have HB0:=hid hb0
  clear hb0
  go_wp2_with fail
  with_reducible refine (HC.out _ HB0.out).mono ?_
  rintro e w1 ⟨rfl,hb1⟩
  have HB1:=hid (HB0.out.trans (hb1.mono HB0.out.size))
  clear hb1
  go_wp2
  go_ret2
  exact ⟨rfl,HB1.out⟩
 have e3:chF l=0:=if_pos h2
 rw [e3] at HC
 have h4:1≤m:=by have:=h2.1;rw [hl.out] at this;exact this
 have hN:∀ i,i<m→okN l i:=fun i hi=>h2.2.2.1 i (by rw [hl.out];exact hi)
 obtain ⟨b,o,eA,hb,hcl⟩:=hr.out (by rw [hl.out];omega)
 subst eA
 have HW:Hid (nmdOK l n→∀ W,Below w.heap.size w W→Calls Tryz.prog 88 #[.slice NA n nc,.slice (some ⟨b,o,none⟩) m c,.int .i64 ((m - 1:Nat):Int)] W fun e w'=>e=.returned (.string (txS l L (m - 1) 0))∧Below W.heap.size W w'):=hid (fun h3=>by
  have q2:=ty_le l h2
  have q3:=h2.2.1
  rw [hl.out] at q2 q3
  exact show_any NA n nc b o m c l L w hl.out hL.out hm hn hr.out hrs.out hN h3 hs.out (m - 1) (by omega) (by omega))
 have HE1:Hid (nmdOK l n→prtS L l=txS l L (m - 1) 0∧prtE L l=0):=hid (fun h3=>⟨by unfold prtS;rw [if_pos ⟨h1,h2,by rw [hL.out];exact h3⟩,hl.out];rfl,by unfold prtE;rw [if_neg (fun q=>q h1),if_neg (fun q=>q ⟨h2,by rw [hL.out];exact h3⟩)]⟩)
 have HE2:Hid (¬ nmdOK l n→prtS L l=ByteArray.empty∧prtE L l=30):=hid (fun h3=>⟨if_neg (fun q=>h3 (by have:=q.2.2;rw [hL.out] at this;exact this)),by unfold prtE;rw [if_neg (fun q=>q h1),if_pos (fun q=>h3 (by have:=q.2;rw [hL.out] at this;exact this))]⟩)
 generalize prtS L l=PS at *
 generalize prtE L l=PE at *
 obtain ⟨k0,rfl⟩:∃ k,m=k+1:=⟨m - 1,by omega⟩
 rw [Nat.add_sub_cancel] at HW HE1
 generalize txS l L k0 0=TX at *
 clear h1 h2 e3 hN h4 hcl
 go_enter Tryz.func47,Tryz.ntmps47
 go_wp2_with fail
 with_reducible refine HV.out.mono ?_
 rintro e w0 ⟨rfl,hb0⟩
 have HB0:=hid hb0
 clear hb0
 go_wp2_with fail
 with_reducible refine (HC.out _ HB0.out).mono ?_
 rintro e w1 ⟨rfl,hb1⟩
 have HB1:=hid (HB0.out.trans (hb1.mono HB0.out.size))
 clear hb1 HV HC
 have HR1:=hid ((hr.out.below HB1.out).mono HB1.out.size)
 go_wp2
 go_loopw [6] (fun i wr=>∃ k:Nat,k≤k0+1∧i=.int .i64 (k:Int)∧wr=w1∧Hid (∀ i,i<k→fo l i=2→fv l i<(n:Int))) (fun i _=>k0+1 - (intOf i).toNat)
 case atStart=>exact ⟨0,Nat.zero_le _,rfl,rfl,hid (fun i hi=>by omega)⟩
 case round =>
  obtain ⟨k,hk,rfl,rfl,hok⟩:=hrel
  by_cases hlt:k<k0+1
  ·have hkl:k<l.length:=by rw [hl.out];exact hlt
   obtain ⟨b',o',e,hb',hc⟩:=HR1.out (by omega)
   injection e with e
   injection e with e1 e2
   subst e1
   subst e2
   obtain ⟨d0,d1,d2,d3⟩:=hc k hkl
   clear hc
   have i1:(0:Int)≤(k:Int):=by omega
   have i2:(k:Int)<(k0:Int)+1:=by omega
   have HK:Hid ((fo l k=2→fv l k<(n:Int))→∀ i,i<k+1→fo l i=2→fv l i<(n:Int)):=hid (fun h i hi=>by
    by_cases e:i=k
    ·subst e;exact h
    ·exact hok.out i (by omega))
   have HNO:Hid (fo l k=2→¬ fv l k<(n:Int)→¬ nmdOK l n):=hid (fun h1 h2 q=>h2 (q k hkl h1))
   generalize fo l k=O at *
   generalize fv l k=V at *
   by_cases h2:O=2
   ·subst h2
    by_cases hv:V<(n:Int)
    ·have HOK:=hid (HK.out (fun _=>hv))
     have i3:¬ (n:Int)≤V:=by omega
     go_wp2
     go_roundw
     case rel=>exact ⟨k+1,by omega,by go_num,by first | rfl | trivial,HOK⟩
     case measure=>simp [intOf];omega
    ·have HN:=hid (HE2.out (HNO.out rfl hv))
     have i3:(n:Int)≤V:=by omega
     go_wp2
     go_ret2
     refine ⟨?_,HB1.out⟩
     rw [HN.out.1,HN.out.2];rfl
   ·have HOK:=hid (HK.out (fun e=>absurd e h2))
    have b2:(O == 2)=false:=beq_eq_false_iff_ne.2 h2
    go_wp2
    go_roundw
    case rel=>exact ⟨k+1,by omega,by go_num,by first | rfl | trivial,HOK⟩
    case measure=>simp [intOf];omega
  ·obtain rfl:k=k0+1:=by omega
   have h3:nmdOK l n:=fun i hi=>hok.out i (by rw [hl.out] at hi;exact hi)
   have HY:=hid (HE1.out h3)
   have HS:=hid (HW.out h3)
   clear h3 HW HE1 HE2 hok
   go_wp2_with fail
   with_reducible refine (HS.out _ HB1.out).mono ?_
   rintro e w5 ⟨rfl,hb5⟩
   have HB5:=hid (HB1.out.trans (hb5.mono HB1.out.size))
   clear hb5
   go_wp2
   go_ret2
   refine ⟨?_,HB5.out⟩
   rw [HY.out.1,HY.out.2]
   rfl
end Go.Proofs.YtpaednfinlaioaaGreatDoor
