/-
  Plain mathematics and contracts of package diagram, several texts in one: DCount, DCtB, DKit, DLit.
-/
import Derived.Test.YtpaednfinlaioaaGreatDoorMg
import Derived.Test.YtpaednfinlaioaaGreatDoorMn
import Derived.Test.YtpaednfinlaioaaGreatDoorMa
namespace Go.Proofs.YtpaednfinlaioaaGreatDoor
open Go.Lib (hid)
open Go.RowKit Dg St
def LitOk (w w':World) (f:Cfg→Bool) (m r:Nat) (R:Int) (e:Ending):Prop:=∃ A c,e=.returned (.tuple #[.agg #[.slice A m c,.int .i64 R],.int .i64 0])∧Dn w' A m c r f∧Below w.heap.size w w'
theorem BinOk.lit {w w':World} {f:Cfg→Bool} {e:Ending} {M:List Br} {m r:Nat} {R:Int} (h:BinOk w w' f e) (hc:cn f=(M,r)) (hm:M.length=m) (hR:R=(r:Int)):LitOk w w' f m r R e:=by
 obtain ⟨⟨A,m',c,r',rfl,hd,_⟩,hb⟩:=h
 have h1:=hd.len
 have h2:=hd.rt
 rw [hc] at h1 h2
 simp only at h1 h2
 subst hR
 obtain rfl:m'=m:=by omega
 subst h2
 exact ⟨A,c,rfl,hd,hb⟩
theorem Dn.congr {w:World} {A:Option Addr} {m c r:Nat} {f g:Cfg→Bool} (h:Dn w A m c r f) (e:f=g):Dn w A m c r g:=e ▸ h
theorem BinOk.congr {w w':World} {f g:Cfg→Bool} {e:Ending} (h:BinOk w w' f e) (q:f=g):BinOk w w' g e:=q ▸ h
theorem rdn {w w':World} {A:Option Addr} {m c r:Nat} {f:Cfg→Bool} (h:Hid (Dn w A m c r f)) (b:Below w.heap.size w w'):Hid (Dn w' A m c r f):=hid (h.out.below b)
theorem rin {w w':World} (h:Hid (Ins w 0)) (b:Below w.heap.size w w'):Hid (Ins w' 0):=hid (h.out.below b)
abbrev B2 (w:World) (g:Nat) (a b:Value):Prop:=Blk w g 2 (fun i=>[a,b].getD i undef)
theorem rb2 {w w':World} {g:Nat} {a b:Value} (h:Hid (B2 w g a b)) (k:Below w.heap.size w w'):Hid (B2 w' g a b):=hid (h.out.below (by omega) k)
theorem xb2 {w:World} {g:Nat} {a b:Value} (h:Hid (B2 w g a b)):w.cell? ⟨g,0,none⟩=some a∧w.cell? ⟨g,1,none⟩=some b∧g<w.heap.size:=⟨(h.out 0 (by omega)).1,(h.out 1 (by omega)).1,h.out.lt (by omega)⟩
theorem nb2 (w:World) (a b:Value) (T:Nat):Hid (B2 (w.alloc (.cells #[a,b] T)) w.heap.size a b):=hid (Blk.new (w:=w) rfl [a,b] T)
theorem ab2 (w:World) (o:Obj):Below w.heap.size w (w.alloc o):=(Below.refl _ _).alloc (Nat.le_refl _) o
theorem btr {a b c:World} {B:Nat} (h:Hid (Below B a b)) (k:Below b.heap.size b c) (hB:B≤b.heap.size):Hid (Below B a c):=hid (h.out.trans (k.mono hB))
theorem rsame_dn {w:World} {A A':Option Addr} {m c r m' c' r':Nat} {R R':Int} {f g:Cfg→Bool} (h:Hid (Dn w A m c r f)) (h':Hid (Dn w A' m' c' r' g)) (hR:R=(r:Int)) (hR':R'=(r':Int)) (x:Bool) (hx:Hid (x=true↔f=g)) :
  Calls Tryz.prog 17 #[.agg #[.slice A m c,.int .i64 R],.agg #[.slice A' m' c',.int .i64 R']] w fun e w'=>e=.returned (.bool x)∧Below w.heap.size w w':=by
 have l1:=h.out.len
 have l2:=h'.out.len
 have r1:=h.out.rt
 have r2:=h'.out.rt
 refine (rsame_any A A' c c' m m' _ _ R R' w (hid (by rw [up_len,l1])) (hid (by rw [up_len,l2])) (by have:=h.out.lm;omega) (hid h.out.rd) (hid h'.out.rd)).mono ?_
 rintro e w' ⟨rfl,hb⟩
 refine ⟨ret_bool ?_,hb⟩
 rw [Bool.eq_iff_iff,hx.out,Bool.and_eq_true,decide_eq_true_iff,decide_eq_true_iff]
 have hinj:=cn_inj h.out.d h'.out.d
 subst hR
 subst hR'
 constructor
 ·rintro ⟨h1,h2⟩
  refine hinj.1 (Prod.ext (up_inj h2) ?_)
  rw [r1,r2];omega
 ·intro e
  subst e
  exact ⟨by omega,rfl⟩
theorem same_dn {w:World} {A A':Option Addr} {m c r m' c' r':Nat} {R R':Int} {f g:Cfg→Bool} (h:Hid (Dn w A m c r f)) (h':Hid (Dn w A' m' c' r' g)) (hR:R=(r:Int)) (hR':R'=(r':Int)) (x:Bool) (hx:Hid (x=true↔f=g)) :
  Calls Tryz.prog 22 #[.agg #[.slice A m c,.int .i64 R],.agg #[.slice A' m' c',.int .i64 R']] w fun e w'=>e=.returned (.bool x)∧Below w.heap.size w w':=by
 have l1:=h.out.len
 have l2:=h'.out.len
 have r1:=h.out.rt
 have r2:=h'.out.rt
 refine (same_any A A' c c' m m' _ _ R R' w (hid (by rw [up_len,l1])) (hid (by rw [up_len,l2])) (by have:=h.out.lm;omega) (hid h.out.rd) (hid h'.out.rd)).mono ?_
 rintro e w' ⟨rfl,hb⟩
 refine ⟨ret_bool ?_,hb⟩
 rw [Bool.eq_iff_iff,hx.out,Bool.and_eq_true,decide_eq_true_iff,decide_eq_true_iff]
 have hinj:=cn_inj h.out.d h'.out.d
 subst hR
 subst hR'
 constructor
 ·rintro ⟨h1,h2⟩
  refine hinj.1 (Prod.ext (up_inj h2) ?_)
  rw [r1,r2];omega
 ·intro e
  subst e
  exact ⟨by omega,rfl⟩
def DiaOk (w w':World) (f:Cfg→Bool) (e:Ending):Prop:=(∃ (A:Option Addr) (m c r:Nat),e=.returned (.agg #[.slice A m c,.int .i64 (r:Int)])∧Dn w' A m c r f∧Fr A w.heap.size)∧Below w.heap.size w w'
theorem DiaOk.congr {w w':World} {f g:Cfg→Bool} {e:Ending} (h:DiaOk w w' f e) (q:f=g):DiaOk w w' g e:=q ▸ h
theorem Dn.put {w:World} {H m c r:Nat} {A:Option Addr} {f:Cfg→Bool} (h:Dn w A m c r f) (hf:Fr A (H+1)) (u v:Value):Dn ((w.setCell ⟨H,0,none⟩ u).setCell ⟨H,1,none⟩ v) A m c r f:=by
 refine ⟨?_,h.len,h.rt,h.mc,h.lm,h.d⟩
 have k:=(h.rd.setF (n:=0) hf u).setF (n:=1) hf v
 simpa [World.setCell] using k
end Go.Proofs.YtpaednfinlaioaaGreatDoor
