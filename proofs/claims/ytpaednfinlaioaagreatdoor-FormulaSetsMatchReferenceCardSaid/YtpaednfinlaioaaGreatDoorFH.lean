/-
  Plain mathematics and contracts of package diagram, several texts in one: FQTx.
-/
import Derived.Test.YtpaednfinlaioaaGreatDoorFm
import Derived.Test.YtpaednfinlaioaaGreatDoorFi
import Derived.Test.YtpaednfinlaioaaGreatDoorFe
set_option maxHeartbeats 4000000
set_option maxRecDepth 100000
namespace Go.Proofs.YtpaednfinlaioaaGreatDoor
open Go.Lib (hid)
open Go.RowKit Dg St
set_option linter.unusedVariables false
set_option linter.unusedSimpArgs false
attribute [local go_sem ↓] Go.wp_at_zero Go.wp_at_succ
theorem qtext_any (NA:Option Addr) (n nc:Nat) (L:List ByteArray) (a b:Value) (V:List Fi × Int) (w:World) (hL:Hid (L.length=n)) (hn:n≤1000000) (hnc:n≤nc) (hs:Hid (∀ j,(sg L j).size≤1048576)) (hrs:Hid (Rstr w w.heap.size NA L)) (hV:Hid (V.1.length≤1000000)) (HOF:Hid (∀ W,Below w.heap.size w W→Calls Tryz.prog 13 #[.agg #[a,b]] W fun e w'=>PsR W w' V e)) :
  Calls Tryz.prog 16 #[.slice NA n nc,.agg #[a,b]] w fun e w'=>e=.returned (.tuple #[.string (txtS L V),.int .i64 (txtE L V)])∧Below w.heap.size w w':=by
 have HX:=nb2 w a b 31
 have HB0:=hid (ab2 w (.cells #[a,b] 31))
 have HV:=hid (qnames_any NA n nc L (w.alloc (.cells #[a,b] 31)) hL hn hnc (hid (fun j=>by have:=hs.out j;omega)) (hid ((hrs.out.below HB0.out).mono HB0.out.size)))
 have HFP:Hid (∀ W A m c,Below w.heap.size w W→V.1.length=m→m≤c→Rf W W.heap.size A V.1→Calls Tryz.prog 47 #[.slice NA n nc,.slice A m c] W fun e w'=>e=.returned (.tuple #[.string (prtS L V.1),.int .i64 (prtE L V.1)])∧Below W.heap.size W w'):=hid (fun W A m c hW h1 h2 h3=>qprint_any NA n nc A m c V.1 L W (hid h1) hL (by rw [← h1];exact hV.out) hn hnc hs (hid h3) (hid ((hrs.out.below hW).mono hW.size)))
 by_cases h1:nmsOK L
 rotate_left
 ·have e1:txtS L V=ByteArray.empty:=if_neg h1
  have e2:txtE L V=1:=if_pos h1
  rw [e1,e2]
  rw [decide_eq_false h1] at HV
  clear h1 e1 e2 hs hrs hV HOF HFP
  go_enter Tryz.func16,Tryz.ntmps16
  go_wp2_with fail
  with_reducible refine HV.out.mono ?_
  rintro e w0 ⟨rfl,b0⟩
  have HB1:=btr HB0 b0 HB0.out.size
  clear b0
  go_wp2
  go_ret2
  exact ⟨rfl,HB1.out⟩
 rw [decide_eq_true h1] at HV
 by_cases h2:V.2=0
 ·have e1:txtS L V=prtS L V.1:=by unfold txtS;rw [if_pos h1,if_pos h2]
  have e2:txtE L V=prtE L V.1:=by unfold txtE;rw [if_neg (fun q=>q h1),if_pos h2]
  rw [e1,e2]
  obtain ⟨l,k⟩:=V
  replace h2:k=0:=h2
  subst h2
  clear h1 e1 e2 hs hrs hV
  go_enter Tryz.func16,Tryz.ntmps16
  go_wp2_with fail
  with_reducible refine HV.out.mono ?_
  rintro e w1 ⟨rfl,b0⟩
  have HB1:=btr HB0 b0 HB0.out.size
  replace HX:=rb2 HX b0
  clear b0 HB0
  obtain ⟨x0,x1,xn⟩:=xb2 HX
  go_wp2_with fail
  with_reducible refine (HOF.out w1 HB1.out).mono ?_
  rintro e w2 ⟨A,m,c,rfl,hl,hmc,hrf,b2⟩
  have HB2:=btr HB1 b2 HB1.out.size
  have HP:=hid (HFP.out w2 A m c HB2.out hl hmc hrf)
  clear hl hmc hrf b2 HOF HFP x0 x1 xn
  go_wp2_with fail
  with_reducible refine HP.out.mono ?_
  rintro e w3 ⟨rfl,b3⟩
  have HB3:=btr HB2 b3 HB2.out.size
  clear b3
  go_wp2
  go_ret2
  exact ⟨rfl,HB3.out⟩
 ·have e1:txtS L V=ByteArray.empty:=by unfold txtS;rw [if_pos h1,if_neg h2]
  have e2:txtE L V=V.2:=by unfold txtE;rw [if_neg (fun q=>q h1),if_neg h2]
  rw [e1,e2]
  obtain ⟨l,k⟩:=V
  replace h2:¬ k=0:=h2
  have b0:(k != 0)=true:=bne_iff_ne.2 h2
  clear h1 e1 e2 hs hrs hV HFP h2
  go_enter Tryz.func16,Tryz.ntmps16
  go_wp2_with fail
  with_reducible refine HV.out.mono ?_
  rintro e w1 ⟨rfl,b0⟩
  have HB1:=btr HB0 b0 HB0.out.size
  replace HX:=rb2 HX b0
  clear b0 HB0
  obtain ⟨x0,x1,xn⟩:=xb2 HX
  go_wp2_with fail
  with_reducible refine (HOF.out w1 HB1.out).mono ?_
  rintro e w2 ⟨A,m,c,rfl,hl,hmc,hrf,b2⟩
  have HB2:=btr HB1 b2 HB1.out.size
  clear hl hmc hrf b2 HOF x0 x1 xn
  go_wp2
  go_ret2
  exact ⟨rfl,HB2.out⟩
end Go.Proofs.YtpaednfinlaioaaGreatDoor
