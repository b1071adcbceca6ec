/-
  Plain mathematics and contracts of package diagram, several texts in one: FOf, FTxt, PSn, FSme.
-/
import Derived.Test.YtpaednfinlaioaaGreatDoorFl
import Derived.Test.YtpaednfinlaioaaGreatDoorMx
import Derived.Test.YtpaednfinlaioaaGreatDoorFh
import Derived.Test.YtpaednfinlaioaaGreatDoorMa
import Derived.Test.YtpaednfinlaioaaGreatDoorFi
set_option maxHeartbeats 4000000
set_option maxRecDepth 100000
namespace Go.Proofs.YtpaednfinlaioaaGreatDoor
open Go.Lib (hid)
open Go.RowKit Dg St
set_option linter.unusedVariables false
set_option linter.unusedSimpArgs false
attribute [local go_sem ↓] Go.wp_at_zero Go.wp_at_succ
theorem xexp_any (B g m c:Nat) (A:Option Addr) (M:List Br) (w0:World) (hrd:Hid (Rd w0 B A (up M))) (hml:Hid (M.length=m)) (hm:m≤1000000) (ho:Ord M):∀ n r,r<m+2→ExC w0 B g (.slice A m c) (exF M n r) r
 | 0,r,_=>fun W vf vs s s' _ _ _ _ e=>by cases e
 | n+1,r,h=>by
   by_cases hlow:r<2
   ·exact xexp_low B g m c A M n r w0 hrd hml hm (hid (fun _=>by omega)) hlow
   ·have hk:r - 2<M.length:=by rw [hml.out];omega
    obtain ⟨q1,q2,q3,_,_⟩:=ho (r - 2) hk
    have HXH:=hid (xexp_any B g m c A M w0 hrd hml hm ho n (bh M (r - 2)) (by omega))
    have HXL:=hid (xexp_any B g m c A M w0 hrd hml hm ho n (bl M (r - 2)) (by omega))
    have hr:Hid (2≤r→r - 2<m):=hid (fun _=>by omega)
    have h2:2≤r:=by omega
    by_cases h0:bh M (r - 2)=0
    ·by_cases l0:bl M (r - 2)=0
     ·exact xexp_00 B g m c A M n r w0 hrd hml hm hr h2 h0 l0 HXH HXL
     ·by_cases l1:bl M (r - 2)=1
      ·exact xexp_01 B g m c A M n r w0 hrd hml hm hr h2 h0 l1 HXH HXL
      ·exact xexp_0x B g m c A M n r w0 hrd hml hm hr h2 h0 l0 l1 HXH HXL
    ·by_cases h1:bh M (r - 2)=1
     ·by_cases l0:bl M (r - 2)=0
      ·exact xexp_10 B g m c A M n r w0 hrd hml hm hr h2 h1 l0 HXH HXL
      ·by_cases l1:bl M (r - 2)=1
       ·exact xexp_11 B g m c A M n r w0 hrd hml hm hr h2 h1 l1 HXH HXL
       ·exact xexp_1x B g m c A M n r w0 hrd hml hm hr h2 h1 l0 l1 HXH HXL
     ·by_cases l0:bl M (r - 2)=0
      ·exact xexp_x0 B g m c A M n r w0 hrd hml hm hr h2 h0 h1 l0 HXH HXL
      ·by_cases l1:bl M (r - 2)=1
       ·exact xexp_x1 B g m c A M n r w0 hrd hml hm hr h2 h0 h1 l1 HXH HXL
       ·exact xexp_xx B g m c A M n r w0 hrd hml hm hr h2 h0 h1 l0 l1 HXH HXL
theorem fof_ok (m c r:Nat) (A:Option Addr) (M:List Br) (s:PLs) (w:World) (hd:Hid (DOk w ⟨A,m,c,up M,(r:Int)⟩)) (hc:Hid (chk (up M) (r:Int)=0)) (e:Hid (exF M (r+1) r ([],[])=.ok s)) (V:List Fi × Int) (hV:Hid (V=if 512<s.1.length then ([],2) else (s.1,0))) :
  Calls Tryz.prog 12 #[.agg #[.slice A m c,.int .i64 (r:Int)]] w fun e w'=>PsR w w' V e:=by
 obtain ⟨M',n',hM,hn',hv,h4⟩:=chk_ok.1 hc.out
 have hMM:M'=M:=by
  have:=congrArg dn hM
  rw [dn_up,dn_up] at this
  exact this.symm
 subst hMM
 have hrr:n'=r:=by omega
 subst hrr
 have hml:M'.length=m:=by have:=hd.out.len;rw [up_len] at this;exact this
 have hrt:=hv.lt
 have HORD:=hid hv.good.ord
 have HX:=nb2 w (.slice A m c) (.int .i64 (n':Int)) 31
 have HB0:=hid (ab2 w (.cells #[.slice A m c,.int .i64 (n':Int)] 31))
 have HCK:Hid (∀ W,Below w.heap.size w W→Calls Tryz.prog 39 #[.agg #[.slice A m c,.int .i64 (n':Int)]] W fun e w'=>e=.returned (.int .i64 0)∧Below W.heap.size W w'):=hid (fun W hW=>by
  have d2:=hd.out.below hW
  have:=check_any (up M') n' m c A W (hid d2.rd) (hid d2.wi) (hid d2.len) d2.lm d2.mc (hid d2.ri)
  rw [hc.out] at this
  exact this)
 have HRD:=hid hd.out.rd
 have HML:=hid hml
 clear hc hM hn' hv hd
 go_enter Tryz.func12,Tryz.ntmps12
 obtain ⟨x0,x1,xn⟩:=xb2 HX
 go_wp2_with fail
 generalize w.alloc (.cells #[.slice A m c,.int .i64 (n':Int)] 31)=w1 at *
 with_reducible refine (HCK.out w1 HB0.out).mono ?_
 rintro e w2 ⟨rfl,b2⟩
 have HX2:=rb2 HX b2
 have HB2:=btr HB0 b2 HB0.out.size
 clear b2 x0 x1 xn HX HB0 HCK
 obtain ⟨x0,x1,xn⟩:=xb2 HX2
 have hw2:=heap_alloc_new w2 (.cells #[.slice A m c,.slice none 0 0,.slice none 0 0] 70)
 have hcc:=fun i=>cell_of_row _ _ i _ _ _ hw2
 have hff:=fun i=>frozen_of_row _ _ i _ _ hw2
 have hPO:PoM (w2.alloc (.cells #[.slice A m c,.slice none 0 0,.slice none 0 0] 70)) w2.heap.size w2.heap.size 1 (.slice none 0 0) (.slice none 0 0) [] [] :=
  ⟨by rw [hcc 1];rfl,by rw [hcc 2];rfl,hff 1,hff 2,World.ownsRow_nil _ _ _ _,World.ownsRow_nil _ _ _ _,by simp [Value.ownBlock],by simp [Value.ownBlock],Nat.le_refl _⟩
 have hc0:(w2.alloc (.cells #[.slice A m c,.slice none 0 0,.slice none 0 0] 70)).cell? ⟨w2.heap.size,0,none⟩=some (.slice A m c):=by rw [hcc 0];rfl
 have HEX:=hid (xexp_any w2.heap.size w2.heap.size m c A M' w2 (hid ((HRD.out.below HB2.out).mono HB2.out.size)) HML (by omega) HORD.out (n'+1) n' (by omega) _ (.slice none 0 0) (.slice none 0 0) ([],[]) s ((Below.refl _ _).alloc (Nat.le_refl _) _) hPO hc0 ⟨rfl,Nat.zero_le _,fun i hi=>absurd hi (by simp)⟩ e.out)
 have HB3:=hid (HB2.out.alloc HB2.out.size (.cells #[.slice A m c,.slice none 0 0,.slice none 0 0] 70))
 have HPO:=hid hPO
 clear hw2 hcc hff hPO hc0 e
 go_wp2_with fail
 with_reducible refine HEX.out.mono ?_
 rintro e w3 ⟨rfl,vf',vs',hE⟩
 have HF:=hid (pform_any w2.heap.size w2.heap.size 1 vf' vs' s.1 s.2 w3 hE.m)
 have HRF:=hid (rf_own hE.m.rf rfl)
 have HB4:=hid (HB3.out.trans ((hE.below HPO.out).mono HB2.out.size))
 clear hE HEX x0 x1 xn
 by_cases h5:512<s.1.length
 ·rw [if_pos h5] at HF
  have HVV:Hid (V=([],2)):=hid (hV.out.trans (if_pos h5))
  clear h5 HRF hV
  go_wp2_with fail
  with_reducible refine HF.out.mono ?_
  rintro e w5 ⟨rfl,rfl⟩
  go_wp2
  go_ret2
  exact PsR.nil HVV.out HB4.out
 ·rw [if_neg h5] at HF
  have HVV:Hid (V=(s.1,0)):=hid (hV.out.trans (if_neg h5))
  obtain ⟨A',c',ev,hc',hrf,_⟩:=HRF.out
  subst ev
  have HRF2:=hid hrf
  clear h5 hrf HRF hV
  go_wp2_with fail
  with_reducible refine HF.out.mono ?_
  rintro e w5 ⟨rfl,rfl⟩
  go_wp2
  go_ret2
  rw [HVV.out]
  exact ⟨A',s.1.length,c',rfl,rfl,hc',HRF2.out,HB4.out⟩
set_option linter.unusedVariables false
set_option linter.unusedSimpArgs false
attribute [local go_sem ↓] Go.wp_at_zero Go.wp_at_succ
def txtS (L:List ByteArray) (V:List Fi × Int):ByteArray:=if nmsOK L then (if V.2=0 then prtS L V.1 else ByteArray.empty) else ByteArray.empty
def txtE (L:List ByteArray) (V:List Fi × Int):Int:=if ¬ nmsOK L then 1 else if V.2=0 then prtE L V.1 else V.2
theorem ftext_any (NA:Option Addr) (n nc:Nat) (L:List ByteArray) (a b:Value) (V:List Fi × Int) (w:World) (hL:Hid (L.length=n)) (hn:n≤1000000) (hnc:n≤nc) (hs:Hid (∀ j,(sg L j).size≤1048576)) (hrs:Hid (Rstr w w.heap.size NA L)) (hV:Hid (V.1.length≤1000000)) (HOF:Hid (∀ W,Below w.heap.size w W→Calls Tryz.prog 12 #[.agg #[a,b]] W fun e w'=>PsR W w' V e)) :
  Calls Tryz.prog 14 #[.slice NA n nc,.agg #[a,b]] w fun e w'=>e=.returned (.tuple #[.string (txtS L V),.int .i64 (txtE L V)])∧Below w.heap.size w w':=by
 have HX:=nb2 w a b 31
 have HB0:=hid (ab2 w (.cells #[a,b] 31))
 have HV:=hid (vnames_any NA n nc L (w.alloc (.cells #[a,b] 31)) hL hn hnc (hid (fun j=>by have:=hs.out j;omega)) (hid ((hrs.out.below HB0.out).mono HB0.out.size)))
 have HFP:Hid (∀ W A m c,Below w.heap.size w W→V.1.length=m→m≤c→Rf W W.heap.size A V.1→Calls Tryz.prog 23 #[.slice NA n nc,.slice A m c] W fun e w'=>e=.returned (.tuple #[.string (prtS L V.1),.int .i64 (prtE L V.1)])∧Below W.heap.size W w'):=hid (fun W A m c hW h1 h2 h3=>fprint_any NA n nc A m c V.1 L W (hid h1) hL (by rw [← h1];exact hV.out) hn hnc h2 hs (hid h3) (hid ((hrs.out.below hW).mono hW.size)))
 by_cases h1:nmsOK L
 rotate_left
 ·have e1:txtS L V=ByteArray.empty:=if_neg h1
  have e2:txtE L V=1:=if_pos h1
  rw [e1,e2]
  rw [decide_eq_false h1] at HV
  clear h1 e1 e2 hs hrs hV HOF HFP
  go_enter Tryz.func14,Tryz.ntmps14
  go_wp2_with fail
  with_reducible refine HV.out.mono ?_
  rintro e w0 ⟨rfl,rfl⟩
  go_wp2
  go_ret2
  exact ⟨rfl,HB0.out⟩
 rw [decide_eq_true h1] at HV
 by_cases h2:V.2=0
 ·have e1:txtS L V=prtS L V.1:=by unfold txtS;rw [if_pos h1,if_pos h2]
  have e2:txtE L V=prtE L V.1:=by unfold txtE;rw [if_neg (fun q=>q h1),if_pos h2]
  rw [e1,e2]
  obtain ⟨l,k⟩:=V
  replace h2:k=0:=h2
  subst h2
  clear h1 e1 e2 hs hrs hV
  go_enter Tryz.func14,Tryz.ntmps14
  go_wp2_with fail
  with_reducible refine HV.out.mono ?_
  rintro e w0 ⟨rfl,rfl⟩
  obtain ⟨x0,x1,xn⟩:=xb2 HX
  generalize w.alloc (.cells #[a,b] 31)=w1 at *
  go_wp2_with fail
  with_reducible refine (HOF.out w1 HB0.out).mono ?_
  rintro e w2 ⟨A,m,c,rfl,hl,hmc,hrf,b2⟩
  have HB2:=btr HB0 b2 HB0.out.size
  have HP:=hid (HFP.out w2 A m c HB2.out hl hmc hrf)
  clear hl hmc hrf b2 HOF HFP x0 x1 xn
  go_wp2_with fail
  with_reducible refine HP.out.mono ?_
  rintro e w3 ⟨rfl,b3⟩
  have HB3:=btr HB2 b3 HB2.out.size
  clear b3
  go_wp2
  go_ret2
  exact ⟨rfl,HB3.out⟩
 ·have e1:txtS L V=ByteArray.empty:=by unfold txtS;rw [if_pos h1,if_neg h2]
  have e2:txtE L V=V.2:=by unfold txtE;rw [if_neg (fun q=>q h1),if_neg h2]
  rw [e1,e2]
  obtain ⟨l,k⟩:=V
  replace h2:¬ k=0:=h2
  have b0:(k != 0)=true:=bne_iff_ne.2 h2
  clear h1 e1 e2 hs hrs hV HFP h2
  go_enter Tryz.func14,Tryz.ntmps14
  go_wp2_with fail
  with_reducible refine HV.out.mono ?_
  rintro e w0 ⟨rfl,rfl⟩
  obtain ⟨x0,x1,xn⟩:=xb2 HX
  generalize w.alloc (.cells #[a,b] 31)=w1 at *
  go_wp2_with fail
  with_reducible refine (HOF.out w1 HB0.out).mono ?_
  rintro e w2 ⟨A,m,c,rfl,hl,hmc,hrf,b2⟩
  have HB2:=btr HB0 b2 HB0.out.size
  clear hl hmc hrf b2 HOF x0 x1 xn
  go_wp2
  go_ret2
  exact ⟨rfl,HB2.out⟩
def L3:List ByteArray:=[⟨#[65]⟩,⟨#[66]⟩,⟨#[67]⟩]
theorem L3_ok:nmsOK L3:=by decide +kernel
def fW:List Fi:=[(2,0,0,0),(3,0,0,0),(2,1,0,0),(4,0,1,2)]
def fR:List Fi:=[(2,0,0,0),(2,1,0,0),(2,2,0,0),(4,0,1,2),(4,0,0,3)]
def fX:List Fi:=[(2,0,0,0),(2,1,0,0),(3,0,1,0),(4,0,0,2),(2,0,0,0),(3,0,4,0),(2,1,0,0),(4,0,5,6),(5,0,3,7)]
def tW:ByteArray:=⟨#[33,65,32,38,38,32,66]⟩
def tA:ByteArray:=⟨#[65,32,38,38]⟩
def tD:ByteArray:=⟨#[65,32,38,38,32,68]⟩
theorem prs_W:prs (L8 L3) tW.data.toList=.ok { rest:=[],wait:=[],nodes:=fW,sizes:=[1,2,1,4],unk:=false }:=by rfl
theorem prs_A:prs (L8 L3) tA.data.toList=.syn:=by rfl
theorem prs_D:prs (L8 L3) tD.data.toList=.ok { rest:=[],wait:=[],nodes:=[(2,0,0,0),(2,-1,0,0),(4,0,0,1)],sizes:=[1,1,3],unk:=true }:=by rfl
theorem prsV_W:prsV L3 tW.data.toList=(fW,0):=by
 unfold prsV
 rw [if_neg (fun q=>q L3_ok),prs_W]
 rfl
theorem prsV_A:prsV L3 tA.data.toList=([],31):=by
 unfold prsV
 rw [if_neg (fun q=>q L3_ok),prs_A]
theorem prsV_D:prsV L3 tD.data.toList=([],3):=by
 unfold prsV
 rw [if_neg (fun q=>q L3_ok),prs_D]
 rfl
theorem okF_W:okF fW:=by decide +kernel
theorem okF_R:okF fR:=by decide +kernel
theorem okF_X:okF fX:=by decide +kernel
theorem nmd_W:nmdOK fW 3:=by decide +kernel
theorem nmd_R:nmdOK fR 3:=by decide +kernel
theorem nmd_X:nmdOK fX 3:=by decide +kernel
theorem prt_W:prtS L3 fW=⟨#[33,65,32,38,38,32,66]⟩∧prtE L3 fW=0:=⟨by unfold prtS;rw [if_pos ⟨L3_ok,okF_W,nmd_W⟩];rfl,by unfold prtE;rw [if_neg (fun q=>q L3_ok),if_neg (fun q=>q ⟨okF_W,nmd_W⟩)]⟩
theorem prt_R:prtS L3 fR=⟨#[65,32,38,38,32,40,66,32,38,38,32,67,41]⟩∧prtE L3 fR=0:=⟨by unfold prtS;rw [if_pos ⟨L3_ok,okF_R,nmd_R⟩];rfl,by unfold prtE;rw [if_neg (fun q=>q L3_ok),if_neg (fun q=>q ⟨okF_R,nmd_R⟩)]⟩
theorem prt_X:prtS L3 fX=⟨#[65,32,38,38,32,33,66,32,124,124,32,33,65,32,38,38,32,66]⟩∧prtE L3 fX=0:=⟨by unfold prtS;rw [if_pos ⟨L3_ok,okF_X,nmd_X⟩];rfl,by unfold prtE;rw [if_neg (fun q=>q L3_ok),if_neg (fun q=>q ⟨okF_X,nmd_X⟩)]⟩
theorem txt_X:txtS L3 (fX,0)=⟨#[65,32,38,38,32,33,66,32,124,124,32,33,65,32,38,38,32,66]⟩∧txtE L3 (fX,0)=0:=⟨by unfold txtS;rw [if_pos L3_ok,if_pos rfl];exact prt_X.1,by unfold txtE;rw [if_neg (fun q=>q L3_ok),if_pos rfl];exact prt_X.2⟩
theorem exF_X:exF [(1,0,1),(1,1,0),(0,2,3)] 5 4 ([],[])=.ok (fX,[1,1,2,4,1,2,1,4,9]):=by rfl
set_option linter.unusedVariables false
set_option linter.unusedSimpArgs false
attribute [local go_sem ↓] Go.wp_at_zero Go.wp_at_succ
theorem run_neq_fn (w:World) (a b c d x y z u:Int) :
  (binOp .neq 58 (.agg #[.int .i64 a,.int .i64 b,.int .i64 c,.int .i64 d]) (.agg #[.int .i64 x,.int .i64 y,.int .i64 z,.int .i64 u])).run Tryz.prog w=.ok (.bool (!(a == x&&(b == y&&(c == z&&d == u))))) w:=by
 have h:=run_eql_fn w a b c d x y z u
 have hf:Tryz.prog.underlying 58=some (.struct (Tryz.prog.fieldsOf 58)):=by kernel_rfl
 rw [run_eql_struct] at h
 rw [run_neq_struct]
 rcases hh:(Op.equalIn 10000 58 (.agg #[.int .i64 a,.int .i64 b,.int .i64 c,.int .i64 d]) (.agg #[.int .i64 x,.int .i64 y,.int .i64 z,.int .i64 u])).run Tryz.prog w with _ | _ <;> rw [hh] at h <;> simp [Result.andThen] at h ⊢
 simp [h]
def EqF (l l':List Fi) (k:Nat):Prop:=∀ j,j<k→fo l j=fo l' j∧fv l j=fv l' j∧fa l j=fa l' j∧fb l j=fb l' j
theorem eqF_all {l l':List Fi} (h:EqF l l' l.length) (hl:l.length=l'.length):l=l':=by
 apply List.ext_getElem hl
 intro i h1 h2
 obtain ⟨a,b,c,d⟩:=h i h1
 unfold fo fv fa fb at *
 rw [List.getD_eq_getElem?_getD,List.getD_eq_getElem?_getD,List.getElem?_eq_getElem h1,List.getElem?_eq_getElem h2] at a b c d
 exact Prod.ext a (Prod.ext b (Prod.ext c d))
theorem qsame_any (A A':Option Addr) (m c m' c':Nat) (l l':List Fi) (w:World) (hl:Hid (l.length=m)) (hl':Hid (l'.length=m')) (hm:m≤1000000) (hr:Hid (Rf w w.heap.size A l)) (hr':Hid (Rf w w.heap.size A' l')) :
  Calls Tryz.prog 18 #[.slice A m c,.slice A' m' c'] w fun e w'=>e=.returned (.bool (decide (l=l')))∧Below w.heap.size w w':=by
 by_cases hmm:m=m'
 rotate_left
 ·have b1:((m:Int) != (m':Int))=true:=bne_iff_ne.2 (by omega)
  have hn:l≠l':=fun e=>hmm (by rw [← hl.out,← hl'.out,e])
  rw [decide_eq_false hn]
  clear hmm hn hr hr'
  go_enter Tryz.func18,Tryz.ntmps18
  go_wp2
  go_ret
  exact ⟨rfl,Below.refl _ _⟩
 subst hmm
 have b1:((m:Int) != (m:Int))=false:=by simp
 go_enter Tryz.func18,Tryz.ntmps18
 go_wp2
 go_loopw [5] (fun i wr=>∃ k j:Nat,k≤m∧i=.int .i64 (k:Int)∧Hid (EqF l l' k)∧wr=w.drewN j) (fun i _=>m - (intOf i).toNat)
 case atStart=>exact ⟨0,0,Nat.zero_le _,rfl,(fun j hj=>absurd hj (by omega)),rfl⟩
 case round =>
  obtain ⟨k,j,hk,rfl,hno,rfl⟩:=hrel
  by_cases hlt:k<m
  ·obtain ⟨b,o,e,hb,hc⟩:=hr.out (by rw [hl.out];omega)
   obtain ⟨b',o',e',hb',hc'⟩:=hr'.out (by rw [hl'.out];omega)
   subst e
   subst e'
   obtain ⟨c0,c1,c2,c3⟩:=hc k (by rw [hl.out];exact hlt)
   obtain ⟨d0,d1,d2,d3⟩:=hc' k (by rw [hl'.out];exact hlt)
   have HNX:Hid (fo l k=fo l' k∧fv l k=fv l' k∧fa l k=fa l' k∧fb l k=fb l' k→EqF l l' (k+1)):=hid (fun he j hj=>by
    rcases Nat.lt_or_ge j k with h | h
    ·exact hno.out j h
    ·rw [show j=k by omega];exact he)
   have HNE:Hid (¬ (fo l k=fo l' k∧fv l k=fv l' k∧fa l k=fa l' k∧fb l k=fb l' k)→l≠l'):=hid (fun h e=>h (by rw [e];exact ⟨rfl,rfl,rfl,rfl⟩))
   clear hc hc'
   generalize fo l k=O at *
   generalize fv l k=V at *
   generalize fa l k=X at *
   generalize fb l k=Y at *
   generalize fo l' k=O' at *
   generalize fv l' k=V' at *
   generalize fa l' k=X' at *
   generalize fb l' k=Y' at *
   have i1:(0:Int)≤(k:Int):=by omega
   have i2:(k:Int)<(m:Int):=by omega
   have heq:=fun W:World=>run_neq_fn W O V X Y O' V' X' Y'
   by_cases q:O=O'∧V=V'∧X=X'∧Y=Y'
   ·have hq:(O == O'&&(V == V'&&(X == X'&&Y == Y')))=true:=by simp [q.1,q.2.1,q.2.2.1,q.2.2.2]
    have HN:=hid (HNX.out q)
    rw [hq] at heq
    clear q hq HNX HNE
    go_wp2
    go_quiet (fail)
    go_wp2
    go_roundw
    case rel=>exact ⟨k+1,_,by omega,by go_num,HN,rfl⟩
    case measure=>simp [intOf];omega
   ·have hq:(O == O'&&(V == V'&&(X == X'&&Y == Y')))=false:=by
     rcases h:(O == O'&&(V == V'&&(X == X'&&Y == Y'))) with _ | _
     ·rfl
     ·simp at h;exact absurd h q
    have HN:=hid (HNE.out q)
    rw [hq] at heq
    clear q hq HNX HNE
    go_wp2
    go_quiet (fail)
    go_wp2
    go_ret
    exact ⟨ret_bool (decide_eq_false HN.out).symm,below_drewN (below_drewN (Below.refl _ _) _) _⟩
  ·obtain rfl:k=m:=by omega
   have HY:=hid (eqF_all (by rw [hl.out];exact hno.out) (by rw [hl.out,hl'.out]))
   go_wp2
   go_ret
   exact ⟨ret_bool (decide_eq_true HY.out).symm,below_drewN (Below.refl _ _) _⟩
end Go.Proofs.YtpaednfinlaioaaGreatDoor
