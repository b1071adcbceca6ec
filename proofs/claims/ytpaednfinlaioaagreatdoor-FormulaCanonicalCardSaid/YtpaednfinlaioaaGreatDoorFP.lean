/-
  Plain mathematics and contracts of package diagram, several texts in one: PCa.
-/
import Derived.Test.YtpaednfinlaioaaGreatDoorFJ
import Derived.Test.YtpaednfinlaioaaGreatDoorFq
import Derived.Test.YtpaednfinlaioaaGreatDoorFp
import Derived.Test.YtpaednfinlaioaaGreatDoorFm
import Derived.Test.YtpaednfinlaioaaGreatDoorMq
namespace Go.Proofs.YtpaednfinlaioaaGreatDoor
open Go.RowKit Dg St
set_option linter.unusedVariables false
set_option linter.unusedSimpArgs false
theorem L6_ok:nmsOK (L12.take 6):=by decide +kernel
theorem L6_nm {v:Nat} (h:v<6):NmW (L12.take 6) v:=nmB_ok (by
 have:∀ v,v<6→nmB (L12.take 6) v=true:=by decide +kernel
 exact this v h)
theorem six_nm {l:List Fi} (h:okF l) (hv:∀ i,i<l.length→fo l i=2→fv l i<((6:Nat):Int)):∀ k,k<l.length→fo l k=2→NmW (L12.take 6) (fv l k).toNat:=fun k hk e=>by
 have h1:=(ok_node (h.2.2.1 k hk)).2.1
 have h2:=hv k hk e
 exact L6_nm (by omega)
theorem txt_of {G:List Fi} (hok:okF G) (hv:nmdOK G (L12.take 6).length):txtS (L12.take 6) (G,0)=⟨(shT G (L12.take 6) (G.length - 1) 0).toArray⟩∧txtE (L12.take 6) (G,0)=0:=by
 refine ⟨?_,?_⟩
 ·unfold txtS prtS
  rw [if_pos L6_ok]
  show (if (0:Int)=0 then (if nmsOK (L12.take 6)∧okF G∧nmdOK G (L12.take 6).length then _ else _) else _)=_
  rw [if_pos rfl,if_pos ⟨L6_ok,hok,hv⟩]
 ·unfold txtE prtE
  rw [if_neg (fun q=>q L6_ok)]
  show (if (0:Int)=0 then (if ¬ nmsOK (L12.take 6) then _ else if ¬ (okF G∧nmdOK G (L12.take 6).length) then _ else _) else _)=_
  rw [if_pos rfl,if_neg (fun q=>q L6_ok),if_neg (fun q=>q ⟨hok,hv⟩)]
theorem txt_inj {F G:List Fi} (hF:okF F) (vF:nmdOK F (L12.take 6).length) (hG:okF G) (vG:nmdOK G (L12.take 6).length) (h:txtS (L12.take 6) (F,0)=txtS (L12.take 6) (G,0)) (x:Nat→Bool):vlF F x=vlF G x:=by
 rw [(txt_of hF vF).1,(txt_of hG vG).1] at h
 obtain ⟨s1,p1,n1,_⟩:=prs_print hF (six_nm hF vF)
 obtain ⟨s2,p2,n2,_⟩:=prs_print hG (six_nm hG vG)
 have e:shT F (L12.take 6) (F.length - 1) 0=shT G (L12.take 6) (G.length - 1) 0:=by
  have:=congrArg (fun b:ByteArray=>b.data.toList) h
  simpa using this
 rw [e,p2] at p1
 injection p1 with p1
 rw [← p1,n2] at n1
 rw [← vlF_po hF x,← vlF_po hG x,n1]
theorem can_txt {f:Cfg→Bool} (hd:D64 f) (hl:Low 6 f):txtE (L12.take 6) (canF f,0)=0:=by
 have hok:=(can_ok hd hl).1
 have hv:nmdOK (canF f) (L12.take 6).length:=can_var hd hl
 generalize canF f=G at *
 exact (txt_of hok hv).2
theorem can_inj {f g:Cfg→Bool} (df:D64 f) (lf:Low 6 f) (dg:D64 g) (lg:Low 6 g) (h:txtS (L12.take 6) (canF f,0)=txtS (L12.take 6) (canF g,0)):f=g:=by
 have hof:=can_ok df lf
 have hog:=can_ok dg lg
 have vf:nmdOK (canF f) (L12.take 6).length:=can_var df lf
 have vg:nmdOK (canF g) (L12.take 6).length:=can_var dg lg
 generalize canF f=F at *
 generalize canF g=G at *
 funext x
 have:=txt_inj hof.1 vf hog.1 vg h x
 unfold vlF at this
 rw [← hof.2 x,← hog.2 x,this]
theorem can_same {f g:Cfg→Bool} (df:D64 f) (lf:Low 6 f) (dg:D64 g) (lg:Low 6 g):((txtS (L12.take 6) (canF f,0)).toList == (txtS (L12.take 6) (canF g,0)).toList)=agr f g 64:=by
 have h:=agr_all lf lg
 rw [show (2:Nat) ^ 6=64 from rfl] at h
 rw [Bool.eq_iff_iff,beq_iff_eq,h]
 refine ⟨fun q=>can_inj df lf dg lg (ByteArray.ext (Array.toList_inj.1 ?_)),fun q=>by rw [q]⟩
 rw [← ByteArray.toList_eq,← ByteArray.toList_eq]
 exact q
end Go.Proofs.YtpaednfinlaioaaGreatDoor
