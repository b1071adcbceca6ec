/-
  Plain mathematics and contracts of package diagram, several texts in one: FOfD.
-/
import Derived.Test.YtpaednfinlaioaaGreatDoorFE
import Derived.Test.YtpaednfinlaioaaGreatDoorFF
import Derived.Test.YtpaednfinlaioaaGreatDoorFd
import Derived.Test.YtpaednfinlaioaaGreatDoorMq
namespace Go.Proofs.YtpaednfinlaioaaGreatDoor
open Go.Lib (hid)
open Go.RowKit Dg St
set_option linter.unusedVariables false
def canF (f:Cfg→Bool):List Fi:=wrN (cn f).1 ((cn f).2+1) (cn f).2 []
theorem can_ok {f:Cfg→Bool} (hd:D64 f) (hl:Low 6 f):okF (canF f)∧∀ x,val (canF f) x ((canF f).length - 1)=f x:=by
 have hv:=cn_valid hd
 obtain ⟨h,_,hok⟩:=wr_six hv.good.ord (fun k hk=>hl.vars (by omega) k hk) hv.lt
 exact ⟨hok,fun x=>(h.val x).trans (congrFun (cn_den hd) x)⟩
theorem can_ofW {f:Cfg→Bool} (hd:D64 f) (hl:Low 6 f):ofW (cn f).1 (cn f).2=(canF f,0):=by
 have hv:=cn_valid hd
 obtain ⟨_,h442,_⟩:=wr_six hv.good.ord (fun k hk=>hl.vars (by omega) k hk) hv.lt
 have hs:=sz_wl hv.good.ord ((cn f).2+1) (cn f).2 (by omega) hv.lt
 unfold ofW canF
 rw [if_neg (by omega)]
theorem can_vars {M:List Br} (hv:∀ k,k<M.length→bv M k<6) (ho:Ord M):∀ n r f,r<M.length+2→(∀ x∈f,x.1=2→x.2.1<(6:Int))→∀ x∈wrN M n r f,x.1=2→x.2.1<(6:Int)
 | 0,r,f,_,hf=>hf
 | n+1,r,f,hr,hf=>by
   have lit:∀ (v:Nat) (b:Bool) (f:List Fi),v<6→(∀ x∈f,x.1=2→x.2.1<(6:Int))→∀ x∈litW v b f,x.1=2→x.2.1<(6:Int):=fun v b f hv' hf' x hx h2=>by
    unfold litW at hx
    cases b
    ·simp only [Bool.false_eq_true,if_false,List.mem_append,List.mem_singleton] at hx
     rcases hx with (hx | hx) | hx
     ·exact hf' x hx h2
     ·subst hx;show ((v:Int))<6;omega
     ·subst hx;cases h2
    ·simp only [if_true,List.mem_append,List.mem_singleton] at hx
     rcases hx with hx | hx
     ·exact hf' x hx h2
     ·subst hx;show ((v:Int))<6;omega
   have jn:∀ (op:Int) (v:Nat) (b:Bool) (g:List Fi→List Fi) (f:List Fi),op≠2→v<6→(∀ f,(∀ x∈f,x.1=2→x.2.1<(6:Int))→∀ x∈g f,x.1=2→x.2.1<(6:Int))→(∀ x∈f,x.1=2→x.2.1<(6:Int))→∀ x∈jnW op v b g f,x.1=2→x.2.1<(6:Int):=fun op v b g f ho' hv' hg hf' x hx h2=>by
    unfold jnW at hx
    simp only [List.mem_append,List.mem_singleton] at hx
    rcases hx with hx | hx
    ·exact hg _ (lit v b f hv' hf') x hx h2
    ·subst hx;exact absurd h2 ho'
   unfold wrN
   by_cases c1:r<2
   ·rw [if_pos c1]
    intro x hx h2
    simp only [List.mem_append,List.mem_singleton] at hx
    rcases hx with hx | hx
    ·exact hf x hx h2
    ·subst hx
     exfalso
     revert h2
     show ¬ (if r=1 then (1:Int) else 0)=2
     split <;> decide
   rw [if_neg c1]
   obtain ⟨k,rfl⟩:∃ k,r=k+2:=⟨r - 2,by omega⟩
   rw [Nat.add_sub_cancel]
   obtain ⟨q1,q2,q3,_,_⟩:=ho k (by omega)
   have hk:=hv k (by omega)
   have il:=fun f hf=>can_vars hv ho n (bl M k) f (by omega) hf
   have ih:=fun f hf=>can_vars hv ho n (bh M k) f (by omega) hf
   split
   ·exact lit _ _ _ hk hf
   split
   ·exact lit _ _ _ hk hf
   split
   ·exact jn 4 _ _ _ _ (by decide) hk ih hf
   split
   ·exact jn 4 _ _ _ _ (by decide) hk il hf
   split
   ·exact jn 5 _ _ _ _ (by decide) hk il hf
   split
   ·exact jn 5 _ _ _ _ (by decide) hk ih hf
   intro x hx h2
   simp only [List.mem_append,List.mem_singleton] at hx
   rcases hx with hx | hx
   ·exact jn 4 _ _ _ _ (by decide) hk il (jn 4 _ _ _ _ (by decide) hk ih hf) x hx h2
   ·subst hx;cases h2
theorem can_var {f:Cfg→Bool} (hd:D64 f) (hl:Low 6 f):∀ i,i<(canF f).length→fo (canF f) i=2→fv (canF f) i<((6:Nat):Int):=fun i hi h=>by
 have hv:=cn_valid hd
 have h6:=can_vars (fun k hk=>hl.vars (by omega) k hk) hv.good.ord ((cn f).2+1) (cn f).2 [] hv.lt (fun x hx=>by cases hx)
 have hm:(canF f).getD i (0,0,0,0)∈canF f:=by
  rw [List.getD_eq_getElem?_getD,List.getElem?_eq_getElem hi]
  exact List.getElem_mem hi
 exact h6 _ hm h
theorem of_dn {w:World} {A:Option Addr} {m c r:Nat} {f:Cfg→Bool} (h:Hid (Dn w A m c r f)) (hl:Hid (Low 6 f)) (W:World) (hW:Below w.heap.size w W) :
  Calls Tryz.prog 12 #[.agg #[.slice A m c,.int .i64 (r:Int)]] W fun e w'=>PsR W w' (canF f,0) e:=by
 have hv:=h.out.valid
 have hr:=h.out.rt
 obtain ⟨s,e,hV⟩:=ofW_ex hv.good.ord hv.lt
 rw [← hr] at hV
 rw [can_ofW h.out.d hl.out] at hV
 exact fof_ok m c r A (cn f).1 s W (hid (h.out.below hW).ok) (hid h.out.chk) (hid e) (canF f,0) (hid hV)
theorem holds_dn {w:World} {A:Option Addr} {m c r:Nat} {f:Cfg→Bool} (x:Nat) (h:Hid (Dn w A m c r f)) (hx:x<18446744073709551616) :
  Calls Tryz.prog 20 #[.agg #[.slice A m c,.int .i64 (r:Int)],.int .u64 (x:Int)] w fun e w'=>e=.returned (.bool (f (cfg x)))∧Below w.heap.size w w':=by
 have:=holds_ok A c m r x (cn f).1 w (hid h.out.rd) (hid h.out.valid) (hid h.out.len) h.out.lm h.out.mc hx
 rw [h.out.den] at this
 exact this
end Go.Proofs.YtpaednfinlaioaaGreatDoor
