/-
  Plain mathematics and contracts of package diagram, several texts in one: PPs, PTz, FPo, FAdd.
-/
import Derived.Test.YtpaednfinlaioaaGreatDoorFa
import Derived.Test.YtpaednfinlaioaaGreatDoorFe
import Derived.Deep.AppendLies
import Derived.Deep.RegionLaw
import Derived.BigQuiet
import Derived.Deep.QuietTactic
import Derived.IntWalk
set_option maxHeartbeats 4000000
set_option maxRecDepth 100000
namespace Go.Proofs.YtpaednfinlaioaaGreatDoor
open Go.Lib (hid)
structure PSt where
 rest:List UInt8
 wait:List Int
 nodes:List Fi
 sizes:List Nat
 unk:Bool
inductive POut (α:Type) where
 | ok (a:α)
 | syn
 | bad
def POut.bind {α β:Type}:POut α→(α→POut β)→POut β
 | .ok a,f=>f a
 | .syn,_=>.syn
 | .bad,_=>.bad
def lt8 (b:UInt8):Bool:=(97≤b&&b≤122)||(65≤b&&b≤90)||b == 95
def dg8 (b:UInt8):Bool:=48≤b&&b≤57
def wlN:List UInt8→Nat
 | []=>0
 | b::t=>if lt8 b then 1+(t.takeWhile fun c=>lt8 c||dg8 c).length else 0
def blk8 (b:UInt8):Bool:=b == 32||b == 9
def tkN:List UInt8→Option Nat
 | []=>some 0
 | b::t=>if b=38∧t.head? = some 38 then some 2 else if b=124∧t.head? = some 124 then some 2 else if b=33∨b=40∨b=41 then some 1 else
   if lt8 b then some (wlN (b::t)) else none
def nxt (l:List UInt8):Option (List UInt8 × List UInt8) :=
 let r:=l.dropWhile blk8
 (tkN r).map fun n=>(r.take n,r.drop n)
def sgv (o:Int):Nat:=if o=5 then 1 else if o=4 then 2 else if o=3 then 3 else 4
def add (op v:Int) (s:PSt):POut PSt :=
 if 512<s.nodes.length then .ok s else
 let last:=s.nodes.length - 1
 if ar op=0 then .ok { s with nodes:=s.nodes++[(op,v,0,0)],sizes:=s.sizes++[1] } else
 if s.nodes.length=0 then .bad else
 if ar op=1 then .ok { s with nodes:=s.nodes++[(op,v,(last:Int),0)],sizes:=s.sizes++[1+s.sizes.getD last 0] } else
 if last<s.sizes.getD last 0 then .bad else
 .ok { s with nodes:=s.nodes++[(op,v,((last - s.sizes.getD last 0:Nat):Int),(last:Int))],sizes:=s.sizes++[1+(s.sizes.getD (last - s.sizes.getD last 0) 0+s.sizes.getD last 0)] }
def app (op:Int):Nat→PSt→POut PSt
 | 0,s=>.ok s
 | n+1,s =>
   let last:=s.wait.getD n 0
   if last = -1∨sgv last<sgv op then .ok s else
   (add last 0 s).bind fun s'=>app op n { s' with wait:=s'.wait.take n }
def awt (op:Int) (s:PSt):POut PSt:=(app op s.wait.length s).bind fun s'=>.ok { s' with wait:=s'.wait++[op] }
def ixL (L:List (List UInt8)) (t:List UInt8):Int:=match L.findIdx? (· == t) with | some k=>(k:Int) | none=>-1
def wrd (L:List (List UInt8)) (t:List UInt8) (s:PSt):POut PSt :=
 if t=[116,114,117,101] then add 1 0 s else if t=[102,97,108,115,101] then add 0 0 s else
 add 2 (ixL L t) { s with unk:=s.unk||decide (ixL L t<0) }
def opnd (L:List (List UInt8)):Nat→PSt→POut PSt
 | 0,_=>.bad
 | n+1,s =>
   match nxt s.rest with
   | none=>.syn
   | some (t,r) =>
     let s:={ s with rest:=r }
     if t=[33] then opnd L n { s with wait:=s.wait++[3] } else
     if t=[40] then opnd L n { s with wait:=s.wait++[-1] } else
     if t=[38,38]∨t=[124,124]∨t=[41]∨t=[] then .syn else wrd L t s
def optr:Nat→PSt→POut (PSt × Bool)
 | 0,_=>.bad
 | n+1,s =>
   match nxt s.rest with
   | none=>.syn
   | some (t,r) =>
     let s:={ s with rest:=r }
     if t=[41] then (app 5 s.wait.length s).bind fun s=>if s.wait.length=0 then .syn else optr n { s with wait:=s.wait.take (s.wait.length - 1) } else
     if t=[38,38] then (awt 4 s).bind fun s=>.ok (s,true) else
     if t=[124,124] then (awt 5 s).bind fun s=>.ok (s,true) else
     if t=[] then (app 5 s.wait.length s).bind fun s=>if 0<s.wait.length then .syn else .ok (s,false) else .syn
def expr (L:List (List UInt8)):Nat→PSt→POut PSt
 | 0,_=>.bad
 | n+1,s=>(opnd L (s.rest.length+1) s).bind fun s=>(optr (s.rest.length+1) s).bind fun p=>if p.2 then expr L n p.1 else .ok p.1
def prs (L:List (List UInt8)) (t:List UInt8):POut PSt:=expr L (t.length+1) { rest:=t,wait:=[],nodes:=[],sizes:=[],unk:=false }
def tz (l:List Fi):Nat→Nat→Nat
 | 0,_=>0
 | n+1,k=>1+(if 1≤ar (fo l k) then tz l n (fa l k).toNat else 0)+(if ar (fo l k)=2 then tz l n (fb l k).toNat else 0)
def ty (l:List Fi) (k:Nat):Nat:=tz l (k+1) k
theorem kid_a {l:List Fi} {k:Nat} (h:okN l k) (h1:1≤ar (fo l k)):0≤fa l k∧(fa l k).toNat<k:=by
 have:=opN_a h.2 h1;omega
theorem kid_b {l:List Fi} {k:Nat} (h:okN l k) (h1:ar (fo l k)=2):0≤fb l k∧(fb l k).toNat<k:=by
 have:=opN_b h.2 h1;omega
theorem tz_fuel (l:List Fi) (m:Nat) (HN:∀ i,i<m→okN l i):∀ a,a<m→∀ n,a<n→tz l n a=ty l a:=by
 intro a
 induction a using Nat.strongRecOn with
 | _ a ih =>
   intro ha n hn
   obtain ⟨n,rfl⟩:∃ j,n=j+1:=⟨n - 1,by omega⟩
   show 1+_+_=1+_+_
   congr 1
   ·congr 1
    by_cases h:1≤ar (fo l a)
    ·have:=kid_a (HN a ha) h
     rw [if_pos h,if_pos h,ih _ this.2 (by omega) n (by omega),ih _ this.2 (by omega) a this.2]
    ·rw [if_neg h,if_neg h]
   ·by_cases h:ar (fo l a)=2
    ·have:=kid_b (HN a ha) h
     rw [if_pos h,if_pos h,ih _ this.2 (by omega) n (by omega),ih _ this.2 (by omega) a this.2]
    ·rw [if_neg h,if_neg h]
theorem ty_eq (l:List Fi) (m:Nat) (HN:∀ i,i<m→okN l i) {k:Nat} (hk:k<m):ty l k=1+(if 1≤ar (fo l k) then ty l (fa l k).toNat else 0)+(if ar (fo l k)=2 then ty l (fb l k).toNat else 0):=by
 show 1+(if 1≤ar (fo l k) then tz l k (fa l k).toNat else 0)+(if ar (fo l k)=2 then tz l k (fb l k).toNat else 0)=_
 congr 1
 ·congr 1
  by_cases h:1≤ar (fo l k)
  ·have:=kid_a (HN k hk) h
   rw [if_pos h,if_pos h,tz_fuel l m HN _ (by omega) k this.2]
  ·rw [if_neg h,if_neg h]
 ·by_cases h:ar (fo l k)=2
  ·have:=kid_b (HN k hk) h
   rw [if_pos h,if_pos h,tz_fuel l m HN _ (by omega) k this.2]
  ·rw [if_neg h,if_neg h]
theorem sm_pick (x:Int) (P:Prop) [Decidable P] (T:Nat→Nat) (m:Nat) (h:P→0≤x∧x<(m:Int)):sm (fun k=>if P∧x=(k:Int) then T k else 0) m=if P then T x.toNat else 0:=by
 by_cases hp:P
 ·rw [if_pos hp]
  obtain ⟨h0,h1⟩:=h hp
  obtain ⟨j,rfl⟩:∃ j:Nat,x=(j:Int):=⟨x.toNat,by omega⟩
  have hj:j<m:=by omega
  rw [Int.toNat_natCast]
  clear h h0 h1
  induction m with
  | zero=>omega
  | succ m ih =>
    show sm _ m+(if P∧(j:Int)=(m:Int) then T m else 0)=T j
    by_cases e:j=m
    ·subst e
     rw [if_pos ⟨hp,rfl⟩,sm_zero _ _ (fun k hk=>by rw [if_neg (by omega)]),Nat.zero_add]
    ·rw [if_neg (by omega),ih (by omega)]
     rfl
 ·rw [if_neg hp]
  exact sm_zero _ _ (fun k _=>by rw [if_neg (fun q=>hp q.1)])
theorem us_early (l:List Fi) (m:Nat) (HN:∀ i,i<m→okN l i) (j n:Nat) (hn:n≤m) (h:n≤j+1):us l j n=0:=by
 induction n with
 | zero=>rfl
 | succ n ih =>
   show us l j n+_+_=0
   rw [ih (by omega) (by omega),if_neg,if_neg]
   ·rintro ⟨a,b⟩
    have:=kid_b (HN n (by omega)) a
    omega
   ·rintro ⟨a,b⟩
    have:=kid_a (HN n (by omega)) a
    omega
theorem roots_sum (l:List Fi) (m:Nat) (HN:∀ i,i<m→okN l i) (HU:∀ j,us l j m≤1):∀ n,n≤m→sm (fun j=>if us l j n=0 then ty l j else 0) n=n:=by
 intro n
 induction n with
 | zero=>intro _;rfl
 | succ n ih =>
   intro hn
   have hs:=ih (by omega)
   have e:sm (fun j=>if us l j n=0 then ty l j else 0) n=sm (fun j=>(if us l j (n+1)=0 then ty l j else 0)+((if 1≤ar (fo l n)∧fa l n=(j:Int) then ty l j else 0)+(if ar (fo l n)=2∧fb l n=(j:Int) then ty l j else 0))) n:=by
    refine sm_congr _ _ _ (fun j hj=>?_)
    have h1:=HU j
    have h2:=us_mono l j (show n+1≤m by omega)
    have h3:us l j (n+1)=us l j n+(if 1≤ar (fo l n)∧fa l n=(j:Int) then 1 else 0)+(if ar (fo l n)=2∧fb l n=(j:Int) then 1 else 0):=rfl
    rw [h3] at h2 ⊢
    by_cases p:1≤ar (fo l n)∧fa l n=(j:Int) <;> by_cases q:ar (fo l n)=2∧fb l n=(j:Int)
    ·rw [if_pos p,if_pos q] at h2
     omega
    ·rw [if_pos p,if_neg q] at h2 ⊢
     rw [if_pos p,if_neg q,if_pos (show us l j n=0 by omega),if_neg (by omega)]
     omega
    ·rw [if_neg p,if_pos q] at h2 ⊢
     rw [if_neg p,if_pos q,if_pos (show us l j n=0 by omega),if_neg (by omega)]
     omega
    ·rw [if_neg p,if_neg q,if_neg p,if_neg q]
     rfl
   rw [e,sm_add,sm_add,sm_pick,sm_pick] at hs
   ·show sm _ n+(if us l n (n+1)=0 then ty l n else 0)=n+1
    rw [if_pos (us_early l m HN n (n+1) hn (Nat.le_refl _)),ty_eq l m HN (show n<m by omega)]
    omega
   ·intro h
    have:=kid_b (HN n (by omega)) h;omega
   ·intro h
    have:=kid_a (HN n (by omega)) h;omega
theorem ty_le (l:List Fi) (h:okF l):ty l (l.length - 1)≤l.length:=by
 obtain ⟨h1,h2,hn,hu⟩:=h
 have HU:∀ j,us l j l.length≤1:=by
  intro j
  by_cases q:j<l.length - 1
  ·rw [hu j q];exact Nat.le_refl _
  ·rw [us_early l l.length hn j l.length (Nat.le_refl _) (by omega)];omega
 have:=roots_sum l l.length hn HU l.length (Nat.le_refl _)
 obtain ⟨m,hm⟩:∃ m,l.length=m+1:=⟨l.length - 1,by omega⟩
 rw [hm] at this ⊢
 have e:us l m (m+1)=0:=us_early l l.length hn m (m+1) (by omega) (Nat.le_refl _)
 have t:sm (fun j=>if us l j (m+1)=0 then ty l j else 0) m+(if us l m (m+1)=0 then ty l m else 0)=m+1:=this
 rw [if_pos e] at t
 show ty l m≤m+1
 omega
end Go.Proofs.YtpaednfinlaioaaGreatDoor
namespace Go.Proofs.YtpaednfinlaioaaGreatDoor
open Go.Lib (hid)
open Go.RowKit Dg St
set_option linter.unusedVariables false
set_option linter.unusedSimpArgs false
attribute [local go_sem ↓] Go.wp_at_zero Go.wp_at_succ
def c4 (x:Fi):List Value:=[.int .i64 x.1,.int .i64 x.2.1,.int .i64 x.2.2.1,.int .i64 x.2.2.2]
def fiC (l:List Fi):List Value:=l.flatMap c4
def niC (z:List Nat):List Value:=z.map fun (n:Nat)=>Value.int .i64 ((n:Nat):Int)
theorem fiC_snoc (l:List Fi) (x:Fi):fiC (l++[x])=fiC l++c4 x:=by unfold fiC;simp
theorem niC_snoc (z:List Nat) (n:Nat):niC (z++[n])=niC z++[.int .i64 (n:Int)]:=by unfold niC;simp
theorem niC_at {z:List Nat} {i:Nat} (h:i<z.length):(niC z)[i]? = some (.int .i64 ((z.getD i 0:Nat):Int)):=by
 unfold niC
 rw [List.getElem?_map,List.getElem?_eq_getElem h,List.getD_eq_getElem?_getD,List.getElem?_eq_getElem h];rfl
theorem Tryz.infoFn:(Tryz.prog.info? 58).map (fun i=>(i.zero,i.size,i.bytes))=some (some (.agg #[.int .i64 0,.int .i64 0,.int .i64 0,.int .i64 0]),4,32):=by kernel_rfl
theorem Tryz.infoIntF:(Tryz.prog.info? 3).map (fun i=>(i.zero,i.size,i.bytes))=some (some (.int .i64 0),1,8):=by kernel_rfl
structure PoM (w:World) (B g o:Nat) (vf vs:Value) (l:List Fi) (z:List Nat):Prop where
 cf:w.cell? ⟨g,o,none⟩=some vf
 cs:w.cell? ⟨g,o+1,none⟩=some vs
 ff:w.frozen? ⟨g,o,none⟩=false
 fs:w.frozen? ⟨g,o+1,none⟩=false
 rf:w.ownsRow B 58 4 vf l.length (fiC l)
 rs:w.ownsRow B 3 1 vs z.length (niC z)
 gf:vf.ownBlock≠some g
 gs:vs.ownBlock≠some g
 gb:B≤g
theorem own_types {w:World} {B e e' size size' n n':Nat} {v v':Value} {xs xs':List Value} (h:w.ownsRow B e size v n xs) (h':w.ownsRow B e' size' v' n' xs') (he:e≠e') {k:Nat} (hk:v.ownBlock=some k):v'.ownBlock≠some k:=by
 intro hk'
 rcases h.2 with ⟨rfl,_⟩ | ⟨q,cap,cur,rfl,_,hq,_⟩
 ·cases hk
 ·rcases h'.2 with ⟨rfl,_⟩ | ⟨q',cap',cur',rfl,_,hq',_⟩
  ·cases hk'
  ·have e1:q=k:=Option.some.inj hk
   have e2:q'=k:=Option.some.inj hk'
   subst e1;subst e2
   rw [hq] at hq'
   injection hq' with hq'
   injection hq' with _ h2
   exact he h2
theorem own_form {w:World} {B e size n:Nat} {v:Value} {xs:List Value} (h:w.ownsRow B e size v n xs):∃ A c,v=.slice A n c∧n≤c∧∀ k,v.ownBlock=some k→A=some ⟨k,0,none⟩:=by
 rcases h.2 with ⟨rfl,rfl⟩ | ⟨q,cap,cur,rfl,_,hq,hc,_⟩
 ·exact ⟨none,0,rfl,Nat.le_refl _,fun k hk=>by cases hk⟩
 ·exact ⟨some ⟨q,0,none⟩,cap,rfl,hc,fun k hk=>by have:q=k:=Option.some.inj hk;rw [this]⟩
theorem PoM.lt {w:World} {B g o:Nat} {vf vs:Value} {l:List Fi} {z:List Nat} (h:PoM w B g o vf vs l z):g<w.heap.size:=block_lt_of_cell (a:=⟨g,o,none⟩) h.cf
theorem PoM.keep {w w':World} {B g o:Nat} {vf vs:Value} {l:List Fi} {z:List Nat} (h:PoM w B g o vf vs l z) (hb:Below w.heap.size w w'):PoM w' B g o vf vs l z:=by
 have hg:=h.lt
 refine ⟨(hb.cell (p:=⟨g,o,none⟩) hg).trans h.cf,(hb.cell (p:=⟨g,o+1,none⟩) hg).trans h.cs,(hb.frozen (p:=⟨g,o,none⟩) hg).trans h.ff,(hb.frozen (p:=⟨g,o+1,none⟩) hg).trans h.fs,?_,?_,h.gf,h.gs,h.gb⟩
 ·exact h.rf.kept (row:=none) ⟨hb.os,hb.tape,hb.output,hb.size,fun k hk _=>hb.block k hk⟩ (by rcases h0:vf.ownBlock with _ | _ <;> simp)
 ·exact h.rs.kept (row:=none) ⟨hb.os,hb.tape,hb.output,hb.size,fun k hk _=>hb.block k hk⟩ (by rcases h0:vs.ownBlock with _ | _ <;> simp)
structure PoE (w w':World) (B g o:Nat) (vf vs vf' vs':Value) (l:List Fi) (z:List Nat):Prop where
 m:PoM w' B g o vf' vs' l z
 chg:Chg (fun k=>k=g∨vf.ownBlock=some k∨vs.ownBlock=some k) w w'
 cel:∀ j,j≠o→j≠o+1→w'.cell? ⟨g,j,none⟩=w.cell? ⟨g,j,none⟩
 frz:∀ j,w'.frozen? ⟨g,j,none⟩=w.frozen? ⟨g,j,none⟩
 obf:∀ k,vf'.ownBlock=some k→vf.ownBlock=some k∨w.heap.size≤k
 obs:∀ k,vs'.ownBlock=some k→vs.ownBlock=some k∨w.heap.size≤k
section
variable {w w' w1 w2 w3 : World} {B g o : Nat} {vf vs vf1 vs1 vf2 vs2 : Value} {l l1 l2 : List Fi} {z z1 z2 : List Nat}
theorem PoE.trans (h:PoE w w1 B g o vf vs vf1 vs1 l1 z1) (k:PoE w1 w2 B g o vf1 vs1 vf2 vs2 l2 z2):PoE w w2 B g o vf vs vf2 vs2 l2 z2:=by
 refine ⟨k.m,h.chg.trans k.chg ?_,fun j h1 h2=>(k.cel j h1 h2).trans (h.cel j h1 h2),fun j=>(k.frz j).trans (h.frz j),?_,?_⟩
 ·rintro j hj (e | e | e)
  ·exact .inl e
  ·rcases h.obf j e with q | q
   ·exact .inr (.inl q)
   ·omega
  ·rcases h.obs j e with q | q
   ·exact .inr (.inr q)
   ·omega
 ·intro j e
  rcases k.obf j e with q | q
  ·exact h.obf j q
  ·have:=h.chg.size;exact .inr (by omega)
 ·intro j e
  rcases k.obs j e with q | q
  ·exact h.obs j q
  ·have:=h.chg.size;exact .inr (by omega)
theorem PoE.same (h:PoM w B g o vf vs l z) (hb:Below w.heap.size w w'):PoE w w' B g o vf vs vf vs l z :=
 ⟨h.keep hb,Chg.of_below hb,fun j _ _=>hb.cell (p:=⟨g,j,none⟩) h.lt,fun j=>hb.frozen (p:=⟨g,j,none⟩) h.lt,fun _ e=>.inl e,fun _ e=>.inl e⟩
theorem PoE.keep (h:PoE w w1 B g o vf vs vf1 vs1 l z) (hb:Below w1.heap.size w1 w2):PoE w w2 B g o vf vs vf1 vs1 l z:=h.trans (PoE.same h.m hb)
theorem PoM.node {gn cap:Nat} {x:Fi} (h:PoM w B g o vf vs l z) (hb:Below w.heap.size w w2) (hown:w3.ownsRow B 58 4 (.slice (some ⟨gn,0,none⟩) (l.length+1) cap) (l.length+1) (fiC l++c4 x)) (hgr:w2.grownBy w3 vf.ownBlock) (hat:vf.ownBlock=some gn∨w.heap.size≤gn) :
  PoE w (w3.setCell ⟨g,o,none⟩ (.slice (some ⟨gn,0,none⟩) (l.length+1) cap)) B g o vf vs (.slice (some ⟨gn,0,none⟩) (l.length+1) cap) vs (l++[x]) z:=by
 have hg:=h.lt
 have hgn:gn≠g:=by
  rcases hat with e | e
  ·exact fun e2=>h.gf (by rw [e,e2])
  ·omega
 have far:∀ a:Addr,a.block<w.heap.size→some a.block≠vf.ownBlock→w3.cell? a=w.cell? a∧w3.frozen? a=w.frozen? a:=fun a ha hne =>
  ⟨(hgr.cell_far a (Nat.lt_of_lt_of_le ha hb.size) hne).trans (hb.cell ha),(hgr.frozen_far a (Nat.lt_of_lt_of_le ha hb.size) hne).trans (hb.frozen ha)⟩
 have fg:=fun j=>far ⟨g,j,none⟩ hg (Ne.symm h.gf)
 have hset:=grown_set w3 g o (.slice (some ⟨gn,0,none⟩) (l.length+1) cap)
 refine ⟨⟨World.cell?_setCell_same _ _ _ ((fg o).1.trans h.cf),?_,?_,?_,?_,?_,?_,h.gs,h.gb⟩,?_,?_,?_,?_,fun _ e=>.inl e⟩
 ·rw [cell_set_off _ _ _ _ _ (by omega)];exact (fg (o+1)).1.trans h.cs
 ·rw [World.frozen?_setCell];exact (fg o).2.trans h.ff
 ·rw [World.frozen?_setCell];exact (fg (o+1)).2.trans h.fs
 ·rw [fiC_snoc,List.length_append]
  exact hown.kept hset (.inr (by simp [Value.ownBlock,hgn]))
 ·have hr2:w2.ownsRow B 3 1 vs z.length (niC z):=h.rs.kept (row:=none) ⟨hb.os,hb.tape,hb.output,hb.size,fun k hk _=>hb.block k hk⟩ (by rcases h0:vs.ownBlock with _ | _ <;> simp)
  have hr3:w3.ownsRow B 3 1 vs z.length (niC z):=by
   rcases e:vf.ownBlock with _ | k
   ·exact hr2.kept (row:=none) (by rw [← e];exact hgr) (by rcases h0:vs.ownBlock with _ | _ <;> simp)
   ·exact hr2.kept hgr (.inr (by rw [e];exact own_types h.rf h.rs (by decide) e))
  exact hr3.kept hset (.inr h.gs)
 ·simp [Value.ownBlock,hgn]
 ·exact Chg.set ((Chg.of_below hb).trans (T:=fun k=>vf.ownBlock=some k) (Chg.of_grown hgr (fun k e=>e)) (fun j _ e=>.inr (.inl e))) (.inl rfl) _
 ·intro j h1 _
  rw [cell_set_off _ _ _ _ _ h1];exact (fg j).1
 ·intro j
  rw [World.frozen?_setCell];exact (fg j).2
 ·intro k e
  simp [Value.ownBlock] at e
  subst e
  exact hat
theorem PoM.size {gn cap n:Nat} (h:PoM w B g o vf vs l z) (hb:Below w.heap.size w w2) (hown:w3.ownsRow B 3 1 (.slice (some ⟨gn,0,none⟩) (z.length+1) cap) (z.length+1) (niC z++[.int .i64 (n:Int)])) (hgr:w2.grownBy w3 vs.ownBlock) (hat:vs.ownBlock=some gn∨w.heap.size≤gn) :
  PoE w (w3.setCell ⟨g,o+1,none⟩ (.slice (some ⟨gn,0,none⟩) (z.length+1) cap)) B g o vf vs vf (.slice (some ⟨gn,0,none⟩) (z.length+1) cap) l (z++[n]):=by
 have hg:=h.lt
 have hgn:gn≠g:=by
  rcases hat with e | e
  ·exact fun e2=>h.gs (by rw [e,e2])
  ·omega
 have far:∀ a:Addr,a.block<w.heap.size→some a.block≠vs.ownBlock→w3.cell? a=w.cell? a∧w3.frozen? a=w.frozen? a:=fun a ha hne =>
  ⟨(hgr.cell_far a (Nat.lt_of_lt_of_le ha hb.size) hne).trans (hb.cell ha),(hgr.frozen_far a (Nat.lt_of_lt_of_le ha hb.size) hne).trans (hb.frozen ha)⟩
 have fg:=fun j=>far ⟨g,j,none⟩ hg (Ne.symm h.gs)
 have hset:=grown_set w3 g (o+1) (.slice (some ⟨gn,0,none⟩) (z.length+1) cap)
 refine ⟨⟨?_,World.cell?_setCell_same _ _ _ ((fg (o+1)).1.trans h.cs),?_,?_,?_,?_,h.gf,?_,h.gb⟩,?_,?_,?_,fun _ e=>.inl e,?_⟩
 ·rw [cell_set_off _ _ _ _ _ (by omega)];exact (fg o).1.trans h.cf
 ·rw [World.frozen?_setCell];exact (fg o).2.trans h.ff
 ·rw [World.frozen?_setCell];exact (fg (o+1)).2.trans h.fs
 ·have hr2:w2.ownsRow B 58 4 vf l.length (fiC l):=h.rf.kept (row:=none) ⟨hb.os,hb.tape,hb.output,hb.size,fun k hk _=>hb.block k hk⟩ (by rcases h0:vf.ownBlock with _ | _ <;> simp)
  have hr3:w3.ownsRow B 58 4 vf l.length (fiC l):=by
   rcases e:vs.ownBlock with _ | k
   ·exact hr2.kept (row:=none) (by rw [← e];exact hgr) (by rcases h0:vf.ownBlock with _ | _ <;> simp)
   ·exact hr2.kept hgr (.inr (by rw [e];exact own_types h.rs h.rf (by decide) e))
  exact hr3.kept hset (.inr h.gf)
 ·rw [niC_snoc,List.length_append]
  exact hown.kept hset (.inr (by simp [Value.ownBlock,hgn]))
 ·simp [Value.ownBlock,hgn]
 ·exact Chg.set ((Chg.of_below hb).trans (T:=fun k=>vs.ownBlock=some k) (Chg.of_grown hgr (fun k e=>e)) (fun j _ e=>.inr (.inr e))) (.inl rfl) _
 ·intro j _ h1
  rw [cell_set_off _ _ _ _ _ h1];exact (fg j).1
 ·intro j
  rw [World.frozen?_setCell];exact (fg j).2
 ·intro k e
  simp [Value.ownBlock] at e
  subst e
  exact hat
end
theorem large_any (B g o:Nat) (vf vs:Value) (l:List Fi) (z:List Nat) (w:World) (h:PoM w B g o vf vs l z) :
  Calls Tryz.prog 75 #[.pointer (some ⟨g,o,none⟩)] w fun e w'=>e=.returned (.bool (decide (512<l.length)))∧w=w':=by
 obtain ⟨A,c,e,hc,_⟩:=own_form h.rf
 have c0:=h.cf
 subst e
 clear h hc
 generalize l.length=n at *
 by_cases q:512<n
 ·rw [decide_eq_true q]
  have i1:(512:Int)<(n:Int):=by omega
  go_enter Tryz.func75,Tryz.ntmps75
  go_wp2
  go_ret
  exact ⟨rfl,rfl⟩
 ·rw [decide_eq_false q]
  have i1:¬ (512:Int)<(n:Int):=by omega
  go_enter Tryz.func75,Tryz.ntmps75
  go_wp2
  go_ret
  exact ⟨rfl,rfl⟩
set_option linter.unusedVariables false
set_option linter.unusedSimpArgs false
attribute [local go_sem ↓] Go.wp_at_zero Go.wp_at_succ
def Szs (z:List Nat):Prop:=∀ i,i<z.length→1≤z.getD i 0∧z.getD i 0≤i+1
theorem Szs.snoc {z:List Nat} (h:Szs z) {n:Nat} (h1:1≤n) (h2:n≤z.length+1):Szs (z++[n]):=by
 intro i hi
 rw [List.length_append] at hi
 simp only [List.length_cons,List.length_nil] at hi
 rw [List.getD_eq_getElem?_getD]
 by_cases e:i=z.length
 ·subst e
  rw [List.getElem?_append_right (Nat.le_refl _)]
  simp
  exact ⟨h1,h2⟩
 ·rw [List.getElem?_append_left (by omega),← List.getD_eq_getElem?_getD]
  exact h i (by omega)
def addN (op v:Int) (l:List Fi) (z:List Nat):POut (List Fi × List Nat) :=
 if 512<l.length then .ok (l,z) else
 let last:=l.length - 1
 if ar op=0 then .ok (l++[(op,v,0,0)],z++[1]) else
 if l.length=0 then .bad else
 if ar op=1 then .ok (l++[(op,v,(last:Int),0)],z++[1+z.getD last 0]) else
 if last<z.getD last 0 then .bad else
 .ok (l++[(op,v,((last - z.getD last 0:Nat):Int),(last:Int))],z++[1+(z.getD (last - z.getD last 0) 0+z.getD last 0)])
structure Lz (l:List Fi) (z:List Nat):Prop where
 len:z.length=l.length
 few:l.length≤513
 szs:Szs z
theorem addN_lz {op v:Int} {l l':List Fi} {z z':List Nat} (h:Lz l z) (e:addN op v l z=.ok (l',z')):Lz l' z':=by
 unfold addN at e
 by_cases c0:512<l.length
 ·rw [if_pos c0] at e
  injection e with e;injection e with e1 e2;subst e1;subst e2
  exact h
 rw [if_neg c0] at e
 have hz:=h.len
 by_cases c1:ar op=0
 ·rw [if_pos c1] at e
  injection e with e;injection e with e1 e2;subst e1;subst e2
  exact ⟨by simp [hz],by simp;omega,h.szs.snoc (by omega) (by omega)⟩
 rw [if_neg c1] at e
 by_cases c2:l.length=0
 ·rw [if_pos c2] at e;cases e
 rw [if_neg c2] at e
 have hs:=h.szs (l.length - 1) (by omega)
 by_cases c3:ar op=1
 ·rw [if_pos c3] at e
  injection e with e;injection e with e1 e2;subst e1;subst e2
  exact ⟨by simp [hz],by simp;omega,h.szs.snoc (by omega) (by omega)⟩
 rw [if_neg c3] at e
 by_cases c4:l.length - 1<z.getD (l.length - 1) 0
 ·rw [if_pos c4] at e;cases e
 rw [if_neg c4] at e
 have hs2:=h.szs (l.length - 1 - z.getD (l.length - 1) 0) (by omega)
 injection e with e;injection e with e1 e2;subst e1;subst e2
 exact ⟨by simp [hz],by simp;omega,h.szs.snoc (by omega) (by omega)⟩
def AdO (w w':World) (B g o:Nat) (vf vs:Value) (l:List Fi) (z:List Nat):Prop:=∃ vf' vs',PoE w w' B g o vf vs vf' vs' l z
theorem AdO.mk {w w':World} {B g o:Nat} {vf vs vf' vs':Value} {l:List Fi} {z:List Nat} (h:PoE w w' B g o vf vs vf' vs' l z):AdO w w' B g o vf vs l z:=⟨_,_,h⟩
theorem bx4 {w:World} {b:Nat} {p q r s:Value} {T:Nat} (h:w.heap[b]? = some (.cells #[p,q,r,s] T (0,0))):w.cell? ⟨b,0,none⟩=some p∧w.cell? ⟨b,1,none⟩=some q∧w.cell? ⟨b,2,none⟩=some r∧w.cell? ⟨b,3,none⟩=some s:=by
 refine ⟨?_,?_,?_,?_⟩
 ·rw [cell_of_row _ _ 0 _ _ _ h];rfl
 ·rw [cell_of_row _ _ 1 _ _ _ h];rfl
 ·rw [cell_of_row _ _ 2 _ _ _ h];rfl
 ·rw [cell_of_row _ _ 3 _ _ _ h];rfl
theorem add_zero (B g o n:Nat) (vf vs:Value) (op v:Int) (l:List Fi) (z:List Nat) (w:World) (h:Hid (PoM w B g o vf vs l z)) (hz:Hid (Lz l z)) (hl:Hid (l.length=n)) (hn1:n≤512) (har:Hid (ar op=0)) :
  Calls Tryz.prog 79 #[.pointer (some ⟨g,o,none⟩),.int .i64 op,.int .i64 v] w fun e w'=>e=.returned (.tuple #[])∧AdO w w' B g o vf vs (l++[(op,v,0,0)]) (z++[1]):=by
 obtain ⟨i0,hi,hz0,hz1,hz2⟩:=info_parts Tryz.infoFn
 obtain ⟨j0,hj,hj0,hj1,hj2⟩:=info_parts Tryz.infoIntF
 have HL:=hid (large_any B g o vf vs l z w h.out)
 rw [decide_eq_false (show ¬ 512<l.length by rw [hl.out];omega)] at HL
 have HA:Hid (∀ W,Calls Tryz.prog 90 #[.int .i64 op] W fun e w'=>e=.returned (.int .i64 0)∧W=w'):=hid (fun W=>by have:=arity_any op W;rw [har.out] at this;exact this)
 have HB1:Hid (Below w.heap.size w (w.alloc (.cells #[.int .i64 op,.int .i64 v,.int .i64 0,.int .i64 0] 58))):=hid ((Below.refl _ _).alloc (Nat.le_refl _) _)
 have HSZ:Hid (B≤w.heap.size):=hid (by have:=h.out.lt;have:=h.out.gb;omega)
 obtain ⟨Af,cf,ef,hcf,_⟩:=own_form h.out.rf
 obtain ⟨As,cs,es,hcs,hAs⟩:=own_form h.out.rs
 rw [hl.out] at ef
 rw [hz.out.len,hl.out] at es
 subst ef
 subst es
 have HGS:Hid (∀ q,As=some ⟨q,0,none⟩→q<w.heap.size∧q≠g):=hid (fun q e=>by subst e;exact ⟨(h.out.rs.lt q rfl).2,fun e=>h.out.gs (by rw [e];rfl)⟩)
 have hbw:w.heap.size<(w.alloc (.cells #[.int .i64 op,.int .i64 v,.int .i64 0,.int .i64 0] 58)).heap.size:=by simp
 have HG:Hid (¬ g=w.heap.size):=hid (fun e=>by have:=h.out.lt;omega)
 have HX:=hid (heap_alloc_new w (.cells #[.int .i64 op,.int .i64 v,.int .i64 0,.int .i64 0] 58))
 have HZ:Hid (z.length=n):=hid (hz.out.len.trans hl.out)
 clear hz har hAs hcf hcs
 go_enter Tryz.func79,Tryz.ntmps79
 go_wp2_with fail
 with_reducible refine HL.out.mono ?_
 rintro e w0 ⟨rfl,rfl⟩
 go_upto_region 3 with fail
 have HP1:=hid (h.out.keep HB1.out)
 generalize w.alloc (.cells #[.int .i64 op,.int .i64 v,.int .i64 0,.int .i64 0] 58)=w1 at *
 generalize hb:w.heap.size=b at *
 have hlt1:=HP1.out.lt
 have c0:=HP1.out.cf
 have c1:=HP1.out.cs
 have HL1:Hid (w.heap.size=b):=hid hb
 clear hb
 obtain ⟨x0,x1,x2,x3⟩:=bx4 HX.out
 have y2:=frozen_of_row w1 b 2 _ _ HX.out
 have y3:=frozen_of_row w1 b 3 _ _ HX.out
 go_wp2_with fail
 with_reducible refine (HA.out _).mono ?_
 rintro e w2 ⟨rfl,rfl⟩
 go_upto_region 11 with fail
 have HB2:=HB1
 have E2:=hid (PoE.same h.out (by rw [HL1.out];exact HB2.out))
 obtain ⟨u0,u1,u2,u3⟩:=bx4 HX.out
 have c0:=E2.out.m.cf
 have c1:=E2.out.m.cs
 have f0:=E2.out.m.ff
 have f1:=E2.out.m.fs
 have HO:Hid (w1.ownsRow B 58 4 (.slice Af n cf) n (fiC l)):=hid (by have:=E2.out.m.rf;rw [hl.out] at this;exact this)
 have hgl:=E2.out.m.lt
 have hgn:¬ g=w1.heap.size:=by omega
 have hbl:b<w1.heap.size:=block_lt_of_cell u0
 have hbn:¬ b=w1.heap.size:=by omega
 have hsz2:B≤w1.heap.size:=by have:=HSZ.out;omega
 have hvg:(Value.slice Af n cf).ownBlock≠some g:=E2.out.m.gf
 go_region_law ((refine step_append_lies _ (by rfl) _ _ _ (by rfl) B 58 i0 _ 4 32 Tryz.underlying27 hi hz0 hz1 hz2 rfl (by omega) (.slice Af n cf) n (fiC l) (by rfl) (by first | exact HO.out.alloc_own _ | exact HO.out.alloc_own2 _) _ _ _ (c4 (op,v,0,0)) (by rfl) (by rfl) (World.news_of_block (heap_alloc_new _ _)) (by simp [c4,Value.oneCell']) (by omega) (by simp only [maxLen];omega) (by omega) (by simp;omega) _ rfl ?_;intro gn cap w4 hown hgrow hat hlt;have d1:=(hgrow.cell_far ⟨g,o,none⟩ (by simp;omega) (Ne.symm hvg)).trans (show _=some (Value.slice Af n cf) by go_simp);have e1:=(hgrow.frozen_far ⟨g,o,none⟩ (by simp;omega) (Ne.symm hvg)).trans (show _=false by go_simp)))
 all_goals
  have hE:=PoM.node E2.out.m (by first | exact ((Below.refl _ _).alloc (Nat.le_refl _) _).drew | exact (Below.refl _ _).drew.alloc (Nat.le_refl _) _) (by rw [hl.out];exact hown) hgrow (hat.imp id (fun e=>by rw [e];simp))
  rw [hl.out] at hE
  have E3:=hid (E2.out.trans hE)
  clear hE hown hgrow hat hlt d1 e1 c0 c1 f0 f1 u0 u1 u2 u3 HO
  generalize hw5:World.setCell _ ⟨g,o,none⟩ (.slice (some ⟨gn,0,none⟩) (n+1) cap)=w5 at *
  clear hw5
  have c1:=E3.out.m.cs
  have f1:=E3.out.m.fs
  have HO2:Hid (w5.ownsRow B 3 1 (.slice As n cs) n (niC z)):=hid (by have:=E3.out.m.rs;rw [HZ.out] at this;exact this)
  have hgl5:=E3.out.m.lt
  have hgn5:¬ g=w5.heap.size:=by omega
  have hgb:=E3.out.m.gb
  have hvs:(Value.slice As n cs).ownBlock≠some g:=E3.out.m.gs
  go_wp2_with (refine wpList_append_lies _ rfl _ _ _ rfl B 3 j0 _ 1 8 Tryz.underlying61 hj hj0 hj1 hj2 rfl (by omega) (.slice As n cs) n (niC z) rfl (HO2.out.alloc _) _ _ _ [.int .i64 (1:Int)] rfl rfl (World.news_of_block (heap_alloc_new _ _)) (by simp [Value.oneCell']) (by omega) (by simp only [maxLen];omega) (by omega) (by simp;omega) _ rfl ?_;intro gn2 cap2 w6 hown2 hgrow2 hat2 hlt2;have d2:=(hgrow2.cell_far ⟨g,o+1,none⟩ (by simp;omega) (Ne.symm hvs)).trans (show _=some (Value.slice As n cs) by go_simp);have e2:=(hgrow2.frozen_far ⟨g,o+1,none⟩ (by simp;omega) (Ne.symm hvs)).trans (show _=false by go_simp))
  go_end0
  have E4:=PoM.size (n:=1) E3.out.m ((Below.refl _ _).alloc (Nat.le_refl _) _) (by rw [HZ.out];exact hown2) hgrow2 (hat2.imp id (fun e=>by rw [e];simp))
  rw [HZ.out] at E4
  exact ⟨rfl,AdO.mk (E3.out.trans E4)⟩
theorem add_one (B g o k S:Nat) (vf vs:Value) (op v:Int) (l:List Fi) (z:List Nat) (w:World) (h:Hid (PoM w B g o vf vs l z)) (hz:Hid (Lz l z)) (hl:Hid (l.length=(k+1))) (hn1:(k+1)≤512) (har:Hid (ar op=1)) (hS:Hid (z.getD k 0=S)) (hS5:S≤513) :
  Calls Tryz.prog 79 #[.pointer (some ⟨g,o,none⟩),.int .i64 op,.int .i64 v] w fun e w'=>e=.returned (.tuple #[])∧AdO w w' B g o vf vs (l++[(op,v,(k:Int),0)]) (z++[1+S]):=by
 obtain ⟨i0,hi,hz0,hz1,hz2⟩:=info_parts Tryz.infoFn
 obtain ⟨j0,hj,hj0,hj1,hj2⟩:=info_parts Tryz.infoIntF
 have HL:=hid (large_any B g o vf vs l z w h.out)
 rw [decide_eq_false (show ¬ 512<l.length by rw [hl.out];omega)] at HL
 have HA:Hid (∀ W,Calls Tryz.prog 90 #[.int .i64 op] W fun e w'=>e=.returned (.int .i64 1)∧W=w'):=hid (fun W=>by have:=arity_any op W;rw [har.out] at this;exact this)
 have HB1:Hid (Below w.heap.size w (w.alloc (.cells #[.int .i64 op,.int .i64 v,.int .i64 0,.int .i64 0] 58))):=hid ((Below.refl _ _).alloc (Nat.le_refl _) _)
 have HSZ:Hid (B≤w.heap.size):=hid (by have:=h.out.lt;have:=h.out.gb;omega)
 obtain ⟨Af,cf,ef,hcf,_⟩:=own_form h.out.rf
 obtain ⟨As,cs,es,hcs,hAs⟩:=own_form h.out.rs
 rw [hl.out] at ef
 rw [hz.out.len,hl.out] at es
 subst ef
 subst es
 have HGS:Hid (∀ q,As=some ⟨q,0,none⟩→q<w.heap.size∧q≠g):=hid (fun q e=>by subst e;exact ⟨(h.out.rs.lt q rfl).2,fun e=>h.out.gs (by rw [e];rfl)⟩)
 have hbw:w.heap.size<(w.alloc (.cells #[.int .i64 op,.int .i64 v,.int .i64 0,.int .i64 0] 58)).heap.size:=by simp
 have HG:Hid (¬ g=w.heap.size):=hid (fun e=>by have:=h.out.lt;omega)
 have HX:=hid (heap_alloc_new w (.cells #[.int .i64 op,.int .i64 v,.int .i64 0,.int .i64 0] 58))
 have HZ:Hid (z.length=(k+1)):=hid (hz.out.len.trans hl.out)
 clear hz har hAs hcf hcs
 go_enter Tryz.func79,Tryz.ntmps79
 go_wp2_with fail
 with_reducible refine HL.out.mono ?_
 rintro e w0 ⟨rfl,rfl⟩
 go_upto_region 3 with fail
 have HP1:=hid (h.out.keep HB1.out)
 generalize w.alloc (.cells #[.int .i64 op,.int .i64 v,.int .i64 0,.int .i64 0] 58)=w1 at *
 generalize hb:w.heap.size=b at *
 have hlt1:=HP1.out.lt
 have c0:=HP1.out.cf
 have c1:=HP1.out.cs
 have HL1:Hid (w.heap.size=b):=hid hb
 clear hb
 obtain ⟨x0,x1,x2,x3⟩:=bx4 HX.out
 have y2:=frozen_of_row w1 b 2 _ _ HX.out
 have y3:=frozen_of_row w1 b 3 _ _ HX.out
 have hAs2:Hid (∃ q,As=some ⟨q,0,none⟩):=hid (by
  obtain ⟨q,cap,hv,_⟩:=World.ownsRow.form HP1.out.rs (by rw [HZ.out];omega)
  injection hv with hv
  exact ⟨q,hv⟩)
 obtain ⟨q,eq⟩:=hAs2.out
 subst eq
 obtain ⟨hq1,hq2⟩:=HGS.out q rfl
 have hgb:¬ g=b:=HG.out
 clear hAs2
 go_wp2_with fail
 with_reducible refine (HA.out _).mono ?_
 rintro e w2 ⟨rfl,rfl⟩
 go_upto_region 7 with fail
 have HB4:Hid (Below b w (w1.setCell ⟨b,2,none⟩ (.int .i64 (k:Int)))):=hid (HB1.out.setCell (p:=⟨b,2,none⟩) (Nat.le_refl _) _)
 have HX4:Hid ((w1.setCell ⟨b,2,none⟩ (.int .i64 (k:Int))).heap[b]? = some (.cells #[.int .i64 op,.int .i64 v,.int .i64 (k:Int),.int .i64 0] 58 (0,0))):=hid (by simp [World.setCell,Array.getElem?_modify,HX.out])
 clear x0 x1 x2 x3 y2 y3 c0 c1 hlt1 HP1 hbw
 generalize w1.setCell ⟨b,2,none⟩ (.int .i64 (k:Int))=w2 at *
 have HP1:=hid (h.out.keep (by rw [HL1.out];exact HB4.out))
 have hlt1:=HP1.out.lt
 have c0:=HP1.out.cf
 have c1:=HP1.out.cs
 have hbw:=block_lt_of_cell (bx4 HX4.out).1
 obtain ⟨x0,x1,x2,x3⟩:=bx4 HX4.out
 have y2:=frozen_of_row w2 b 2 _ _ HX4.out
 have y3:=frozen_of_row w2 b 3 _ _ HX4.out
 have s0:w2.cell? ⟨q,k,none⟩=some (.int .i64 (S:Int)):=by
  have rr:=HP1.out.rs
  rw [HZ.out] at rr
  have:=(rr.cellAt k (by omega)).trans (niC_at (z:=z) (i:=k) (by rw [HZ.out];omega))
  rw [hS.out] at this
  exact this
 have hw1:IntKind.i64.wrap (1+(S:Int))=1+(S:Int):=IntWalk.i64_in _ (by omega)
 have k1:(0:Int)≤(k:Int):=by omega
 have k2:(k:Int)<(k:Int)+1:=by omega
 go_quiet (fail)
 clear hw1 s0 x0 x1 x2 x3 y2 y3 c0 c1
 have HB2:Hid (Below b w (w2.drewN nq)):=hid (below_drewN HB4.out nq)
 have HX2:Hid ((w2.drewN nq).heap[b]? = some (.cells #[.int .i64 op,.int .i64 v,.int .i64 (k:Int),.int .i64 0] 58 (0,0))):=HX4
 generalize w2.drewN nq=w3 at *
 go_upto_region 11 with fail
 have E2:=hid (PoE.same h.out (by rw [HL1.out];exact HB2.out))
 obtain ⟨u0,u1,u2,u3⟩:=bx4 HX2.out
 have c0:=E2.out.m.cf
 have c1:=E2.out.m.cs
 have f0:=E2.out.m.ff
 have f1:=E2.out.m.fs
 have HO:Hid (w3.ownsRow B 58 4 (.slice Af (k+1) cf) (k+1) (fiC l)):=hid (by have:=E2.out.m.rf;rw [hl.out] at this;exact this)
 have hgl:=E2.out.m.lt
 have hgn:¬ g=w3.heap.size:=by omega
 have hbl:b<w3.heap.size:=block_lt_of_cell u0
 have hbn:¬ b=w3.heap.size:=by omega
 have hsz2:B≤w3.heap.size:=by have:=HSZ.out;omega
 have hvg:(Value.slice Af (k+1) cf).ownBlock≠some g:=E2.out.m.gf
 go_region_law ((refine step_append_lies _ (by rfl) _ _ _ (by rfl) B 58 i0 _ 4 32 Tryz.underlying27 hi hz0 hz1 hz2 rfl (by omega) (.slice Af (k+1) cf) (k+1) (fiC l) (by rfl) (by first | exact HO.out.alloc_own _ | exact HO.out.alloc_own2 _) _ _ _ (c4 (op,v,(k:Int),0)) (by rfl) (by rfl) (World.news_of_block (heap_alloc_new _ _)) (by simp [c4,Value.oneCell']) (by omega) (by simp only [maxLen];omega) (by omega) (by simp;omega) _ rfl ?_;intro gn cap w4 hown hgrow hat hlt;have d1:=(hgrow.cell_far ⟨g,o,none⟩ (by simp;omega) (Ne.symm hvg)).trans (show _=some (Value.slice Af (k+1) cf) by go_simp);have e1:=(hgrow.frozen_far ⟨g,o,none⟩ (by simp;omega) (Ne.symm hvg)).trans (show _=false by go_simp)))
 all_goals
  have hE:=PoM.node E2.out.m (by first | exact ((Below.refl _ _).alloc (Nat.le_refl _) _).drew | exact (Below.refl _ _).drew.alloc (Nat.le_refl _) _) (by rw [hl.out];exact hown) hgrow (hat.imp id (fun e=>by rw [e];simp))
  rw [hl.out] at hE
  have E3:=hid (E2.out.trans hE)
  clear hE hown hgrow hat hlt d1 e1 c0 c1 f0 f1 u0 u1 u2 u3 HO
  generalize hw5:World.setCell _ ⟨g,o,none⟩ (.slice (some ⟨gn,0,none⟩) ((k+1)+1) cap)=w5 at *
  clear hw5
  have c1:=E3.out.m.cs
  have f1:=E3.out.m.fs
  have HO2:Hid (w5.ownsRow B 3 1 (.slice (some ⟨q,0,none⟩) (k+1) cs) (k+1) (niC z)):=hid (by have:=E3.out.m.rs;rw [HZ.out] at this;exact this)
  have hgl5:=E3.out.m.lt
  have hgn5:¬ g=w5.heap.size:=by omega
  have hgb:=E3.out.m.gb
  have hvs:(Value.slice (some ⟨q,0,none⟩) (k+1) cs).ownBlock≠some g:=E3.out.m.gs
  go_wp2_with (refine wpList_append_lies _ rfl _ _ _ rfl B 3 j0 _ 1 8 Tryz.underlying61 hj hj0 hj1 hj2 rfl (by omega) (.slice (some ⟨q,0,none⟩) (k+1) cs) (k+1) (niC z) rfl (HO2.out.alloc _) _ _ _ [.int .i64 (1+(S:Int):Int)] rfl rfl (World.news_of_block (heap_alloc_new _ _)) (by simp [Value.oneCell']) (by omega) (by simp only [maxLen];omega) (by omega) (by simp;omega) _ rfl ?_;intro gn2 cap2 w6 hown2 hgrow2 hat2 hlt2;have d2:=(hgrow2.cell_far ⟨g,o+1,none⟩ (by simp;omega) (Ne.symm hvs)).trans (show _=some (Value.slice (some ⟨q,0,none⟩) (k+1) cs) by go_simp);have e2:=(hgrow2.frozen_far ⟨g,o+1,none⟩ (by simp;omega) (Ne.symm hvs)).trans (show _=false by go_simp))
  go_end0
  have E4:=PoM.size (n:=1+S) E3.out.m ((Below.refl _ _).alloc (Nat.le_refl _) _) (by rw [HZ.out];(try simp only [Int.natCast_add,Int.natCast_one]);exact hown2) hgrow2 (hat2.imp id (fun e=>by rw [e];simp))
  rw [HZ.out] at E4
  exact ⟨rfl,AdO.mk (E3.out.trans E4)⟩
theorem add_two (B g o k S a S2:Nat) (vf vs:Value) (op v:Int) (l:List Fi) (z:List Nat) (w:World) (h:Hid (PoM w B g o vf vs l z)) (hz:Hid (Lz l z)) (hl:Hid (l.length=(k+1))) (hn1:(k+1)≤512) (har:Hid (ar op=2)) (hS:Hid (z.getD k 0=S)) (hS5:S≤513) (hSa:Hid (S+a=k)) (hS2:Hid (z.getD a 0=S2)) (hS6:S2≤513) :
  Calls Tryz.prog 79 #[.pointer (some ⟨g,o,none⟩),.int .i64 op,.int .i64 v] w fun e w'=>e=.returned (.tuple #[])∧AdO w w' B g o vf vs (l++[(op,v,(a:Int),(k:Int))]) (z++[1+(S2+S)]):=by
 obtain ⟨i0,hi,hz0,hz1,hz2⟩:=info_parts Tryz.infoFn
 obtain ⟨j0,hj,hj0,hj1,hj2⟩:=info_parts Tryz.infoIntF
 have HL:=hid (large_any B g o vf vs l z w h.out)
 rw [decide_eq_false (show ¬ 512<l.length by rw [hl.out];omega)] at HL
 have HA:Hid (∀ W,Calls Tryz.prog 90 #[.int .i64 op] W fun e w'=>e=.returned (.int .i64 2)∧W=w'):=hid (fun W=>by have:=arity_any op W;rw [har.out] at this;exact this)
 have HB1:Hid (Below w.heap.size w (w.alloc (.cells #[.int .i64 op,.int .i64 v,.int .i64 0,.int .i64 0] 58))):=hid ((Below.refl _ _).alloc (Nat.le_refl _) _)
 have HSZ:Hid (B≤w.heap.size):=hid (by have:=h.out.lt;have:=h.out.gb;omega)
 obtain ⟨Af,cf,ef,hcf,_⟩:=own_form h.out.rf
 obtain ⟨As,cs,es,hcs,hAs⟩:=own_form h.out.rs
 rw [hl.out] at ef
 rw [hz.out.len,hl.out] at es
 subst ef
 subst es
 have HGS:Hid (∀ q,As=some ⟨q,0,none⟩→q<w.heap.size∧q≠g):=hid (fun q e=>by subst e;exact ⟨(h.out.rs.lt q rfl).2,fun e=>h.out.gs (by rw [e];rfl)⟩)
 have hbw:w.heap.size<(w.alloc (.cells #[.int .i64 op,.int .i64 v,.int .i64 0,.int .i64 0] 58)).heap.size:=by simp
 have HG:Hid (¬ g=w.heap.size):=hid (fun e=>by have:=h.out.lt;omega)
 have HX:=hid (heap_alloc_new w (.cells #[.int .i64 op,.int .i64 v,.int .i64 0,.int .i64 0] 58))
 have HZ:Hid (z.length=(k+1)):=hid (hz.out.len.trans hl.out)
 clear hz har hAs hcf hcs
 go_enter Tryz.func79,Tryz.ntmps79
 go_wp2_with fail
 with_reducible refine HL.out.mono ?_
 rintro e w0 ⟨rfl,rfl⟩
 go_upto_region 3 with fail
 have HP1:=hid (h.out.keep HB1.out)
 generalize w.alloc (.cells #[.int .i64 op,.int .i64 v,.int .i64 0,.int .i64 0] 58)=w1 at *
 generalize hb:w.heap.size=b at *
 have hlt1:=HP1.out.lt
 have c0:=HP1.out.cf
 have c1:=HP1.out.cs
 have HL1:Hid (w.heap.size=b):=hid hb
 clear hb
 obtain ⟨x0,x1,x2,x3⟩:=bx4 HX.out
 have y2:=frozen_of_row w1 b 2 _ _ HX.out
 have y3:=frozen_of_row w1 b 3 _ _ HX.out
 have hAs2:Hid (∃ q,As=some ⟨q,0,none⟩):=hid (by
  obtain ⟨q,cap,hv,_⟩:=World.ownsRow.form HP1.out.rs (by rw [HZ.out];omega)
  injection hv with hv
  exact ⟨q,hv⟩)
 obtain ⟨q,eq⟩:=hAs2.out
 subst eq
 obtain ⟨hq1,hq2⟩:=HGS.out q rfl
 have hgb:¬ g=b:=HG.out
 clear hAs2
 have s0:w1.cell? ⟨q,k,none⟩=some (.int .i64 (S:Int)):=by
  have rr:=HP1.out.rs
  rw [HZ.out] at rr
  have:=(rr.cellAt k (by omega)).trans (niC_at (z:=z) (i:=k) (by rw [HZ.out];omega))
  rw [hS.out] at this
  exact this
 have hka:(k:Int) - (S:Int)=(a:Int):=by have:=hSa.out;omega
 have hak:Hid (a≤k):=hid (by have:=hSa.out;omega)
 have k1:(0:Int)≤(k:Int):=by omega
 have k2:(k:Int)<(k:Int)+1:=by omega
 go_wp2_with fail
 with_reducible refine (HA.out _).mono ?_
 rintro e w2 ⟨rfl,rfl⟩
 go_upto_region 10 with fail
 clear hka s0
 have HB4:Hid (Below b w (w1.setCell ⟨b,2,none⟩ (.int .i64 (a:Int)))):=hid (HB1.out.setCell (p:=⟨b,2,none⟩) (Nat.le_refl _) _)
 have HX4:Hid ((w1.setCell ⟨b,2,none⟩ (.int .i64 (a:Int))).heap[b]? = some (.cells #[.int .i64 op,.int .i64 v,.int .i64 (a:Int),.int .i64 0] 58 (0,0))):=hid (by simp [World.setCell,Array.getElem?_modify,HX.out])
 clear x0 x1 x2 x3 y2 y3 c0 c1 hlt1 HP1 hbw
 generalize w1.setCell ⟨b,2,none⟩ (.int .i64 (a:Int))=w2 at *
 have HP1:=hid (h.out.keep (by rw [HL1.out];exact HB4.out))
 have hlt1:=HP1.out.lt
 have c0:=HP1.out.cf
 have c1:=HP1.out.cs
 have hbw:=block_lt_of_cell (bx4 HX4.out).1
 obtain ⟨x0,x1,x2,x3⟩:=bx4 HX4.out
 have y2:=frozen_of_row w2 b 2 _ _ HX4.out
 have y3:=frozen_of_row w2 b 3 _ _ HX4.out
 have HB5:Hid (Below b w (w2.setCell ⟨b,3,none⟩ (.int .i64 (k:Int)))):=hid (HB4.out.setCell (p:=⟨b,3,none⟩) (Nat.le_refl _) _)
 have HX5:Hid ((w2.setCell ⟨b,3,none⟩ (.int .i64 (k:Int))).heap[b]? = some (.cells #[.int .i64 op,.int .i64 v,.int .i64 (a:Int),.int .i64 (k:Int)] 58 (0,0))):=hid (by simp [World.setCell,Array.getElem?_modify,HX4.out])
 clear x0 x1 x2 x3 y2 y3 c0 c1 hlt1 HP1 hbw
 generalize w2.setCell ⟨b,3,none⟩ (.int .i64 (k:Int))=w4 at *
 have HP1:=hid (h.out.keep (by rw [HL1.out];exact HB5.out))
 have hlt1:=HP1.out.lt
 have c0:=HP1.out.cf
 have c1:=HP1.out.cs
 have hbw:=block_lt_of_cell (bx4 HX5.out).1
 obtain ⟨x0,x1,x2,x3⟩:=bx4 HX5.out
 have y2:=frozen_of_row w4 b 2 _ _ HX5.out
 have y3:=frozen_of_row w4 b 3 _ _ HX5.out
 have hak':=hak.out
 have s0:w4.cell? ⟨q,k,none⟩=some (.int .i64 (S:Int)):=by
  have rr:=HP1.out.rs
  rw [HZ.out] at rr
  have:=(rr.cellAt k (by omega)).trans (niC_at (z:=z) (i:=k) (by rw [HZ.out];omega))
  rw [hS.out] at this
  exact this
 have s1:w4.cell? ⟨q,a,none⟩=some (.int .i64 (S2:Int)):=by
  have rr:=HP1.out.rs
  rw [HZ.out] at rr
  have:=(rr.cellAt a (by omega)).trans (niC_at (z:=z) (i:=a) (by rw [HZ.out];omega))
  rw [hS2.out] at this
  exact this
 have hw1:IntKind.i64.wrap ((S2:Int)+(S:Int))=(S2:Int)+(S:Int):=IntWalk.i64_in _ (by omega)
 have hw2:IntKind.i64.wrap (1+((S2:Int)+(S:Int)))=1+((S2:Int)+(S:Int)):=IntWalk.i64_in _ (by omega)
 have k3:(0:Int)≤(a:Int):=by omega
 have k4:(a:Int)<(k:Int)+1:=by omega
 go_quiet (fail)
 clear hw1 hw2 s0 s1 x0 x1 x2 x3 y2 y3 c0 c1
 have HB2:Hid (Below b w (w4.drewN nq)):=hid (below_drewN HB5.out nq)
 have HX2:Hid ((w4.drewN nq).heap[b]? = some (.cells #[.int .i64 op,.int .i64 v,.int .i64 (a:Int),.int .i64 (k:Int)] 58 (0,0))):=HX5
 generalize w4.drewN nq=w5 at *
 go_upto_region 11 with fail
 have E2:=hid (PoE.same h.out (by rw [HL1.out];exact HB2.out))
 obtain ⟨u0,u1,u2,u3⟩:=bx4 HX2.out
 have c0:=E2.out.m.cf
 have c1:=E2.out.m.cs
 have f0:=E2.out.m.ff
 have f1:=E2.out.m.fs
 have HO:Hid (w5.ownsRow B 58 4 (.slice Af (k+1) cf) (k+1) (fiC l)):=hid (by have:=E2.out.m.rf;rw [hl.out] at this;exact this)
 have hgl:=E2.out.m.lt
 have hgn:¬ g=w5.heap.size:=by omega
 have hbl:b<w5.heap.size:=block_lt_of_cell u0
 have hbn:¬ b=w5.heap.size:=by omega
 have hsz2:B≤w5.heap.size:=by have:=HSZ.out;omega
 have hvg:(Value.slice Af (k+1) cf).ownBlock≠some g:=E2.out.m.gf
 go_region_law ((refine step_append_lies _ (by rfl) _ _ _ (by rfl) B 58 i0 _ 4 32 Tryz.underlying27 hi hz0 hz1 hz2 rfl (by omega) (.slice Af (k+1) cf) (k+1) (fiC l) (by rfl) (by first | exact HO.out.alloc_own _ | exact HO.out.alloc_own2 _) _ _ _ (c4 (op,v,(a:Int),(k:Int))) (by rfl) (by rfl) (World.news_of_block (heap_alloc_new _ _)) (by simp [c4,Value.oneCell']) (by omega) (by simp only [maxLen];omega) (by omega) (by simp;omega) _ rfl ?_;intro gn cap w4 hown hgrow hat hlt;have d1:=(hgrow.cell_far ⟨g,o,none⟩ (by simp;omega) (Ne.symm hvg)).trans (show _=some (Value.slice Af (k+1) cf) by go_simp);have e1:=(hgrow.frozen_far ⟨g,o,none⟩ (by simp;omega) (Ne.symm hvg)).trans (show _=false by go_simp)))
 all_goals
  have hE:=PoM.node E2.out.m (by first | exact ((Below.refl _ _).alloc (Nat.le_refl _) _).drew | exact (Below.refl _ _).drew.alloc (Nat.le_refl _) _) (by rw [hl.out];exact hown) hgrow (hat.imp id (fun e=>by rw [e];simp))
  rw [hl.out] at hE
  have E3:=hid (E2.out.trans hE)
  clear hE hown hgrow hat hlt d1 e1 c0 c1 f0 f1 u0 u1 u2 u3 HO
  generalize hw5:World.setCell _ ⟨g,o,none⟩ (.slice (some ⟨gn,0,none⟩) ((k+1)+1) cap)=w5 at *
  clear hw5
  have c1:=E3.out.m.cs
  have f1:=E3.out.m.fs
  have HO2:Hid (w5.ownsRow B 3 1 (.slice (some ⟨q,0,none⟩) (k+1) cs) (k+1) (niC z)):=hid (by have:=E3.out.m.rs;rw [HZ.out] at this;exact this)
  have hgl5:=E3.out.m.lt
  have hgn5:¬ g=w5.heap.size:=by omega
  have hgb:=E3.out.m.gb
  have hvs:(Value.slice (some ⟨q,0,none⟩) (k+1) cs).ownBlock≠some g:=E3.out.m.gs
  go_wp2_with (refine wpList_append_lies _ rfl _ _ _ rfl B 3 j0 _ 1 8 Tryz.underlying61 hj hj0 hj1 hj2 rfl (by omega) (.slice (some ⟨q,0,none⟩) (k+1) cs) (k+1) (niC z) rfl (HO2.out.alloc _) _ _ _ [.int .i64 (1+((S2:Int)+(S:Int)):Int)] rfl rfl (World.news_of_block (heap_alloc_new _ _)) (by simp [Value.oneCell']) (by omega) (by simp only [maxLen];omega) (by omega) (by simp;omega) _ rfl ?_;intro gn2 cap2 w6 hown2 hgrow2 hat2 hlt2;have d2:=(hgrow2.cell_far ⟨g,o+1,none⟩ (by simp;omega) (Ne.symm hvs)).trans (show _=some (Value.slice (some ⟨q,0,none⟩) (k+1) cs) by go_simp);have e2:=(hgrow2.frozen_far ⟨g,o+1,none⟩ (by simp;omega) (Ne.symm hvs)).trans (show _=false by go_simp))
  go_end0
  have E4:=PoM.size (n:=1+(S2+S)) E3.out.m ((Below.refl _ _).alloc (Nat.le_refl _) _) (by rw [HZ.out];(try simp only [Int.natCast_add,Int.natCast_one]);exact hown2) hgrow2 (hat2.imp id (fun e=>by rw [e];simp))
  rw [HZ.out] at E4
  exact ⟨rfl,AdO.mk (E3.out.trans E4)⟩
theorem padd_any (B g o:Nat) (vf vs:Value) (op v:Int) (l l':List Fi) (z z':List Nat) (w:World) (h:Hid (PoM w B g o vf vs l z)) (hz:Hid (Lz l z)) (e:addN op v l z=.ok (l',z')) :
  Calls Tryz.prog 79 #[.pointer (some ⟨g,o,none⟩),.int .i64 op,.int .i64 v] w fun e w'=>e=.returned (.tuple #[])∧AdO w w' B g o vf vs l' z':=by
 unfold addN at e
 have hzl:=hz.out.len
 by_cases c0:512<l.length
 ·rw [if_pos c0] at e
  injection e with e;injection e with e1 e2;subst e1;subst e2
  have HL:=hid (large_any B g o vf vs l z w h.out)
  rw [decide_eq_true c0] at HL
  have HE:=hid (AdO.mk (PoE.same h.out (Below.refl _ _)))
  clear h hz c0 hzl
  go_enter Tryz.func79,Tryz.ntmps79
  go_wp2_with fail
  with_reducible refine HL.out.mono ?_
  rintro e w0 ⟨rfl,rfl⟩
  go_wp2
  refine bodyPost_ret (results_none rfl _ _ _) rfl ?_
  exact ⟨rfl,HE.out⟩
 rw [if_neg c0] at e
 by_cases c1:ar op=0
 ·rw [if_pos c1] at e
  injection e with e;injection e with e1 e2;subst e1;subst e2
  exact add_zero B g o l.length vf vs op v l z w h hz (hid rfl) (by omega) (hid c1)
 rw [if_neg c1] at e
 by_cases c2:l.length=0
 ·rw [if_pos c2] at e;cases e
 rw [if_neg c2] at e
 obtain ⟨k,hk⟩:∃ k,l.length=k+1:=⟨l.length - 1,by omega⟩
 have hs:=hz.out.szs k (by omega)
 rw [show l.length - 1=k by omega] at e
 by_cases c3:ar op=1
 ·rw [if_pos c3] at e
  injection e with e;injection e with e1 e2;subst e1;subst e2
  exact add_one B g o k _ vf vs op v l z w h hz (hid hk) (by omega) (hid c3) (hid rfl) (by omega)
 rw [if_neg c3] at e
 by_cases c4:k<z.getD k 0
 ·rw [if_pos c4] at e;cases e
 rw [if_neg c4] at e
 have hs2:=hz.out.szs (k - z.getD k 0) (by omega)
 injection e with e;injection e with e1 e2;subst e1;subst e2
 have h2:ar op=2:=by have:=ar_le op;omega
 exact add_two B g o k _ _ _ vf vs op v l z w h hz (hid hk) (by omega) (hid h2) (hid rfl) (by omega) (hid (by omega)) (hid rfl) (by omega)
theorem pform_any (B g o:Nat) (vf vs:Value) (l:List Fi) (z:List Nat) (w:World) (h:PoM w B g o vf vs l z) :
  Calls Tryz.prog 41 #[.pointer (some ⟨g,o,none⟩)] w fun e w'=>e=.returned (if 512<l.length then .tuple #[.slice none 0 0,.int .i64 2] else .tuple #[vf,.int .i64 0])∧w=w':=by
 have HL:=hid (large_any B g o vf vs l z w h)
 obtain ⟨A,c,e,hc,_⟩:=own_form h.rf
 have c0:=h.cf
 subst e
 clear h hc
 generalize l.length=n at *
 by_cases q:512<n
 ·rw [decide_eq_true q] at HL
  rw [if_pos q]
  go_enter Tryz.func41,Tryz.ntmps41
  go_wp2_with fail
  with_reducible refine HL.out.mono ?_
  rintro e w0 ⟨rfl,rfl⟩
  go_wp2
  go_ret2
  exact ⟨rfl,rfl⟩
 ·rw [decide_eq_false q] at HL
  rw [if_neg q]
  go_enter Tryz.func41,Tryz.ntmps41
  go_wp2_with fail
  with_reducible refine HL.out.mono ?_
  rintro e w0 ⟨rfl,rfl⟩
  go_wp2
  go_ret2
  exact ⟨rfl,rfl⟩
end Go.Proofs.YtpaednfinlaioaaGreatDoor
