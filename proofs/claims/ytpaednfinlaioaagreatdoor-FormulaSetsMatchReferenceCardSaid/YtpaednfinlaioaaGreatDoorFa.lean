/-
  Plain mathematics and contracts of package diagram, several texts in one: PFm.
-/
namespace Go.Proofs.YtpaednfinlaioaaGreatDoor
abbrev Fi:=Int × Int × Int × Int
def fo (l:List Fi) (k:Nat):Int:=(l.getD k (0,0,0,0)).1
def fv (l:List Fi) (k:Nat):Int:=(l.getD k (0,0,0,0)).2.1
def fa (l:List Fi) (k:Nat):Int:=(l.getD k (0,0,0,0)).2.2.1
def fb (l:List Fi) (k:Nat):Int:=(l.getD k (0,0,0,0)).2.2.2
def Wf (l:List Fi):Prop:=∀ k,k<l.length→(-9223372036854775808≤fo l k∧fo l k≤9223372036854775807)∧(-9223372036854775808≤fv l k∧fv l k≤9223372036854775807)∧(-9223372036854775808≤fa l k∧fa l k≤9223372036854775807)∧(-9223372036854775808≤fb l k∧fb l k≤9223372036854775807)
def ar (o:Int):Nat:=if o=3 then 1 else if o=4 then 2 else if o=5 then 2 else 0
theorem ar_le (o:Int):ar o≤2:=by unfold ar;repeat (split <;> try omega)
def plN (o v a b:Int):Bool:=decide (0≤o)&&decide (o≤5)&&decide (0≤v)&&decide (v<64)&&(decide (o=2)||decide (v=0))&&(decide (1≤ar o)||decide (a=0))&&(decide (ar o=2)||decide (b=0))
def opN (o a b:Int) (i:Nat):Bool:=(decide (ar o=0)||(decide (0≤a)&&decide (a<(i:Int))))&&(decide (ar o<2)||(decide (0≤b)&&decide (b<(i:Int))))
def okN (l:List Fi) (i:Nat):Prop:=plN (fo l i) (fv l i) (fa l i) (fb l i)=true∧opN (fo l i) (fa l i) (fb l i) i=true
def us (l:List Fi) (k:Nat):Nat→Nat
 | 0=>0
 | n+1=>us l k n+(if 1≤ar (fo l n)∧fa l n=(k:Int) then 1 else 0)+(if ar (fo l n)=2∧fb l n=(k:Int) then 1 else 0)
def tot (l:List Fi):Nat→Nat
 | 0=>0
 | n+1=>tot l n+ar (fo l n)
def sm (f:Nat→Nat):Nat→Nat
 | 0=>0
 | n+1=>sm f n+f n
def okF (l:List Fi):Prop:=1≤l.length∧l.length≤512∧(∀ i,i<l.length→okN l i)∧∀ k,k<l.length - 1→us l k l.length=1
theorem us_mono (l:List Fi) (k:Nat) {n m:Nat} (h:n≤m):us l k n≤us l k m:=by
 induction m with
 | zero=>have:n=0:=by omega
         subst this;exact Nat.le_refl _
 | succ m ih =>
   by_cases e:n=m+1
   ·subst e;exact Nat.le_refl _
   ·have:=ih (by omega)
    have q:us l k m≤us l k (m+1):=by
     show us l k m≤us l k m+_+_
     omega
    omega
theorem sm_add (f g:Nat→Nat) (m:Nat):sm (fun k=>f k+g k) m=sm f m+sm g m:=by
 induction m with
 | zero=>rfl
 | succ m ih=>show sm (fun k=>f k+g k) m+(f m+g m)=sm f m+f m+(sm g m+g m);omega
theorem sm_zero (f:Nat→Nat) (m:Nat) (h:∀ k,k<m→f k=0):sm f m=0:=by
 induction m with
 | zero=>rfl
 | succ m ih=>show sm f m+f m=0;rw [ih fun k hk=>h k (by omega),h m (by omega)]
theorem sm_congr (f g:Nat→Nat) (m:Nat) (h:∀ k,k<m→f k=g k):sm f m=sm g m:=by
 induction m with
 | zero=>rfl
 | succ m ih=>show sm f m+f m=sm g m+g m;rw [ih fun k hk=>h k (by omega),h m (by omega)]
theorem sm_one (x:Int) (P:Prop) [Decidable P] (m:Nat) (h:P→0≤x∧x<(m:Int)):sm (fun k=>if P∧x=(k:Int) then 1 else 0) m=if P then 1 else 0:=by
 by_cases hp:P
 ·rw [if_pos hp]
  obtain ⟨h0,h1⟩:=h hp
  obtain ⟨j,rfl⟩:∃ j:Nat,x=(j:Int):=⟨x.toNat,by omega⟩
  have hj:j<m:=by omega
  clear h h0 h1
  induction m with
  | zero=>omega
  | succ m ih =>
    show sm _ m+(if P∧(j:Int)=(m:Int) then 1 else 0)=1
    by_cases e:j=m
    ·subst e
     rw [if_pos ⟨hp,rfl⟩,sm_zero _ _ (fun k hk=>by rw [if_neg (by omega)])]
    ·rw [if_neg (by omega),ih (by omega)]
 ·rw [if_neg hp]
  exact sm_zero _ _ (fun k _=>by rw [if_neg (fun q=>hp q.1)])
theorem sm_le (f:Nat→Nat) (m:Nat) (h:∀ k,k<m→f k≤1):sm f m≤m:=by
 induction m with
 | zero=>exact Nat.le_refl _
 | succ m ih =>
   have q:=ih fun k hk=>h k (by omega)
   have r:=h m (by omega)
   show sm f m+f m≤m+1
   omega
theorem sm_all (f:Nat→Nat) (m:Nat) (h:∀ k,k<m→f k≤1):sm f m=m↔∀ k,k<m→f k=1:=by
 induction m with
 | zero=>exact ⟨fun _ k hk=>by omega,fun _=>rfl⟩
 | succ m ih =>
   have q:=sm_le f m fun k hk=>h k (by omega)
   have r:=h m (by omega)
   have i:=ih fun k hk=>h k (by omega)
   constructor
   ·intro e k hk
    have e':sm f m+f m=m+1:=e
    by_cases hkm:k=m
    ·subst hkm;omega
    ·exact i.1 (by omega) k (by omega)
   ·intro e
    show sm f m+f m=m+1
    rw [i.2 fun k hk=>e k (by omega),e m (by omega)]
theorem opN_a {o a b:Int} {i:Nat} (h:opN o a b i=true):1≤ar o→0≤a∧a<(i:Int):=by
 simp only [opN,Bool.and_eq_true,Bool.or_eq_true,decide_eq_true_eq] at h
 omega
theorem opN_b {o a b:Int} {i:Nat} (h:opN o a b i=true):ar o=2→0≤b∧b<(i:Int):=by
 simp only [opN,Bool.and_eq_true,Bool.or_eq_true,decide_eq_true_eq] at h
 omega
theorem sm_us (l:List Fi) (m n:Nat) (hm:n≤m+1) (h:∀ i,i<n→opN (fo l i) (fa l i) (fb l i) i=true):sm (fun k=>us l k n) m=tot l n:=by
 induction n with
 | zero=>exact sm_zero _ _ (fun _ _=>rfl)
 | succ n ih =>
   show sm (fun k=>us l k n+(if 1≤ar (fo l n)∧fa l n=(k:Int) then 1 else 0)+(if ar (fo l n)=2∧fb l n=(k:Int) then 1 else 0)) m=tot l n+ar (fo l n)
   have ha:=opN_a (h n (by omega))
   have hb:=opN_b (h n (by omega))
   rw [sm_add (fun k=>us l k n+(if 1≤ar (fo l n)∧fa l n=(k:Int) then 1 else 0)),sm_add (fun k=>us l k n),ih (by omega) (fun i hi=>h i (by omega)),sm_one _ _ _ (fun q=>by have:=ha q;omega),sm_one _ _ _ (fun q=>by have:=hb q;omega)]
   have:=ar_le (fo l n)
   split <;> split <;> omega
theorem okF_iff (l:List Fi) (h1:1≤l.length) (h2:l.length≤512) (hn:∀ i,i<l.length→okN l i) (hu:∀ k,us l k l.length≤1):okF l↔tot l l.length=l.length - 1:=by
 have e:=sm_us l (l.length - 1) l.length (by omega) (fun i hi=>(hn i hi).2)
 have a:=sm_all (fun k=>us l k l.length) (l.length - 1) (fun k _=>hu k)
 rw [e] at a
 constructor
 ·intro h;exact a.2 h.2.2.2
 ·intro h;exact ⟨h1,h2,hn,a.1 h⟩
theorem tot_le (l:List Fi) (n:Nat):tot l n≤2*n:=by
 induction n with
 | zero=>exact Nat.le_refl _
 | succ n ih=>have:=ar_le (fo l n);show tot l n+ar (fo l n)≤_;omega
theorem okF_no (l:List Fi) {k n:Nat} (hk:k+1<l.length) (hn:n≤l.length) (h:2≤us l k n):¬ okF l:=fun q=>by
 have:=q.2.2.2 k (by omega)
 have:=us_mono l k hn
 omega
theorem okF_node (l:List Fi) {i:Nat} (hi:i<l.length) (h:¬ okN l i):¬ okF l:=fun q=>h (q.2.2.1 i hi)
def nv (vs:List Bool) (c:Nat→Bool) (x:Fi):Bool :=
 if x.1=1 then true else if x.1=2 then c x.2.1.toNat else if x.1=3 then !(vs.getD x.2.2.1.toNat false) else if x.1=4 then vs.getD x.2.2.1.toNat false&&vs.getD x.2.2.2.toNat false else if x.1=5 then vs.getD x.2.2.1.toNat false||vs.getD x.2.2.2.toNat false else false
def vls (l:List Fi) (c:Nat→Bool):Nat→List Bool
 | 0=>[]
 | n+1=>vls l c n++[nv (vls l c n) c (l.getD n (0,0,0,0))]
def val (l:List Fi) (c:Nat→Bool) (i:Nat):Bool:=nv (vls l c i) c (l.getD i (0,0,0,0))
theorem vls_len (l:List Fi) (c:Nat→Bool) (n:Nat):(vls l c n).length=n:=by
 induction n with
 | zero=>rfl
 | succ n ih=>show (vls l c n++[_]).length=n+1;simp [ih]
theorem vls_at (l:List Fi) (c:Nat→Bool) {i n:Nat} (h:i<n):(vls l c n).getD i false=val l c i:=by
 induction n with
 | zero=>omega
 | succ n ih =>
   show (vls l c n++[_]).getD i false=_
   rw [List.getD_eq_getElem?_getD]
   by_cases e:i=n
   ·subst e
    rw [List.getElem?_append_right (by rw [vls_len];exact Nat.le_refl _),vls_len,Nat.sub_self];rfl
   ·rw [List.getElem?_append_left (by rw [vls_len];omega),← List.getD_eq_getElem?_getD,ih (by omega)]
theorem val_true (l:List Fi) (c:Nat→Bool) {i:Nat} (h:fo l i=1):val l c i=true:=by
 have h':(l.getD i (0,0,0,0)).1=1:=h
 unfold val nv;rw [if_pos h']
theorem val_var (l:List Fi) (c:Nat→Bool) {i:Nat} (h:fo l i=2):val l c i=c (fv l i).toNat:=by
 have h':(l.getD i (0,0,0,0)).1=2:=h
 unfold val nv;rw [if_neg (by omega),if_pos h'];rfl
theorem val_not (l:List Fi) (c:Nat→Bool) {i:Nat} (h:fo l i=3) (ha:(fa l i).toNat<i):val l c i=!(val l c (fa l i).toNat):=by
 have h':(l.getD i (0,0,0,0)).1=3:=h
 have q:=vls_at l c ha
 unfold fa at q ha
 unfold fa
 rw [← q]
 conv=>lhs;unfold val nv
 rw [if_neg (by omega),if_neg (by omega),if_pos h']
theorem val_and (l:List Fi) (c:Nat→Bool) {i:Nat} (h:fo l i=4) (ha:(fa l i).toNat<i) (hb:(fb l i).toNat<i):val l c i=(val l c (fa l i).toNat&&val l c (fb l i).toNat):=by
 have h':(l.getD i (0,0,0,0)).1=4:=h
 have q:=vls_at l c ha
 have r:=vls_at l c hb
 unfold fa at q ha
 unfold fb at r hb
 unfold fa fb
 rw [← q,← r]
 conv=>lhs;unfold val nv
 rw [if_neg (by omega),if_neg (by omega),if_neg (by omega),if_pos h']
theorem val_or (l:List Fi) (c:Nat→Bool) {i:Nat} (h:fo l i=5) (ha:(fa l i).toNat<i) (hb:(fb l i).toNat<i):val l c i=(val l c (fa l i).toNat||val l c (fb l i).toNat):=by
 have h':(l.getD i (0,0,0,0)).1=5:=h
 have q:=vls_at l c ha
 have r:=vls_at l c hb
 unfold fa at q ha
 unfold fb at r hb
 unfold fa fb
 rw [← q,← r]
 conv=>lhs;unfold val nv
 rw [if_neg (by omega),if_neg (by omega),if_neg (by omega),if_neg (by omega),if_pos h']
theorem val_false (l:List Fi) (c:Nat→Bool) {i:Nat} (h:fo l i=0):val l c i=false:=by
 have h':(l.getD i (0,0,0,0)).1=0:=h
 unfold val nv;rw [if_neg (by omega),if_neg (by omega),if_neg (by omega),if_neg (by omega),if_neg (by omega)]
end Go.Proofs.YtpaednfinlaioaaGreatDoor
