/-
  Plain mathematics and contracts of package diagram, several texts in one: PLaw, DSix.
-/
import Derived.Test.YtpaednfinlaioaaGreatDoorMa
import Derived.Test.YtpaednfinlaioaaGreatDoorMh
set_option maxRecDepth 100000
namespace Go.Proofs.YtpaednfinlaioaaGreatDoor
open Go.Lib (hid)
open Dg St
def klit (k:Nat):Nat→List (Nat × Bool)
 | 0=>[]
 | v+1=>(v,k.testBit v)::klit k v
theorem klit_lt (k:Nat):∀ v,∀ p∈klit k v,p.1<v:=by
 intro v
 induction v with
 | zero=>intro p hp;simp [klit] at hp
 | succ v ih =>
   intro p hp
   rcases List.mem_cons.1 hp with rfl | h
   ·show v<v+1;omega
   ·have:=ih p h;omega
theorem klit_true (k:Nat):∀ (v:Nat) (c:Cfg),cube (klit k v) c=true↔∀ i,i<v→c i=k.testBit i:=by
 intro v c
 induction v with
 | zero=>simp [klit,cube]
 | succ v ih =>
   have e:cube (klit k (v+1)) c=((c v == k.testBit v)&&cube (klit k v) c):=by simp [klit,cube]
   rw [e,Bool.and_eq_true,ih,beq_iff_eq]
   constructor
   ·rintro ⟨h1,h2⟩ i hi
    by_cases e:i=v
    ·subst e;exact h1
    ·exact h2 i (by omega)
   ·intro h
    exact ⟨h v (by omega),fun i hi=>h i (by omega)⟩
def num (c:Cfg):Nat→Nat
 | 0=>0
 | n+1=>num c n+if c n then 2 ^ n else 0
theorem num_lt (c:Cfg):∀ n,num c n<2 ^ n:=by
 intro n
 induction n with
 | zero=>exact Nat.one_pos
 | succ n ih =>
   unfold num
   rw [Nat.pow_succ]
   split <;> omega
theorem num_bit (c:Cfg):∀ n i,i<n→(num c n).testBit i=c i:=by
 intro n
 induction n with
 | zero=>intro i h;omega
 | succ n ih =>
   intro i hi
   have hlt:=num_lt c n
   unfold num
   by_cases hc:c n=true
   ·rw [if_pos hc,show num c n+2 ^ n=2 ^ n*1+num c n by omega,Nat.testBit_two_pow_mul_add 1 hlt]
    by_cases e:i<n
    ·rw [if_pos e];exact ih i e
    ·obtain rfl:i=n:=by omega
     rw [if_neg e,hc];simp
   ·have hc':c n=false:=by cases h:c n <;> simp_all
    rw [if_neg hc,Nat.add_zero]
    by_cases e:i<n
    ·exact ih i e
    ·obtain rfl:i=n:=by omega
     rw [hc',Nat.testBit_lt_two_pow hlt]
def agr (f g:Cfg→Bool) (k:Nat):Bool:=decide (∀ j,j<k→f (cf j)=g (cf j))
theorem agr_zero (f g:Cfg→Bool):agr f g 0=true:=by unfold agr;rw [decide_eq_true_iff];intro j hj;omega
theorem agr_succ (f g:Cfg→Bool) (k:Nat):agr f g (k+1)=(agr f g k&&(f (cf k) == g (cf k))):=by
 unfold agr
 rw [Bool.eq_iff_iff,Bool.and_eq_true,decide_eq_true_iff,decide_eq_true_iff,beq_iff_eq]
 constructor
 ·intro h;exact ⟨fun j hj=>h j (by omega),h k (by omega)⟩
 ·rintro ⟨h1,h2⟩ j hj
  by_cases e:j=k
  ·subst e;exact h2
  ·exact h1 j (by omega)
theorem agr_all {f g:Cfg→Bool} {n:Nat} (hf:Low n f) (hg:Low n g):agr f g (2 ^ n)=true↔f=g:=by
 unfold agr
 rw [decide_eq_true_iff]
 constructor
 ·intro h;funext x
  have e:∀ i,i<n→x i=cf (num x n) i:=fun i hi=>(num_bit x n i hi).symm
  rw [hf x _ e,hg x _ e];exact h _ (num_lt x n)
 ·intro h j _;rw [h]
end Go.Proofs.YtpaednfinlaioaaGreatDoor
namespace Go.Proofs.YtpaednfinlaioaaGreatDoor
open Go.Lib (hid)
open Go.RowKit Dg St
theorem Dn.s33 {w:World} {A:Option Addr} {m c r:Nat} {f:Cfg→Bool} (h:Dn w A m c r f) (hl:Low 6 f):m≤33:=by rw [← h.len];exact hl.size33
theorem pr6 {a b:Nat} (ha:a≤33) (hb:b≤33):(a+2)*(b+2)≤4096:=Nat.le_trans (Nat.mul_le_mul (show a+2≤35 by omega) (show b+2≤35 by omega)) (by omega)
theorem s4096 {f:Cfg→Bool} (hl:Low 6 f):(cn f).1.length≤4096:=Nat.le_trans hl.size33 (by omega)
def BIff (x:Bool) (P:Prop):Prop:=x=true↔P
theorem BIff.hid {x:Bool} {P:Prop} (h:Hid (BIff x P)):Hid (x=true↔P):=Lib.hid h.out
section
variable {w : World} {A0 A1 : Option Addr} {m0 c0 r0 m1 c1 r1 : Nat} {fa fb g : Cfg → Bool}
theorem six_and (h0:Hid (Dn w A0 m0 c0 r0 fa)) (h1:Hid (Dn w A1 m1 c1 r1 fb)) (l0:Hid (Low 6 fa)) (l1:Hid (Low 6 fb)) (hin:Hid (Ins w 0)) (hg:Hid ((fun x=>fa x&&fb x)=g)) :
  Calls Tryz.prog 25 #[.agg #[.slice A0 m0 c0,.int .i64 (r0:Int)],.agg #[.slice A1 m1 c1,.int .i64 (r1:Int)]] w fun e w'=>BinOk w w' g e :=
 (and_ok m0 c0 m1 c1 r0 r1 A0 A1 fa fb w h0 h1 hin (hid (s4096 (Low.bin and l0.out l1.out))) (hid (pr6 (h0.out.s33 l0.out) (h1.out.s33 l1.out)))).mono fun _ _ h=>h.congr hg.out
theorem six_or (h0:Hid (Dn w A0 m0 c0 r0 fa)) (h1:Hid (Dn w A1 m1 c1 r1 fb)) (l0:Hid (Low 6 fa)) (l1:Hid (Low 6 fb)) (hin:Hid (Ins w 0)) (hg:Hid ((fun x=>fa x||fb x)=g)) :
  Calls Tryz.prog 26 #[.agg #[.slice A0 m0 c0,.int .i64 (r0:Int)],.agg #[.slice A1 m1 c1,.int .i64 (r1:Int)]] w fun e w'=>BinOk w w' g e :=
 (or_ok m0 c0 m1 c1 r0 r1 A0 A1 fa fb w h0 h1 hin (hid (s4096 (Low.bin or l0.out l1.out))) (hid (pr6 (h0.out.s33 l0.out) (h1.out.s33 l1.out)))).mono fun _ _ h=>h.congr hg.out
theorem six_not (h0:Hid (Dn w A0 m0 c0 r0 fa)) (hg:Hid ((fun x=>!fa x)=g)) :
  Calls Tryz.prog 27 #[.agg #[.slice A0 m0 c0,.int .i64 (r0:Int)]] w fun e w'=>BinOk w w' g e :=
 (not_ok m0 c0 r0 A0 fa w h0).mono fun _ _ h=>h.congr hg.out
end
end Go.Proofs.YtpaednfinlaioaaGreatDoor
