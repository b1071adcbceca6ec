/-
  Plain mathematics and contracts of package diagram, several texts in one: FMem, FEq, FPl.
-/
import Derived.Test.YtpaednfinlaioaaGreatDoorMb
import Derived.Test.YtpaednfinlaioaaGreatDoorFa
import Derived.RegionTactic
set_option maxHeartbeats 8000000
namespace Go.Proofs.YtpaednfinlaioaaGreatDoor
open Go.Lib (hid)
open Go.RowKit Dg
def Rf (w:World) (B:Nat) (A:Option Addr) (l:List Fi):Prop :=
 0<l.length→∃ b o,A=some ⟨b,o,none⟩∧b<B∧∀ j,j<l.length →
  w.cell? ⟨b,o+j*4,none⟩=some (.int .i64 (fo l j))∧w.cell? ⟨b,o+j*4+1,none⟩=some (.int .i64 (fv l j))∧w.cell? ⟨b,o+j*4+2,none⟩=some (.int .i64 (fa l j))∧w.cell? ⟨b,o+j*4+3,none⟩=some (.int .i64 (fb l j))
section
variable {w w' : World} {B B' : Nat} {A : Option Addr} {l : List Fi}
theorem Rf.nil:Rf w B A []:=fun h=>absurd h (by simp)
theorem Rf.mono (h:Rf w B A l) (hB:B≤B'):Rf w B' A l:=fun h0=>by
 obtain ⟨b,o,e,hb,hc⟩:=h h0
 exact ⟨b,o,e,by omega,hc⟩
theorem Rf.keep (h:Rf w B A l) (hk:∀ k,k<B→w'.heap[k]? = w.heap[k]?):Rf w' B A l:=fun h0=>by
 obtain ⟨b,o,e,hb,hc⟩:=h h0
 refine ⟨b,o,e,hb,fun j hj=>?_⟩
 obtain ⟨h1,h2,h3,h4⟩:=hc j hj
 refine ⟨?_,?_,?_,?_⟩
 ·rw [World.cell?_of_block (w:=w) (hk _ hb)];exact h1
 ·rw [World.cell?_of_block (w:=w) (hk _ hb)];exact h2
 ·rw [World.cell?_of_block (w:=w) (hk _ hb)];exact h3
 ·rw [World.cell?_of_block (w:=w) (hk _ hb)];exact h4
theorem Rf.below (h:Rf w B A l) (hb:Below B w w'):Rf w' B A l:=h.keep hb.block
end
theorem arity_any (o:Int) (w:World):Calls Tryz.prog 90 #[.int .i64 o] w fun e w'=>e=.returned (.int .i64 ((ar o:Nat):Int))∧w=w':=by
 by_cases h3:o=3
 ·subst h3
  go_enter Tryz.func90,Tryz.ntmps90
  go_wp2
  go_ret
  exact ⟨rfl,rfl⟩
 by_cases h4:o=4
 ·subst h4
  go_enter Tryz.func90,Tryz.ntmps90
  go_wp2
  go_ret
  exact ⟨rfl,rfl⟩
 by_cases h5:o=5
 ·subst h5
  go_enter Tryz.func90,Tryz.ntmps90
  go_wp2
  go_ret
  exact ⟨rfl,rfl⟩
 have b3:(o == 3)=false:=beq_eq_false_iff_ne.2 h3
 have b4:(o == 4)=false:=beq_eq_false_iff_ne.2 h4
 have b5:(o == 5)=false:=beq_eq_false_iff_ne.2 h5
 have e:ar o=0:=by unfold ar;rw [if_neg h3,if_neg h4,if_neg h5]
 rw [e]
 go_enter Tryz.func90,Tryz.ntmps90
 go_wp2
 go_ret
 exact ⟨rfl,rfl⟩
theorem run_eql_fn (w:World) (a b c d x y z u:Int) :
  (binOp .eql 58 (.agg #[.int .i64 a,.int .i64 b,.int .i64 c,.int .i64 d]) (.agg #[.int .i64 x,.int .i64 y,.int .i64 z,.int .i64 u])).run Tryz.prog w=.ok (.bool (a == x&&(b == y&&(c == z&&d == u)))) w:=by
 have hf:Tryz.prog.underlying 58=some (.struct (Tryz.prog.fieldsOf 58)):=by kernel_rfl
 have hfl : (Tryz.prog.fieldsOf 58).toList.map (fun f => (f.name, f.type, f.offset)) = [("Op", 3, 0), ("Var", 3, 1), ("A", 3, 2), ("B", 3, 3)] := by kernel_rfl
 have hs:Tryz.prog.stoodInHeld 58=false:=by kernel_rfl
 have hu:=Tryz.underlying3
 rw [run_eql_struct,run_equalIn_agg w 9999 _ _ _ hf hs]
 rcases hl:(Tryz.prog.fieldsOf 58).toList with _ | ⟨f0,_ | ⟨f1,_ | ⟨f2,_ | ⟨f3,_ | ⟨f4,fs⟩⟩⟩⟩⟩ <;> rw [hl] at hfl <;> simp at hfl
 obtain ⟨⟨n0,t0,o0⟩,⟨n1,t1,o1⟩,⟨n2,t2,o2⟩,⟨n3,t3,o3⟩⟩:=hfl
 have p0:∀ (w:World) (a b c d:Int),(part 3 #[Value.int .i64 a,.int .i64 b,.int .i64 c,.int .i64 d] 0).run Tryz.prog w=.ok (.int .i64 a) w:=fun w a b c d=>by kernel_rfl
 have p1:∀ (w:World) (a b c d:Int),(part 3 #[Value.int .i64 a,.int .i64 b,.int .i64 c,.int .i64 d] 1).run Tryz.prog w=.ok (.int .i64 b) w:=fun w a b c d=>by kernel_rfl
 have p2:∀ (w:World) (a b c d:Int),(part 3 #[Value.int .i64 a,.int .i64 b,.int .i64 c,.int .i64 d] 2).run Tryz.prog w=.ok (.int .i64 c) w:=fun w a b c d=>by kernel_rfl
 have p3:∀ (w:World) (a b c d:Int),(part 3 #[Value.int .i64 a,.int .i64 b,.int .i64 c,.int .i64 d] 3).run Tryz.prog w=.ok (.int .i64 d) w:=fun w a b c d=>by kernel_rfl
 have q:∀ (w:World) (a b:Int),(Op.equalIn 9999 3 (.int .i64 a) (.int .i64 b)).run Tryz.prog w=.ok (a == b) w:=fun w a b=>run_equalIn_int w 9998 _ _ _ a b hu
 simp only [Op.eqFields,n0,n1,n2,n3,t0,t1,t2,t3,o0,o1,o2,o3,ne_eq,not_false_eq_true,String.reduceEq,if_true,Sem.run_bind,p0,q,Result.andThen_ok]
 rcases h1:(a == x) with _ | _
 ·simp
 ·rcases h2:(b == y) with _ | _
  ·simp [p1,q,h2]
  ·rcases h3:(c == z) with _ | _
   ·simp [p1,p2,q,h2,h3]
   ·rcases h4:(d == u) with _ | _
    ·simp [p1,p2,p3,q,h2,h3,h4]
    ·simp [p1,p2,p3,q,h2,h3,h4]
set_option linter.unusedSimpArgs false
theorem plaus_any (o v a b:Int) (w:World) :
  Calls Tryz.prog 89 #[.agg #[.int .i64 o,.int .i64 v,.int .i64 a,.int .i64 b]] w fun e w'=>e=.returned (.bool (plN o v a b))∧Below w.heap.size w w':=by
 have hb0:=(Below.refl w.heap.size w).alloc (Nat.le_refl _) (.cells #[.int .i64 o,.int .i64 v,.int .i64 a,.int .i64 b] 58)
 have HB:=hid hb0
 clear hb0
 by_cases h1:o<0
 ·have e:plN o v a b=false:=by unfold plN;rw [decide_eq_false (show ¬ 0≤o by omega)];rfl
  rw [e]
  go_enter Tryz.func89,Tryz.ntmps89
  go_wp2
  go_ret
  exact ⟨rfl,HB.out⟩
 by_cases h2:5<o
 ·have e:plN o v a b=false:=by unfold plN;rw [decide_eq_false (show ¬ o≤5 by omega)];simp
  rw [e]
  go_enter Tryz.func89,Tryz.ntmps89
  go_wp2
  go_ret
  exact ⟨rfl,HB.out⟩
 by_cases h3:v<0
 ·have e:plN o v a b=false:=by unfold plN;rw [decide_eq_false (show ¬ 0≤v by omega)];simp
  rw [e]
  go_enter Tryz.func89,Tryz.ntmps89
  go_wp2
  go_ret
  exact ⟨rfl,HB.out⟩
 by_cases h4:64≤v
 ·have e:plN o v a b=false:=by unfold plN;rw [decide_eq_false (show ¬ v<64 by omega)];simp
  rw [e]
  go_enter Tryz.func89,Tryz.ntmps89
  go_wp2
  go_ret
  exact ⟨rfl,HB.out⟩
 have e0:decide (0≤v)=true:=decide_eq_true (by omega)
 have e1:decide (v<64)=true:=decide_eq_true (by omega)
 have hO:o=0∨o=1∨o=2∨o=3∨o=4∨o=5:=by omega
 rcases hO with rfl | rfl | rfl | rfl | rfl | rfl
 ·have heq:=fun W:World=>run_eql_fn W 0 v a b 0 0 0 0
  have e:plN 0 v a b=((0:Int) == 0&&(v == 0&&(a == 0&&b == 0))):=by simp [plN,ar,e0,e1,Bool.and_assoc];try rfl
  go_enter Tryz.func89,Tryz.ntmps89
  go_wp2
  go_ret
  refine ⟨?_,?_⟩
  ·first | rfl | exact ret_bool (by first | rfl | simp [e] | simp)
  ·first | exact HB.out.alloc (by simp) _ | exact (HB.out.alloc (by simp) _).setCell (by simp) _ | exact ((HB.out.alloc (by simp) _).setCell (by simp) _).setCell (by simp) _
 ·have heq:=fun W:World=>run_eql_fn W 1 v a b 1 0 0 0
  have e:plN 1 v a b=((1:Int) == 1&&(v == 0&&(a == 0&&b == 0))):=by simp [plN,ar,e0,e1,Bool.and_assoc];try rfl
  go_enter Tryz.func89,Tryz.ntmps89
  go_wp2
  go_ret
  refine ⟨?_,?_⟩
  ·first | rfl | exact ret_bool (by first | rfl | simp [e] | simp)
  ·first | exact HB.out.alloc (by simp) _ | exact (HB.out.alloc (by simp) _).setCell (by simp) _ | exact ((HB.out.alloc (by simp) _).setCell (by simp) _).setCell (by simp) _
 ·have heq:=fun W:World=>run_eql_fn W 2 v a b 2 v 0 0
  have e:plN 2 v a b=((2:Int) == 2&&(v == v&&(a == 0&&b == 0))):=by simp [plN,ar,e0,e1,Bool.and_assoc];try rfl
  go_enter Tryz.func89,Tryz.ntmps89
  go_wp2
  go_ret
  refine ⟨?_,?_⟩
  ·first | rfl | exact ret_bool (by first | rfl | simp [e] | simp)
  ·first | exact HB.out.alloc (by simp) _ | exact (HB.out.alloc (by simp) _).setCell (by simp) _ | exact ((HB.out.alloc (by simp) _).setCell (by simp) _).setCell (by simp) _
 ·have heq:=fun W:World=>run_eql_fn W 3 v a b 3 0 a 0
  have e:plN 3 v a b=((3:Int) == 3&&(v == 0&&(a == a&&b == 0))):=by simp [plN,ar,e0,e1,Bool.and_assoc];try rfl
  go_enter Tryz.func89,Tryz.ntmps89
  go_wp2
  go_ret
  refine ⟨?_,?_⟩
  ·first | rfl | exact ret_bool (by first | rfl | simp [e] | simp)
  ·first | exact HB.out.alloc (by simp) _ | exact (HB.out.alloc (by simp) _).setCell (by simp) _ | exact ((HB.out.alloc (by simp) _).setCell (by simp) _).setCell (by simp) _
 ·have heq:=fun W:World=>run_eql_fn W 4 v a b 4 0 a b
  have e:plN 4 v a b=((4:Int) == 4&&(v == 0&&(a == a&&b == b))):=by simp [plN,ar,e0,e1,Bool.and_assoc];try rfl
  go_enter Tryz.func89,Tryz.ntmps89
  go_wp2
  go_region
  all_goals go_wp2
  all_goals go_ret
  all_goals refine ⟨?_,?_⟩
  all_goals first | rfl | (exact ret_bool (by first | rfl | simp [e] | simp)) | exact (HB.out.alloc (by simp) _).drew | exact HB.out.alloc (by simp) _ | exact (HB.out.alloc (by simp) _).setCell (by simp) _ | exact ((HB.out.alloc (by simp) _).setCell (by simp) _).setCell (by simp) _
 ·have heq:=fun W:World=>run_eql_fn W 5 v a b 5 0 a b
  have e:plN 5 v a b=((5:Int) == 5&&(v == 0&&(a == a&&b == b))):=by simp [plN,ar,e0,e1,Bool.and_assoc];try rfl
  go_enter Tryz.func89,Tryz.ntmps89
  go_wp2
  go_region
  all_goals go_wp2
  all_goals go_ret
  all_goals refine ⟨?_,?_⟩
  all_goals first | rfl | (exact ret_bool (by first | rfl | simp [e] | simp)) | exact (HB.out.alloc (by simp) _).drew | exact HB.out.alloc (by simp) _ | exact (HB.out.alloc (by simp) _).setCell (by simp) _ | exact ((HB.out.alloc (by simp) _).setCell (by simp) _).setCell (by simp) _
def arI (o:Int):Int:=if 0≤o∧o≤5 then ((ar o:Nat):Int) else -1
theorem operands_any (o:Int) (w:World):Calls Tryz.prog 65 #[.int .i64 o] w fun e w'=>e=.returned (.int .i64 (arI o))∧w=w':=by
 by_cases h:0≤o∧o≤5
 ·have hO:o=0∨o=1∨o=2∨o=3∨o=4∨o=5:=by omega
  rcases hO with rfl | rfl | rfl | rfl | rfl | rfl
  all_goals
   go_enter Tryz.func65,Tryz.ntmps65
   go_wp2
   go_ret
   exact ⟨rfl,rfl⟩
 ·have e:arI o = -1:=by unfold arI;rw [if_neg h]
  rw [e]
  have b0:(o == 0)=false:=beq_eq_false_iff_ne.2 (by omega)
  have b1:(o == 1)=false:=beq_eq_false_iff_ne.2 (by omega)
  have b2:(o == 2)=false:=beq_eq_false_iff_ne.2 (by omega)
  have b3:(o == 3)=false:=beq_eq_false_iff_ne.2 (by omega)
  have b4:(o == 4)=false:=beq_eq_false_iff_ne.2 (by omega)
  have b5:(o == 5)=false:=beq_eq_false_iff_ne.2 (by omega)
  go_enter Tryz.func65,Tryz.ntmps65
  go_wp2
  go_ret
  exact ⟨rfl,rfl⟩
def ndB (o v a b:Int) (i:Nat):Bool:=plN o v a b&&opN o a b i
theorem node_any (o v a b:Int) (i:Nat) (w:World) :
  Calls Tryz.prog 64 #[.agg #[.int .i64 o,.int .i64 v,.int .i64 a,.int .i64 b],.int .i64 (i:Int)] w fun e w'=>e=.returned (.bool (ndB o v a b i))∧Below w.heap.size w w':=by
 have hb0:=(Below.refl w.heap.size w).alloc (Nat.le_refl _) (.cells #[.int .i64 o,.int .i64 v,.int .i64 a,.int .i64 b] 58)
 have HB:=hid hb0
 clear hb0
 have HO:=fun W=>operands_any o W
 by_cases h1:0≤o∧o≤5
 ·have hO:o=0∨o=1∨o=2∨o=3∨o=4∨o=5:=by omega
  rcases hO with rfl | rfl | rfl | rfl | rfl | rfl
  ·replace HO:∀ W,Calls Tryz.prog 65 #[.int .i64 0] W fun e w'=>e=.returned (.int .i64 0)∧W=w':=HO
   by_cases Hv0:¬ v=0
   ·skip
    have pv:(v != 0)=true:=by simp [Hv0]
    have e:ndB 0 v a b i=false:=by simp [ndB,plN,opN,ar];try omega
    rw [e]
    go_enter Tryz.func64,Tryz.ntmps64
    go_wp2_with (first | (go_at_call 65;refine (HO _).mono ?_;rintro e w3 ⟨rfl,rfl⟩))
    go_ret
    exact ⟨rfl,HB.out⟩
   have pv:(v != 0)=false:=by simp at Hv0;simp [Hv0]
   by_cases Ha0:¬ a=0
   ·skip
    have pa:(a != 0)=true:=by simp [Ha0]
    have e:ndB 0 v a b i=false:=by simp [ndB,plN,opN,ar];try omega
    rw [e]
    go_enter Tryz.func64,Tryz.ntmps64
    go_wp2_with (first | (go_at_call 65;refine (HO _).mono ?_;rintro e w3 ⟨rfl,rfl⟩))
    go_ret
    exact ⟨rfl,HB.out⟩
   have pa:(a != 0)=false:=by simp at Ha0;simp [Ha0]
   by_cases Hb0:¬ b=0
   ·skip
    have pb:(b != 0)=true:=by simp [Hb0]
    have e:ndB 0 v a b i=false:=by simp [ndB,plN,opN,ar];try omega
    rw [e]
    go_enter Tryz.func64,Tryz.ntmps64
    go_wp2_with (first | (go_at_call 65;refine (HO _).mono ?_;rintro e w3 ⟨rfl,rfl⟩))
    go_ret
    exact ⟨rfl,HB.out⟩
   have pb:(b != 0)=false:=by simp at Hb0;simp [Hb0]
   have e:ndB 0 v a b i=true:=by simp [ndB,plN,opN,ar];try omega
   rw [e]
   go_enter Tryz.func64,Tryz.ntmps64
   go_wp2_with (first | (go_at_call 65;refine (HO _).mono ?_;rintro e w3 ⟨rfl,rfl⟩))
   go_ret
   exact ⟨rfl,HB.out⟩
  ·replace HO:∀ W,Calls Tryz.prog 65 #[.int .i64 1] W fun e w'=>e=.returned (.int .i64 0)∧W=w':=HO
   by_cases Hv0:¬ v=0
   ·skip
    have pv:(v != 0)=true:=by simp [Hv0]
    have e:ndB 1 v a b i=false:=by simp [ndB,plN,opN,ar];try omega
    rw [e]
    go_enter Tryz.func64,Tryz.ntmps64
    go_wp2_with (first | (go_at_call 65;refine (HO _).mono ?_;rintro e w3 ⟨rfl,rfl⟩))
    go_ret
    exact ⟨rfl,HB.out⟩
   have pv:(v != 0)=false:=by simp at Hv0;simp [Hv0]
   by_cases Ha0:¬ a=0
   ·skip
    have pa:(a != 0)=true:=by simp [Ha0]
    have e:ndB 1 v a b i=false:=by simp [ndB,plN,opN,ar];try omega
    rw [e]
    go_enter Tryz.func64,Tryz.ntmps64
    go_wp2_with (first | (go_at_call 65;refine (HO _).mono ?_;rintro e w3 ⟨rfl,rfl⟩))
    go_ret
    exact ⟨rfl,HB.out⟩
   have pa:(a != 0)=false:=by simp at Ha0;simp [Ha0]
   by_cases Hb0:¬ b=0
   ·skip
    have pb:(b != 0)=true:=by simp [Hb0]
    have e:ndB 1 v a b i=false:=by simp [ndB,plN,opN,ar];try omega
    rw [e]
    go_enter Tryz.func64,Tryz.ntmps64
    go_wp2_with (first | (go_at_call 65;refine (HO _).mono ?_;rintro e w3 ⟨rfl,rfl⟩))
    go_ret
    exact ⟨rfl,HB.out⟩
   have pb:(b != 0)=false:=by simp at Hb0;simp [Hb0]
   have e:ndB 1 v a b i=true:=by simp [ndB,plN,opN,ar];try omega
   rw [e]
   go_enter Tryz.func64,Tryz.ntmps64
   go_wp2_with (first | (go_at_call 65;refine (HO _).mono ?_;rintro e w3 ⟨rfl,rfl⟩))
   go_ret
   exact ⟨rfl,HB.out⟩
  ·replace HO:∀ W,Calls Tryz.prog 65 #[.int .i64 2] W fun e w'=>e=.returned (.int .i64 0)∧W=w':=HO
   by_cases Hvn:v<0
   ·skip
    have e:ndB 2 v a b i=false:=by simp [ndB,plN,opN,ar];try omega
    rw [e]
    go_enter Tryz.func64,Tryz.ntmps64
    go_wp2_with (first | (go_at_call 65;refine (HO _).mono ?_;rintro e w3 ⟨rfl,rfl⟩))
    go_ret
    exact ⟨rfl,HB.out⟩
   by_cases Hvb:63<v
   ·skip
    have e:ndB 2 v a b i=false:=by simp [ndB,plN,opN,ar];try omega
    rw [e]
    go_enter Tryz.func64,Tryz.ntmps64
    go_wp2_with (first | (go_at_call 65;refine (HO _).mono ?_;rintro e w3 ⟨rfl,rfl⟩))
    go_ret
    exact ⟨rfl,HB.out⟩
   by_cases Ha0:¬ a=0
   ·skip
    have pa:(a != 0)=true:=by simp [Ha0]
    have e:ndB 2 v a b i=false:=by simp [ndB,plN,opN,ar];try omega
    rw [e]
    go_enter Tryz.func64,Tryz.ntmps64
    go_wp2_with (first | (go_at_call 65;refine (HO _).mono ?_;rintro e w3 ⟨rfl,rfl⟩))
    go_ret
    exact ⟨rfl,HB.out⟩
   have pa:(a != 0)=false:=by simp at Ha0;simp [Ha0]
   by_cases Hb0:¬ b=0
   ·skip
    have pb:(b != 0)=true:=by simp [Hb0]
    have e:ndB 2 v a b i=false:=by simp [ndB,plN,opN,ar];try omega
    rw [e]
    go_enter Tryz.func64,Tryz.ntmps64
    go_wp2_with (first | (go_at_call 65;refine (HO _).mono ?_;rintro e w3 ⟨rfl,rfl⟩))
    go_ret
    exact ⟨rfl,HB.out⟩
   have pb:(b != 0)=false:=by simp at Hb0;simp [Hb0]
   have e:ndB 2 v a b i=true:=by simp [ndB,plN,opN,ar];try omega
   rw [e]
   go_enter Tryz.func64,Tryz.ntmps64
   go_wp2_with (first | (go_at_call 65;refine (HO _).mono ?_;rintro e w3 ⟨rfl,rfl⟩))
   go_ret
   exact ⟨rfl,HB.out⟩
  ·replace HO:∀ W,Calls Tryz.prog 65 #[.int .i64 3] W fun e w'=>e=.returned (.int .i64 1)∧W=w':=HO
   by_cases Hv0:¬ v=0
   ·skip
    have pv:(v != 0)=true:=by simp [Hv0]
    have e:ndB 3 v a b i=false:=by simp [ndB,plN,opN,ar];try omega
    rw [e]
    go_enter Tryz.func64,Tryz.ntmps64
    go_wp2_with (first | (go_at_call 65;refine (HO _).mono ?_;rintro e w3 ⟨rfl,rfl⟩))
    go_ret
    exact ⟨rfl,HB.out⟩
   have pv:(v != 0)=false:=by simp at Hv0;simp [Hv0]
   by_cases Hb0:¬ b=0
   ·skip
    have pb:(b != 0)=true:=by simp [Hb0]
    have e:ndB 3 v a b i=false:=by simp [ndB,plN,opN,ar];try omega
    rw [e]
    go_enter Tryz.func64,Tryz.ntmps64
    go_wp2_with (first | (go_at_call 65;refine (HO _).mono ?_;rintro e w3 ⟨rfl,rfl⟩))
    go_ret
    exact ⟨rfl,HB.out⟩
   have pb:(b != 0)=false:=by simp at Hb0;simp [Hb0]
   by_cases Han:a<0
   ·skip
    have e:ndB 3 v a b i=false:=by simp [ndB,plN,opN,ar];try omega
    rw [e]
    go_enter Tryz.func64,Tryz.ntmps64
    go_wp2_with (first | (go_at_call 65;refine (HO _).mono ?_;rintro e w3 ⟨rfl,rfl⟩))
    go_ret
    exact ⟨rfl,HB.out⟩
   by_cases Hab:(i:Int)≤a
   ·skip
    have e:ndB 3 v a b i=false:=by simp [ndB,plN,opN,ar];try omega
    rw [e]
    go_enter Tryz.func64,Tryz.ntmps64
    go_wp2_with (first | (go_at_call 65;refine (HO _).mono ?_;rintro e w3 ⟨rfl,rfl⟩))
    go_ret
    exact ⟨rfl,HB.out⟩
   have e:ndB 3 v a b i=true:=by simp [ndB,plN,opN,ar];try omega
   rw [e]
   go_enter Tryz.func64,Tryz.ntmps64
   go_wp2_with (first | (go_at_call 65;refine (HO _).mono ?_;rintro e w3 ⟨rfl,rfl⟩))
   go_ret
   exact ⟨rfl,HB.out⟩
  ·replace HO:∀ W,Calls Tryz.prog 65 #[.int .i64 4] W fun e w'=>e=.returned (.int .i64 2)∧W=w':=HO
   by_cases Hv0:¬ v=0
   ·skip
    have pv:(v != 0)=true:=by simp [Hv0]
    have e:ndB 4 v a b i=false:=by simp [ndB,plN,opN,ar];try omega
    rw [e]
    go_enter Tryz.func64,Tryz.ntmps64
    go_wp2_with (first | (go_at_call 65;refine (HO _).mono ?_;rintro e w3 ⟨rfl,rfl⟩))
    go_ret
    exact ⟨rfl,HB.out⟩
   have pv:(v != 0)=false:=by simp at Hv0;simp [Hv0]
   by_cases Han:a<0
   ·skip
    have e:ndB 4 v a b i=false:=by simp [ndB,plN,opN,ar];try omega
    rw [e]
    go_enter Tryz.func64,Tryz.ntmps64
    go_wp2_with (first | (go_at_call 65;refine (HO _).mono ?_;rintro e w3 ⟨rfl,rfl⟩))
    go_ret
    exact ⟨rfl,HB.out⟩
   by_cases Hab:(i:Int)≤a
   ·skip
    have e:ndB 4 v a b i=false:=by simp [ndB,plN,opN,ar];try omega
    rw [e]
    go_enter Tryz.func64,Tryz.ntmps64
    go_wp2_with (first | (go_at_call 65;refine (HO _).mono ?_;rintro e w3 ⟨rfl,rfl⟩))
    go_ret
    exact ⟨rfl,HB.out⟩
   by_cases Hbn:b<0
   ·skip
    have e:ndB 4 v a b i=false:=by simp [ndB,plN,opN,ar];try omega
    rw [e]
    go_enter Tryz.func64,Tryz.ntmps64
    go_wp2_with (first | (go_at_call 65;refine (HO _).mono ?_;rintro e w3 ⟨rfl,rfl⟩))
    go_ret
    exact ⟨rfl,HB.out⟩
   by_cases Hbb:(i:Int)≤b
   ·skip
    have e:ndB 4 v a b i=false:=by simp [ndB,plN,opN,ar];try omega
    rw [e]
    go_enter Tryz.func64,Tryz.ntmps64
    go_wp2_with (first | (go_at_call 65;refine (HO _).mono ?_;rintro e w3 ⟨rfl,rfl⟩))
    go_ret
    exact ⟨rfl,HB.out⟩
   have e:ndB 4 v a b i=true:=by simp [ndB,plN,opN,ar];try omega
   rw [e]
   go_enter Tryz.func64,Tryz.ntmps64
   go_wp2_with (first | (go_at_call 65;refine (HO _).mono ?_;rintro e w3 ⟨rfl,rfl⟩))
   go_ret
   exact ⟨rfl,HB.out⟩
  ·replace HO:∀ W,Calls Tryz.prog 65 #[.int .i64 5] W fun e w'=>e=.returned (.int .i64 2)∧W=w':=HO
   by_cases Hv0:¬ v=0
   ·skip
    have pv:(v != 0)=true:=by simp [Hv0]
    have e:ndB 5 v a b i=false:=by simp [ndB,plN,opN,ar];try omega
    rw [e]
    go_enter Tryz.func64,Tryz.ntmps64
    go_wp2_with (first | (go_at_call 65;refine (HO _).mono ?_;rintro e w3 ⟨rfl,rfl⟩))
    go_ret
    exact ⟨rfl,HB.out⟩
   have pv:(v != 0)=false:=by simp at Hv0;simp [Hv0]
   by_cases Han:a<0
   ·skip
    have e:ndB 5 v a b i=false:=by simp [ndB,plN,opN,ar];try omega
    rw [e]
    go_enter Tryz.func64,Tryz.ntmps64
    go_wp2_with (first | (go_at_call 65;refine (HO _).mono ?_;rintro e w3 ⟨rfl,rfl⟩))
    go_ret
    exact ⟨rfl,HB.out⟩
   by_cases Hab:(i:Int)≤a
   ·skip
    have e:ndB 5 v a b i=false:=by simp [ndB,plN,opN,ar];try omega
    rw [e]
    go_enter Tryz.func64,Tryz.ntmps64
    go_wp2_with (first | (go_at_call 65;refine (HO _).mono ?_;rintro e w3 ⟨rfl,rfl⟩))
    go_ret
    exact ⟨rfl,HB.out⟩
   by_cases Hbn:b<0
   ·skip
    have e:ndB 5 v a b i=false:=by simp [ndB,plN,opN,ar];try omega
    rw [e]
    go_enter Tryz.func64,Tryz.ntmps64
    go_wp2_with (first | (go_at_call 65;refine (HO _).mono ?_;rintro e w3 ⟨rfl,rfl⟩))
    go_ret
    exact ⟨rfl,HB.out⟩
   by_cases Hbb:(i:Int)≤b
   ·skip
    have e:ndB 5 v a b i=false:=by simp [ndB,plN,opN,ar];try omega
    rw [e]
    go_enter Tryz.func64,Tryz.ntmps64
    go_wp2_with (first | (go_at_call 65;refine (HO _).mono ?_;rintro e w3 ⟨rfl,rfl⟩))
    go_ret
    exact ⟨rfl,HB.out⟩
   have e:ndB 5 v a b i=true:=by simp [ndB,plN,opN,ar];try omega
   rw [e]
   go_enter Tryz.func64,Tryz.ntmps64
   go_wp2_with (first | (go_at_call 65;refine (HO _).mono ?_;rintro e w3 ⟨rfl,rfl⟩))
   go_ret
   exact ⟨rfl,HB.out⟩
 ·have e:ndB o v a b i=false:=by
   unfold ndB plN
   by_cases h2:0≤o
   ·rw [decide_eq_false (show ¬ o≤5 by omega)];simp
   ·rw [decide_eq_false h2];simp
  have e2:arI o = -1:=by unfold arI;rw [if_neg h1]
  rw [e2] at HO
  rw [e]
  go_enter Tryz.func64,Tryz.ntmps64
  go_wp2_with (first | (go_at_call 65;refine (HO _).mono ?_;rintro e w3 ⟨rfl,rfl⟩))
  go_ret
  exact ⟨rfl,HB.out⟩
end Go.Proofs.YtpaednfinlaioaaGreatDoor
