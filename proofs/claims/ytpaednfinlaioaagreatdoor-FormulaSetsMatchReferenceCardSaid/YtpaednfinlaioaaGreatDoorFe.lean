/-
  Plain mathematics and contracts of package diagram, several texts in one: FStr, FNam, FVnm, FRnm, FPr1.
-/
import Derived.Test.YtpaednfinlaioaaGreatDoorFd
import Derived.BigQuiet
import Derived.Deep.QuietTactic
set_option maxHeartbeats 4000000
set_option maxRecDepth 100000
namespace Go.Proofs.YtpaednfinlaioaaGreatDoor
open Go.Lib (hid)
open Go.RowKit Dg St
set_option linter.unusedVariables false
set_option linter.unusedSimpArgs false
attribute [local go_sem ↓] Go.wp_at_zero Go.wp_at_succ
def by8 (s:ByteArray) (k:Nat):Nat:=if h:k<s.size then (s[k]'h).toNat else 0
theorem get_by8 (s:ByteArray):∀ (n:Nat) (h:n<s.size),((s[n]'h).toNat:Int)=((by8 s n:Nat):Int):=fun n h=>by unfold by8;rw [dif_pos h]
def ltr (b:Nat):Prop:=(97≤b∧b≤122)∨(65≤b∧b≤90)∨b=95
def dgt (b:Nat):Prop:=48≤b∧b≤57
instance (b:Nat):Decidable (ltr b):=by unfold ltr;infer_instance
instance (b:Nat):Decidable (dgt b):=by unfold dgt;infer_instance
def okb (s:ByteArray) (k:Nat):Prop:=ltr (by8 s k)∨(0<k∧dgt (by8 s k))
instance (s:ByteArray) (k:Nat):Decidable (okb s k):=by unfold okb;infer_instance
def IsWl (s:ByteArray) (n:Nat):Prop:=n≤s.size∧(∀ k,k<n→okb s k)∧(n<s.size→¬ okb s n)
def idS (s:ByteArray):Prop:=0<s.size∧∀ k,k<s.size→okb s k
instance (s:ByteArray):Decidable (idS s):=by unfold idS;infer_instance
theorem wl_all {s:ByteArray} {n:Nat} (h:IsWl s n) (hs:0<s.size):n=s.size↔idS s:=by
 constructor
 ·rintro e
  subst e
  exact ⟨hs,h.2.1⟩
 ·intro q
  rcases Nat.lt_or_ge n s.size with g | g
  ·exact absurd (q.2 n g) (h.2.2 g)
  ·exact Nat.le_antisymm h.1 g
theorem flet (b:Nat) (w:World):Calls Tryz.prog 107 #[.int .u8 (b:Int)] w fun e w'=>e=.returned (.bool (decide (ltr b)))∧w=w':=by
 by_cases h1:97≤b
 ·have i1:(97:Int)≤(b:Int):=by omega
  by_cases h2:b≤122
  ·have i2:(b:Int)≤122:=by omega
   rw [decide_eq_true (show ltr b from .inl ⟨h1,h2⟩)]
   go_enter Tryz.func107,Tryz.ntmps107
   go_wp2
   go_ret
   exact ⟨rfl,rfl⟩
  ·have i2:¬ (b:Int)≤122:=by omega
   have i3:(65:Int)≤(b:Int):=by omega
   have i4:¬ (b:Int)≤90:=by omega
   have i5:((b:Int) == 95)=false:=beq_eq_false_iff_ne.2 (by omega)
   rw [decide_eq_false (show ¬ ltr b by unfold ltr;omega)]
   go_enter Tryz.func107,Tryz.ntmps107
   go_wp2
   go_ret
   exact ⟨rfl,rfl⟩
 ·have i1:¬ (97:Int)≤(b:Int):=by omega
  by_cases h3:65≤b
  ·have i3:(65:Int)≤(b:Int):=by omega
   by_cases h4:b≤90
   ·have i4:(b:Int)≤90:=by omega
    rw [decide_eq_true (show ltr b from .inr (.inl ⟨h3,h4⟩))]
    go_enter Tryz.func107,Tryz.ntmps107
    go_wp2
    go_ret
    exact ⟨rfl,rfl⟩
   ·have i4:¬ (b:Int)≤90:=by omega
    by_cases h5:b=95
    ·have i5:((b:Int) == 95)=true:=beq_iff_eq.2 (by omega)
     rw [decide_eq_true (show ltr b from .inr (.inr h5))]
     go_enter Tryz.func107,Tryz.ntmps107
     go_wp2
     go_ret
     exact ⟨rfl,rfl⟩
    ·have i5:((b:Int) == 95)=false:=beq_eq_false_iff_ne.2 (by omega)
     rw [decide_eq_false (show ¬ ltr b by unfold ltr;omega)]
     go_enter Tryz.func107,Tryz.ntmps107
     go_wp2
     go_ret
     exact ⟨rfl,rfl⟩
  ·have i3:¬ (65:Int)≤(b:Int):=by omega
   have i5:((b:Int) == 95)=false:=beq_eq_false_iff_ne.2 (by omega)
   rw [decide_eq_false (show ¬ ltr b by unfold ltr;omega)]
   go_enter Tryz.func107,Tryz.ntmps107
   go_wp2
   go_ret
   exact ⟨rfl,rfl⟩
theorem rlet (b:Nat) (w:World):Calls Tryz.prog 109 #[.int .u8 (b:Int)] w fun e w'=>e=.returned (.bool (decide (ltr b)))∧w=w':=by
 by_cases h1:97≤b
 ·have i1:(97:Int)≤(b:Int):=by omega
  by_cases h2:b≤122
  ·have i2:(b:Int)≤122:=by omega
   rw [decide_eq_true (show ltr b from .inl ⟨h1,h2⟩)]
   go_enter Tryz.func109,Tryz.ntmps109
   go_wp2
   go_ret
   exact ⟨rfl,rfl⟩
  ·have i2:¬ (b:Int)≤122:=by omega
   have i3:(65:Int)≤(b:Int):=by omega
   have i4:¬ (b:Int)≤90:=by omega
   have i5:((b:Int) == 95)=false:=beq_eq_false_iff_ne.2 (by omega)
   rw [decide_eq_false (show ¬ ltr b by unfold ltr;omega)]
   go_enter Tryz.func109,Tryz.ntmps109
   go_wp2
   go_ret
   exact ⟨rfl,rfl⟩
 ·have i1:¬ (97:Int)≤(b:Int):=by omega
  by_cases h3:65≤b
  ·have i3:(65:Int)≤(b:Int):=by omega
   by_cases h4:b≤90
   ·have i4:(b:Int)≤90:=by omega
    rw [decide_eq_true (show ltr b from .inr (.inl ⟨h3,h4⟩))]
    go_enter Tryz.func109,Tryz.ntmps109
    go_wp2
    go_ret
    exact ⟨rfl,rfl⟩
   ·have i4:¬ (b:Int)≤90:=by omega
    by_cases h5:b=95
    ·have i5:((b:Int) == 95)=true:=beq_iff_eq.2 (by omega)
     rw [decide_eq_true (show ltr b from .inr (.inr h5))]
     go_enter Tryz.func109,Tryz.ntmps109
     go_wp2
     go_ret
     exact ⟨rfl,rfl⟩
    ·have i5:((b:Int) == 95)=false:=beq_eq_false_iff_ne.2 (by omega)
     rw [decide_eq_false (show ¬ ltr b by unfold ltr;omega)]
     go_enter Tryz.func109,Tryz.ntmps109
     go_wp2
     go_ret
     exact ⟨rfl,rfl⟩
  ·have i3:¬ (65:Int)≤(b:Int):=by omega
   have i5:((b:Int) == 95)=false:=beq_eq_false_iff_ne.2 (by omega)
   rw [decide_eq_false (show ¬ ltr b by unfold ltr;omega)]
   go_enter Tryz.func109,Tryz.ntmps109
   go_wp2
   go_ret
   exact ⟨rfl,rfl⟩
theorem fdig (b:Nat) (w:World):Calls Tryz.prog 108 #[.int .u8 (b:Int)] w fun e w'=>e=.returned (.bool (decide (dgt b)))∧w=w':=by
 by_cases h1:48≤b
 ·have i1:(48:Int)≤(b:Int):=by omega
  by_cases h2:b≤57
  ·have i2:(b:Int)≤57:=by omega
   rw [decide_eq_true (show dgt b from ⟨h1,h2⟩)]
   go_enter Tryz.func108,Tryz.ntmps108
   go_wp2
   go_ret
   exact ⟨rfl,rfl⟩
  ·have i2:¬ (b:Int)≤57:=by omega
   rw [decide_eq_false (show ¬ dgt b by unfold dgt;omega)]
   go_enter Tryz.func108,Tryz.ntmps108
   go_wp2
   go_ret
   exact ⟨rfl,rfl⟩
 ·have i1:¬ (48:Int)≤(b:Int):=by omega
  rw [decide_eq_false (show ¬ dgt b by unfold dgt;omega)]
  go_enter Tryz.func108,Tryz.ntmps108
  go_wp2
  go_ret
  exact ⟨rfl,rfl⟩
theorem wordlen (s:ByteArray) (w:World) (hs:s.size≤9223372036854775807):Calls Tryz.prog 85 #[.string s] w fun e w'=>(∃ n:Nat,e=.returned (.int .i64 (n:Int))∧IsWl s n)∧w=w':=by
 have hget:=get_by8 s
 go_enter Tryz.func85,Tryz.ntmps85
 go_wp2
 go_loopw [3] (fun i wr=>∃ k:Nat,k≤s.size∧i=.int .i64 (k:Int)∧wr=w∧Hid (∀ j,j<k→okb s j)) (fun i _=>s.size - (intOf i).toNat)
 case atStart=>exact ⟨0,Nat.zero_le _,rfl,rfl,hid (fun j hj=>by omega)⟩
 case round =>
  obtain ⟨k,hk,rfl,rfl,hok⟩:=hrel
  by_cases hlt:k<s.size
  ·have i1:(0:Int)≤(k:Int):=by omega
   have i2:(k:Int)<(s.size:Int):=by omega
   have HL:=fun W=>flet (by8 s k) W
   have HD:=fun W=>fdig (by8 s k) W
   have hnext:∀ (h:okb s k),Hid (∀ j,j<k+1→okb s j):=fun h=>hid (fun j hj=>by
    by_cases e:j=k
    ·subst e;exact h
    ·exact hok.out j (by omega))
   have hend:∀ (h:¬ okb s k),Hid (IsWl s k):=fun h=>hid ⟨hk,hok.out,fun _=>h⟩
   have HX:=hid hnext
   have HE:=hid hend
   clear hnext hend
   by_cases h1:ltr (by8 s k)
   ·rw [decide_eq_true h1] at HL
    have HOK:=HX.out (.inl h1)
    clear h1 HX HE HD
    go_wp2_with (first | (go_at_call 107;with_reducible refine (HL _).mono ?_;rintro e w3 ⟨rfl,rfl⟩))
    go_roundw
    case rel=>exact ⟨k+1,by omega,by go_num,by first | rfl | trivial,HOK⟩
    case measure=>simp [intOf];omega
   ·rw [decide_eq_false h1] at HL
    by_cases h0:0<k
    ·have i3:(0:Int)<(k:Int):=by omega
     by_cases h2:dgt (by8 s k)
     ·rw [decide_eq_true h2] at HD
      have HOK:=HX.out (.inr ⟨h0,h2⟩)
      clear h1 h2 HX HE
      go_wp2_with (first | (go_at_call 107;with_reducible refine (HL _).mono ?_;rintro e w3 ⟨rfl,rfl⟩) | (go_at_call 108;with_reducible refine (HD _).mono ?_;rintro e w3 ⟨rfl,rfl⟩))
      go_roundw
      case rel=>exact ⟨k+1,by omega,by go_num,by first | rfl | trivial,HOK⟩
      case measure=>simp [intOf];omega
     ·rw [decide_eq_false h2] at HD
      have HOK:=HE.out (fun q=>q.elim h1 (fun r=>h2 r.2))
      clear h1 h2 HX HE
      go_wp2_with (first | (go_at_call 107;with_reducible refine (HL _).mono ?_;rintro e w3 ⟨rfl,rfl⟩) | (go_at_call 108;with_reducible refine (HD _).mono ?_;rintro e w3 ⟨rfl,rfl⟩))
      go_ret
      exact ⟨⟨k,rfl,HOK.out⟩,by first | rfl | trivial⟩
    ·have i3:¬ (0:Int)<(k:Int):=by omega
     have HOK:=HE.out (fun q=>q.elim h1 (fun r=>h0 r.1))
     clear h1 HX HE HD
     go_wp2_with (first | (go_at_call 107;with_reducible refine (HL _).mono ?_;rintro e w3 ⟨rfl,rfl⟩))
     go_ret
     exact ⟨⟨k,rfl,HOK.out⟩,by first | rfl | trivial⟩
  ·have i2:¬ (k:Int)<(s.size:Int):=by omega
   have HOK:Hid (IsWl s k):=hid ⟨hk,hok.out,fun q=>absurd q hlt⟩
   go_wp2
   go_ret
   exact ⟨⟨k,rfl,HOK.out⟩,by first | rfl | trivial⟩
theorem ident_any (s:ByteArray) (w:World) (hs:s.size≤9223372036854775807):Calls Tryz.prog 86 #[.string s] w fun e w'=>e=.returned (.bool (decide (idS s)))∧w=w':=by
 have hget:=get_by8 s
 go_enter Tryz.func86,Tryz.ntmps86
 go_wp2
 go_loopw [3] (fun i wr=>∃ k:Nat,k≤s.size∧i=.int .i64 (k:Int)∧wr=w∧Hid (∀ j,j<k→okb s j)) (fun i _=>s.size - (intOf i).toNat)
 case atStart=>exact ⟨0,Nat.zero_le _,rfl,rfl,hid (fun j hj=>by omega)⟩
 case round =>
  obtain ⟨k,hk,rfl,rfl,hok⟩:=hrel
  by_cases hlt:k<s.size
  ·have i1:(0:Int)≤(k:Int):=by omega
   have i2:(k:Int)<(s.size:Int):=by omega
   have HL:=fun W=>rlet (by8 s k) W
   have hnext:∀ (h:okb s k),Hid (∀ j,j<k+1→okb s j):=fun h=>hid (fun j hj=>by
    by_cases e:j=k
    ·subst e;exact h
    ·exact hok.out j (by omega))
   have hend:∀ (h:¬ okb s k),Hid (¬ idS s):=fun h=>hid (fun q=>h (q.2 k hlt))
   have HX:=hid hnext
   have HE:=hid hend
   clear hnext hend
   by_cases h1:ltr (by8 s k)
   ·rw [decide_eq_true h1] at HL
    have HOK:=HX.out (.inl h1)
    clear h1 HX HE
    go_wp2_with (first | (go_at_call 109;with_reducible refine (HL _).mono ?_;rintro e w3 ⟨rfl,rfl⟩))
    go_roundw
    case rel=>exact ⟨k+1,by omega,by go_num,by first | rfl | trivial,HOK⟩
    case measure=>simp [intOf];omega
   ·rw [decide_eq_false h1] at HL
    by_cases h0:k=0
    ·subst h0
     have i0:(0:Int)<(s.size:Int):=by omega
     have i00:0<s.size:=hlt
     have HOK:=HE.out (fun q=>q.elim h1 (fun r=>by omega))
     clear h1 HX HE i1 i2
     go_wp2_with (first | (go_at_call 109;with_reducible refine (HL _).mono ?_;rintro e w3 ⟨rfl,rfl⟩))
     go_ret
     exact ⟨ret_bool (decide_eq_false HOK.out).symm,by first | rfl | trivial⟩
    ·have i3:((k:Int) == 0)=false:=beq_eq_false_iff_ne.2 (by omega)
     by_cases h2:by8 s k<48
     ·have i4:((by8 s k:Nat):Int)<48:=by omega
      have HOK:=HE.out (fun q=>q.elim h1 (fun r=>by have:=r.2.1;omega))
      clear h1 HX HE h2
      go_wp2_with (first | (go_at_call 109;with_reducible refine (HL _).mono ?_;rintro e w3 ⟨rfl,rfl⟩))
      go_ret
      exact ⟨ret_bool (decide_eq_false HOK.out).symm,by first | rfl | trivial⟩
     ·have i4:¬ ((by8 s k:Nat):Int)<48:=by omega
      by_cases h3:57<by8 s k
      ·have i5:(57:Int)<((by8 s k:Nat):Int):=by omega
       have HOK:=HE.out (fun q=>q.elim h1 (fun r=>by have:=r.2.2;omega))
       clear h1 HX HE h2 h3
       go_wp2_with (first | (go_at_call 109;with_reducible refine (HL _).mono ?_;rintro e w3 ⟨rfl,rfl⟩))
       go_ret
       exact ⟨ret_bool (decide_eq_false HOK.out).symm,by first | rfl | trivial⟩
      ·have i5:¬ (57:Int)<((by8 s k:Nat):Int):=by omega
       have HOK:=HX.out (.inr ⟨by omega,by unfold dgt;omega⟩)
       clear h1 HX HE h2 h3
       go_wp2_with (first | (go_at_call 109;with_reducible refine (HL _).mono ?_;rintro e w3 ⟨rfl,rfl⟩))
       go_roundw
       case rel=>exact ⟨k+1,by omega,by go_num,by first | rfl | trivial,HOK⟩
       case measure=>simp [intOf];omega
  ·have i2:¬ (k:Int)<(s.size:Int):=by omega
   obtain rfl:k=s.size:=by omega
   by_cases h0:0<s.size
   ·have i3:(0:Int)<(s.size:Int):=by omega
    have HOK:Hid (idS s):=hid ⟨h0,hok.out⟩
    go_wp2
    go_ret
    exact ⟨ret_bool (decide_eq_true HOK.out).symm,by first | rfl | trivial⟩
   ·have i3:¬ (0:Int)<(s.size:Int):=by omega
    have HOK:Hid (¬ idS s):=hid (fun q=>h0 q.1)
    go_wp2
    go_ret
    exact ⟨ret_bool (decide_eq_false HOK.out).symm,by first | rfl | trivial⟩
set_option linter.unusedVariables false
set_option linter.unusedSimpArgs false
attribute [local go_sem ↓] Go.wp_at_zero Go.wp_at_succ
theorem tl_inj {s t:ByteArray} (h:s.toList=t.toList):s=t:=by
 rw [ByteArray.toList_eq,ByteArray.toList_eq] at h
 cases s;cases t
 congr 1
 exact Array.toList_inj.1 h
def sg (L:List ByteArray) (k:Nat):ByteArray:=L.getD k ByteArray.empty
def Rstr (w:World) (B:Nat) (A:Option Addr) (L:List ByteArray):Prop :=
 0<L.length→∃ b o,A=some ⟨b,o,none⟩∧b<B∧∀ j,j<L.length→w.cell? ⟨b,o+j,none⟩=some (.string (sg L j))
theorem Rstr.keep {w w':World} {B:Nat} {A:Option Addr} {L:List ByteArray} (h:Rstr w B A L) (hk:∀ k,k<B→w'.heap[k]? = w.heap[k]?):Rstr w' B A L:=fun h0=>by
 obtain ⟨b,o,e,hb,hc⟩:=h h0
 refine ⟨b,o,e,hb,fun j hj=>?_⟩
 rw [World.cell?_of_block (w:=w) (hk _ hb)];exact hc j hj
theorem Rstr.below {w w':World} {B:Nat} {A:Option Addr} {L:List ByteArray} (h:Rstr w B A L) (hb:Below B w w'):Rstr w' B A L:=h.keep hb.block
theorem Rstr.mono {w:World} {B B':Nat} {A:Option Addr} {L:List ByteArray} (h:Rstr w B A L) (hB:B≤B'):Rstr w B' A L:=fun h0=>by
 obtain ⟨b,o,e,hb,hc⟩:=h h0
 exact ⟨b,o,e,by omega,hc⟩
def IsIx (L:List ByteArray) (n:Nat) (s:ByteArray) (r:Int):Prop:=(r = -1∧∀ j,j<n→sg L j≠s)∨(∃ k:Nat,k<n∧r=(k:Int)∧sg L k=s∧∀ j,j<k→sg L j≠s)
def hasS (L:List ByteArray) (n:Nat) (s:ByteArray):Prop:=∃ j,j<n∧sg L j=s
instance (L:List ByteArray) (n:Nat) (s:ByteArray):Decidable (hasS L n s):=by unfold hasS;infer_instance
theorem IsIx.has {L:List ByteArray} {n:Nat} {s:ByteArray} {r:Int} (h:IsIx L n s r):decide (0≤r)=decide (hasS L n s):=by
 rcases h with ⟨rfl,h⟩ | ⟨k,hk,rfl,e,_⟩
 ·rw [decide_eq_false (by decide),decide_eq_false]
  rintro ⟨j,hj,e⟩
  exact h j hj e
 ·rw [decide_eq_true (by omega),decide_eq_true]
  exact ⟨k,hk,e⟩
theorem findex_some (b o c n:Nat) (L:List ByteArray) (s:ByteArray) (w:World) (hn:n≤L.length) (hL:L.length≤1000000) (hr:Hid (Rstr w w.heap.size (some ⟨b,o,none⟩) L)) :
  Calls Tryz.prog 106 #[.slice (some ⟨b,o,none⟩) n c,.string s] w fun e w'=>(∃ r,e=.returned (.int .i64 r)∧IsIx L n s r)∧w=w':=by
 go_enter Tryz.func106,Tryz.ntmps106
 go_wp2
 go_loopw [8] (fun i wr=>∃ k:Nat,k≤n∧i=.int .i64 k∧wr=w∧Hid (∀ j,j<k→sg L j≠s)) (fun i _=>n - (intOf i).toNat)
 case atStart=>exact ⟨0,Nat.zero_le _,rfl,rfl,hid (fun j hj=>by omega)⟩
 case round =>
  obtain ⟨k,hk,rfl,rfl,hok⟩:=hrel
  by_cases hlt:k<n
  ·have i1:(0:Int)≤(k:Int):=by omega
   have i2:(k:Int)<(n:Int):=by omega
   obtain ⟨b',o',e,hb,hc⟩:=hr.out (by omega)
   injection e with e
   injection e with e1 e2
   subst e1
   subst e2
   have d0:=hc k (by omega)
   clear hc
   by_cases q:sg L k=s
   ·have HI:Hid (IsIx L n s (k:Int)):=hid (.inr ⟨k,hlt,rfl,q,hok.out⟩)
    go_wp2
    go_ret
    exact ⟨⟨_,rfl,HI.out⟩,by first | rfl | trivial⟩
   ·have HOK:Hid (∀ j,j<k+1→sg L j≠s):=hid (fun j hj=>by
     by_cases e:j=k
     ·subst e;exact q
     ·exact hok.out j (by omega))
    have q1:(s.toList == (sg L k).toList)=false:=beq_eq_false_iff_ne.2 (fun e=>q (tl_inj e).symm)
    have q2:((sg L k).toList == s.toList)=false:=beq_eq_false_iff_ne.2 (fun e=>q (tl_inj e))
    go_wp2
    go_roundw
    case rel=>exact ⟨k+1,by omega,by go_num,by first | rfl | trivial,HOK⟩
    case measure=>simp [intOf];omega
  ·obtain rfl:k=n:=by omega
   have HI:Hid (IsIx L k s (-1)):=hid (.inl ⟨rfl,hok.out⟩)
   go_wp2
   go_ret
   exact ⟨⟨_,rfl,HI.out⟩,by first | rfl | trivial⟩
theorem findex_none (A:Option Addr) (c:Nat) (L:List ByteArray) (s:ByteArray) (w:World) :
  Calls Tryz.prog 106 #[.slice A 0 c,.string s] w fun e w'=>(∃ r,e=.returned (.int .i64 r)∧IsIx L 0 s r)∧w=w':=by
 have HI:Hid (IsIx L 0 s (-1)):=hid (.inl ⟨rfl,fun j hj=>by omega⟩)
 go_enter Tryz.func106,Tryz.ntmps106
 go_wp2
 go_rounds 1
 go_ret
 exact ⟨⟨_,rfl,HI.out⟩,by first | rfl | trivial⟩
theorem findex (A:Option Addr) (c n:Nat) (L:List ByteArray) (s:ByteArray) (w:World) (hn:n≤L.length) (hL:L.length≤1000000) (hr:Hid (Rstr w w.heap.size A L)) :
  Calls Tryz.prog 106 #[.slice A n c,.string s] w fun e w'=>(∃ r,e=.returned (.int .i64 r)∧IsIx L n s r)∧w=w':=by
 rcases Nat.eq_zero_or_pos n with h0 | h0
 ·subst h0
  exact findex_none A c L s w
 ·obtain ⟨b,o,e,_,_⟩:=hr.out (by omega)
  subst e
  exact findex_some b o c n L s w hn hL hr
theorem qindex_some (b o c n:Nat) (L:List ByteArray) (s:ByteArray) (w:World) (hn:n≤L.length) (hL:L.length≤1000000) (hr:Hid (Rstr w w.heap.size (some ⟨b,o,none⟩) L)) :
  Calls Tryz.prog 87 #[.slice (some ⟨b,o,none⟩) n c,.string s] w fun e w'=>(∃ r,e=.returned (.int .i64 r)∧IsIx L n s r)∧w=w':=by
 go_enter Tryz.func87,Tryz.ntmps87
 go_wp2
 go_loopw [5] (fun i wr=>∃ k:Nat,k≤n∧i=.int .i64 k∧wr=w∧Hid (∀ j,j<k→sg L j≠s)) (fun i _=>n - (intOf i).toNat)
 case atStart=>exact ⟨0,Nat.zero_le _,rfl,rfl,hid (fun j hj=>by omega)⟩
 case round =>
  obtain ⟨k,hk,rfl,rfl,hok⟩:=hrel
  by_cases hlt:k<n
  ·have i1:(0:Int)≤(k:Int):=by omega
   have i2:(k:Int)<(n:Int):=by omega
   obtain ⟨b',o',e,hb,hc⟩:=hr.out (by omega)
   injection e with e
   injection e with e1 e2
   subst e1
   subst e2
   have d0:=hc k (by omega)
   clear hc
   by_cases q:sg L k=s
   ·have HI:Hid (IsIx L n s (k:Int)):=hid (.inr ⟨k,hlt,rfl,q,hok.out⟩)
    go_wp2
    go_ret
    exact ⟨⟨_,rfl,HI.out⟩,by first | rfl | trivial⟩
   ·have HOK:Hid (∀ j,j<k+1→sg L j≠s):=hid (fun j hj=>by
     by_cases e:j=k
     ·subst e;exact q
     ·exact hok.out j (by omega))
    have q1:(s.toList == (sg L k).toList)=false:=beq_eq_false_iff_ne.2 (fun e=>q (tl_inj e).symm)
    have q2:((sg L k).toList == s.toList)=false:=beq_eq_false_iff_ne.2 (fun e=>q (tl_inj e))
    go_wp2
    go_roundw
    case rel=>exact ⟨k+1,by omega,by go_num,by first | rfl | trivial,HOK⟩
    case measure=>simp [intOf];omega
  ·obtain rfl:k=n:=by omega
   have HI:Hid (IsIx L k s (-1)):=hid (.inl ⟨rfl,hok.out⟩)
   go_wp2
   go_ret
   exact ⟨⟨_,rfl,HI.out⟩,by first | rfl | trivial⟩
theorem qindex_none (A:Option Addr) (c:Nat) (L:List ByteArray) (s:ByteArray) (w:World) :
  Calls Tryz.prog 87 #[.slice A 0 c,.string s] w fun e w'=>(∃ r,e=.returned (.int .i64 r)∧IsIx L 0 s r)∧w=w':=by
 have HI:Hid (IsIx L 0 s (-1)):=hid (.inl ⟨rfl,fun j hj=>by omega⟩)
 go_enter Tryz.func87,Tryz.ntmps87
 go_wp2
 go_rounds 1
 go_ret
 exact ⟨⟨_,rfl,HI.out⟩,by first | rfl | trivial⟩
theorem qindex (A:Option Addr) (c n:Nat) (L:List ByteArray) (s:ByteArray) (w:World) (hn:n≤L.length) (hL:L.length≤1000000) (hr:Hid (Rstr w w.heap.size A L)) :
  Calls Tryz.prog 87 #[.slice A n c,.string s] w fun e w'=>(∃ r,e=.returned (.int .i64 r)∧IsIx L n s r)∧w=w':=by
 rcases Nat.eq_zero_or_pos n with h0 | h0
 ·subst h0
  exact qindex_none A c L s w
 ·obtain ⟨b,o,e,_,_⟩:=hr.out (by omega)
  subst e
  exact qindex_some b o c n L s w hn hL hr
theorem fcontains (A:Option Addr) (c n:Nat) (L:List ByteArray) (s:ByteArray) (w:World) (hn:n≤L.length) (hL:L.length≤1000000) (hr:Hid (Rstr w w.heap.size A L)) :
  Calls Tryz.prog 84 #[.slice A n c,.string s] w fun e w'=>e=.returned (.bool (decide (hasS L n s)))∧w=w':=by
 have HI:=hid (findex A c n L s w hn hL hr)
 clear hr
 go_enter Tryz.func84,Tryz.ntmps84
 go_wp2_with (first | (go_at_call 106;with_reducible refine HI.out.mono ?_;rintro e w3 ⟨⟨r,rfl,hr⟩,rfl⟩))
 go_ret
 refine ⟨?_,by first | rfl | trivial⟩
 exact ret_bool hr.has
set_option linter.unusedVariables false
set_option linter.unusedSimpArgs false
attribute [local go_sem ↓] Go.wp_at_zero Go.wp_at_succ
def nmOK (L:List ByteArray) (i:Nat):Prop:=idS (sg L i)∧(sg L i).toList≠[116,114,117,101]∧(sg L i).toList≠[102,97,108,115,101]∧¬ hasS L i (sg L i)
def nmsOK (L:List ByteArray):Prop:=L.length≤64∧∀ i,i<L.length→nmOK L i
instance (L:List ByteArray) (i:Nat):Decidable (nmOK L i):=by unfold nmOK;infer_instance
instance (L:List ByteArray):Decidable (nmsOK L):=by unfold nmsOK;infer_instance
theorem nms_no {L:List ByteArray} {i:Nat} (hi:i<L.length) (h:¬ nmOK L i):¬ nmsOK L:=fun q=>h (q.2 i hi)
theorem size_tl (s:ByteArray):s.toList.length=s.size:=by rw [ByteArray.toList_eq];rfl
theorem vnames_any (A:Option Addr) (m c:Nat) (L:List ByteArray) (w:World) (hl:Hid (L.length=m)) (hm:m≤1000000) (hmc:m≤c) (hs:Hid (∀ j,(sg L j).size≤9223372036854775807)) (hr:Hid (Rstr w w.heap.size A L)) :
  Calls Tryz.prog 45 #[.slice A m c] w fun e w'=>e=.returned (.bool (decide (nmsOK L)))∧w=w':=by
 by_cases h64:64<m
 ·have hno:¬ nmsOK L:=fun q=>by have:=q.1;rw [hl.out] at this;omega
  rw [decide_eq_false hno]
  have h1:(64:Int)<(m:Int):=by omega
  clear hno hr
  go_enter Tryz.func45,Tryz.ntmps45
  go_wp2
  go_ret
  exact ⟨rfl,rfl⟩
 have h1:¬ (64:Int)<(m:Int):=by omega
 go_enter Tryz.func45,Tryz.ntmps45
 go_wp2
 go_loopw [10] (fun i wr=>∃ k:Nat,k≤m∧i=.int .i64 (k:Int)∧wr=w∧Hid (∀ j,j<k→nmOK L j)) (fun i _=>m - (intOf i).toNat)
 case atStart=>exact ⟨0,Nat.zero_le _,rfl,rfl,hid (fun j hj=>by omega)⟩
 case round =>
  obtain ⟨k,hk,rfl,rfl,hok⟩:=hrel
  by_cases hlt:k<m
  ·have hkl:k<L.length:=by rw [hl.out];exact hlt
   have i1:(0:Int)≤(k:Int):=by omega
   have i2:(k:Int)<(m:Int):=by omega
   have i3:(k:Int)≤(m:Int):=by omega
   have i4:(k:Int)≤(c:Int):=by omega
   obtain ⟨b,o,e,hb,hc⟩:=hr.out (by omega)
   subst e
   have d0:=hc k hkl
   clear hc
   have HC:=hid (fcontains (some ⟨b,o,none⟩) c k L (sg L k) wr (by omega) (by rw [hl.out];exact hm) hr)
   have HW:=hid (wordlen (sg L k) wr (hs.out k))
   have hsz:=size_tl (sg L k)
   have HK:Hid (nmOK L k→∀ j,j<k+1→nmOK L j):=hid (fun h j hj=>by
    by_cases e:j=k
    ·subst e;exact h
    ·exact hok.out j (by omega))
   have HN:Hid (¬ nmOK L k→¬ nmsOK L):=hid (fun h=>nms_no hkl h)
   unfold nmOK at HK HN
   generalize sg L k=s at *
   by_cases c1:s.toList=[116,114,117,101]
   ·have HNO:=hid (HN.out (fun q=>q.2.1 c1))
    have b1:(s.toList == [116,114,117,101])=true:=beq_iff_eq.2 c1
    clear c1
    go_wp2
    go_ret
    exact ⟨ret_bool (decide_eq_false HNO.out).symm,by first | rfl | trivial⟩
   have b1:(s.toList == [116,114,117,101])=false:=beq_eq_false_iff_ne.2 c1
   by_cases c2:s.toList=[102,97,108,115,101]
   ·have HNO:=hid (HN.out (fun q=>q.2.2.1 c2))
    have b2:(s.toList == [102,97,108,115,101])=true:=beq_iff_eq.2 c2
    clear c1 c2
    go_wp2
    go_ret
    exact ⟨ret_bool (decide_eq_false HNO.out).symm,by first | rfl | trivial⟩
   have b2:(s.toList == [102,97,108,115,101])=false:=beq_eq_false_iff_ne.2 c2
   by_cases c3:hasS L k s
   ·have HNO:=hid (HN.out (fun q=>q.2.2.2 c3))
    rw [decide_eq_true c3] at HC
    clear c1 c2 c3
    go_wp2_with (first | (go_at_call 84;with_reducible refine HC.out.mono ?_;rintro e w3 ⟨rfl,rfl⟩))
    go_ret
    exact ⟨ret_bool (decide_eq_false HNO.out).symm,by first | rfl | trivial⟩
   rw [decide_eq_false c3] at HC
   by_cases c4:s.size=0
   ·have HNO:=hid (HN.out (fun q=>by have:=q.1.1;omega))
    have c4':s.toList=[]:=List.eq_nil_of_length_eq_zero (by omega)
    have b3:s.toList.isEmpty=true:=by rw [c4'];rfl
    clear c1 c2 c3 c4 c4'
    go_wp2_with (first | (go_at_call 84;with_reducible refine HC.out.mono ?_;rintro e w3 ⟨rfl,rfl⟩))
    go_ret
    exact ⟨ret_bool (decide_eq_false HNO.out).symm,by first | rfl | trivial⟩
   have b3:s.toList.isEmpty=false:=by
    rcases hq:s.toList with _ | ⟨x,y⟩
    ·rw [hq] at hsz;exact absurd hsz.symm c4
    ·rfl
   have b4:(s.toList == [])=false:=beq_eq_false_iff_ne.2 (fun e=>by rw [e] at hsz;exact c4 hsz.symm)
   have HID:Hid (idS s→∀ j,j<k+1→nmOK L j):=hid (fun q=>HK.out ⟨q,c1,c2,c3⟩)
   have HIN:Hid (¬ idS s→¬ nmsOK L):=hid (fun q=>HN.out (fun r=>q r.1))
   have hpos:0<s.size:=by omega
   clear c1 c2 c3 c4 hsz HK HN
   go_upto_region 8 with (first | (go_at_call 84;with_reducible refine HC.out.mono ?_;rintro e w3 ⟨rfl,rfl⟩))
   go_wp2_with fail
   with_reducible refine HW.out.mono ?_
   rintro e w3 ⟨⟨n,rfl,hn⟩,rfl⟩
   have hall:=wl_all hn hpos
   by_cases c5:n=s.size
   ·have HOK:=hid (HID.out (hall.1 c5))
    have b5:((n:Int) != (s.size:Int))=false:=by rw [c5];simp
    clear hall hn c5
    go_wp2
    go_roundw
    case rel=>exact ⟨k+1,by omega,by go_num,by first | rfl | trivial,HOK⟩
    case measure=>simp [intOf];omega
   ·have HNO:=hid (HIN.out (fun q=>c5 (hall.2 q)))
    have b5:((n:Int) != (s.size:Int))=true:=bne_iff_ne.2 (by omega)
    clear hall hn c5
    go_wp2
    go_ret
    exact ⟨ret_bool (decide_eq_false HNO.out).symm,by first | rfl | trivial⟩
  ·obtain rfl:k=m:=by omega
   have HYES:Hid (nmsOK L):=hid ⟨by rw [hl.out];omega,by rw [hl.out];exact hok.out⟩
   go_wp2
   go_ret
   exact ⟨ret_bool (decide_eq_true HYES.out).symm,by first | rfl | trivial⟩
set_option linter.unusedVariables false
set_option linter.unusedSimpArgs false
attribute [local go_sem ↓] Go.wp_at_zero Go.wp_at_succ
theorem isix_ex (L:List ByteArray) (s:ByteArray) (n:Nat):∃ r,IsIx L n s r:=by
 induction n with
 | zero=>exact ⟨-1,.inl ⟨rfl,fun j hj=>by omega⟩⟩
 | succ n ih =>
   obtain ⟨r,⟨rfl,h⟩ | ⟨k,hk,rfl,e,h⟩⟩:=ih
   ·by_cases q:sg L n=s
    ·exact ⟨n,.inr ⟨n,by omega,rfl,q,h⟩⟩
    ·refine ⟨-1,.inl ⟨rfl,fun j hj=>?_⟩⟩
     by_cases e:j=n
     ·subst e;exact q
     ·exact h j (by omega)
   ·exact ⟨k,.inr ⟨k,by omega,rfl,e,h⟩⟩
theorem isix_eq {L:List ByteArray} {s:ByteArray} {n:Nat} {r q:Int} (h:IsIx L n s r) (h':IsIx L n s q):r=q:=by
 rcases h with ⟨rfl,h⟩ | ⟨k,hk,rfl,e,h⟩ <;> rcases h' with ⟨rfl,h'⟩ | ⟨k',hk',rfl,e',h'⟩
 ·rfl
 ·exact absurd e' (h k' hk')
 ·exact absurd e (h' k hk)
 ·rcases Nat.lt_trichotomy k k' with g | g | g
  ·exact absurd e (h' k g)
  ·rw [g]
  ·exact absurd e' (h k' g)
theorem qnames_any (A:Option Addr) (m c:Nat) (L:List ByteArray) (w:World) (hl:Hid (L.length=m)) (hm:m≤1000000) (hmc:m≤c) (hs:Hid (∀ j,(sg L j).size≤9223372036854775807)) (hr:Hid (Rstr w w.heap.size A L)) :
  Calls Tryz.prog 46 #[.slice A m c] w fun e w'=>e=.returned (.bool (decide (nmsOK L)))∧Below w.heap.size w w':=by
 have HB0:=hid (Below.refl w.heap.size w)
 go_enter Tryz.func46,Tryz.ntmps46
 go_wp2
 go_loopw [3] (fun i wr=>∃ k:Nat,k≤m∧i=.int .i64 (k:Int)∧Hid (Below w.heap.size w wr)∧Hid (∀ j,j<k→nmOK L j)) (fun i _=>m - (intOf i).toNat)
 case atStart=>exact ⟨0,Nat.zero_le _,rfl,HB0,hid (fun j hj=>by omega)⟩
 case round =>
  obtain ⟨k,hk,rfl,HB,hok⟩:=hrel
  by_cases hlt:k<m
  ·have hkl:k<L.length:=by rw [hl.out];exact hlt
   have i1:(0:Int)≤(k:Int):=by omega
   have i2:(k:Int)<(m:Int):=by omega
   have i3:(k:Int)≤(m:Int):=by omega
   have i4:(k:Int)≤(c:Int):=by omega
   obtain ⟨b,o,e,hb,hc⟩:=(hr.out.below HB.out) (by omega)
   subst e
   have d0:=hc k hkl
   clear hc
   have HBd:=hid (HB.out.trans ((Below.refl wr.heap.size wr).drew.mono HB.out.size))
   obtain ⟨rx,hrx⟩:=isix_ex L (sg L k) k
   have HIX:Hid (∀ n,Calls Tryz.prog 87 #[.slice (some ⟨b,o,none⟩) k c,.string (sg L k)] (wr.drewN n) fun e w'=>e=.returned (.int .i64 rx)∧w'=wr.drewN n):=hid (fun n=>(qindex (some ⟨b,o,none⟩) c k L (sg L k) (wr.drewN n) (by omega) (by rw [hl.out];exact hm) (hid ((hr.out.below (below_drewN HB.out n)).mono (below_drewN HB.out n).size))).mono (by
    rintro e w' ⟨⟨r,rfl,h⟩,e⟩
    rw [isix_eq h hrx]
    exact ⟨rfl,e.symm⟩))
   have hge:=hrx.has
   have HID:Hid (∀ W,Calls Tryz.prog 86 #[.string (sg L k)] W fun e w'=>e=.returned (.bool (decide (idS (sg L k))))∧w'=W):=hid (fun W=>(ident_any (sg L k) W (hs.out k)).mono (by rintro e w' ⟨rfl,rfl⟩;exact ⟨rfl,rfl⟩))
   clear hrx
   have HK:Hid (nmOK L k→∀ j,j<k+1→nmOK L j):=hid (fun h j hj=>by
    by_cases e:j=k
    ·subst e;exact h
    ·exact hok.out j (by omega))
   have HN:Hid (¬ nmOK L k→¬ nmsOK L):=hid (fun h=>nms_no hkl h)
   unfold nmOK at HK HN
   generalize sg L k=s at *
   by_cases c0:idS s
   rotate_left
   ·have HNO:=hid (HN.out (fun q=>c0 q.1))
    rw [decide_eq_false c0] at HID
    clear c0
    go_wp2
    go_quiet (first | (exact Calls.quiet_of_same (HID.out _)))
    go_wp2
    go_ret
    exact ⟨ret_bool (decide_eq_false HNO.out).symm,below_drewN HB.out _⟩
   rw [decide_eq_true c0] at HID
   by_cases c1:s.toList=[116,114,117,101]
   ·have HNO:=hid (HN.out (fun q=>q.2.1 c1))
    have b1:(s.toList == [116,114,117,101])=true:=beq_iff_eq.2 c1
    clear c0 c1
    go_wp2
    go_quiet (first | (exact Calls.quiet_of_same (HID.out _)))
    go_wp2
    go_ret
    exact ⟨ret_bool (decide_eq_false HNO.out).symm,below_drewN HB.out _⟩
   have b1:(s.toList == [116,114,117,101])=false:=beq_eq_false_iff_ne.2 c1
   by_cases c2:s.toList=[102,97,108,115,101]
   ·have HNO:=hid (HN.out (fun q=>q.2.2.1 c2))
    have b2:(s.toList == [102,97,108,115,101])=true:=beq_iff_eq.2 c2
    clear c0 c1 c2
    go_wp2
    go_quiet (first | (exact Calls.quiet_of_same (HID.out _)))
    go_wp2
    go_ret
    exact ⟨ret_bool (decide_eq_false HNO.out).symm,below_drewN HB.out _⟩
   have b2:(s.toList == [102,97,108,115,101])=false:=beq_eq_false_iff_ne.2 c2
   by_cases c3:hasS L k s
   ·have HNO:=hid (HN.out (fun q=>q.2.2.2 c3))
    rw [decide_eq_true c3] at hge
    have g0:(0:Int)≤rx:=of_decide_eq_true hge
    clear hge
    clear c0 c1 c2 c3
    go_wp2
    go_quiet (first | (exact Calls.quiet_of_same (HID.out _)) | (exact Calls.quiet_of_same (HIX.out _)))
    go_wp2
    go_ret
    exact ⟨ret_bool (decide_eq_false HNO.out).symm,below_drewN HB.out _⟩
   ·have HOK:=hid (HK.out ⟨c0,c1,c2,c3⟩)
    rw [decide_eq_false c3] at hge
    have g0:¬ (0:Int)≤rx:=of_decide_eq_false hge
    clear hge
    clear c0 c1 c2 c3
    go_wp2
    go_quiet (first | (exact Calls.quiet_of_same (HID.out _)) | (exact Calls.quiet_of_same (HIX.out _)))
    go_wp2
    go_roundw
    case rel=>exact ⟨k+1,by omega,by go_num,hid (below_drewN HB.out _),HOK⟩
    case measure=>simp [intOf];omega
  ·obtain rfl:k=m:=by omega
   by_cases h64:k≤64
   ·have HYES:Hid (nmsOK L):=hid ⟨by rw [hl.out];omega,by rw [hl.out];exact hok.out⟩
    have h1:(k:Int)≤64:=by omega
    go_wp2
    go_ret
    exact ⟨ret_bool (decide_eq_true HYES.out).symm,HB.out⟩
   ·have HNO:Hid (¬ nmsOK L):=hid (fun q=>by have:=q.1;rw [hl.out] at this;omega)
    have h1:¬ (k:Int)≤64:=by omega
    go_wp2
    go_ret
    exact ⟨ret_bool (decide_eq_false HNO.out).symm,HB.out⟩
set_option linter.unusedVariables false
set_option linter.unusedSimpArgs false
attribute [local go_sem ↓] Go.wp_at_zero Go.wp_at_succ
def stg (o:Int):Nat:=if o=5 then 1 else if o=4 then 2 else if o=3 then 3 else 4
theorem stg_le (o:Int):1≤stg o∧stg o≤4:=by unfold stg;repeat (split <;> try omega)
theorem strength_any (o:Int) (w:World):Calls Tryz.prog 91 #[.int .i64 o] w fun e w'=>e=.returned (.int .i64 ((stg o:Nat):Int))∧w=w':=by
 by_cases h5:o=5
 ·subst h5
  go_enter Tryz.func91,Tryz.ntmps91
  go_wp2
  go_ret
  exact ⟨rfl,rfl⟩
 by_cases h4:o=4
 ·subst h4
  go_enter Tryz.func91,Tryz.ntmps91
  go_wp2
  go_ret
  exact ⟨rfl,rfl⟩
 by_cases h3:o=3
 ·subst h3
  go_enter Tryz.func91,Tryz.ntmps91
  go_wp2
  go_ret
  exact ⟨rfl,rfl⟩
 have b3:(o == 3)=false:=beq_eq_false_iff_ne.2 h3
 have b4:(o == 4)=false:=beq_eq_false_iff_ne.2 h4
 have b5:(o == 5)=false:=beq_eq_false_iff_ne.2 h5
 have e:stg o=4:=by unfold stg;rw [if_neg h5,if_neg h4,if_neg h3]
 rw [e]
 go_enter Tryz.func91,Tryz.ntmps91
 go_wp2
 go_ret
 exact ⟨rfl,rfl⟩
def nmdOK (l:List Fi) (n:Nat):Prop:=∀ i,i<l.length→fo l i=2→fv l i<(n:Int)
instance (l:List Fi) (n:Nat):Decidable (nmdOK l n):=by unfold nmdOK;infer_instance
theorem named_any (NA:Option Addr) (n nc:Nat) (A:Option Addr) (m c:Nat) (l:List Fi) (w:World) (hl:Hid (l.length=m)) (hm:m≤1000000) (hn:n≤1000000) (hr:Hid (Rf w w.heap.size A l)) :
  Calls Tryz.prog 51 #[.slice NA n nc,.slice A m c] w fun e w'=>e=.returned (.bool (decide (nmdOK l n)))∧Below w.heap.size w w':=by
 have HB0:=hid (Below.refl w.heap.size w)
 go_enter Tryz.func51,Tryz.ntmps51
 go_wp2
 go_loopw [9] (fun i wr=>∃ k:Nat,k≤m∧i=.int .i64 (k:Int)∧Hid (Below w.heap.size w wr)∧Hid (∀ i,i<k→fo l i=2→fv l i<(n:Int))) (fun i _=>m - (intOf i).toNat)
 case atStart=>exact ⟨0,Nat.zero_le _,rfl,HB0,hid (fun i hi=>by omega)⟩
 case round =>
  obtain ⟨k,hk,rfl,HB,hok⟩:=hrel
  by_cases hlt:k<m
  ·have hkl:k<l.length:=by rw [hl.out];exact hlt
   obtain ⟨b,o,e,hb,hc⟩:=(hr.out.below HB.out) (by omega)
   subst e
   obtain ⟨d0,d1,d2,d3⟩:=hc k hkl
   clear hc
   have i1:(0:Int)≤(k:Int):=by omega
   have i2:(k:Int)<(m:Int):=by omega
   have HB1:=hid (HB.out.alloc HB.out.size (.cells #[.int .i64 (fo l k),.int .i64 (fv l k),.int .i64 (fa l k),.int .i64 (fb l k)] 58))
   have HK:Hid ((fo l k=2→fv l k<(n:Int))→∀ i,i<k+1→fo l i=2→fv l i<(n:Int)):=hid (fun h i hi=>by
    by_cases e:i=k
    ·subst e;exact h
    ·exact hok.out i (by omega))
   have HNO:Hid (fo l k=2→¬ fv l k<(n:Int)→¬ nmdOK l n):=hid (fun h1 h2 q=>h2 (q k hkl h1))
   generalize fo l k=O at *
   generalize fv l k=V at *
   by_cases h2:O=2
   ·subst h2
    by_cases hv:V<(n:Int)
    ·have HOK:=hid (HK.out (fun _=>hv))
     have i3:¬ (n:Int)≤V:=by omega
     go_wp2
     go_roundw
     case rel=>exact ⟨k+1,by omega,by go_num,HB1,HOK⟩
     case measure=>simp [intOf];omega
    ·have HN:=hid (HNO.out rfl hv)
     have i3:(n:Int)≤V:=by omega
     go_wp2
     go_ret
     exact ⟨ret_bool (decide_eq_false HN.out).symm,HB1.out⟩
   ·have HOK:=hid (HK.out (fun e=>absurd e h2))
    have b2:(O == 2)=false:=beq_eq_false_iff_ne.2 h2
    go_wp2
    go_roundw
    case rel=>exact ⟨k+1,by omega,by go_num,HB1,HOK⟩
    case measure=>simp [intOf];omega
  ·obtain rfl:k=m:=by omega
   have HYES:Hid (nmdOK l n):=hid (fun i hi=>hok.out i (by rw [hl.out] at hi;exact hi))
   go_wp2
   go_ret
   exact ⟨ret_bool (decide_eq_true HYES.out).symm,HB.out⟩
end Go.Proofs.YtpaednfinlaioaaGreatDoor
