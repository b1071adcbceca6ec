/-
  Plain mathematics and contracts of package diagram, several texts in one: FTrim, FTok, FPar, FApp.
-/
import Derived.Test.YtpaednfinlaioaaGreatDoorFe
import Derived.Test.YtpaednfinlaioaaGreatDoorFg
import Derived.Shelf.Strings.SlTrimAscii
import Derived.WalkLawsBesides
import Derived.Deep.LoopGhost
set_option maxHeartbeats 4000000
set_option maxRecDepth 100000
namespace Go.Proofs.YtpaednfinlaioaaGreatDoor
open Go.Lib (hid)
open Go.Shelf Go.RowKit Dg St
def lays161_ren:Go.Shelf.Ren:=⟨fun | 161=>125 | 231=>135 | 227=>136 | 233=>137 | 235=>138 | 228=>141 | 197=>142 | 151=>143 | 260=>145 | 152=>146 | 137=>147 | 119=>148 | 224=>149 | 225=>150 | 217=>151 | 266=>152 | n=>n,fun | 9=>9 | 4=>4 | 3=>3 | 5=>5 | 117=>186 | 116=>185 | 0=>0 | 124=>189 | 105=>197 | 21=>21 | 119=>201 | 46=>102 | 139=>204 | 138=>203 | n=>n,fun | 3=>1 | 4=>2 | n=>n⟩
theorem lays161:Go.Proofs.Lays.n161 Tryz.prog lays161_ren:={
 mixed:=by kernel_rfl
 f119:=Tryz.func148.trans (congrArg some (by kernel_rfl))
 f137:=Tryz.func147.trans (congrArg some (by kernel_rfl))
 f151:=Tryz.func143.trans (congrArg some (by kernel_rfl))
 f152:=Tryz.func146.trans (congrArg some (by kernel_rfl))
 f161:=Tryz.func125.trans (congrArg some (by kernel_rfl))
 f197:=Tryz.func142.trans (congrArg some (by kernel_rfl))
 f217:=Tryz.func151.trans (congrArg some (by kernel_rfl))
 f224:=Tryz.func149.trans (congrArg some (by kernel_rfl))
 f225:=Tryz.func150.trans (congrArg some (by kernel_rfl))
 f227:=Tryz.func136.trans (congrArg some (by kernel_rfl))
 f228:=Tryz.func141.trans (congrArg some (by kernel_rfl))
 f231:=Tryz.func135.trans (congrArg some (by kernel_rfl))
 f233:=Tryz.func137.trans (congrArg some (by kernel_rfl))
 f235:=Tryz.func138.trans (congrArg some (by kernel_rfl))
 f260:=Tryz.func145.trans (congrArg some (by kernel_rfl))
 f266:=Tryz.func152.trans (congrArg some (by kernel_rfl))
 t0:=Tryz.underlying0
 a0:=Tryz.isAgg0
 z0:=Tryz.sizeOf0
 v0:=Tryz.zeroValue0
 t3:=Tryz.underlying3
 a3:=Tryz.isAgg3
 z3:=Tryz.sizeOf3
 v3:=Tryz.zeroValue3
 t4:=Tryz.underlying4
 a4:=Tryz.isAgg4
 z4:=Tryz.sizeOf4
 v4:=Tryz.zeroValue4
 t5:=Tryz.underlying5
 a5:=Tryz.isAgg5
 z5:=Tryz.sizeOf5
 v5:=Tryz.zeroValue5
 t9:=Tryz.underlying9
 a9:=Tryz.isAgg9
 z9:=Tryz.sizeOf9
 v9:=Tryz.zeroValue9
 t21:=Tryz.underlying21
 a21:=Tryz.isAgg21
 z21:=Tryz.sizeOf21
 v21:=Tryz.zeroValue21
 t46:=Tryz.underlying102
 a46:=Tryz.isAgg102
 z46:=Tryz.sizeOf102
 v46:=Tryz.zeroValue102
 t105:=Tryz.underlying197
 a105:=Tryz.isAgg197
 z105:=Tryz.sizeOf197
 v105:=Tryz.zeroValue197
 t116:=Tryz.underlying185
 a116:=Tryz.isAgg185
 z116:=Tryz.sizeOf185
 t117:=Tryz.underlying186
 a117:=Tryz.isAgg186
 z117:=Tryz.sizeOf186
 v117:=Tryz.zeroValue186
 t119:=Tryz.underlying201
 a119:=Tryz.isAgg201
 z119:=Tryz.sizeOf201
 t124:=Tryz.underlying189
 a124:=Tryz.isAgg189
 z124:=Tryz.sizeOf189
 v124:=Tryz.zeroValue189
 t138:=Tryz.underlying203
 a138:=Tryz.isAgg203
 z138:=Tryz.sizeOf203
 v138:=Tryz.zeroValue203
 t139:=Tryz.underlying204
 a139:=Tryz.isAgg204
 z139:=Tryz.sizeOf204
 v139:=Tryz.zeroValue204
 g3:=by kernel_rfl
 g4:=by kernel_rfl }
theorem trimL_eq (l:List UInt8):Lib.trimLeftS l [32,9]=l.dropWhile blk8:=by
 unfold Lib.trimLeftS
 congr 1
 funext b
 show List.contains [32,9] b=(b == 32||b == 9)
 rw [List.contains_cons,List.contains_cons]
 simp
theorem trimleft_any (s:ByteArray) (w:World):Calls Tryz.prog 125 #[.string s,.string ⟨#[32,9]⟩] w fun e w'=>e=.returned (.string ⟨(s.data.toList.dropWhile blk8).toArray⟩)∧Below w.heap.size w w':=by
 have h:=Any.strings_TrimLeft_laid lays161 (by kernel_rfl) s ⟨#[32,9]⟩ w (by decide) (ascii_of_all (by decide))
 rw [show (⟨#[32,9]⟩:ByteArray).data.toList=[32,9] from rfl,trimL_eq] at h
 exact h
end Go.Proofs.YtpaednfinlaioaaGreatDoor
namespace Go.Proofs.YtpaednfinlaioaaGreatDoor
open Go.Lib (hid)
open Go.RowKit Dg St
set_option linter.unusedVariables false
set_option linter.unusedSimpArgs false
attribute [local go_sem ↓] Go.wp_at_zero Go.wp_at_succ
theorem tl_ext (s:ByteArray) (a b:Nat):(s.extract a b).data.toList=(s.data.toList.drop a).take (b - a):=by
 simp [ByteArray.data_extract,Array.toList_extract,List.extract]
theorem sz_tl (s:ByteArray):s.data.toList.length=s.size:=Array.length_toList
theorem hpre (s t:ByteArray) (w:World) (hs:s.size≤9223372036854775807) (ht:t.size≤10) :
  Calls Tryz.prog 144 #[.string s,.string t] w fun e w'=>e=.returned (.bool (decide (t.data.toList <+: s.data.toList)))∧w=w':=by
 by_cases h1:t.size≤s.size
 ·have i1:(t.size:Int)≤(s.size:Int):=by omega
  by_cases h2:t.data.toList <+: s.data.toList
  ·have e1:((s.extract 0 t.size).toList == t.toList)=true:=by
    rw [beq_iff_eq,ByteArray.toList_eq,ByteArray.toList_eq,tl_ext,List.drop_zero,Nat.sub_zero,← sz_tl t]
    exact (List.prefix_iff_eq_take.1 h2).symm
   rw [decide_eq_true h2]
   clear h1 h2
   go_enter Tryz.func144,Tryz.ntmps144
   go_wp2
   go_ret
   exact ⟨rfl,rfl⟩
  ·have e1:((s.extract 0 t.size).toList == t.toList)=false:=by
    rw [beq_eq_false_iff_ne,ByteArray.toList_eq,ByteArray.toList_eq,tl_ext,List.drop_zero,Nat.sub_zero,← sz_tl t]
    exact fun e=>h2 (List.prefix_iff_eq_take.2 e.symm)
   rw [decide_eq_false h2]
   clear h1 h2
   go_enter Tryz.func144,Tryz.ntmps144
   go_wp2
   go_ret
   exact ⟨rfl,rfl⟩
 ·have i1:¬ (t.size:Int)≤(s.size:Int):=by omega
  have h2:¬ t.data.toList <+: s.data.toList:=fun q=>by
   have:=q.length_le
   rw [sz_tl,sz_tl] at this
   exact h1 this
  rw [decide_eq_false h2]
  clear h2 h1
  go_enter Tryz.func144,Tryz.ntmps144
  go_wp2
  go_ret
  exact ⟨rfl,rfl⟩
theorem hpref (s t:ByteArray) (w:World) (hs:s.size≤9223372036854775807) (ht:t.size≤10) :
  Calls Tryz.prog 139 #[.string s,.string t] w fun e w'=>e=.returned (.bool (decide (t.data.toList <+: s.data.toList)))∧w=w':=by
 have H:=hid (hpre s t w hs ht)
 go_enter Tryz.func139,Tryz.ntmps139
 go_wp2_with fail
 with_reducible refine H.out.mono ?_
 rintro e w' ⟨rfl,rfl⟩
 go_wp2
 go_ret
 exact ⟨rfl,rfl⟩
theorem by8_at (s:ByteArray) (k:Nat):by8 s k=(s.data.toList.getD k 0).toNat:=by
 unfold by8
 by_cases h:k<s.size
 ·rw [dif_pos h,List.getD_eq_getElem?_getD,List.getElem?_eq_getElem (by rw [sz_tl];exact h)]
  rfl
 ·rw [dif_neg h,List.getD_eq_getElem?_getD,List.getElem?_eq_none (by rw [sz_tl];omega)]
  rfl
theorem lt8_iff (b:UInt8):ltr b.toNat↔lt8 b=true:=by
 unfold ltr lt8
 simp only [Bool.or_eq_true,Bool.and_eq_true,decide_eq_true_eq,UInt8.le_iff_toNat_le,beq_iff_eq,← UInt8.toNat_inj]
 constructor
 ·rintro (h | h | h)
  ·exact .inl (.inl ⟨h.1,h.2⟩)
  ·exact .inl (.inr ⟨h.1,h.2⟩)
  ·exact .inr h
 ·rintro ((h | h) | h)
  ·exact .inl h
  ·exact .inr (.inl h)
  ·exact .inr (.inr h)
theorem dg8_iff (b:UInt8):dgt b.toNat↔dg8 b=true:=by
 unfold dgt dg8
 simp only [Bool.and_eq_true,decide_eq_true_eq,UInt8.le_iff_toNat_le]
 exact Iff.rfl
theorem tw_spec (p:UInt8→Bool):∀ t:List UInt8,(∀ k,k<(t.takeWhile p).length→p (t.getD k 0)=true)∧((t.takeWhile p).length<t.length→p (t.getD (t.takeWhile p).length 0)=false)∧(t.takeWhile p).length≤t.length
 | []=>⟨fun k h=>absurd h (by simp),fun h=>absurd h (by simp),Nat.le_refl _⟩
 | b::t=>by
   obtain ⟨h1,h2,h3⟩:=tw_spec p t
   by_cases hb:p b=true
   ·rw [List.takeWhile_cons_of_pos hb]
    refine ⟨fun k hk=>?_,fun h=>?_,by simp;exact h3⟩
    ·cases k with
     | zero=>exact hb
     | succ k=>exact h1 k (by simp at hk;omega)
    ·simp only [List.length_cons] at h ⊢
     exact h2 (by omega)
   ·rw [List.takeWhile_cons_of_neg hb]
    refine ⟨fun k hk=>absurd hk (by simp),fun _=>?_,by simp⟩
    simpa using hb
theorem iswl_uniq {s:ByteArray} {n m:Nat} (h:IsWl s n) (h':IsWl s m):n=m:=by
 rcases Nat.lt_trichotomy n m with g | g | g
 ·exact absurd (h'.2.1 n g) (h.2.2 (by have:=h'.1;omega))
 ·exact g
 ·exact absurd (h.2.1 m g) (h'.2.2 (by have:=h.1;omega))
theorem wlN_cons (b:UInt8) (t:List UInt8):wlN (b::t)=if lt8 b then 1+(t.takeWhile fun c=>lt8 c||dg8 c).length else 0:=rfl
theorem iswl_wlN (s:ByteArray):IsWl s (wlN s.data.toList):=by
 have hs:=sz_tl s
 have hb:=by8_at s
 unfold IsWl okb
 simp only [hb]
 rw [← hs]
 generalize s.data.toList=l at *
 clear hs hb
 rcases l with _ | ⟨b,t⟩
 ·exact ⟨Nat.le_refl _,fun k h=>absurd h (by simp [wlN]),fun h=>absurd h (by simp [wlN])⟩
 ·by_cases q:lt8 b=true
  ·obtain ⟨h1,h2,h3⟩:=tw_spec (fun c=>lt8 c||dg8 c) t
   have e:wlN (b::t)=1+(t.takeWhile fun c=>lt8 c||dg8 c).length:=by rw [wlN_cons,if_pos q]
   rw [e]
   refine ⟨by simp;omega,fun k hk=>?_,fun h=>?_⟩
   ·cases k with
    | zero=>exact .inl ((lt8_iff b).2 q)
    | succ k =>
      have:=h1 k (by omega)
      rw [Bool.or_eq_true] at this
      rcases this with g | g
      ·exact .inl ((lt8_iff _).2 g)
      ·exact .inr ⟨by omega,(dg8_iff _).2 g⟩
   ·have:=h2 (by simp at h;omega)
    rw [Bool.or_eq_false_iff] at this
    rw [Nat.add_comm]
    rintro (g | g)
    ·have:=(lt8_iff _).1 g
     simp_all
    ·have:=(dg8_iff _).1 g.2
     simp_all
  ·have e:wlN (b::t)=0:=by rw [wlN_cons,if_neg q]
   rw [e]
   refine ⟨by simp,fun k hk=>absurd hk (by omega),fun _=>?_⟩
   rintro (g | g)
   ·exact q ((lt8_iff b).1 g)
   ·omega
theorem pre1 (a b:UInt8) (t:List UInt8):[a] <+: b::t↔b=a:=by
 constructor
 ·intro h;obtain ⟨r,e⟩:=h;simp at e;exact e.1.symm
 ·rintro rfl;exact ⟨t,rfl⟩
theorem pre2 (a b:UInt8) (t:List UInt8):[a,a] <+: b::t↔b=a∧t.head? = some a:=by
 constructor
 ·rintro ⟨r,e⟩
  simp at e
  obtain ⟨e1,e2⟩:=e
  refine ⟨e1.symm,?_⟩
  rw [← e2];rfl
 ·rintro ⟨rfl,h⟩
  rcases t with _ | ⟨c,t⟩
  ·cases h
  ·injection h with h
   subst h
   exact ⟨t,rfl⟩
theorem tkN_eq (l:List UInt8) (h:l≠[]):tkN l=if [38,38] <+: l then some 2 else if [124,124] <+: l then some 2 else if [33] <+: l then some 1 else if [40] <+: l then some 1 else if [41] <+: l then some 1 else if wlN l=0 then none else some (wlN l):=by
 rcases l with _ | ⟨b,t⟩
 ·exact absurd rfl h
 ·unfold tkN
  simp only [pre1,pre2]
  by_cases h1:b=38∧t.head? = some 38
  ·rw [if_pos h1,if_pos h1]
  rw [if_neg h1,if_neg h1]
  by_cases h2:b=124∧t.head? = some 124
  ·rw [if_pos h2,if_pos h2]
  rw [if_neg h2,if_neg h2]
  by_cases h3:b=33
  ·rw [if_pos (.inl h3),if_pos h3]
  by_cases h4:b=40
  ·rw [if_pos (.inr (.inl h4)),if_neg h3,if_pos h4]
  by_cases h5:b=41
  ·rw [if_pos (.inr (.inr h5)),if_neg h3,if_neg h4,if_pos h5]
  rw [if_neg (by rintro (h | h | h);exact h3 h;exact h4 h;exact h5 h),if_neg h3,if_neg h4,if_neg h5]
  by_cases q:lt8 b=true
  ·rw [if_pos q,if_neg]
   rw [wlN_cons,if_pos q];omega
  ·rw [if_neg q,if_pos]
   rw [wlN_cons,if_neg q]
def pnE (e:Int):Ending:=.panicked [{ v:=.iface 32 (.int .i64 e),recovered:=false }]
def TkR (l:List UInt8) (e:Ending):Prop:=match tkN l with | some n=>e=.returned (.int .i64 (n:Int)) | none=>e=pnE 31
theorem TkR.some {l:List UInt8} {n:Nat} (h:tkN l=some n) {e:Ending} (he:e=.returned (.int .i64 (n:Int))):TkR l e:=by unfold TkR;rw [h];exact he
theorem TkR.none {l:List UInt8} (h:tkN l=none) {e:Ending} (he:e=pnE 31):TkR l e:=by unfold TkR;rw [h];exact he
theorem toklen_any (s:ByteArray) (w:World) (hs:s.size≤9223372036854775807):Calls Tryz.prog 126 #[.string s] w fun e w'=>TkR s.data.toList e∧w=w':=by
 by_cases h0:s.data.toList=[]
 ·have b0:s.toList.isEmpty=true:=by rw [ByteArray.toList_eq,show s.data.toList=[] from h0];rfl
  have b1:(s.toList == [])=true:=by rw [ByteArray.toList_eq,show s.data.toList=[] from h0];rfl
  have HT:Hid (TkR s.data.toList (.returned (.int .i64 0))):=hid (TkR.some (n:=0) (by rw [h0];rfl) rfl)
  clear h0
  go_enter Tryz.func126,Tryz.ntmps126
  go_wp2
  go_ret
  exact ⟨HT.out,rfl⟩
 have b0:s.toList.isEmpty=false:=by
  rw [ByteArray.toList_eq]
  rcases h:s.data.toList with _ | ⟨x,y⟩
  ·exact absurd h h0
  ·rfl
 have b1:(s.toList == [])=false:=by rw [ByteArray.toList_eq];exact beq_eq_false_iff_ne.2 h0
 have HTE:=tkN_eq s.data.toList h0
 have HP:=hid (fun (t:ByteArray) (ht:t.size≤10)=>hpref s t w hs ht)
 have HW:=hid (wordlen s w hs)
 have HI:=iswl_wlN s
 have HIW:Hid (∀ n,IsWl s n→n=wlN s.data.toList):=hid (fun n h=>iswl_uniq h HI)
 have i0:∀ w,(Instr.index 190 (.agg #[.string ⟨#[38,38]⟩,.string ⟨#[124,124]⟩,.string ⟨#[33]⟩,.string ⟨#[40]⟩,.string ⟨#[41]⟩]) (.int .i64 0)).run Tryz.prog w=.ok (.string ⟨#[38,38]⟩) w:=fun _=>by kernel_rfl
 have i1:∀ w,(Instr.index 190 (.agg #[.string ⟨#[38,38]⟩,.string ⟨#[124,124]⟩,.string ⟨#[33]⟩,.string ⟨#[40]⟩,.string ⟨#[41]⟩]) (.int .i64 1)).run Tryz.prog w=.ok (.string ⟨#[124,124]⟩) w:=fun _=>by kernel_rfl
 have i2:∀ w,(Instr.index 190 (.agg #[.string ⟨#[38,38]⟩,.string ⟨#[124,124]⟩,.string ⟨#[33]⟩,.string ⟨#[40]⟩,.string ⟨#[41]⟩]) (.int .i64 2)).run Tryz.prog w=.ok (.string ⟨#[33]⟩) w:=fun _=>by kernel_rfl
 have i3:∀ w,(Instr.index 190 (.agg #[.string ⟨#[38,38]⟩,.string ⟨#[124,124]⟩,.string ⟨#[33]⟩,.string ⟨#[40]⟩,.string ⟨#[41]⟩]) (.int .i64 3)).run Tryz.prog w=.ok (.string ⟨#[40]⟩) w:=fun _=>by kernel_rfl
 have i4:∀ w,(Instr.index 190 (.agg #[.string ⟨#[38,38]⟩,.string ⟨#[124,124]⟩,.string ⟨#[33]⟩,.string ⟨#[40]⟩,.string ⟨#[41]⟩]) (.int .i64 4)).run Tryz.prog w=.ok (.string ⟨#[41]⟩) w:=fun _=>by kernel_rfl
 have HL:Hid (∀ k:Nat,k<5→([[38,38],[124,124],[33],[40],[41]].getD k [] <+: s.data.toList)→(∀ j,j<k→¬ ([[38,38],[124,124],[33],[40],[41]].getD j [] <+: s.data.toList))→tkN s.data.toList=some ([2,2,1,1,1].getD k 0)):=hid (fun k hk h hn=>by
  rw [HTE]
  rcases (show k=0∨k=1∨k=2∨k=3∨k=4 by omega) with rfl | rfl | rfl | rfl | rfl
  ·rw [if_pos (show ([38,38]:List UInt8) <+: s.data.toList from h)];rfl
  ·rw [if_neg (show ¬ ([38,38]:List UInt8) <+: s.data.toList from hn 0 (by omega)),if_pos (show ([124,124]:List UInt8) <+: s.data.toList from h)];rfl
  ·rw [if_neg (show ¬ ([38,38]:List UInt8) <+: s.data.toList from hn 0 (by omega)),if_neg (show ¬ ([124,124]:List UInt8) <+: s.data.toList from hn 1 (by omega)),if_pos (show ([33]:List UInt8) <+: s.data.toList from h)];rfl
  ·rw [if_neg (show ¬ ([38,38]:List UInt8) <+: s.data.toList from hn 0 (by omega)),if_neg (show ¬ ([124,124]:List UInt8) <+: s.data.toList from hn 1 (by omega)),if_neg (show ¬ ([33]:List UInt8) <+: s.data.toList from hn 2 (by omega)),if_pos (show ([40]:List UInt8) <+: s.data.toList from h)];rfl
  ·rw [if_neg (show ¬ ([38,38]:List UInt8) <+: s.data.toList from hn 0 (by omega)),if_neg (show ¬ ([124,124]:List UInt8) <+: s.data.toList from hn 1 (by omega)),if_neg (show ¬ ([33]:List UInt8) <+: s.data.toList from hn 2 (by omega)),if_neg (show ¬ ([40]:List UInt8) <+: s.data.toList from hn 3 (by omega)),if_pos (show ([41]:List UInt8) <+: s.data.toList from h)];rfl)
 have HN:Hid ((∀ j,j<5→¬ ([[38,38],[124,124],[33],[40],[41]].getD j [] <+: s.data.toList))→tkN s.data.toList=if wlN s.data.toList=0 then none else some (wlN s.data.toList)):=hid (fun hn=>by
  rw [HTE,if_neg (show ¬ ([38,38]:List UInt8) <+: s.data.toList from hn 0 (by omega)),if_neg (show ¬ ([124,124]:List UInt8) <+: s.data.toList from hn 1 (by omega)),if_neg (show ¬ ([33]:List UInt8) <+: s.data.toList from hn 2 (by omega)),if_neg (show ¬ ([40]:List UInt8) <+: s.data.toList from hn 3 (by omega)),if_neg (show ¬ ([41]:List UInt8) <+: s.data.toList from hn 4 (by omega))])
 clear HTE HI h0
 go_enter Tryz.func126,Tryz.ntmps126
 go_wp2
 go_loopw [9] (fun i wr=>∃ k:Nat,k≤5∧i=.int .i64 (k:Int)∧wr=w∧Hid (∀ j,j<k→¬ ([[38,38],[124,124],[33],[40],[41]].getD j [] <+: s.data.toList))) (fun i _=>5 - (intOf i).toNat)
 case atStart=>exact ⟨0,Nat.zero_le _,rfl,rfl,hid (fun j hj=>by omega)⟩
 case round =>
  obtain ⟨k,hk,rfl,rfl,hok⟩:=hrel
  by_cases hlt:k<5
  ·have HK:Hid (¬ ([[38,38],[124,124],[33],[40],[41]].getD k [] <+: s.data.toList)→∀ j,j<k+1→¬ ([[38,38],[124,124],[33],[40],[41]].getD j [] <+: s.data.toList)):=hid (fun h j hj=>by
    by_cases e:j=k
    ·subst e;exact h
    ·exact hok.out j (by omega))
   rcases (show k=0∨k=1∨k=2∨k=3∨k=4 by omega) with rfl | rfl | rfl | rfl | rfl
   ·have HPk:=hid (HP.out ⟨#[38,38]⟩ (by decide))
    by_cases hp:[38,38] <+: s.data.toList
    ·have HT:Hid (TkR s.data.toList (.returned (.int .i64 2))):=hid (TkR.some (HL.out 0 hlt hp hok.out) rfl)
     rw [show decide ((⟨#[38,38]⟩:ByteArray).data.toList <+: s.data.toList)=true from decide_eq_true hp] at HPk
     clear hp
     go_wp2_with fail
     with_reducible refine HPk.out.mono ?_
     rintro e w1 ⟨rfl,rfl⟩
     go_wp2
     go_ret
     exact ⟨HT.out,by first | rfl | trivial⟩
    ·have HOK:=hid (HK.out hp)
     rw [show decide ((⟨#[38,38]⟩:ByteArray).data.toList <+: s.data.toList)=false from decide_eq_false hp] at HPk
     clear hp
     go_wp2_with fail
     with_reducible refine HPk.out.mono ?_
     rintro e w1 ⟨rfl,rfl⟩
     go_wp2
     go_roundw
     case rel=>exact ⟨1,by omega,by go_num,by first | rfl | trivial,HOK⟩
     case measure=>simp [intOf]
   ·have HPk:=hid (HP.out ⟨#[124,124]⟩ (by decide))
    by_cases hp:[124,124] <+: s.data.toList
    ·have HT:Hid (TkR s.data.toList (.returned (.int .i64 2))):=hid (TkR.some (HL.out 1 hlt hp hok.out) rfl)
     rw [show decide ((⟨#[124,124]⟩:ByteArray).data.toList <+: s.data.toList)=true from decide_eq_true hp] at HPk
     clear hp
     go_wp2_with fail
     with_reducible refine HPk.out.mono ?_
     rintro e w1 ⟨rfl,rfl⟩
     go_wp2
     go_ret
     exact ⟨HT.out,by first | rfl | trivial⟩
    ·have HOK:=hid (HK.out hp)
     rw [show decide ((⟨#[124,124]⟩:ByteArray).data.toList <+: s.data.toList)=false from decide_eq_false hp] at HPk
     clear hp
     go_wp2_with fail
     with_reducible refine HPk.out.mono ?_
     rintro e w1 ⟨rfl,rfl⟩
     go_wp2
     go_roundw
     case rel=>exact ⟨2,by omega,by go_num,by first | rfl | trivial,HOK⟩
     case measure=>simp [intOf]
   ·have HPk:=hid (HP.out ⟨#[33]⟩ (by decide))
    by_cases hp:[33] <+: s.data.toList
    ·have HT:Hid (TkR s.data.toList (.returned (.int .i64 1))):=hid (TkR.some (HL.out 2 hlt hp hok.out) rfl)
     rw [show decide ((⟨#[33]⟩:ByteArray).data.toList <+: s.data.toList)=true from decide_eq_true hp] at HPk
     clear hp
     go_wp2_with fail
     with_reducible refine HPk.out.mono ?_
     rintro e w1 ⟨rfl,rfl⟩
     go_wp2
     go_ret
     exact ⟨HT.out,by first | rfl | trivial⟩
    ·have HOK:=hid (HK.out hp)
     rw [show decide ((⟨#[33]⟩:ByteArray).data.toList <+: s.data.toList)=false from decide_eq_false hp] at HPk
     clear hp
     go_wp2_with fail
     with_reducible refine HPk.out.mono ?_
     rintro e w1 ⟨rfl,rfl⟩
     go_wp2
     go_roundw
     case rel=>exact ⟨3,by omega,by go_num,by first | rfl | trivial,HOK⟩
     case measure=>simp [intOf]
   ·have HPk:=hid (HP.out ⟨#[40]⟩ (by decide))
    by_cases hp:[40] <+: s.data.toList
    ·have HT:Hid (TkR s.data.toList (.returned (.int .i64 1))):=hid (TkR.some (HL.out 3 hlt hp hok.out) rfl)
     rw [show decide ((⟨#[40]⟩:ByteArray).data.toList <+: s.data.toList)=true from decide_eq_true hp] at HPk
     clear hp
     go_wp2_with fail
     with_reducible refine HPk.out.mono ?_
     rintro e w1 ⟨rfl,rfl⟩
     go_wp2
     go_ret
     exact ⟨HT.out,by first | rfl | trivial⟩
    ·have HOK:=hid (HK.out hp)
     rw [show decide ((⟨#[40]⟩:ByteArray).data.toList <+: s.data.toList)=false from decide_eq_false hp] at HPk
     clear hp
     go_wp2_with fail
     with_reducible refine HPk.out.mono ?_
     rintro e w1 ⟨rfl,rfl⟩
     go_wp2
     go_roundw
     case rel=>exact ⟨4,by omega,by go_num,by first | rfl | trivial,HOK⟩
     case measure=>simp [intOf]
   ·have HPk:=hid (HP.out ⟨#[41]⟩ (by decide))
    by_cases hp:[41] <+: s.data.toList
    ·have HT:Hid (TkR s.data.toList (.returned (.int .i64 1))):=hid (TkR.some (HL.out 4 hlt hp hok.out) rfl)
     rw [show decide ((⟨#[41]⟩:ByteArray).data.toList <+: s.data.toList)=true from decide_eq_true hp] at HPk
     clear hp
     go_wp2_with fail
     with_reducible refine HPk.out.mono ?_
     rintro e w1 ⟨rfl,rfl⟩
     go_wp2
     go_ret
     exact ⟨HT.out,by first | rfl | trivial⟩
    ·have HOK:=hid (HK.out hp)
     rw [show decide ((⟨#[41]⟩:ByteArray).data.toList <+: s.data.toList)=false from decide_eq_false hp] at HPk
     clear hp
     go_wp2_with fail
     with_reducible refine HPk.out.mono ?_
     rintro e w1 ⟨rfl,rfl⟩
     go_wp2
     go_roundw
     case rel=>exact ⟨5,by omega,by go_num,by first | rfl | trivial,HOK⟩
     case measure=>simp [intOf]
  ·obtain rfl:k=5:=by omega
   have HNN:=HN.out hok.out
   by_cases hw:wlN s.data.toList=0
   ·rw [if_pos hw] at HNN
    have HT:Hid (TkR s.data.toList (pnE 31)):=hid (TkR.none HNN rfl)
    clear HNN
    go_wp2_with fail
    with_reducible refine HW.out.mono ?_
    rintro e w1 ⟨⟨n,rfl,hn⟩,rfl⟩
    have hn0:=HIW.out n hn
    rw [hw] at hn0
    subst hn0
    clear hn hw
    go_wp2
    exact ⟨rfl,HT.out,by first | rfl | trivial⟩
   ·rw [if_neg hw] at HNN
    have HT:Hid (TkR s.data.toList (.returned (.int .i64 (wlN s.data.toList:Nat)))):=hid (TkR.some HNN rfl)
    clear HNN
    go_wp2_with fail
    with_reducible refine HW.out.mono ?_
    rintro e w1 ⟨⟨n,rfl,hn⟩,rfl⟩
    have hn0:=HIW.out n hn
    rw [← hn0] at HT hw
    have b2:((n:Int) == 0)=false:=beq_eq_false_iff_ne.2 (by omega)
    clear hn hw hn0
    go_wp2
    go_ret
    exact ⟨HT.out,by first | rfl | trivial⟩
set_option linter.unusedVariables false
set_option linter.unusedSimpArgs false
attribute [local go_sem ↓] Go.wp_at_zero Go.wp_at_succ
def iiC (l:List Int):List Value:=l.map fun n=>.int .i64 n
theorem iiC_snoc (l:List Int) (n:Int):iiC (l++[n])=iiC l++[.int .i64 n]:=by unfold iiC;simp
theorem iiC_len (l:List Int):(iiC l).length=l.length:=by unfold iiC;simp
theorem iiC_at {l:List Int} {i:Nat} (h:i<l.length):(iiC l)[i]? = some (.int .i64 (l.getD i 0)):=by
 unfold iiC
 rw [List.getElem?_map,List.getElem?_eq_getElem h,List.getD_eq_getElem?_getD,List.getElem?_eq_getElem h];rfl
structure PaM (w:World) (B g:Nat) (vn:Value) (s:PSt) (r:ByteArray) (vw vf vs:Value):Prop where
 po:PoM w B g 3 vf vs s.nodes s.sizes
 cn:w.cell? ⟨g,0,none⟩=some vn
 cr:w.cell? ⟨g,1,none⟩=some (.string r)
 cw:w.cell? ⟨g,2,none⟩=some vw
 cu:w.cell? ⟨g,5,none⟩=some (.bool s.unk)
 fr:w.frozen? ⟨g,1,none⟩=false
 fw:w.frozen? ⟨g,2,none⟩=false
 fu:w.frozen? ⟨g,5,none⟩=false
 hr:r.data.toList=s.rest
 rw:w.ownsRow B 3 1 vw s.wait.length (iiC s.wait)
 gw:vw.ownBlock≠some g
 ws:∀ k,vw.ownBlock=some k→vs.ownBlock≠some k
 lz:Lz s.nodes s.sizes
 sz:r.size≤4000000000000
 wz:s.wait.length≤4000000000000
def PaS (w:World) (B g:Nat) (vn:Value) (s:PSt):Prop:=∃ r vw vf vs,PaM w B g vn s r vw vf vs
def PaO (w w':World) (B g:Nat) (vn:Value) (s:PSt):Prop:=PaS w' B g vn s∧Below B w w'∧w.heap.size≤w'.heap.size
section
variable {w w' w1 w2 w3 : World} {B g : Nat} {vn vw vf vs vf' vs' : Value} {s : PSt} {r : ByteArray}
theorem PaM.lt (h:PaM w B g vn s r vw vf vs):g<w.heap.size:=h.po.lt
theorem PaM.keep (h:PaM w B g vn s r vw vf vs) (hb:Below w.heap.size w w'):PaM w' B g vn s r vw vf vs:=by
 have hg:=h.lt
 exact ⟨h.po.keep hb,(hb.cell (p:=⟨g,0,none⟩) hg).trans h.cn,(hb.cell (p:=⟨g,1,none⟩) hg).trans h.cr,(hb.cell (p:=⟨g,2,none⟩) hg).trans h.cw,(hb.cell (p:=⟨g,5,none⟩) hg).trans h.cu,
  (hb.frozen (p:=⟨g,1,none⟩) hg).trans h.fr,(hb.frozen (p:=⟨g,2,none⟩) hg).trans h.fw,(hb.frozen (p:=⟨g,5,none⟩) hg).trans h.fu,h.hr,
  h.rw.kept (row:=none) ⟨hb.os,hb.tape,hb.output,hb.size,fun k hk _=>hb.block k hk⟩ (by rcases h0:vw.ownBlock with _ | _ <;> simp),h.gw,h.ws,h.lz,h.sz,h.wz⟩
theorem PoM.aside (h:PoM w B g 3 vf vs s.nodes s.sizes) {j:Nat} (h1:j≠3) (h2:j≠4) (v:Value):PoM (w.setCell ⟨g,j,none⟩ v) B g 3 vf vs s.nodes s.sizes:=by
 have hset:=grown_set w g j v
 refine ⟨?_,?_,?_,?_,h.rf.kept hset (.inr h.gf),h.rs.kept hset (.inr h.gs),h.gf,h.gs,h.gb⟩
 ·rw [cell_set_off _ _ _ _ _ (by omega)];exact h.cf
 ·rw [cell_set_off _ _ _ _ _ (by omega)];exact h.cs
 ·rw [World.frozen?_setCell];exact h.ff
 ·rw [World.frozen?_setCell];exact h.fs
theorem PaM.rest (h:PaM w B g vn s r vw vf vs) (r':ByteArray) (hs:r'.size≤4000000000000):PaM (w.setCell ⟨g,1,none⟩ (.string r')) B g vn { s with rest:=r'.data.toList } r' vw vf vs:=by
 refine ⟨h.po.aside (by omega) (by omega) _,?_,World.cell?_setCell_same _ _ _ h.cr,?_,?_,?_,?_,?_,rfl,h.rw.kept (grown_set w g 1 _) (.inr h.gw),h.gw,h.ws,h.lz,hs,h.wz⟩
 ·rw [cell_set_off _ _ _ _ _ (by omega)];exact h.cn
 ·rw [cell_set_off _ _ _ _ _ (by omega)];exact h.cw
 ·rw [cell_set_off _ _ _ _ _ (by omega)];exact h.cu
 ·rw [World.frozen?_setCell];exact h.fr
 ·rw [World.frozen?_setCell];exact h.fw
 ·rw [World.frozen?_setCell];exact h.fu
theorem PaM.unk (h:PaM w B g vn s r vw vf vs) (b:Bool):PaM (w.setCell ⟨g,5,none⟩ (.bool b)) B g vn { s with unk:=b } r vw vf vs:=by
 refine ⟨h.po.aside (by omega) (by omega) _,?_,?_,?_,World.cell?_setCell_same _ _ _ h.cu,?_,?_,?_,h.hr,h.rw.kept (grown_set w g 5 _) (.inr h.gw),h.gw,h.ws,h.lz,h.sz,h.wz⟩
 ·rw [cell_set_off _ _ _ _ _ (by omega)];exact h.cn
 ·rw [cell_set_off _ _ _ _ _ (by omega)];exact h.cr
 ·rw [cell_set_off _ _ _ _ _ (by omega)];exact h.cw
 ·rw [World.frozen?_setCell];exact h.fr
 ·rw [World.frozen?_setCell];exact h.fw
 ·rw [World.frozen?_setCell];exact h.fu
theorem own_take {n k:Nat} {A:Option Addr} {c:Nat} {l:List Int} (h:w.ownsRow B 3 1 (.slice A n c) n (iiC l)) (hl:l.length=n) (hk:k≤n) (h0:0<n):w.ownsRow B 3 1 (.slice A k c) k (iiC (l.take k)):=by
 rcases h.2 with ⟨_,e⟩ | ⟨q,cap,cur,e,hB,hq,hc,hm,hsz,ht⟩
 ·omega
 ·injection e with e1 e2 e3
  subst e1;subst e3
  refine ⟨by rw [iiC_len,List.length_take];omega,.inr ⟨q,c,cur,rfl,hB,hq,by omega,hm,hsz,?_⟩⟩
  have:iiC (l.take k)=(iiC l).take k:=by unfold iiC;rw [List.map_take]
  rw [this,← ht,List.take_take]
  congr 1
  omega
theorem PaM.cut {A:Option Addr} {n c k:Nat} (h:PaM w B g vn s r (.slice A n c) vf vs) (hl:s.wait.length=n) (hk:k≤n) (h0:0<n):PaM (w.setCell ⟨g,2,none⟩ (.slice A k c)) B g vn { s with wait:=s.wait.take k } r (.slice A k c) vf vs:=by
 have hrw:=h.rw
 rw [hl] at hrw
 have ho:(Value.slice A k c).ownBlock=(Value.slice A n c).ownBlock:=by cases A <;> rfl
 refine ⟨h.po.aside (by omega) (by omega) _,?_,?_,World.cell?_setCell_same _ _ _ h.cw,?_,?_,?_,?_,h.hr,?_,by rw [ho];exact h.gw,by rw [ho];exact h.ws,h.lz,h.sz,by show (s.wait.take k).length≤_;rw [List.length_take];have:=h.wz;omega⟩
 ·rw [cell_set_off _ _ _ _ _ (by omega)];exact h.cn
 ·rw [cell_set_off _ _ _ _ _ (by omega)];exact h.cr
 ·rw [cell_set_off _ _ _ _ _ (by omega)];exact h.cu
 ·rw [World.frozen?_setCell];exact h.fr
 ·rw [World.frozen?_setCell];exact h.fw
 ·rw [World.frozen?_setCell];exact h.fu
 ·have:=(own_take hrw hl hk h0).kept (grown_set w g 2 (.slice A k c)) (.inr (by rw [ho];exact h.gw))
  show World.ownsRow _ _ _ _ _ (s.wait.take k).length _
  rw [List.length_take,hl,Nat.min_eq_left hk]
  exact this
theorem PaM.push {gn cap:Nat} {x:Int} (h:PaM w B g vn s r vw vf vs) (hb:Below w.heap.size w w2) (hown:w3.ownsRow B 3 1 (.slice (some ⟨gn,0,none⟩) (s.wait.length+1) cap) (s.wait.length+1) (iiC s.wait++[.int .i64 x])) (hgr:w2.grownBy w3 vw.ownBlock) (hat:vw.ownBlock=some gn∨w.heap.size≤gn) (hz:s.wait.length<4000000000000) :
  PaM (w3.setCell ⟨g,2,none⟩ (.slice (some ⟨gn,0,none⟩) (s.wait.length+1) cap)) B g vn { s with wait:=s.wait++[x] } r (.slice (some ⟨gn,0,none⟩) (s.wait.length+1) cap) vf vs:=by
 have hg:=h.lt
 have hgn:gn≠g:=by
  rcases hat with e | e
  ·exact fun e2=>h.gw (by rw [e,e2])
  ·omega
 have far:∀ a:Addr,a.block<w.heap.size→some a.block≠vw.ownBlock→w3.cell? a=w.cell? a∧w3.frozen? a=w.frozen? a:=fun a ha hne =>
  ⟨(hgr.cell_far a (Nat.lt_of_lt_of_le ha hb.size) hne).trans (hb.cell ha),(hgr.frozen_far a (Nat.lt_of_lt_of_le ha hb.size) hne).trans (hb.frozen ha)⟩
 have fg:=fun j=>far ⟨g,j,none⟩ hg (Ne.symm h.gw)
 have hset:=grown_set w3 g 2 (.slice (some ⟨gn,0,none⟩) (s.wait.length+1) cap)
 have hpo:PoM w3 B g 3 vf vs s.nodes s.sizes:=by
  have hf2:w2.ownsRow B 58 4 vf s.nodes.length (fiC s.nodes):=h.po.rf.kept (row:=none) ⟨hb.os,hb.tape,hb.output,hb.size,fun k hk _=>hb.block k hk⟩ (by rcases h0:vf.ownBlock with _ | _ <;> simp)
  have hs2:w2.ownsRow B 3 1 vs s.sizes.length (niC s.sizes):=h.po.rs.kept (row:=none) ⟨hb.os,hb.tape,hb.output,hb.size,fun k hk _=>hb.block k hk⟩ (by rcases h0:vs.ownBlock with _ | _ <;> simp)
  refine ⟨(fg 3).1.trans h.po.cf,(fg 4).1.trans h.po.cs,(fg 3).2.trans h.po.ff,(fg 4).2.trans h.po.fs,?_,?_,h.po.gf,h.po.gs,h.po.gb⟩
  ·rcases e:vw.ownBlock with _ | k
   ·exact hf2.kept (row:=none) (by rw [← e];exact hgr) (by rcases h0:vf.ownBlock with _ | _ <;> simp)
   ·exact hf2.kept hgr (.inr (by rw [e];exact own_types h.rw h.po.rf (by decide) e))
  ·rcases e:vw.ownBlock with _ | k
   ·exact hs2.kept (row:=none) (by rw [← e];exact hgr) (by rcases h0:vs.ownBlock with _ | _ <;> simp)
   ·exact hs2.kept hgr (.inr (by rw [e];exact h.ws k e))
 refine ⟨hpo.aside (by omega) (by omega) _,?_,?_,World.cell?_setCell_same _ _ _ ((fg 2).1.trans h.cw),?_,?_,?_,?_,h.hr,?_,by simp [Value.ownBlock,hgn],?_,h.lz,h.sz,by show (s.wait++[x]).length≤_;simp;omega⟩
 ·rw [cell_set_off _ _ _ _ _ (by omega)];exact (fg 0).1.trans h.cn
 ·rw [cell_set_off _ _ _ _ _ (by omega)];exact (fg 1).1.trans h.cr
 ·rw [cell_set_off _ _ _ _ _ (by omega)];exact (fg 5).1.trans h.cu
 ·rw [World.frozen?_setCell];exact (fg 1).2.trans h.fr
 ·rw [World.frozen?_setCell];exact (fg 2).2.trans h.fw
 ·rw [World.frozen?_setCell];exact (fg 5).2.trans h.fu
 ·show World.ownsRow _ _ _ _ _ (s.wait++[x]).length (iiC (s.wait++[x]))
  rw [iiC_snoc,List.length_append]
  exact hown.kept hset (.inr (by simp [Value.ownBlock,hgn]))
 ·intro k e
  simp [Value.ownBlock] at e
  subst e
  rcases hat with q | q
  ·exact h.ws _ q
  ·intro e
   have:=(h.po.rs.lt _ e).2
   omega
theorem PaM.pushB (h:PaM w B g vn s r vw vf vs) (hb:Below w.heap.size w w2) (hgr:w2.grownBy w3 vw.ownBlock) (v:Value):Below B w (w3.setCell ⟨g,2,none⟩ v):=by
 have hg:=h.po.gb
 have hB:B≤w.heap.size:=by have:=h.lt;omega
 exact ((hb.mono hB).grown hgr (Nat.le_trans hB hb.size) (fun k hk=>(h.rw.lt k hk).1)).setCell (p:=⟨g,2,none⟩) hg v
theorem PaM.added {l:List Fi} {z:List Nat} (h:PaM w B g vn s r vw vf vs) (e:PoE w w' B g 3 vf vs vf' vs' l z) (hz:Lz l z):PaM w' B g vn { s with nodes:=l,sizes:=z } r vw vf' vs':=by
 have hc:=fun j (h1:j≠3) (h2:j≠4)=>e.cel j h1 h2
 refine ⟨e.m,(hc 0 (by omega) (by omega)).trans h.cn,(hc 1 (by omega) (by omega)).trans h.cr,(hc 2 (by omega) (by omega)).trans h.cw,(hc 5 (by omega) (by omega)).trans h.cu,
  (e.frz 1).trans h.fr,(e.frz 2).trans h.fw,(e.frz 5).trans h.fu,h.hr,?_,h.gw,?_,hz,h.sz,h.wz⟩
 ·refine ⟨h.rw.1,?_⟩
  rcases h.rw.2 with hn | ⟨q,cap,cur,eq,hB,hq,rest⟩
  ·exact .inl hn
  ·have hown:vw.ownBlock=some q:=by rw [eq];rfl
   refine .inr ⟨q,cap,cur,eq,hB,?_,rest⟩
   rw [e.chg.block q (h.rw.lt q hown).2 ?_]
   ·exact hq
   ·rintro (e1 | e1 | e1)
    ·exact h.gw (by rw [hown,e1])
    ·exact own_types h.rw h.po.rf (by decide) hown e1
    ·exact h.ws q hown e1
 ·intro k q
  intro q2
  rcases e.obs k q2 with q3 | q3
  ·exact h.ws k q q3
  ·have:=(h.rw.lt k q).2
   omega
theorem PaM.addB {l:List Fi} {z:List Nat} (h:PaM w B g vn s r vw vf vs) (e:PoE w w' B g 3 vf vs vf' vs' l z):Below B w w':=by
 have hB:B≤w.heap.size:=by have:=h.lt;have:=h.po.gb;omega
 refine e.chg.below hB (fun k hk=>?_)
 rintro (e1 | e1 | e1)
 ·have:=h.po.gb;omega
 ·have:=(h.po.rf.lt k e1).1;omega
 ·have:=(h.po.rs.lt k e1).1;omega
end
def NxR (w w':World) (B g:Nat) (vn:Value) (s:PSt) (e:Ending):Prop:=match nxt s.rest with
 | some (t,u)=>(∃ tb:ByteArray,e=.returned (.string tb)∧tb.data.toList=t)∧PaO w w' B g vn { s with rest:=u }
 | none=>e=pnE 31∧Below B w w'
theorem tkN_le (l:List UInt8) {n:Nat} (h:tkN l=some n):n≤l.length:=by
 rcases l with _ | ⟨b,t⟩
 ·simp [tkN] at h;omega
 ·have he:=tkN_eq (b::t) (by simp)
  rw [h] at he
  by_cases h1:[38,38] <+: b::t
  ·rw [if_pos h1] at he;injection he with he;have:=h1.length_le;rw [he];exact this
  rw [if_neg h1] at he
  by_cases h2:[124,124] <+: b::t
  ·rw [if_pos h2] at he;injection he with he;have:=h2.length_le;rw [he];exact this
  rw [if_neg h2] at he
  have hw:wlN (b::t)≤(b::t).length:=by
   rw [wlN_cons]
   split
   ·have:=(tw_spec (fun c=>lt8 c||dg8 c) t).2.2
    simp;omega
   ·simp
  repeat (split at he <;> first | (injection he with he;rw [he];first | exact hw | (simp;done)) | skip)
  all_goals (first | (cases he;done) | skip)
theorem nxt_eq (l:List UInt8):nxt l=(tkN (l.dropWhile blk8)).map fun n=>((l.dropWhile blk8).take n,(l.dropWhile blk8).drop n):=rfl
theorem pnext_any (B g:Nat) (vn:Value) (s:PSt) (w:World) (h:Hid (PaS w B g vn s)) :
  Calls Tryz.prog 113 #[.pointer (some ⟨g,0,none⟩)] w fun e w'=>NxR w w' B g vn s e:=by
 obtain ⟨r,vw,vf,vs,h1⟩:=h.out
 have HT:=hid (trimleft_any r w)
 have c1:=h1.cr
 have f1:=h1.fr
 have hgl:=h1.lt
 have HM:=hid h1
 have HR:=hid h1.hr
 clear h h1
 go_enter Tryz.func113,Tryz.ntmps113
 go_wp2_with fail
 with_reducible refine HT.out.mono ?_
 rintro e w1 ⟨rfl,b1⟩
 have HM1:=hid (HM.out.keep b1)
 have HB1:=hid (b1.mono (show B≤w.heap.size by have:=HM.out.po.gb;omega))
 have HZ1:=hid b1.size
 clear b1 c1 f1 HT
 rw [HR.out]
 have hR1:(⟨(s.rest.dropWhile blk8).toArray⟩:ByteArray).data.toList=s.rest.dropWhile blk8:=by simp
 generalize (⟨(s.rest.dropWhile blk8).toArray⟩:ByteArray)=r1 at *
 have HR1:=hid hR1
 have hl1:=sz_tl r1
 rw [hR1] at hl1
 have hs1:r1.size≤4000000000000:=by
  have q1:=HM.out.sz
  have q2:=sz_tl r
  rw [HR.out] at q2
  have q3:=(List.dropWhile_suffix blk8 (l:=s.rest)).length_le
  omega
 have HL1:=hid hl1
 clear hR1 hl1
 have c1:=HM1.out.cr
 have f1:=HM1.out.fr
 have hgl1:=HM1.out.lt
 have HM2:=hid (HM1.out.rest r1 hs1)
 have HB2:=hid (HB1.out.setCell (p:=⟨g,1,none⟩) HM1.out.po.gb (.string r1))
 have HZ2:Hid (w.heap.size≤(w1.setCell ⟨g,1,none⟩ (.string r1)).heap.size):=hid (by have:=HZ1.out;simp;exact this)
 go_upto_region 2 with fail
 clear c1 f1 HM1 HB1 HZ1 hgl1
 generalize w1.setCell ⟨g,1,none⟩ (.string r1)=w2 at *
 have HTK:=hid (toklen_any r1 w2 (by omega))
 have c1:=HM2.out.cr
 have f1:=HM2.out.fr
 have hgl2:=HM2.out.lt
 go_wp2_with fail
 with_reducible refine HTK.out.mono ?_
 rintro e w3 ⟨ht,rfl⟩
 unfold TkR at ht
 rw [HR1.out] at ht
 rcases hk:tkN (s.rest.dropWhile blk8) with _ | n
 ·rw [hk] at ht
  replace ht:e=.panicked [{ v:=.iface 32 (.int .i64 31),recovered:=false }]:=ht
  subst ht
  have HN:Hid (NxR w w2 B g vn s (pnE 31)):=hid (by
   unfold NxR
   rw [nxt_eq,hk]
   exact ⟨rfl,HB2.out⟩)
  clear hk
  go_wp2
  exact ⟨rfl,HN.out⟩
 ·rw [hk] at ht
  replace ht:e=.returned (.int .i64 (n:Int)):=ht
  subst ht
  have hn:=tkN_le _ hk
  rw [HL1.out] at hn
  have hT:(r1.extract 0 n).data.toList=(s.rest.dropWhile blk8).take n:=by rw [tl_ext,HR1.out,List.drop_zero,Nat.sub_zero]
  have hU:(r1.extract n r1.size).data.toList=(s.rest.dropWhile blk8).drop n:=by rw [tl_ext,HR1.out];exact List.take_of_length_le (by rw [List.length_drop,HL1.out];exact Nat.le_refl _)
  have hsU:(r1.extract n r1.size).size≤4000000000000:=by rw [ByteArray.size_extract];omega
  have HM3:=hid (HM2.out.rest (r1.extract n r1.size) hsU)
  have HN:Hid (∀ (w':World) (tb:ByteArray),tb.data.toList=(s.rest.dropWhile blk8).take n→PaS w' B g vn { s with rest:=(s.rest.dropWhile blk8).drop n }→Below B w w'→w.heap.size≤w'.heap.size→NxR w w' B g vn s (.returned (.string tb))):=hid (fun w' tb h1 h2 h3 h4=>by
   unfold NxR
   rw [nxt_eq,hk]
   exact ⟨⟨tb,rfl,h1⟩,h2,h3,h4⟩)
  have HT3:=hid hT
  rw [hU] at HM3
  have HS3:Hid (PaS (w2.setCell ⟨g,1,none⟩ (.string (r1.extract n r1.size))) B g vn { s with rest:=(s.rest.dropWhile blk8).drop n }):=hid ⟨_,_,_,_,HM3.out⟩
  have HB3:=hid (HB2.out.setCell (p:=⟨g,1,none⟩) HM2.out.po.gb (.string (r1.extract n r1.size)))
  have i1:(n:Int)≤(r1.size:Int):=by omega
  have i2:(0:Int)≤(n:Int):=by omega
  clear hk hT hU hsU HM3
  go_wp2
  go_ret
  exact HN.out _ _ HT3.out HS3.out HB3.out (by have:=HZ2.out;simp;exact this)
set_option linter.unusedVariables false
set_option linter.unusedSimpArgs false
attribute [local go_sem ↓] Go.wp_at_zero Go.wp_at_succ
theorem add_eq (op v:Int) (s:PSt):add op v s=(addN op v s.nodes s.sizes).bind fun p=>.ok { s with nodes:=p.1,sizes:=p.2 }:=by
 unfold add addN
 by_cases h0:512<s.nodes.length
 ·rw [if_pos h0,if_pos h0];rfl
 rw [if_neg h0,if_neg h0]
 by_cases h1:ar op=0
 ·simp only [if_pos h1];rfl
 simp only [if_neg h1]
 by_cases h2:s.nodes.length=0
 ·simp only [if_pos h2];rfl
 simp only [if_neg h2]
 by_cases h3:ar op=1
 ·simp only [if_pos h3];rfl
 simp only [if_neg h3]
 by_cases h4:s.nodes.length - 1<s.sizes.getD (s.nodes.length - 1) 0
 ·simp only [if_pos h4];rfl
 simp only [if_neg h4];rfl
theorem add_ok {op v:Int} {s s':PSt} (e:add op v s=.ok s'):∃ l z,addN op v s.nodes s.sizes=.ok (l,z)∧s'={ s with nodes:=l,sizes:=z }:=by
 rw [add_eq] at e
 rcases q:addN op v s.nodes s.sizes with ⟨l,z⟩ | _ | _
 ·rw [q] at e
  injection e with e
  exact ⟨l,z,rfl,e.symm⟩
 ·rw [q] at e;cases e
 ·rw [q] at e;cases e
theorem pa_add (B g:Nat) (vn:Value) (op v:Int) (s s':PSt) (w:World) (h:PaS w B g vn s) (e:add op v s=.ok s') :
  Calls Tryz.prog 79 #[.pointer (some ⟨g,3,none⟩),.int .i64 op,.int .i64 v] w fun e w'=>e=.returned (.tuple #[])∧PaO w w' B g vn s':=by
 obtain ⟨r,vw,vf,vs,h1⟩:=h
 obtain ⟨l,z,q,rfl⟩:=add_ok e
 refine (padd_any B g 3 vf vs op v s.nodes l s.sizes z w (hid h1.po) (hid h1.lz) q).mono ?_
 rintro e w' ⟨he,vf',vs',hE⟩
 exact ⟨he,⟨r,vw,vf',vs',h1.added hE (addN_lz h1.lz q)⟩,h1.addB hE,hE.chg.size⟩
theorem add_wait {op v:Int} {s s':PSt} (e:add op v s=.ok s'):s'.wait=s.wait∧s'.rest=s.rest∧s'.unk=s.unk:=by
 obtain ⟨l,z,_,rfl⟩:=add_ok e
 exact ⟨rfl,rfl,rfl⟩
theorem bind_ok {α β:Type} {x:POut α} {f:α→POut β} {b:β} (h:x.bind f=.ok b):∃ a,x=.ok a∧f a=.ok b:=by
 rcases x with a | _ | _
 ·exact ⟨a,rfl,h⟩
 ·cases h
 ·cases h
theorem app_succ (op:Int) (n:Nat) (s:PSt):app op (n+1) s=if s.wait.getD n 0 = -1∨stg (s.wait.getD n 0)<stg op then .ok s else (add (s.wait.getD n 0) 0 s).bind fun s'=>app op n { s' with wait:=s'.wait.take n }:=rfl
structure ApI (w wr:World) (B g:Nat) (vn:Value) (op:Int) (k:Nat) (s':PSt):Prop where
 ex:∃ st,PaS wr B g vn st∧st.wait.length=k∧app op k st=.ok s'
 bel:Below B w wr
 siz:w.heap.size≤wr.heap.size
theorem papp_any (B g:Nat) (vn:Value) (op:Int) (s s':PSt) (w:World) (h:Hid (PaS w B g vn s)) (e:Hid (app op s.wait.length s=.ok s')) :
  Calls Tryz.prog 114 #[.pointer (some ⟨g,0,none⟩),.int .i64 op] w fun e w'=>e=.returned (.tuple #[])∧PaO w w' B g vn s':=by
 obtain ⟨r,vw,vf,vs,h1⟩:=h.out
 obtain ⟨A,c,ew,hc,_⟩:=own_form h1.rw
 subst ew
 have c2:=h1.cw
 have hgl:=h1.lt
 have HI0:Hid (ApI w w B g vn op s.wait.length s'):=hid ⟨⟨s,h.out,rfl,e.out⟩,Below.refl B w,Nat.le_refl _⟩
 clear h e hc h1
 generalize s.wait.length=n0 at *
 go_enter Tryz.func114,Tryz.ntmps114
 go_wp2
 go_loopw [4] (fun i wr=>∃ k:Nat,i=.int .i64 (k:Int)∧Hid (ApI w wr B g vn op k s')) (fun i _=>(intOf i).toNat)
 case atStart=>exact ⟨n0,rfl,HI0⟩
 case round =>
  clear HI0 c2 hgl
  obtain ⟨k,rfl,HI⟩:=hrel
  obtain ⟨⟨st,hs,hk,he⟩,hbel,hsiz⟩:=HI.out
  have HBL:=hid hbel
  have HSZ:=hid hsiz
  clear hbel hsiz HI
  rcases k with _ | j
  ·have e1:st=s':=by injection he
   subst e1
   have HS:=hid hs
   clear hs he hk
   go_wp2
   go_end0
   exact ⟨rfl,HS.out,HBL.out,HSZ.out⟩
  ·rw [app_succ] at he
   obtain ⟨r,vw,vf,vs,h1⟩:=hs
   have hrw:=h1.rw
   rw [hk] at hrw
   obtain ⟨q,c,ew,hc,hq⟩:=World.ownsRow.form hrw (by omega)
   subst ew
   have c2:=h1.cw
   have f2:=h1.fw
   have hgl:=h1.lt
   have d0:wr.cell? ⟨q,j,none⟩=some (.int .i64 (st.wait.getD j 0)):=(hrw.cellAt j (by omega)).trans (iiC_at (by omega))
   have HM:=hid h1
   have HK:=hid hk
   have HBZ:Hid (j+1≤4000000000000):=hid (by have:=h1.wz;omega)
   have i1:(0:Int)≤(j:Int):=by omega
   have i2:(j:Int)<(j:Int)+1:=by omega
   have i3:(0:Int)<(j:Int)+1:=by omega
   have i4:(j:Int)≤(c:Int):=by have:=own_form hrw;obtain ⟨A',c',e1,h2,_⟩:=this;injection e1 with _ _ e3;omega
   have HBZ1:(j:Int)+1≤9223372036854775807:=by have:=HBZ.out;omega
   clear h1 hrw hk hq hc
   generalize hl:st.wait.getD j 0=la at *
   clear hl
   by_cases c1:la = -1
   ·have e1:st=s':=by rw [if_pos (.inl c1)] at he;injection he
    subst e1
    have b1:(la == -1)=true:=beq_iff_eq.2 c1
    have HS:Hid (PaS wr B g vn st):=hid ⟨_,_,_,_,HM.out⟩
    clear he c1
    go_wp2
    refine bodyPost_ret (results_none rfl _ _ _) rfl ?_
    exact ⟨rfl,HS.out,HBL.out,HSZ.out⟩
   have b1:(la == -1)=false:=beq_eq_false_iff_ne.2 c1
   have HSA:∀ W,Calls Tryz.prog 91 #[.int .i64 la] W fun e w'=>e=.returned (.int .i64 ((stg la:Nat):Int))∧W=w':=fun W=>strength_any la W
   have HSO:∀ W,Calls Tryz.prog 91 #[.int .i64 op] W fun e w'=>e=.returned (.int .i64 ((stg op:Nat):Int))∧W=w':=fun W=>strength_any op W
   by_cases c3:stg la<stg op
   ·have e1:st=s':=by rw [if_pos (.inr c3)] at he;injection he
    subst e1
    have HS:Hid (PaS wr B g vn st):=hid ⟨_,_,_,_,HM.out⟩
    have b3:((stg la:Nat):Int)<((stg op:Nat):Int):=by omega
    have b4:decide (stg la<stg op)=true:=decide_eq_true c3
    generalize stg la=sa at *
    generalize stg op=so at *
    clear he c1 c3
    go_wp2_with fail
    with_reducible refine (HSA _).mono ?_
    rintro e w1 ⟨rfl,rfl⟩
    go_wp2_with fail
    with_reducible refine (HSO _).mono ?_
    rintro e w1 ⟨rfl,rfl⟩
    go_wp2
    refine bodyPost_ret (results_none rfl _ _ _) rfl ?_
    exact ⟨rfl,HS.out,HBL.out,HSZ.out⟩
   ·rw [if_neg (fun h=>h.elim c1 c3)] at he
    obtain ⟨s2,ha,he2⟩:=bind_ok he
    have hw2:=(add_wait ha).1
    have HW2:=hid hw2
    have HE2:=hid he2
    have HADD:=hid (pa_add B g vn la 0 st s2 wr ⟨_,_,_,_,HM.out⟩ ha)
    have b3:¬ ((stg la:Nat):Int)<((stg op:Nat):Int):=by omega
    have b4:decide (stg la<stg op)=false:=decide_eq_false c3
    generalize stg la=sa at *
    generalize stg op=so at *
    clear he c1 c3 ha he2 hw2
    go_wp2_with fail
    with_reducible refine (HSA _).mono ?_
    rintro e w1 ⟨rfl,rfl⟩
    go_wp2_with fail
    with_reducible refine (HSO _).mono ?_
    rintro e w1 ⟨rfl,rfl⟩
    go_wp2_with fail
    with_reducible refine HADD.out.mono ?_
    rintro e w2 ⟨rfl,hs2,hb2,hz2⟩
    clear c2 f2 hgl d0 HADD HSA HSO HM i4 i2
    obtain ⟨r2,vw2,vf2,vs2,m2⟩:=hs2
    have hk2:s2.wait.length=j+1:=by rw [HW2.out];exact HK.out
    obtain ⟨A2,c4,ew,hc4,_⟩:=own_form m2.rw
    rw [hk2] at ew hc4
    subst ew
    have c2:=m2.cw
    have f2:=m2.fw
    have hgl:=m2.lt
    have i4:(j:Int)≤(c4:Int):=by omega
    have hcut:=m2.cut hk2 (k:=j) (by omega) (by omega)
    have HB2:=hid ((HBL.out.trans hb2).setCell (p:=⟨g,2,none⟩) m2.po.gb (.slice A2 j c4))
    have HZ2:=hid (Nat.le_trans HSZ.out hz2)
    have HI3:Hid (ApI w (w2.setCell ⟨g,2,none⟩ (.slice A2 j c4)) B g vn op j s'):=hid ⟨⟨_,⟨_,_,_,_,hcut⟩,by show (s2.wait.take j).length=j;rw [List.length_take,hk2];omega,HE2.out⟩,HB2.out,by have:=HZ2.out;simp;exact this⟩
    clear hcut hk2 m2 hb2 hz2 HB2 HZ2
    go_wp2
    go_roundw
    case rel=>exact ⟨j,by first | rfl | go_num,HI3⟩
    case measure=>simp [intOf];try omega
theorem app_mono {op:Int}:∀ {n:Nat} {s s':PSt},app op n s=.ok s'→s.wait.length=n→s'.wait.length≤n∧s'.rest=s.rest∧s'.unk=s.unk
 | 0,s,s',e,h=>by
   injection e with e
   subst e
   exact ⟨by omega,rfl,rfl⟩
 | n+1,s,s',e,h=>by
   rw [app_succ] at e
   split at e
   ·injection e with e
    subst e
    exact ⟨by omega,rfl,rfl⟩
   ·obtain ⟨s2,ha,he⟩:=bind_ok e
    obtain ⟨w1,w2,w3⟩:=add_wait ha
    have:=app_mono he (by show (s2.wait.take n).length=n;rw [List.length_take,w1];omega)
    refine ⟨by omega,this.2.1.trans w2,this.2.2.trans w3⟩
theorem pawt_any (B g:Nat) (vn:Value) (op:Int) (s s':PSt) (w:World) (h:Hid (PaS w B g vn s)) (e:Hid (awt op s=.ok s')) (hwl:Hid (s.wait.length<4000000000000)) :
  Calls Tryz.prog 115 #[.pointer (some ⟨g,0,none⟩),.int .i64 op] w fun e w'=>e=.returned (.tuple #[])∧PaO w w' B g vn s':=by
 obtain ⟨j0,hj,hj0,hj1,hj2⟩:=info_parts Tryz.infoIntF
 obtain ⟨s2,ha,he⟩:=bind_ok e.out
 have HE:Hid ({ s2 with wait:=s2.wait++[op] }=s'):=hid (by injection he)
 have HA:=hid (papp_any B g vn op s s2 w h (hid ha))
 have HWL:Hid (s2.wait.length<4000000000000):=hid (by have:=(app_mono ha rfl).1;have:=hwl.out;omega)
 clear h e ha he hwl
 go_enter Tryz.func115,Tryz.ntmps115
 go_wp2_with fail
 with_reducible refine HA.out.mono ?_
 rintro e w2 ⟨rfl,hs2,hb2,hz2⟩
 obtain ⟨r,vw,vf,vs,m⟩:=hs2
 obtain ⟨A2,c4,ew,hc4,_⟩:=own_form m.rw
 subst ew
 have c2:=m.cw
 have f2:=m.fw
 have hgl:=m.lt
 have hgb:=m.po.gb
 have HO:=hid m.rw
 have HM:=hid m
 have HB2:=hid hb2
 have HZ2:=hid hz2
 have hvw:(Value.slice A2 s2.wait.length c4).ownBlock≠some g:=m.gw
 have hwl:=HWL.out
 have hgn:¬ g=w2.heap.size:=by omega
 clear m hb2 hz2 hc4 HA
 go_wp2_with (refine wpList_append_lies _ rfl _ _ _ rfl B 3 j0 _ 1 8 Tryz.underlying61 hj hj0 hj1 hj2 rfl (by omega) (.slice A2 s2.wait.length c4) s2.wait.length (iiC s2.wait) rfl (HO.out.alloc _) _ _ _ [.int .i64 op] rfl rfl (World.news_of_block (heap_alloc_new _ _)) (by simp [Value.oneCell']) (by omega) (by simp only [maxLen];omega) (by omega) (by simp;omega) _ rfl ?_;intro gn2 cap2 w6 hown2 hgrow2 hat2 hlt2;have d2:=(hgrow2.cell_far ⟨g,2,none⟩ (by simp;omega) (Ne.symm hvw)).trans (show _=some (Value.slice A2 s2.wait.length c4) by go_simp);have e2:=(hgrow2.frozen_far ⟨g,2,none⟩ (by simp;omega) (Ne.symm hvw)).trans (show _=false by go_simp))
 go_end0
 have hP:=HM.out.push ((Below.refl _ _).alloc (Nat.le_refl _) _) hown2 hgrow2 (hat2.imp id (fun e=>by rw [e];simp)) hwl
 have hPB:=HM.out.pushB (g:=g) ((Below.refl _ _).alloc (Nat.le_refl _) _) hgrow2 (.slice (some ⟨gn2,0,none⟩) (s2.wait.length+1) cap2)
 rw [HE.out] at hP
 refine ⟨rfl,⟨_,_,_,_,hP⟩,HB2.out.trans hPB,?_⟩
 have q1:=HZ2.out
 have q2:=hgrow2.size
 simp at q2
 simp
 omega
def L8 (L:List ByteArray):List (List UInt8):=L.map fun s=>s.data.toList
theorem ixL_eq {L:List ByteArray} {t:ByteArray} {r:Int} (h:IsIx L L.length t r):r=ixL (L8 L) t.data.toList:=by
 unfold ixL
 rcases h with ⟨rfl,h⟩ | ⟨k,hk,rfl,e,h⟩
 ·have:(L8 L).findIdx? (· == t.data.toList)=none:=by
   rw [List.findIdx?_eq_none_iff]
   intro x hx
   unfold L8 at hx
   obtain ⟨y,hy,rfl⟩:=List.mem_map.1 hx
   obtain ⟨i,hi,rfl⟩:=List.getElem_of_mem hy
   have:=h i hi
   unfold sg at this
   rw [List.getD_eq_getElem?_getD,List.getElem?_eq_getElem hi] at this
   rw [beq_eq_false_iff_ne]
   intro q
   apply this
   exact tl_inj (by rw [ByteArray.toList_eq,ByteArray.toList_eq];exact q)
  rw [this]
 ·have:(L8 L).findIdx? (· == t.data.toList)=some k:=by
   rw [List.findIdx?_eq_some_iff_getElem]
   unfold L8
   refine ⟨by rw [List.length_map];exact hk,?_,fun j hj=>?_⟩
   ·rw [List.getElem_map,beq_iff_eq]
    unfold sg at e
    rw [List.getD_eq_getElem?_getD,List.getElem?_eq_getElem hk] at e
    exact congrArg _ (congrArg _ e)
   ·have hjl:j<L.length:=by omega
    have:=h j hj
    unfold sg at this
    rw [List.getD_eq_getElem?_getD,List.getElem?_eq_getElem hjl] at this
    rw [List.getElem_map]
    intro q
    rw [beq_iff_eq] at q
    apply this
    exact tl_inj (by rw [ByteArray.toList_eq,ByteArray.toList_eq];exact q)
  rw [this]
theorem pwrd_any (B g n nc:Nat) (NA:Option Addr) (L:List ByteArray) (tb:ByteArray) (s s':PSt) (w:World) (h:Hid (PaS w B g (.slice NA n nc) s)) (hL:Hid (L.length=n)) (hn:n≤1000000) (hr:Hid (Rstr w B NA L)) (e:Hid (wrd (L8 L) tb.data.toList s=.ok s')) :
  Calls Tryz.prog 116 #[.pointer (some ⟨g,0,none⟩),.string tb] w fun e w'=>e=.returned (.tuple #[])∧PaO w w' B g (.slice NA n nc) s':=by
 have he:=e.out
 unfold wrd at he
 by_cases c1:tb.data.toList=[116,114,117,101]
 ·rw [if_pos c1] at he
  have b1:(tb.toList == [116,114,117,101])=true:=by rw [ByteArray.toList_eq];exact beq_iff_eq.2 c1
  have HA:=hid (pa_add B g _ 1 0 s s' w h.out he)
  clear h hr e he c1
  go_enter Tryz.func116,Tryz.ntmps116
  go_wp2_with fail
  with_reducible refine HA.out.mono ?_
  rintro e w2 ⟨rfl,b2⟩
  have HB:=hid b2
  clear b2
  go_wp2
  go_end0
  exact ⟨rfl,HB.out⟩
 rw [if_neg c1] at he
 have b1:(tb.toList == [116,114,117,101])=false:=by rw [ByteArray.toList_eq];exact beq_eq_false_iff_ne.2 c1
 by_cases c2:tb.data.toList=[102,97,108,115,101]
 ·rw [if_pos c2] at he
  have b2:(tb.toList == [102,97,108,115,101])=true:=by rw [ByteArray.toList_eq];exact beq_iff_eq.2 c2
  have HA:=hid (pa_add B g _ 0 0 s s' w h.out he)
  clear h hr e he c1 c2
  go_enter Tryz.func116,Tryz.ntmps116
  go_wp2_with fail
  with_reducible refine HA.out.mono ?_
  rintro e w2 ⟨rfl,b2⟩
  have HB:=hid b2
  clear b2
  go_wp2
  go_end0
  exact ⟨rfl,HB.out⟩
 rw [if_neg c2] at he
 have b2:(tb.toList == [102,97,108,115,101])=false:=by rw [ByteArray.toList_eq];exact beq_eq_false_iff_ne.2 c2
 obtain ⟨r,vw,vf,vs,m⟩:=h.out
 have hgb:=m.po.gb
 have hlt:=m.lt
 have HI:Hid (Calls Tryz.prog 106 #[.slice NA n nc,.string tb] w fun e w'=>e=.returned (.int .i64 (ixL (L8 L) tb.data.toList))∧w=w'):=hid ((findex NA nc n L tb w (by rw [hL.out];exact Nat.le_refl _) (by rw [hL.out];exact hn) (hid (hr.out.mono (by omega)))).mono (by
  rintro e w' ⟨⟨q,rfl,hq⟩,hw⟩
  rw [← hL.out] at hq
  rw [ixL_eq hq]
  exact ⟨rfl,hw⟩))
 have HE:=hid he
 have c0:=m.cn
 have c5:=m.cu
 have f5:=m.fu
 have HM:=hid m
 clear h hr e he c1 c2 m
 generalize ixL (L8 L) tb.data.toList=ix at *
 have HM2:=hid (HM.out.unk (s.unk||decide (ix<0)))
 have HB2:=hid ((Below.refl B w).setCell (p:=⟨g,5,none⟩) hgb (.bool (s.unk||decide (ix<0))))
 have HA2:=hid (pa_add B g (.slice NA n nc) 2 ix _ s' _ ⟨_,_,_,_,HM2.out⟩ HE.out)
 rcases hu:s.unk with _ | _
 ·rw [hu] at c5 HA2 HB2
  rw [Bool.false_or] at HA2 HB2
  clear hu HM2 HE
  by_cases c3:ix<0
  ·have c3':decide (ix<0)=true:=decide_eq_true c3
   rw [c3'] at HA2 HB2
   go_enter Tryz.func116,Tryz.ntmps116
   go_wp2_with fail
   with_reducible refine HI.out.mono ?_
   rintro e w2 ⟨rfl,rfl⟩
   go_wp2_with fail
   with_reducible refine HA2.out.mono ?_
   rintro e w2 ⟨rfl,h1,h2,h3⟩
   have HB:=hid h1
   have HC:=hid (HB2.out.trans h2)
   have HD:Hid (w.heap.size≤w2.heap.size):=hid (by have:=h3;simp at this;exact this)
   clear h1 h2 h3
   go_wp2
   go_end0
   exact ⟨rfl,HB.out,HC.out,HD.out⟩
  ·have c3':decide (ix<0)=false:=decide_eq_false c3
   rw [c3'] at HA2 HB2
   go_enter Tryz.func116,Tryz.ntmps116
   go_wp2_with fail
   with_reducible refine HI.out.mono ?_
   rintro e w2 ⟨rfl,rfl⟩
   go_wp2_with fail
   with_reducible refine HA2.out.mono ?_
   rintro e w2 ⟨rfl,h1,h2,h3⟩
   have HB:=hid h1
   have HC:=hid (HB2.out.trans h2)
   have HD:Hid (w.heap.size≤w2.heap.size):=hid (by have:=h3;simp at this;exact this)
   clear h1 h2 h3
   go_wp2
   go_end0
   exact ⟨rfl,HB.out,HC.out,HD.out⟩
 ·rw [hu] at c5 HA2 HB2
  rw [Bool.true_or] at HA2 HB2
  clear hu HM2 HE
  go_enter Tryz.func116,Tryz.ntmps116
  go_wp2_with fail
  with_reducible refine HI.out.mono ?_
  rintro e w2 ⟨rfl,rfl⟩
  go_wp2_with fail
  with_reducible refine HA2.out.mono ?_
  rintro e w2 ⟨rfl,h1,h2,h3⟩
  have HB:=hid h1
  have HC:=hid (HB2.out.trans h2)
  have HD:Hid (w.heap.size≤w2.heap.size):=hid (by have:=h3;simp at this;exact this)
  clear h1 h2 h3
  go_wp2
  go_end0
  exact ⟨rfl,HB.out,HC.out,HD.out⟩
end Go.Proofs.YtpaednfinlaioaaGreatDoor
