/-
  Plain mathematics and contracts of package diagram, several texts in one: DCh6.
-/
import Derived.Test.YtmfinkaphglmjaaDoorMt
import Derived.Test.YtmfinkaphglmjaaDoorMq

/-! Choose, where both sides are sets over six conditions. -/
namespace Go.Proofs.YtmfinkaphglmjaaDoor
open Go.RowKit Dg St

theorem six_choose {w : World} {A0 A1 A2 : Option Addr} {m0 c0 r0 m1 c1 r1 m2 c2 r2 : Nat} {f0 f1 f2 g : Cfg → Bool} (h0 : Hid (Dn w A0 m0 c0 r0 f0)) (h1 : Hid (Dn w A1 m1 c1 r1 f1)) (h2 : Hid (Dn w A2 m2 c2 r2 f2)) (l1 : Hid (Low 6 f1)) (l2 : Hid (Low 6 f2)) (lg : Hid (Low 6 g)) (hin : Hid (Ins w 0)) (hg : Hid ((fun x => if f0 x then f1 x else f2 x) = g)) :
    Calls Tryd.prog 27 #[.agg #[.slice A0 m0 c0, .int .i64 (r0 : Int)], .agg #[.slice A1 m1 c1, .int .i64 (r1 : Int)], .agg #[.slice A2 m2 c2, .int .i64 (r2 : Int)]] w fun e w' => BinOk w w' g e :=
  (choose_ok m0 c0 r0 m1 c1 r1 m2 c2 r2 A0 A1 A2 f0 f1 f2 w h0 h1 h2 hin (by have := h1.out.s33 l1.out; have := h2.out.s33 l2.out; omega) (Lib.hid (by rw [hg.out]; exact s4096 lg.out))).mono fun _ _ h => h.congr hg.out
theorem six_chooseR {w : World} {A0 A1 A2 : Option Addr} {m0 c0 r0 m1 c1 r1 m2 c2 r2 : Nat} {R0 : Int} {f0 f1 f2 g : Cfg → Bool} (hR : R0 = (r0 : Int)) (h0 : Hid (Dn w A0 m0 c0 r0 f0)) (h1 : Hid (Dn w A1 m1 c1 r1 f1)) (h2 : Hid (Dn w A2 m2 c2 r2 f2)) (l1 : Hid (Low 6 f1)) (l2 : Hid (Low 6 f2)) (lg : Hid (Low 6 g)) (hin : Hid (Ins w 0)) (hg : Hid ((fun x => if f0 x then f1 x else f2 x) = g)) :
    Calls Tryd.prog 27 #[.agg #[.slice A0 m0 c0, .int .i64 R0], .agg #[.slice A1 m1 c1, .int .i64 (r1 : Int)], .agg #[.slice A2 m2 c2, .int .i64 (r2 : Int)]] w fun e w' => BinOk w w' g e := by
  subst hR
  exact six_choose h0 h1 h2 l1 l2 lg hin hg

end Go.Proofs.YtmfinkaphglmjaaDoor
