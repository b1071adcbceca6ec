/-
  The chapter's examples in plain values.
-/
import Derived.Test.YtkconfadhcomnaaDoorFTxtM
import Derived.Test.YtkconfadhcomnaaDoorMa
namespace Go.Proofs.YtkconfadhcomnaaDoor
open Go.RowKit Dg St

def L3 : List ByteArray := [⟨#[65]⟩, ⟨#[66]⟩, ⟨#[67]⟩]
theorem L3_ok : nmsOK L3 := by decide +kernel
def fW : List Fi := [(2, 0, 0, 0), (3, 0, 0, 0), (2, 1, 0, 0), (4, 0, 1, 2)]
def fR : List Fi := [(2, 0, 0, 0), (2, 1, 0, 0), (2, 2, 0, 0), (4, 0, 1, 2), (4, 0, 0, 3)]
def fX : List Fi := [(2, 0, 0, 0), (2, 1, 0, 0), (3, 0, 1, 0), (4, 0, 0, 2), (2, 0, 0, 0), (3, 0, 4, 0), (2, 1, 0, 0), (4, 0, 5, 6), (5, 0, 3, 7)]
def tW : ByteArray := ⟨#[33, 65, 32, 38, 38, 32, 66]⟩
def tA : ByteArray := ⟨#[65, 32, 38, 38]⟩
def tD : ByteArray := ⟨#[65, 32, 38, 38, 32, 68]⟩
theorem prs_W : prs (L8 L3) tW.data.toList = .ok { rest := [], wait := [], nodes := fW, sizes := [1, 2, 1, 4], unk := false } := by rfl
theorem prs_A : prs (L8 L3) tA.data.toList = .syn := by rfl
theorem prs_D : prs (L8 L3) tD.data.toList = .ok { rest := [], wait := [], nodes := [(2, 0, 0, 0), (2, -1, 0, 0), (4, 0, 0, 1)], sizes := [1, 1, 3], unk := true } := by rfl
theorem prsV_W : prsV L3 tW.data.toList = (fW, 0) := by
  unfold prsV
  rw [if_neg (fun q => q L3_ok), prs_W]
  rfl
theorem prsV_A : prsV L3 tA.data.toList = ([], 31) := by
  unfold prsV
  rw [if_neg (fun q => q L3_ok), prs_A]
theorem prsV_D : prsV L3 tD.data.toList = ([], 3) := by
  unfold prsV
  rw [if_neg (fun q => q L3_ok), prs_D]
  rfl
theorem okF_W : okF fW := by decide +kernel
theorem okF_R : okF fR := by decide +kernel
theorem okF_X : okF fX := by decide +kernel
theorem nmd_W : nmdOK fW 3 := by decide +kernel
theorem nmd_R : nmdOK fR 3 := by decide +kernel
theorem nmd_X : nmdOK fX 3 := by decide +kernel
theorem prt_W : prtS L3 fW = ⟨#[33, 65, 32, 38, 38, 32, 66]⟩ ∧ prtE L3 fW = 0 := ⟨by unfold prtS; rw [if_pos ⟨L3_ok, okF_W, nmd_W⟩]; rfl, by unfold prtE; rw [if_neg (fun q => q L3_ok), if_neg (fun q => q ⟨okF_W, nmd_W⟩)]⟩
theorem prt_R : prtS L3 fR = ⟨#[65, 32, 38, 38, 32, 40, 66, 32, 38, 38, 32, 67, 41]⟩ ∧ prtE L3 fR = 0 := ⟨by unfold prtS; rw [if_pos ⟨L3_ok, okF_R, nmd_R⟩]; rfl, by unfold prtE; rw [if_neg (fun q => q L3_ok), if_neg (fun q => q ⟨okF_R, nmd_R⟩)]⟩
theorem prt_X : prtS L3 fX = ⟨#[65, 32, 38, 38, 32, 33, 66, 32, 124, 124, 32, 33, 65, 32, 38, 38, 32, 66]⟩ ∧ prtE L3 fX = 0 := ⟨by unfold prtS; rw [if_pos ⟨L3_ok, okF_X, nmd_X⟩]; rfl, by unfold prtE; rw [if_neg (fun q => q L3_ok), if_neg (fun q => q ⟨okF_X, nmd_X⟩)]⟩
theorem txt_X : txtS L3 (fX, 0) = ⟨#[65, 32, 38, 38, 32, 33, 66, 32, 124, 124, 32, 33, 65, 32, 38, 38, 32, 66]⟩ ∧ txtE L3 (fX, 0) = 0 := ⟨by unfold txtS; rw [if_pos L3_ok, if_pos rfl]; exact prt_X.1, by unfold txtE; rw [if_neg (fun q => q L3_ok), if_pos rfl]; exact prt_X.2⟩
theorem exF_X : exF [(1, 0, 1), (1, 1, 0), (0, 2, 3)] 5 4 ([], []) = .ok (fX, [1, 1, 2, 4, 1, 2, 1, 4, 9]) := by rfl

end Go.Proofs.YtkconfadhcomnaaDoor
