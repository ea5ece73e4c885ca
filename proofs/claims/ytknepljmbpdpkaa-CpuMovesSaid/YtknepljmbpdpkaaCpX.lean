/- The chapter's rows: what the four programs do, by reckoning. -/
import Derived.Test.YtknepljmbpdpkaaCpW
namespace Go.Proofs.Ytknepljmbpdpkaa
open Go.RowKit

def nth (l : List Int) : Nat → Int := fun j => l.getD j 0
def code1 : List Int := codeL (nth [5, 5, 8, 3]) (nth [1, 2, 3, 0]) (nth [0, 0, 1, 0]) (nth [0, 0, 2, 0]) (nth [5, 7, 0, 9]) 4
def code2 : List Int := codeL (nth [5, 19]) (nth [1, 2]) (nth [0, 1]) (nth [0, 0]) (nth [-1, 0]) 2
def code3 : List Int := codeL (nth [11]) (nth [1]) (nth [1]) (nth [2]) (nth [0]) 1
def memK (l : List Int) : Mem8 := mem0 l 1 (fun _ => 7)
theorem k1s : (runT 10 0 st0 (memK code1)).2.2 = ⟨2, 9, 0, 0, 3⟩ := by kernel_rfl
theorem k1m : (runT 10 0 st0 (memK code1)).2.1 = memK code1 := by kernel_rfl
theorem k1r : (runT 10 0 st0 (memK code1)).1.R 3 = 12 := by kernel_rfl
theorem k1p : (runT 10 0 st0 (memK code1)).1.pc = 12 := by kernel_rfl
theorem k2s : (runT 2 0 st0 (memK code1)).2.2 = ⟨1, 0, 0, 0, 2⟩ := by kernel_rfl
theorem k2p : (runT 2 0 st0 (memK code1)).1.pc = 8 := by kernel_rfl
theorem k3s : (runT 9 0 st0 (memK code2)).2.2 = ⟨5, 0, 4294967295, 1, 1⟩ := by kernel_rfl
theorem k3p : (runT 9 0 st0 (memK code2)).1.pc = 4 := by kernel_rfl
theorem k4s : (runT 9 0 st0 (memK code3)).2.2 = ⟨7, 0, 0, 0, 0⟩ := by kernel_rfl
theorem k123 : code1.length = 16 ∧ code2.length = 8 ∧ code3.length = 4 := ⟨by kernel_rfl, by kernel_rfl, by kernel_rfl⟩
end Go.Proofs.Ytknepljmbpdpkaa
