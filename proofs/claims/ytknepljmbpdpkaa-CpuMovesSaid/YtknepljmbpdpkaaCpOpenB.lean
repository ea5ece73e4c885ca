/- Bytes that came in: where they are nil, there are none. -/
import Derived.Test.YtknepljmbpdpkaaCpOpen
namespace Go.Proofs.Ytknepljmbpdpkaa
open Go.ChangeShapes Go.WideShapes Go.ChangeAt Go.RowKit

section
variable {H : Type} {enc : TypeId × Value → H} {W : World} {base : Nat} {sp : Nat → Bool} {held : Bool}
set_option maxRecDepth 100000 in
/-- Bytes that came in, nil or not; a nil slice has no room. -/
theorem open_bytes9 {r : Reach} {b0 : Nat} {v : Value} {dd : DataW H} {p : List MemPlace} (hv : Value.okWide Try.prog W r b0 23 v) (h : DataW.Trod enc Try.prog W base sp held 23 v dd p) :
    ∃ (A : Option Addr) (c : Nat) (l : List Int), v = .slice A l.length c ∧ SrcBytes W A l ∧ (∀ x ∈ l, 0 ≤ x ∧ x < 256) ∧ (A = none → l.length = 0 ∧ c = 0) := by
  have h' := h
  obtain ⟨A, c, l, rfl, hA, hb⟩ := open_bytes8 hv h
  refine ⟨A, c, l, rfl, hA, hb, ?_⟩
  rintro rfl
  obtain ⟨fuel, hf⟩ := h'
  rcases open_ints Try.underlying23 Try.underlying5 Try.cB8 hf with ⟨hcs, -⟩ | ⟨a, len', cap', zs, hcs, -⟩
  · simp [Value.cells] at hcs
    exact ⟨by simp [hcs.1], hcs.2⟩
  · simp [Value.cells] at hcs
end
end Go.Proofs.Ytknepljmbpdpkaa
