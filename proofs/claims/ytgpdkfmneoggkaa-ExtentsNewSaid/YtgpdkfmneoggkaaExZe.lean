/- Quotas that came in. -/
import Derived.Test.YtgpdkfmneoggkaaLawWrap
import Derived.Test.YtgpdkfmneoggkaaExQ
namespace Go.Proofs.Ytgpdkfmneoggkaa
open Go.ChangeShapes Go.WideShapes Go.ChangeAt Go.RowKit

section
variable {H : Type} {enc : TypeId × Value → H} {W : World} {base : Nat} {sp : Nat → Bool} {held : Bool}
set_option maxRecDepth 100000 in
theorem open_intsL {n : Nat} {cs : List Value} {y : DataW H × List MemPlace} (h : DataW.trod enc Try.prog W base sp held n 22 cs = some y) :
    ∃ (A : Option Addr) (c : Nat) (l : List Int), cs = [.slice A l.length c] ∧ IntsIn W A l ∧ (A = none → l.length = 0 ∧ c = 0) ∧ l.length ≤ 9223372036854775807 := by
  rcases open_ints Try.underlying22 Try.underlying3 Try.cI10 h with ⟨hcs, -⟩ | ⟨a, len', cap', zs, hcs, -, hl, hm, hz, -, hcell, hwz⟩
  · exact ⟨none, 0, [], hcs, fun j v hj => by simp at hj, fun _ => ⟨rfl, rfl⟩, by simp⟩
  · have hle : len' ≤ zs.length := by rw [hz]; split <;> omega
    have hlen : (zs.take len').length = len' := by simp; omega
    refine ⟨some a, cap', zs.take len', by rw [hlen]; exact hcs, fun j x hx => ?_, (fun e => by cases e), by rw [hlen]; unfold maxLen at hm; omega⟩
    have hj : j < len' := by
      rcases Nat.lt_or_ge j len' with h | h
      · exact h
      · rw [List.getElem?_eq_none (by omega)] at hx; cases hx
    have h0 := hcell 0 (by omega)
    rw [Addr.add, if_pos rfl] at h0
    obtain ⟨b, o, rfl⟩ := spot_none10 h0
    have hw := hwz x (List.mem_of_mem_take (List.mem_of_getElem? hx))
    refine ⟨b, o, rfl, ?_, wf_inI10 hw⟩
    have := hcell j (by omega)
    rw [Addr.add_lit] at this
    rw [this]
    rw [List.getElem?_take_of_lt hj] at hx
    simp [List.getD, hx]
set_option maxRecDepth 100000 in
theorem open_quotas10 {r : Reach} {b0 : Nat} {v : Value} {dd : DataW H} {p : List MemPlace} (hv : Value.okWide Try.prog W r b0 22 v) (h : DataW.Trod enc Try.prog W base sp held 22 v dd p) :
    ∃ (A : Option Addr) (c : Nat) (l : List Int), v = .slice A l.length c ∧ IntsIn W A l ∧ (A = none → l.length = 0 ∧ c = 0) ∧ l.length ≤ 9223372036854775807 := by
  obtain ⟨A, n, c, rfl⟩ := okWide_slice Try.underlying22 hv
  obtain ⟨fuel, hf⟩ := h
  obtain ⟨A', c', l, hcs, h1⟩ := open_intsL hf
  simp [Value.cells] at hcs
  obtain ⟨rfl, rfl, rfl⟩ := hcs
  exact ⟨A, c, l, rfl, h1⟩
end
end Go.Proofs.Ytgpdkfmneoggkaa
