/- Packets that came in. -/
import Derived.Test.YteibholghonajaaFiOpen
import Derived.Test.YteibholghonajaaFiS1
namespace Go.Proofs.Yteibholghonajaa
open Go.ChangeShapes Go.WideShapes Go.ChangeAt Go.RowKit

theorem Try.cBsF : Try.prog.cellsOf 23 = 1 := by kernel_rfl
section
variable {H : Type} {enc : TypeId × Value → H} {W : World} {base : Nat} {sp : Nat → Bool} {held : Bool}
set_option maxRecDepth 100000 in
/-- A packet among others. -/
theorem open_pk {n : Nat} {cs : List Value} {y : DataW H × List MemPlace} (h : DataW.trod enc Try.prog W base sp held n 23 cs = some y) : ∃ x : Pk, cs = [.slice x.A x.n x.c] ∧ PkOk W x := by
  rcases open_ints Try.underlying23 Try.underlying5 Try.cU8F h with ⟨hcs, -⟩ | ⟨a, len', cap', zs, hcs, -, hl, hm, hz, -, hcell, hwz⟩
  · exact ⟨⟨none, 0, 0, []⟩, hcs, rfl, fun _ => ⟨rfl, rfl⟩, PkIn.nil _ _, by simp⟩
  · have hle : len' ≤ zs.length := by rw [hz]; split <;> omega
    have hlen : (zs.take len').length = len' := by simp; omega
    have hw8 : ∀ x ∈ zs, 0 ≤ x ∧ x < 256 := fun x hx => by
      have hw := hwz x hx
      simp only [Lit.wf, Bool.and_eq_true, decide_eq_true_eq] at hw
      have a1 : IntKind.u8.min = 0 := rfl
      have a2 : IntKind.u8.max = 255 := rfl
      omega
    refine ⟨⟨some a, len', cap', (zs.take len').map Int.toNat⟩, hcs, by rw [List.length_map, hlen], (fun e => by cases e), fun i x hx => ?_, by unfold maxLen at hm; simp only; omega⟩
    simp only at hx ⊢
    have hi : i < len' := by
      have := (List.getElem?_eq_some_iff.1 hx).1
      rwa [List.length_map, hlen] at this
    rw [List.getElem?_map, List.getElem?_take_of_lt hi, List.getElem?_eq_getElem (by omega)] at hx
    have hx' : (zs[i]'(by omega)).toNat = x := by simpa using hx
    have hz8 := hw8 (zs[i]'(by omega)) (List.getElem_mem _)
    have h1 := hcell 0 (by omega)
    rw [Addr.add, if_pos rfl] at h1
    obtain ⟨b, o, rfl⟩ := spot_noneF h1
    refine ⟨by omega, b, o, rfl, World.block_lt_of_cell? W _ h1, ?_⟩
    have := hcell i (by omega)
    rw [add_plain] at this
    rw [this, List.getD_eq_getElem?_getD, List.getElem?_eq_getElem (by omega)]
    simp only [Option.getD_some, Option.some.injEq, Value.int.injEq, true_and]
    omega
set_option maxRecDepth 100000 in
/-- Packets that came in, nil or not. -/
theorem open_packets {r : Reach} {b0 : Nat} {v : Value} {dd : DataW H} {p : List MemPlace} (hv : Value.okWide Try.prog W r b0 45 v) (h : DataW.Trod enc Try.prog W base sp held 45 v dd p) :
    ∃ (A : Option Addr) (m d : Nat) (Ps : List Pk), v = .slice A m d ∧ PsIn W A Ps ∧ Ps.length = m := by
  obtain ⟨A, n, c, rfl⟩ := okWide_slice Try.underlying45 hv
  obtain ⟨fuel, hf⟩ := h
  rcases Go.Deep.open_slice1 Try.underlying45 Try.cBsF hf with ⟨hcs, -⟩ | ⟨ad, len', cap', mm, nn, V, D, Pl, hcs, -, hl, hmx, hmm, -, hcell⟩
  · simp [Value.cells] at hcs
    obtain ⟨rfl, rfl, rfl⟩ := hcs
    exact ⟨none, 0, 0, [], rfl, fun i x hx => by simp at hx, rfl⟩
  · simp [Value.cells] at hcs
    obtain ⟨rfl, rfl, rfl⟩ := hcs
    have hle : n ≤ mm := by rw [hmm]; split <;> omega
    have one : ∀ i, ∃ x : Pk, i < n → PkOk W x ∧ W.cell? (ad.add i) = some (.slice x.A x.n x.c) := fun i => by
      by_cases hi : i < n
      · obtain ⟨h1, h2⟩ := hcell i (by omega)
        obtain ⟨x, e, hok⟩ := open_pk h2
        simp only [List.cons.injEq, and_true] at e
        exact ⟨x, fun _ => ⟨hok, by rw [h1, e]⟩⟩
      · exact ⟨⟨none, 0, 0, []⟩, fun h => absurd h hi⟩
    obtain ⟨R, hR⟩ := Classical.axiomOfChoice one
    refine ⟨some ad, n, c, (List.range n).map R, rfl, fun i x hx => ?_, by simp⟩
    have hi : i < n := by
      have := (List.getElem?_eq_some_iff.1 hx).1
      simpa using this
    rw [List.getElem?_map, List.getElem?_range hi] at hx
    obtain rfl : R i = x := by simpa using hx
    obtain ⟨hok, hc⟩ := hR i hi
    have hs : ∃ b o, ad = ⟨b, o, none⟩ := by
      have h00 := (hR 0 (by omega)).2
      rw [Addr.add, if_pos rfl] at h00
      exact spot_noneF h00
    obtain ⟨b, o, rfl⟩ := hs
    rw [add_plain] at hc
    exact ⟨hok, b, o, rfl, World.block_lt_of_cell? W _ hc, hc⟩
end
end Go.Proofs.Yteibholghonajaa
