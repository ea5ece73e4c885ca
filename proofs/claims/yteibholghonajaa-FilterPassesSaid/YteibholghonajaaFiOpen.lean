/- Tests and packets that came in. -/
import Derived.Test.YteibholghonajaaLawWrap
import Derived.Test.YteibholghonajaaFiN
import Derived.Deep.Slices
namespace Go.Proofs.Yteibholghonajaa
open Go.ChangeShapes Go.WideShapes Go.ChangeAt Go.RowKit

theorem spot_noneF {w : World} {ad : Addr} {v : Value} (h : w.cell? ad = some v) : ∃ b o, ad = ⟨b, o, none⟩ := by
  obtain ⟨b, o, s⟩ := ad
  cases s with
  | none => exact ⟨b, o, rfl⟩
  | some x =>
    unfold World.cell? at h
    split at h
    · simp at h
    · cases h
theorem Try.uTestF : Try.prog.underlying 52 = some (.struct #[{ name := "At", type := 3, offset := 0, embedded := false, tag := "", pkgPath := "", byteOffset := 0 }, { name := "Mask", type := 3, offset := 1, embedded := false, tag := "", pkgPath := "", byteOffset := 8 }, { name := "Value", type := 3, offset := 2, embedded := false, tag := "", pkgPath := "", byteOffset := 16 }]) := by kernel_rfl
theorem Try.cTest : Try.prog.cellsOf 52 = 3 := by kernel_rfl
section
variable {H : Type} {enc : TypeId × Value → H} {W : World} {base : Nat} {sp : Nat → Bool} {held : Bool}
theorem test_cells {n : Nat} {cs : List Value} {y : DataW H × List MemPlace} (hl : cs.length = 3) (h : DataW.trod enc Try.prog W base sp held n 52 cs = some y) : ∃ t : Ts, cs = tsL t := by
  match cs, hl with
  | [c0, c1, c2], _ =>
    obtain ⟨xs, n', _, hx, _, hlen, hg⟩ := DataW.trod_struct Try.uTestF h
    match xs, hlen with
    | [y0, y1, y2], _ =>
      obtain ⟨n0, e0, -, w0⟩ := DataW.trod_int Try.underlying3 (by simpa [Try.cIntF] using hg 0 _ rfl)
      obtain ⟨n1, e1, -, w1⟩ := DataW.trod_int Try.underlying3 (by simpa [Try.cIntF] using hg 1 _ rfl)
      obtain ⟨n2, e2, -, w2⟩ := DataW.trod_int Try.underlying3 (by simpa [Try.cIntF] using hg 2 _ rfl)
      simp only [List.cons.injEq, and_true] at e0 e1 e2
      subst e0 e1 e2
      exact ⟨⟨n0, n1, n2⟩, rfl⟩
set_option maxRecDepth 100000 in
/-- Tests that came in, nil or not. -/
theorem open_tests {r : Reach} {b0 : Nat} {v : Value} {dd : DataW H} {p : List MemPlace} (hv : Value.okWide Try.prog W r b0 22 v) (h : DataW.Trod enc Try.prog W base sp held 22 v dd p) :
    ∃ (A : Option Addr) (n c : Nat) (L : List Ts), v = .slice A n c ∧ FlIn W A n c L ∧ (n : Int) ≤ 9223372036854775807 := by
  obtain ⟨A, n, c, rfl⟩ := okWide_slice Try.underlying22 hv
  obtain ⟨fuel, hf⟩ := h
  rcases Go.Deep.open_slice Try.underlying22 hf with ⟨hcs, -⟩ | ⟨ad, len', cap', mm, nn, D, Pl, hcs, -, hl, hmx, hmm, -, hcell⟩
  · simp [Value.cells] at hcs
    obtain ⟨rfl, rfl, rfl⟩ := hcs
    exact ⟨none, 0, 0, [], rfl, ⟨rfl, fun _ => ⟨rfl, rfl⟩, TsIn.nil _ _⟩, by simp⟩
  · simp [Value.cells] at hcs
    obtain ⟨rfl, rfl, rfl⟩ := hcs
    have hle : n ≤ mm := by rw [hmm]; split <;> omega
    have one : ∀ i, ∃ t : Ts, i < n → ∀ j, j < 3 → W.cell? (ad.add (i * 3 + j)) = (tsL t)[j]? := fun i => by
      by_cases hi : i < n
      · obtain ⟨cs, hc, ht⟩ := hcell i (by omega)
        rw [Try.cTest] at hc
        obtain ⟨_, hcl, hat⟩ := World.cells?_some hc
        obtain ⟨t, rfl⟩ := test_cells hcl ht
        refine ⟨t, fun _ j hj => ?_⟩
        have := hat j hj
        rwa [Go.Deep.add_add] at this
      · exact ⟨⟨0, 0, 0⟩, fun h => absurd h hi⟩
    obtain ⟨R, hR⟩ := Classical.axiomOfChoice one
    refine ⟨some ad, n, c, (List.range n).map R, rfl, ⟨by simp, (fun e => by cases e), fun i t ht => ?_⟩, by unfold maxLen at hmx; omega⟩
    have hi : i < n := by
      have := (List.getElem?_eq_some_iff.1 ht).1
      simpa using this
    rw [List.getElem?_map, List.getElem?_range hi] at ht
    obtain rfl : R i = t := by simpa using ht
    have h0 := hR i hi 0 (by omega)
    have h1 := hR i hi 1 (by omega)
    have h2 := hR i hi 2 (by omega)
    have hs : ∃ b o, ad = ⟨b, o, none⟩ := by
      have h00 := hR 0 (by omega) 0 (by omega)
      rw [Nat.zero_mul, Nat.add_zero, Addr.add, if_pos rfl] at h00
      exact spot_noneF (show W.cell? ad = some _ from h00)
    obtain ⟨b, o, rfl⟩ := hs
    simp only [add_plain] at h0 h1 h2
    refine ⟨b, o, rfl, World.block_lt_of_cell? W _ (show W.cell? ⟨b, _, none⟩ = some _ from h0), h0, ?_, ?_⟩
    · rw [Nat.add_assoc]; exact h1
    · rw [Nat.add_assoc]; exact h2
set_option maxRecDepth 100000 in
/-- A packet that came in, nil or not. -/
theorem open_packet {r : Reach} {b0 : Nat} {v : Value} {dd : DataW H} {p : List MemPlace} (hv : Value.okWide Try.prog W r b0 23 v) (h : DataW.Trod enc Try.prog W base sp held 23 v dd p) :
    ∃ (A : Option Addr) (n c : Nat) (P : List Nat), v = .slice A n c ∧ PkIn W A P ∧ P.length = n ∧ (n : Int) ≤ 9223372036854775807 := by
  obtain ⟨A, n, c, rfl⟩ := okWide_slice Try.underlying23 hv
  obtain ⟨fuel, hf⟩ := h
  rcases open_ints Try.underlying23 Try.underlying5 Try.cU8F hf with ⟨hcs, -⟩ | ⟨a, len', cap', zs, hcs, -, hl, hm, hz, -, hcell, hwz⟩
  · simp [Value.cells] at hcs
    obtain ⟨rfl, rfl, rfl⟩ := hcs
    exact ⟨none, 0, 0, [], rfl, PkIn.nil _ _, rfl, by simp⟩
  · simp [Value.cells] at hcs
    obtain ⟨rfl, rfl, rfl⟩ := hcs
    have hle : n ≤ zs.length := by rw [hz]; split <;> omega
    have hlen : (zs.take n).length = n := by simp; omega
    have hw8 : ∀ x ∈ zs, 0 ≤ x ∧ x < 256 := fun x hx => by
      have hw := hwz x hx
      simp only [Lit.wf, Bool.and_eq_true, decide_eq_true_eq] at hw
      have a1 : IntKind.u8.min = 0 := rfl
      have a2 : IntKind.u8.max = 255 := rfl
      omega
    refine ⟨some a, n, c, (zs.take n).map Int.toNat, rfl, fun i x hx => ?_, by rw [List.length_map, hlen], by unfold maxLen at hm; omega⟩
    have hi : i < n := by
      have := (List.getElem?_eq_some_iff.1 hx).1
      rwa [List.length_map, hlen] at this
    rw [List.getElem?_map, List.getElem?_take_of_lt hi, List.getElem?_eq_getElem (by omega)] at hx
    have hx' : (zs[i]'(by omega)).toNat = x := by simpa using hx
    have hz8 := hw8 (zs[i]'(by omega)) (List.getElem_mem _)
    have h1 := hcell 0 (by omega)
    rw [Addr.add, if_pos rfl] at h1
    obtain ⟨b, o, rfl⟩ := spot_noneF h1
    refine ⟨by omega, b, o, rfl, World.block_lt_of_cell? W _ h1, ?_⟩
    have := hcell i (by omega)
    rw [add_plain] at this
    rw [this, List.getD_eq_getElem?_getD, List.getElem?_eq_getElem (by omega)]
    simp only [Option.getD_some, Option.some.injEq, Value.int.injEq, true_and]
    omega
end
end Go.Proofs.Yteibholghonajaa
