/- Steps that came in. -/
import Derived.Test.YtakgjakcbpdefaaLawWrap
import Derived.Test.YtakgjakcbpdefaaCapP
import Derived.Deep.Slices
namespace Go.Proofs.Ytakgjakcbpdefaa
open Go.ChangeShapes Go.WideShapes Go.ChangeAt Go.RowKit

theorem spot_none6 {w : World} {ad : Addr} {v : Value} (h : w.cell? ad = some v) : ∃ b o, ad = ⟨b, o, none⟩ := by
  obtain ⟨b, o, s⟩ := ad
  cases s with
  | none => exact ⟨b, o, rfl⟩
  | some x =>
    unfold World.cell? at h
    split at h
    · simp at h
    · cases h
theorem Try.cI6 : Try.prog.cellsOf 3 = 1 := by kernel_rfl
theorem Try.cJ6 : Try.prog.cellsOf 2 = 1 := by kernel_rfl
theorem Try.cStep6 : Try.prog.cellsOf 31 = 7 := by kernel_rfl
theorem Try.uStep6 : Try.prog.underlying 31 = some (.struct #[{ name := "Kind", type := 3, offset := 0, embedded := false, tag := "", pkgPath := "", byteOffset := 0 }, { name := "A", type := 3, offset := 1, embedded := false, tag := "", pkgPath := "", byteOffset := 8 }, { name := "To", type := 3, offset := 2, embedded := false, tag := "", pkgPath := "", byteOffset := 16 }, { name := "Thing", type := 3, offset := 3, embedded := false, tag := "", pkgPath := "", byteOffset := 24 }, { name := "Object", type := 3, offset := 4, embedded := false, tag := "", pkgPath := "", byteOffset := 32 }, { name := "Rights", type := 3, offset := 5, embedded := false, tag := "", pkgPath := "", byteOffset := 40 }, { name := "Id", type := 2, offset := 6, embedded := false, tag := "", pkgPath := "", byteOffset := 48 }]) := by kernel_rfl
section
variable {H : Type} {enc : TypeId × Value → H} {W : World} {base : Nat} {sp : Nat → Bool} {held : Bool}
theorem step_cells6 {n : Nat} {cs : List Value} {y : DataW H × List MemPlace} (hl : cs.length = 7) (h : DataW.trod enc Try.prog W base sp held n 31 cs = some y) : ∃ s : StepS, cs = stepL s ∧ s.fits := by
  match cs, hl with
  | [c0, c1, c2, c3, c4, c5, c6], _ =>
    obtain ⟨xs, n', _, hx, _, hlen, hg⟩ := DataW.trod_struct Try.uStep6 h
    match xs, hlen with
    | [y0, y1, y2, y3, y4, y5, y6], _ =>
      obtain ⟨n0, e0, -, w0⟩ := DataW.trod_int Try.underlying3 (by simpa [Try.cI6] using hg 0 _ rfl)
      obtain ⟨n1, e1, -, w1⟩ := DataW.trod_int Try.underlying3 (by simpa [Try.cI6] using hg 1 _ rfl)
      obtain ⟨n2, e2, -, w2⟩ := DataW.trod_int Try.underlying3 (by simpa [Try.cI6] using hg 2 _ rfl)
      obtain ⟨n3, e3, -, w3⟩ := DataW.trod_int Try.underlying3 (by simpa [Try.cI6] using hg 3 _ rfl)
      obtain ⟨n4, e4, -, w4⟩ := DataW.trod_int Try.underlying3 (by simpa [Try.cI6] using hg 4 _ rfl)
      obtain ⟨n5, e5, -, w5⟩ := DataW.trod_int Try.underlying3 (by simpa [Try.cI6] using hg 5 _ rfl)
      obtain ⟨n6, e6, -, w6⟩ := DataW.trod_int Try.underlying2 (by simpa [Try.cJ6] using hg 6 _ rfl)
      simp only [List.cons.injEq, and_true] at e0 e1 e2 e3 e4 e5 e6
      subst e0 e1 e2 e3 e4 e5 e6
      exact ⟨⟨n0, n1, n2, n3, n4, n5, n6⟩, rfl, w3, w4, w6⟩
set_option maxRecDepth 100000 in
/-- Steps that came in, nil or not. -/
theorem open_steps6 {r : Reach} {b0 : Nat} {v : Value} {dd : DataW H} {p : List MemPlace} (hv : Value.okWide Try.prog W r b0 22 v) (h : DataW.Trod enc Try.prog W base sp held 22 v dd p) :
    ∃ (A : Option Addr) (n c : Nat) (R : Nat → StepS), v = .slice A n c ∧ (n : Int) ≤ 9223372036854775807 ∧ StepsOf W A n R ∧ ∀ i, i < n → (R i).fits := by
  obtain ⟨A, n, c, rfl⟩ := okWide_slice Try.underlying22 hv
  obtain ⟨fuel, hf⟩ := h
  rcases Go.Deep.open_slice Try.underlying22 hf with ⟨hcs, -⟩ | ⟨ad, len', cap', mm, nn, D, Pl, hcs, -, hl, hmx, hmm, -, hcell⟩
  · simp [Value.cells] at hcs
    obtain ⟨rfl, rfl, rfl⟩ := hcs
    exact ⟨none, 0, 0, fun _ => ⟨0, 0, 0, 0, 0, 0, 0⟩, rfl, by simp, fun h0 => by simp at h0, fun i hi => by omega⟩
  · simp [Value.cells] at hcs
    obtain ⟨rfl, rfl, rfl⟩ := hcs
    have hle : n ≤ mm := by rw [hmm]; split <;> omega
    have one : ∀ i, ∃ s : StepS, i < n → s.fits ∧ ∀ j, j < 7 → W.cell? (ad.add (i * 7 + j)) = (stepL s)[j]? := fun i => by
      by_cases hi : i < n
      · obtain ⟨cs, hc, ht⟩ := hcell i (by omega)
        rw [Try.cStep6] at hc
        obtain ⟨_, hcl, hat⟩ := World.cells?_some hc
        obtain ⟨s, rfl, hs⟩ := step_cells6 hcl ht
        refine ⟨s, fun _ => ⟨hs, fun j hj => ?_⟩⟩
        have := hat j hj
        rwa [Go.Deep.add_add] at this
      · exact ⟨⟨0, 0, 0, 0, 0, 0, 0⟩, fun h => absurd h hi⟩
    obtain ⟨R, hR⟩ := Classical.axiomOfChoice one
    refine ⟨some ad, n, c, R, rfl, by unfold maxLen at hmx; omega, fun h0 => ?_, fun i hi => (hR i hi).1⟩
    have h1 := (hR 0 h0).2 0 (by omega)
    rw [Nat.zero_mul, Nat.add_zero, Addr.add, if_pos rfl] at h1
    obtain ⟨b, o, rfl⟩ := spot_none6 (show W.cell? ad = some _ from h1)
    refine ⟨b, o, rfl, fun i hi j hj => ?_⟩
    have := (hR i hi).2 j hj
    rw [Addr.add_lit, ← Nat.add_assoc] at this
    exact this
end

end Go.Proofs.Ytakgjakcbpdefaa
