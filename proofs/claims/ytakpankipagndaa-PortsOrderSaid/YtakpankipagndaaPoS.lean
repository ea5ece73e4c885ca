/- Steps, tests, packets that came in. -/
import Derived.Test.YtakpankipagndaaLawWrap
import Derived.Test.YtakpankipagndaaPoR
import Derived.Deep.Slices
namespace Go.Proofs.Ytakpankipagndaa
open Go.ChangeShapes Go.WideShapes Go.ChangeAt Go.RowKit

theorem spot_none12 {w : World} {ad : Addr} {v : Value} (h : w.cell? ad = some v) : ∃ b o, ad = ⟨b, o, none⟩ := by
  obtain ⟨b, o, s⟩ := ad
  cases s with
  | none => exact ⟨b, o, rfl⟩
  | some x =>
    unfold World.cell? at h
    split at h
    · simp at h
    · cases h
theorem Try.cI12 : Try.prog.cellsOf 3 = 1 := by kernel_rfl
theorem Try.cU12 : Try.prog.cellsOf 5 = 1 := by kernel_rfl
theorem Try.cTest12 : Try.prog.cellsOf 74 = 3 := by kernel_rfl
theorem Try.cTs12 : Try.prog.cellsOf 31 = 1 := by kernel_rfl
theorem Try.cBs12 : Try.prog.cellsOf 32 = 1 := by kernel_rfl
theorem Try.cStep12 : Try.prog.cellsOf 34 = 5 := by kernel_rfl
theorem Try.uTest12 : Try.prog.underlying 74 = some (.struct #[{ name := "At", type := 3, offset := 0, embedded := false, tag := "", pkgPath := "", byteOffset := 0 }, { name := "Mask", type := 3, offset := 1, embedded := false, tag := "", pkgPath := "", byteOffset := 8 }, { name := "Value", type := 3, offset := 2, embedded := false, tag := "", pkgPath := "", byteOffset := 16 }]) := by kernel_rfl
theorem Try.uStep12 : Try.prog.underlying 34 = some (.struct #[{ name := "Kind", type := 3, offset := 0, embedded := false, tag := "", pkgPath := "", byteOffset := 0 }, { name := "A", type := 3, offset := 1, embedded := false, tag := "", pkgPath := "", byteOffset := 8 }, { name := "B", type := 3, offset := 2, embedded := false, tag := "", pkgPath := "", byteOffset := 16 }, { name := "Filter", type := 31, offset := 3, embedded := false, tag := "", pkgPath := "", byteOffset := 24 }, { name := "Packet", type := 32, offset := 4, embedded := false, tag := "", pkgPath := "", byteOffset := 48 }]) := by kernel_rfl
/-- A step. -/
structure Stp12 where
  kd : Int
  a : Int
  b : Int
  fA : Option Addr
  fc : Nat
  fl : List Ts
  pA : Option Addr
  pc : Nat
  pl : List Nat
structure Stp12.fits (s : Stp12) (W : World) : Prop where
  wa : wf12 s.a
  wb : wf12 s.b
  fl : FlIn W s.fA s.fl.length s.fc s.fl
  fn : (s.fl.length : Int) ≤ 9223372036854775807
  pk : PkF W s.pA s.pl.length s.pc s.pl
  pn : (s.pl.length : Int) ≤ 9223372036854775807
theorem Stp12.fits.below {s : Stp12} {w w' : World} (h : s.fits w) (hb : Below w.heap.size w w') : s.fits w' := ⟨h.wa, h.wb, h.fl.below hb, h.fn, h.pk.below hb, h.pn⟩
/-- A step's cells. -/
def stpL12 (s : Stp12) : List Value := [.int .i64 s.kd, .int .i64 s.a, .int .i64 s.b, .slice s.fA s.fl.length s.fc, .slice s.pA s.pl.length s.pc]
/-- Steps in memory. -/
def StepsIn12 (w : World) (A : Option Addr) (n : Nat) (R : Nat → Stp12) : Prop := ∀ i, i < n → (R i).fits w ∧ ∃ b o, A = some ⟨b, o, none⟩ ∧ w.rangeAt b (o + i * 5) (stpL12 (R i))
theorem StepsIn12.below {w w' : World} {A : Option Addr} {n : Nat} {R : Nat → Stp12} (h : StepsIn12 w A n R) (hb : Below w.heap.size w w') : StepsIn12 w' A n R := fun i hi => by
  obtain ⟨h0, b, o, e, h1⟩ := h i hi
  exact ⟨h0.below hb, b, o, e, fun j v hv => hb.cell (World.block_lt_of_cell? w _ (h1 j v hv)) |>.trans (h1 j v hv)⟩
section
variable {H : Type} {enc : TypeId × Value → H} {W : World} {base : Nat} {sp : Nat → Bool} {held : Bool}
theorem test_cells12 {n : Nat} {cs : List Value} {y : DataW H × List MemPlace} (hl : cs.length = 3) (h : DataW.trod enc Try.prog W base sp held n 74 cs = some y) : ∃ t : Ts, cs = tsL t := by
  match cs, hl with
  | [c0, c1, c2], _ =>
    obtain ⟨xs, n', _, hx, _, hlen, hg⟩ := DataW.trod_struct Try.uTest12 h
    match xs, hlen with
    | [y0, y1, y2], _ =>
      obtain ⟨n0, e0, -, w0⟩ := DataW.trod_int Try.underlying3 (by simpa [Try.cI12] using hg 0 _ rfl)
      obtain ⟨n1, e1, -, w1⟩ := DataW.trod_int Try.underlying3 (by simpa [Try.cI12] using hg 1 _ rfl)
      obtain ⟨n2, e2, -, w2⟩ := DataW.trod_int Try.underlying3 (by simpa [Try.cI12] using hg 2 _ rfl)
      simp only [List.cons.injEq, and_true] at e0 e1 e2
      subst e0 e1 e2
      exact ⟨⟨n0, n1, n2⟩, rfl⟩
set_option maxRecDepth 100000 in
/-- Tests, nil or not. -/
theorem open_testsL12 {n : Nat} {cs : List Value} {y : DataW H × List MemPlace} (h : DataW.trod enc Try.prog W base sp held n 31 cs = some y) :
    ∃ (A : Option Addr) (c : Nat) (L : List Ts), cs = [.slice A L.length c] ∧ FlIn W A L.length c L ∧ (L.length : Int) ≤ 9223372036854775807 := by
  rcases Go.Deep.open_slice Try.underlying31 h with ⟨hcs, -⟩ | ⟨ad, n, cap', mm, nn, D, Pl, hcs, -, hl, hmx, hmm, -, hcell⟩
  · exact ⟨none, 0, [], hcs, ⟨rfl, fun _ => ⟨rfl, rfl⟩, TsIn.nil _ _⟩, by simp⟩
  · have hle : n ≤ mm := by rw [hmm]; split <;> omega
    have one : ∀ i, ∃ t : Ts, i < n → ∀ j, j < 3 → W.cell? (ad.add (i * 3 + j)) = (tsL t)[j]? := fun i => by
      by_cases hi : i < n
      · obtain ⟨cs, hc, ht⟩ := hcell i (by omega)
        rw [Try.cTest12] at hc
        obtain ⟨_, hcl, hat⟩ := World.cells?_some hc
        obtain ⟨t, rfl⟩ := test_cells12 hcl ht
        refine ⟨t, fun _ j hj => ?_⟩
        have := hat j hj
        rwa [Go.Deep.add_add] at this
      · exact ⟨⟨0, 0, 0⟩, fun h => absurd h hi⟩
    obtain ⟨R, hR⟩ := Classical.axiomOfChoice one
    have hlen : ((List.range n).map R).length = n := by simp
    refine ⟨some ad, cap', (List.range n).map R, by rw [hlen]; exact hcs, ⟨rfl, (fun e => by cases e), fun i t ht => ?_⟩, by rw [hlen]; unfold maxLen at hmx; omega⟩
    have hi : i < n := by
      have := (List.getElem?_eq_some_iff.1 ht).1
      rwa [hlen] at this
    rw [List.getElem?_map, List.getElem?_range hi] at ht
    obtain rfl : R i = t := by simpa using ht
    have h0 := hR i hi 0 (by omega)
    have h1 := hR i hi 1 (by omega)
    have h2 := hR i hi 2 (by omega)
    have hs : ∃ b o, ad = ⟨b, o, none⟩ := by
      have h00 := hR 0 (by omega) 0 (by omega)
      rw [Nat.zero_mul, Nat.add_zero, Addr.add, if_pos rfl] at h00
      exact spot_none12 (show W.cell? ad = some _ from h00)
    obtain ⟨b, o, rfl⟩ := hs
    simp only [add_plain] at h0 h1 h2
    refine ⟨b, o, rfl, World.block_lt_of_cell? W _ (show W.cell? ⟨b, _, none⟩ = some _ from h0), h0, ?_, ?_⟩
    · rw [Nat.add_assoc]; exact h1
    · rw [Nat.add_assoc]; exact h2
set_option maxRecDepth 100000 in
/-- A packet, nil or not. -/
theorem open_packetL12 {n : Nat} {cs : List Value} {y : DataW H × List MemPlace} (h : DataW.trod enc Try.prog W base sp held n 32 cs = some y) :
    ∃ (A : Option Addr) (c : Nat) (P : List Nat), cs = [.slice A P.length c] ∧ PkF W A P.length c P ∧ (P.length : Int) ≤ 9223372036854775807 := by
  rcases open_ints Try.underlying32 Try.underlying5 Try.cU12 h with ⟨hcs, -⟩ | ⟨a, len', cap', zs, hcs, -, hl, hm, hz, -, hcell, hwz⟩
  · exact ⟨none, 0, [], hcs, PkF.nil12 _, by simp⟩
  · have hle : len' ≤ zs.length := by rw [hz]; split <;> omega
    have hlen : (zs.take len').length = len' := by simp; omega
    have hw8 : ∀ x ∈ zs, 0 ≤ x ∧ x < 256 := fun x hx => by
      have hw := hwz x hx
      simp only [Lit.wf, Bool.and_eq_true, decide_eq_true_eq] at hw
      have a1 : IntKind.u8.min = 0 := rfl
      have a2 : IntKind.u8.max = 255 := rfl
      omega
    have hl2 : ((zs.take len').map Int.toNat).length = len' := by rw [List.length_map, hlen]
    refine ⟨some a, cap', (zs.take len').map Int.toNat, by rw [hl2]; exact hcs, ⟨rfl, (fun e => by cases e), fun i x hx => ?_⟩, by rw [hl2]; unfold maxLen at hm; omega⟩
    have hi : i < len' := by
      have := (List.getElem?_eq_some_iff.1 hx).1
      rwa [hl2] at this
    rw [List.getElem?_map, List.getElem?_take_of_lt hi, List.getElem?_eq_getElem (by omega)] at hx
    have hx' : (zs[i]'(by omega)).toNat = x := by simpa using hx
    have hz8 := hw8 (zs[i]'(by omega)) (List.getElem_mem _)
    have h1 := hcell 0 (by omega)
    rw [Addr.add, if_pos rfl] at h1
    obtain ⟨b, o, rfl⟩ := spot_none12 h1
    refine ⟨by omega, b, o, rfl, World.block_lt_of_cell? W _ h1, ?_⟩
    have := hcell i (by omega)
    rw [add_plain] at this
    rw [this, List.getD_eq_getElem?_getD, List.getElem?_eq_getElem (by omega)]
    simp only [Option.getD_some, Option.some.injEq, Value.int.injEq, true_and]
    omega
set_option maxRecDepth 100000 in
theorem step_cells12 {n : Nat} {cs : List Value} {y : DataW H × List MemPlace} (hl : cs.length = 5) (h : DataW.trod enc Try.prog W base sp held n 34 cs = some y) :
    ∃ s : Stp12, cs = stpL12 s ∧ s.fits W := by
  match cs, hl with
  | [c0, c1, c2, c3, c4], _ =>
    obtain ⟨xs, n', _, hx, _, hlen, hg⟩ := DataW.trod_struct Try.uStep12 h
    match xs, hlen with
    | [y0, y1, y2, y3, y4], _ =>
      obtain ⟨n0, e0, -, -⟩ := DataW.trod_int Try.underlying3 (by simpa [Try.cI12] using hg 0 _ rfl)
      obtain ⟨n1, e1, -, w1⟩ := DataW.trod_int Try.underlying3 (by simpa [Try.cI12] using hg 1 _ rfl)
      obtain ⟨n2, e2, -, w2⟩ := DataW.trod_int Try.underlying3 (by simpa [Try.cI12] using hg 2 _ rfl)
      obtain ⟨A, c, L, e3, hF, hn⟩ := open_testsL12 (cs := [c3]) (by simpa [Try.cTs12] using hg 3 _ rfl)
      obtain ⟨B, d, P, e4, hP, hm⟩ := open_packetL12 (cs := [c4]) (by simpa [Try.cBs12] using hg 4 _ rfl)
      simp only [List.cons.injEq, and_true] at e0 e1 e2 e3 e4
      subst e0 e1 e2 e3 e4
      exact ⟨⟨n0, n1, n2, A, c, L, B, d, P⟩, rfl, ⟨w1, w2, hF, hn, hP, hm⟩⟩
set_option maxRecDepth 100000 in
/-- Steps that came in. -/
theorem open_steps12 {r : Reach} {b0 : Nat} {v : Value} {dd : DataW H} {p : List MemPlace} (hv : Value.okWide Try.prog W r b0 23 v) (h : DataW.Trod enc Try.prog W base sp held 23 v dd p) :
    ∃ (A : Option Addr) (n c : Nat) (R : Nat → Stp12), v = .slice A n c ∧ (n : Int) ≤ 9223372036854775807 ∧ StepsIn12 W A n R := by
  obtain ⟨A, n, c, rfl⟩ := okWide_slice Try.underlying23 hv
  obtain ⟨fuel, hf⟩ := h
  rcases Go.Deep.open_slice Try.underlying23 hf with ⟨hcs, -⟩ | ⟨ad, len', cap', mm, nn, D, Pl, hcs, -, hl, hmx, hmm, -, hcell⟩
  · simp [Value.cells] at hcs
    obtain ⟨rfl, rfl, rfl⟩ := hcs
    exact ⟨none, 0, 0, fun _ => ⟨0, 0, 0, none, 0, [], none, 0, []⟩, rfl, by simp, fun i hi => by omega⟩
  · simp [Value.cells] at hcs
    obtain ⟨rfl, rfl, rfl⟩ := hcs
    have hle : n ≤ mm := by rw [hmm]; split <;> omega
    have one : ∀ i, ∃ s : Stp12, i < n → s.fits W ∧ ∀ j, j < 5 → W.cell? (ad.add (i * 5 + j)) = (stpL12 s)[j]? := fun i => by
      by_cases hi : i < n
      · obtain ⟨cs, hc, ht⟩ := hcell i (by omega)
        rw [Try.cStep12] at hc
        obtain ⟨_, hcl, hat⟩ := World.cells?_some hc
        obtain ⟨s, rfl, hs⟩ := step_cells12 hcl ht
        refine ⟨s, fun _ => ⟨hs, fun j hj => ?_⟩⟩
        have := hat j hj
        rwa [Go.Deep.add_add] at this
      · exact ⟨⟨0, 0, 0, none, 0, [], none, 0, []⟩, fun h => absurd h hi⟩
    obtain ⟨R, hR⟩ := Classical.axiomOfChoice one
    refine ⟨some ad, n, c, R, rfl, by unfold maxLen at hmx; omega, fun i hi => ⟨(hR i hi).1, ?_⟩⟩
    have h0 := (hR 0 (by omega)).2 0 (by omega)
    rw [Nat.zero_mul, Nat.add_zero, Addr.add, if_pos rfl] at h0
    obtain ⟨b, o, rfl⟩ := spot_none12 (show W.cell? ad = some _ from h0)
    refine ⟨b, o, rfl, fun j v hv => ?_⟩
    have hj : j < 5 := by have := (List.getElem?_eq_some_iff.1 hv).1; exact this
    have e := (hR i hi).2 j hj
    rw [Addr.add_lit, ← Nat.add_assoc] at e
    exact e.trans hv
set_option maxRecDepth 100000 in
/-- Tests that came in. -/
theorem open_tests12 {r : Reach} {b0 : Nat} {v : Value} {dd : DataW H} {p : List MemPlace} (hv : Value.okWide Try.prog W r b0 31 v) (h : DataW.Trod enc Try.prog W base sp held 31 v dd p) :
    ∃ (A : Option Addr) (c : Nat) (L : List Ts), v = .slice A L.length c ∧ FlIn W A L.length c L ∧ (L.length : Int) ≤ 9223372036854775807 := by
  obtain ⟨A, n, c, rfl⟩ := okWide_slice Try.underlying31 hv
  obtain ⟨fuel, hf⟩ := h
  obtain ⟨A', c', L, hcs, h1⟩ := open_testsL12 hf
  simp [Value.cells] at hcs
  obtain ⟨rfl, rfl, rfl⟩ := hcs
  exact ⟨A, c, L, rfl, h1⟩
set_option maxRecDepth 100000 in
/-- A packet that came in. -/
theorem open_packet12 {r : Reach} {b0 : Nat} {v : Value} {dd : DataW H} {p : List MemPlace} (hv : Value.okWide Try.prog W r b0 32 v) (h : DataW.Trod enc Try.prog W base sp held 32 v dd p) :
    ∃ (A : Option Addr) (c : Nat) (P : List Nat), v = .slice A P.length c ∧ PkF W A P.length c P ∧ (P.length : Int) ≤ 9223372036854775807 := by
  obtain ⟨A, n, c, rfl⟩ := okWide_slice Try.underlying32 hv
  obtain ⟨fuel, hf⟩ := h
  obtain ⟨A', c', L, hcs, h1⟩ := open_packetL12 hf
  simp [Value.cells] at hcs
  obtain ⟨rfl, rfl, rfl⟩ := hcs
  exact ⟨A, c, L, rfl, h1⟩
end
end Go.Proofs.Ytakpankipagndaa
