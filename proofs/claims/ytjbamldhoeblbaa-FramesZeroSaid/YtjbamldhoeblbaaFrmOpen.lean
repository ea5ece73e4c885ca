/- Quotas and steps that came in. -/
import Derived.Test.YtjbamldhoeblbaaLawWrap
import Derived.Test.YtjbamldhoeblbaaFrmQuo
import Derived.Deep.Slices
namespace Go.Proofs.Ytjbamldhoeblbaa
open Go.ChangeShapes Go.WideShapes Go.ChangeAt Go.RowKit

theorem spot_none {w : World} {ad : Addr} {v : Value} (h : w.cell? ad = some v) : ∃ b o, ad = ⟨b, o, none⟩ := by
  obtain ⟨b, o, s⟩ := ad
  cases s with
  | none => exact ⟨b, o, rfl⟩
  | some x =>
    unfold World.cell? at h
    split at h
    · simp at h
    · cases h
theorem Try.cI : Try.prog.cellsOf 3 = 1 := by kernel_rfl
theorem Try.cB : Try.prog.cellsOf 5 = 1 := by kernel_rfl
theorem Try.cSl : Try.prog.cellsOf 32 = 1 := by kernel_rfl
theorem Try.cStep : Try.prog.cellsOf 34 = 4 := by kernel_rfl
theorem Try.uStep : Try.prog.underlying 34 = some (.struct #[{ name := "Kind", type := 3, offset := 0, embedded := false, tag := "", pkgPath := "", byteOffset := 0 }, { name := "N", type := 3, offset := 1, embedded := false, tag := "", pkgPath := "", byteOffset := 8 }, { name := "M", type := 3, offset := 2, embedded := false, tag := "", pkgPath := "", byteOffset := 16 }, { name := "Data", type := 32, offset := 3, embedded := false, tag := "", pkgPath := "", byteOffset := 24 }]) := by kernel_rfl
section
variable {H : Type} {enc : TypeId × Value → H} {W : World} {base : Nat} {sp : Nat → Bool} {held : Bool}
set_option maxRecDepth 100000 in
/-- Ints that came in, nil or not. -/
theorem open_quotas {r : Reach} {b0 : Nat} {v : Value} {dd : DataW H} {p : List MemPlace} (hv : Value.okWide Try.prog W r b0 22 v) (h : DataW.Trod enc Try.prog W base sp held 22 v dd p) :
    ∃ (A : Option Addr) (c : Nat) (L : List Int), v = .slice A L.length c ∧ IntsOf W A L ∧ (L.length : Int) ≤ 9223372036854775807 := by
  obtain ⟨A, n, c, rfl⟩ := okWide_slice Try.underlying22 hv
  obtain ⟨fuel, hf⟩ := h
  rcases open_ints Try.underlying22 Try.underlying3 Try.cI hf with ⟨hcs, -⟩ | ⟨a, len', cap', zs, hcs, -, hl, hm, hz, -, hcell, hwz⟩
  · simp [Value.cells] at hcs
    obtain ⟨rfl, rfl, rfl⟩ := hcs
    exact ⟨none, 0, [], rfl, fun h0 => by simp at h0, by simp⟩
  · simp [Value.cells] at hcs
    obtain ⟨rfl, rfl, rfl⟩ := hcs
    have hle : n ≤ zs.length := by rw [hz]; split <;> omega
    have hlen : (zs.take n).length = n := by simp; omega
    have hget : ∀ j, j < n → at0 (zs.take n) j = zs.getD j 0 := fun j hj => by
      unfold at0; simp only [List.getD_eq_getElem?_getD, List.getElem?_take_of_lt hj]
    refine ⟨some a, c, zs.take n, by rw [hlen], fun h0 => ?_, ?_⟩
    · rw [hlen] at h0
      have h1 := hcell 0 (by omega)
      rw [Addr.add, if_pos rfl] at h1
      obtain ⟨b, o, rfl⟩ := spot_none h1
      refine ⟨b, o, rfl, fun j hj => ?_⟩
      rw [hlen] at hj
      rw [hget j hj, ← hcell j (by omega), Addr.add_lit]
    · rw [hlen]; unfold maxLen at hm; omega

/-- A step. -/
structure StepR where
  kd : Int
  nn : Int
  mm : Int
  da : Option Addr
  dn : Nat
  dc : Nat
  dl : List Int
def StepR.fits (s : StepR) (W : World) : Prop := s.dl.length = s.dn ∧ BytesOf W s.da s.dl ∧ (∀ x ∈ s.dl, 0 ≤ x ∧ x < 256) ∧ (s.dn : Int) ≤ 9223372036854775807
theorem open_data {n : Nat} {cs : List Value} {y : DataW H × List MemPlace} (hl : cs.length = 1) (h : DataW.trod enc Try.prog W base sp held n 32 cs = some y) :
    ∃ (A : Option Addr) (k c : Nat) (L : List Int), cs = [.slice A k c] ∧ L.length = k ∧ BytesOf W A L ∧ (∀ x ∈ L, 0 ≤ x ∧ x < 256) ∧ (k : Int) ≤ 9223372036854775807 := by
  rcases open_ints Try.underlying32 Try.underlying5 Try.cB h with ⟨hcs, -⟩ | ⟨a, len', cap', zs, hcs, -, hl, hm, hz, -, hcell, hwz⟩
  · exact ⟨none, 0, 0, [], hcs, rfl, fun h0 => by simp at h0, by simp, by simp⟩
  · have hle : len' ≤ zs.length := by rw [hz]; split <;> omega
    have hlen : (zs.take len').length = len' := by simp; omega
    refine ⟨some a, len', cap', zs.take len', hcs, hlen, fun h0 => ⟨a, rfl, fun j x hx => ?_⟩, fun x hx => ?_, by unfold maxLen at hm; omega⟩
    · have hj : j < len' := by
        rcases Nat.lt_or_ge j len' with h | h
        · exact h
        · rw [List.getElem?_eq_none (by omega)] at hx; cases hx
      rw [hcell j (by omega)]
      rw [List.getElem?_take_of_lt hj] at hx
      simp [List.getD, hx]
    · have hw := hwz x (List.mem_of_mem_take hx)
      simp only [Lit.wf, Bool.and_eq_true, decide_eq_true_eq] at hw
      have a1 : IntKind.u8.min = 0 := rfl
      have a2 : IntKind.u8.max = 255 := rfl
      omega
theorem step_cells {n : Nat} {cs : List Value} {y : DataW H × List MemPlace} (hl : cs.length = 4) (h : DataW.trod enc Try.prog W base sp held n 34 cs = some y) :
    ∃ s : StepR, cs = [.int .i64 s.kd, .int .i64 s.nn, .int .i64 s.mm, .slice s.da s.dn s.dc] ∧ s.fits W := by
  match cs, hl with
  | [c0, c1, c2, c3], _ =>
    obtain ⟨xs, n', _, hx, _, hlen, hg⟩ := DataW.trod_struct Try.uStep h
    match xs, hlen with
    | [y0, y1, y2, y3], _ =>
      obtain ⟨n0, e0, -⟩ := DataW.trod_int Try.underlying3 (by simpa [Try.cI] using hg 0 _ rfl)
      obtain ⟨n1, e1, -⟩ := DataW.trod_int Try.underlying3 (by simpa [Try.cI] using hg 1 _ rfl)
      obtain ⟨n2, e2, -⟩ := DataW.trod_int Try.underlying3 (by simpa [Try.cI] using hg 2 _ rfl)
      obtain ⟨A, k, c, L, e3, hL, hB, hr, hk⟩ := open_data (cs := [c3]) rfl (by simpa [Try.cSl] using hg 3 _ rfl)
      simp only [List.cons.injEq, and_true] at e0 e1 e2 e3
      subst e0 e1 e2 e3
      exact ⟨⟨n0, n1, n2, A, k, c, L⟩, rfl, hL, hB, hr, hk⟩

set_option maxRecDepth 100000 in
/-- Steps that came in, nil or not. -/
theorem open_steps {r : Reach} {b0 : Nat} {v : Value} {dd : DataW H} {p : List MemPlace} (hv : Value.okWide Try.prog W r b0 23 v) (h : DataW.Trod enc Try.prog W base sp held 23 v dd p) :
    ∃ (A : Option Addr) (n c : Nat) (R : Nat → StepR), v = .slice A n c ∧ (n : Int) ≤ 9223372036854775807 ∧ StepsOf W A n (fun i => (R i).kd) (fun i => (R i).nn) (fun i => (R i).mm) (fun i => (R i).da) (fun i => (R i).dn) (fun i => (R i).dc) ∧ ∀ i, i < n → (R i).fits W := by
  obtain ⟨A, n, c, rfl⟩ := okWide_slice Try.underlying23 hv
  obtain ⟨fuel, hf⟩ := h
  rcases Go.Deep.open_slice Try.underlying23 hf with ⟨hcs, -⟩ | ⟨ad, len', cap', mm, nn, D, Pl, hcs, -, hl, hmx, hmm, -, hcell⟩
  · simp [Value.cells] at hcs
    obtain ⟨rfl, rfl, rfl⟩ := hcs
    exact ⟨none, 0, 0, fun _ => ⟨0, 0, 0, none, 0, 0, []⟩, rfl, by simp, fun h0 => by simp at h0, fun i hi => by omega⟩
  · simp [Value.cells] at hcs
    obtain ⟨rfl, rfl, rfl⟩ := hcs
    have hle : n ≤ mm := by rw [hmm]; split <;> omega
    have one : ∀ i, ∃ s : StepR, i < n → s.fits W ∧ ∀ j, j < 4 → W.cell? (ad.add (i * 4 + j)) = [Value.int .i64 s.kd, .int .i64 s.nn, .int .i64 s.mm, .slice s.da s.dn s.dc][j]? := fun i => by
      by_cases hi : i < n
      · obtain ⟨cs, hc, ht⟩ := hcell i (by omega)
        rw [Try.cStep] at hc
        obtain ⟨_, hcl, hat⟩ := World.cells?_some hc
        obtain ⟨s, rfl, hs⟩ := step_cells hcl ht
        refine ⟨s, fun _ => ⟨hs, fun j hj => ?_⟩⟩
        have := hat j hj
        rwa [Go.Deep.add_add] at this
      · exact ⟨⟨0, 0, 0, none, 0, 0, []⟩, fun h => absurd h hi⟩
    obtain ⟨R, hR⟩ := Classical.axiomOfChoice one
    refine ⟨some ad, n, c, R, rfl, by unfold maxLen at hmx; omega, fun h0 => ?_, fun i hi => (hR i hi).1⟩
    have h1 := (hR 0 h0).2 0 (by omega)
    rw [Nat.zero_mul, Nat.add_zero, Addr.add, if_pos rfl] at h1
    obtain ⟨b, o, rfl⟩ := spot_none (show W.cell? ad = some _ from h1)
    refine ⟨b, o, rfl, fun i hi j hj => ?_⟩
    have := (hR i hi).2 j hj
    rw [Addr.add_lit, ← Nat.add_assoc] at this
    exact this
end

end Go.Proofs.Ytjbamldhoeblbaa
