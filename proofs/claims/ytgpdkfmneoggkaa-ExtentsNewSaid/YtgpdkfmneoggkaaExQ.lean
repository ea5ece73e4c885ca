/- Steps that came in. -/
import Derived.Test.YtgpdkfmneoggkaaLawWrap
import Derived.Test.YtgpdkfmneoggkaaExP
import Derived.Deep.Slices
namespace Go.Proofs.Ytgpdkfmneoggkaa
open Go.ChangeShapes Go.WideShapes Go.ChangeAt Go.RowKit

theorem spot_none10 {w : World} {ad : Addr} {v : Value} (h : w.cell? ad = some v) : ∃ b o, ad = ⟨b, o, none⟩ := by
  obtain ⟨b, o, s⟩ := ad
  cases s with
  | none => exact ⟨b, o, rfl⟩
  | some x =>
    unfold World.cell? at h
    split at h
    · simp at h
    · cases h
theorem Try.cI10 : Try.prog.cellsOf 3 = 1 := by kernel_rfl
theorem Try.cB10 : Try.prog.cellsOf 5 = 1 := by kernel_rfl
theorem Try.cSl10 : Try.prog.cellsOf 34 = 1 := by kernel_rfl
theorem Try.cKs10 : Try.prog.cellsOf 35 = 1 := by kernel_rfl
theorem Try.cKeep10 : Try.prog.cellsOf 124 = 2 := by kernel_rfl
theorem Try.cStep10 : Try.prog.cellsOf 37 = 6 := by kernel_rfl
theorem Try.uKeep10 : Try.prog.underlying 124 = some (.struct #[{ name := "Sector", type := 3, offset := 0, embedded := false, tag := "", pkgPath := "", byteOffset := 0 }, { name := "Writes", type := 3, offset := 1, embedded := false, tag := "", pkgPath := "", byteOffset := 8 }]) := by kernel_rfl
theorem Try.uStep10 : Try.prog.underlying 37 = some (.struct #[{ name := "Kind", type := 3, offset := 0, embedded := false, tag := "", pkgPath := "", byteOffset := 0 }, { name := "A", type := 3, offset := 1, embedded := false, tag := "", pkgPath := "", byteOffset := 8 }, { name := "B", type := 3, offset := 2, embedded := false, tag := "", pkgPath := "", byteOffset := 16 }, { name := "C", type := 3, offset := 3, embedded := false, tag := "", pkgPath := "", byteOffset := 24 }, { name := "Data", type := 34, offset := 4, embedded := false, tag := "", pkgPath := "", byteOffset := 32 }, { name := "Keep", type := 35, offset := 5, embedded := false, tag := "", pkgPath := "", byteOffset := 56 }]) := by kernel_rfl
/-- What is to be kept of a sector. -/
abbrev Kp := Int × Int
def wfK (x : Kp) : Prop := inI10 x.1 ∧ inI10 x.2
def KeepIn (w : World) (A : Option Addr) (l : List Kp) : Prop := ∀ k x, l[k]? = some x → ∃ b o, A = some ⟨b, o, none⟩ ∧ w.cell? ⟨b, o + k * 2, none⟩ = some (.int .i64 x.1) ∧ w.cell? ⟨b, o + k * 2 + 1, none⟩ = some (.int .i64 x.2)
theorem KeepIn.below {w w' : World} {A : Option Addr} {l : List Kp} (h : KeepIn w A l) (hb : Below w.heap.size w w') : KeepIn w' A l := fun k x hx => by
  obtain ⟨b, o, e, h1, h2⟩ := h k x hx
  exact ⟨b, o, e, hb.cell (World.block_lt_of_cell? w _ h1) |>.trans h1, hb.cell (World.block_lt_of_cell? w _ h2) |>.trans h2⟩
/-- A step. -/
structure Stp10 where
  kd : Int
  a : Int
  b : Int
  c : Int
  dA : Option Addr
  dc : Nat
  dl : List Int
  kA : Option Addr
  kc : Nat
  kl : List Kp
structure Stp10.fits (s : Stp10) (W : World) : Prop where
  wa : inI10 s.a
  wb : inI10 s.b
  wc : inI10 s.c
  dat : ByteIn10 W s.dA s.dl
  d01 : ∀ x ∈ s.dl, 0 ≤ x ∧ x < 256
  dn : (s.dl.length : Int) ≤ 9223372036854775807
  kp : KeepIn W s.kA s.kl
  kw : ∀ x ∈ s.kl, wfK x
  kn : (s.kl.length : Int) ≤ 9223372036854775807
theorem Stp10.fits.below {s : Stp10} {w w' : World} (h : s.fits w) (hb : Below w.heap.size w w') : s.fits w' := ⟨h.wa, h.wb, h.wc, h.dat.below hb, h.d01, h.dn, h.kp.below hb, h.kw, h.kn⟩
/-- A step's cells. -/
def stpL (s : Stp10) : List Value := [.int .i64 s.kd, .int .i64 s.a, .int .i64 s.b, .int .i64 s.c, .slice s.dA s.dl.length s.dc, .slice s.kA s.kl.length s.kc]
/-- Steps in memory. -/
def StepsIn10 (w : World) (A : Option Addr) (n : Nat) (R : Nat → Stp10) : Prop := ∀ i, i < n → (R i).fits w ∧ ∃ b o, A = some ⟨b, o, none⟩ ∧ w.rangeAt b (o + i * 6) (stpL (R i))
theorem StepsIn10.below {w w' : World} {A : Option Addr} {n : Nat} {R : Nat → Stp10} (h : StepsIn10 w A n R) (hb : Below w.heap.size w w') : StepsIn10 w' A n R := fun i hi => by
  obtain ⟨h0, b, o, e, h1⟩ := h i hi
  exact ⟨h0.below hb, b, o, e, fun j v hv => hb.cell (World.block_lt_of_cell? w _ (h1 j v hv)) |>.trans (h1 j v hv)⟩
section
variable {H : Type} {enc : TypeId × Value → H} {W : World} {base : Nat} {sp : Nat → Bool} {held : Bool}
theorem open_data10 {n : Nat} {cs : List Value} {y : DataW H × List MemPlace} (h : DataW.trod enc Try.prog W base sp held n 34 cs = some y) :
    ∃ (A : Option Addr) (c : Nat) (l : List Int), cs = [.slice A l.length c] ∧ ByteIn10 W A l ∧ (∀ x ∈ l, 0 ≤ x ∧ x < 256) ∧ (l.length : Int) ≤ 9223372036854775807 := by
  rcases open_ints Try.underlying34 Try.underlying5 Try.cB10 h with ⟨hcs, -⟩ | ⟨a, len', cap', zs, hcs, -, hl, hm, hz, -, hcell, hwz⟩
  · exact ⟨none, 0, [], hcs, fun j v hj => by simp at hj, by simp, by simp⟩
  · have hle : len' ≤ zs.length := by rw [hz]; split <;> omega
    have hlen : (zs.take len').length = len' := by simp; omega
    refine ⟨some a, cap', zs.take len', by rw [hlen]; exact hcs, fun j x hx => ?_, fun x hx => ?_, by rw [hlen]; unfold maxLen at hm; omega⟩
    · have hj : j < len' := by
        rcases Nat.lt_or_ge j len' with h | h
        · exact h
        · rw [List.getElem?_eq_none (by omega)] at hx; cases hx
      have h0 := hcell 0 (by omega)
      rw [Addr.add, if_pos rfl] at h0
      obtain ⟨b, o, rfl⟩ := spot_none10 h0
      refine ⟨b, o, rfl, ?_⟩
      have := hcell j (by omega)
      rw [Addr.add_lit] at this
      rw [this]
      rw [List.getElem?_take_of_lt hj] at hx
      simp [List.getD, hx]
    · have hw := hwz x (List.mem_of_mem_take hx)
      simp only [Lit.wf, Bool.and_eq_true, decide_eq_true_eq] at hw
      have a1 : IntKind.u8.min = 0 := rfl
      have a2 : IntKind.u8.max = 255 := rfl
      omega
theorem wf_inI10 {x : Int} (h : (Lit.int .i64 x).wf = true) : inI10 x := by
  simp only [Lit.wf, Bool.and_eq_true, decide_eq_true_eq] at h
  exact h
theorem keep_cells {n : Nat} {cs : List Value} {y : DataW H × List MemPlace} (hl : cs.length = 2) (h : DataW.trod enc Try.prog W base sp held n 124 cs = some y) :
    ∃ x : Kp, cs = [.int .i64 x.1, .int .i64 x.2] ∧ wfK x := by
  match cs, hl with
  | [c0, c1], _ =>
    obtain ⟨xs, n', _, hx, _, hlen, hg⟩ := DataW.trod_struct Try.uKeep10 h
    match xs, hlen with
    | [y0, y1], _ =>
      obtain ⟨n0, e0, -, w0⟩ := DataW.trod_int Try.underlying3 (by simpa [Try.cI10] using hg 0 _ rfl)
      obtain ⟨n1, e1, -, w1⟩ := DataW.trod_int Try.underlying3 (by simpa [Try.cI10] using hg 1 _ rfl)
      simp only [List.cons.injEq, and_true] at e0 e1
      subst e0 e1
      exact ⟨(n0, n1), rfl, wf_inI10 w0, wf_inI10 w1⟩
set_option maxRecDepth 100000 in
theorem open_keepsL {n : Nat} {cs : List Value} {y : DataW H × List MemPlace} (h : DataW.trod enc Try.prog W base sp held n 35 cs = some y) :
    ∃ (A : Option Addr) (c : Nat) (l : List Kp), cs = [.slice A l.length c] ∧ KeepIn W A l ∧ (∀ x ∈ l, wfK x) ∧ (l.length : Int) ≤ 9223372036854775807 := by
  rcases Go.Deep.open_slice Try.underlying35 h with ⟨hcs, -⟩ | ⟨ad, len', cap', mm, nn, D, Pl, hcs, -, hl, hmx, hmm, -, hcell⟩
  · exact ⟨none, 0, [], hcs, fun k x hx => by simp at hx, by simp, by simp⟩
  · have hle : len' ≤ mm := by rw [hmm]; split <;> omega
    have one : ∀ i, ∃ x : Kp, i < len' → wfK x ∧ ∀ j, j < 2 → W.cell? (ad.add (i * 2 + j)) = [Value.int .i64 x.1, .int .i64 x.2][j]? := fun i => by
      by_cases hi : i < len'
      · obtain ⟨cs, hc, ht⟩ := hcell i (by omega)
        rw [Try.cKeep10] at hc
        obtain ⟨_, hcl, hat⟩ := World.cells?_some hc
        obtain ⟨s, rfl, hs⟩ := keep_cells hcl ht
        refine ⟨s, fun _ => ⟨hs, fun j hj => ?_⟩⟩
        have := hat j hj
        rwa [Go.Deep.add_add] at this
      · exact ⟨(0, 0), fun h => absurd h hi⟩
    obtain ⟨R, hR⟩ := Classical.axiomOfChoice one
    have hget : ∀ k x, ((List.range len').map R)[k]? = some x → k < len' ∧ x = R k := fun k x hx => by
      rw [List.getElem?_map] at hx
      by_cases hk : k < len'
      · rw [List.getElem?_range hk] at hx
        exact ⟨hk, (Option.some.inj hx).symm⟩
      · rw [List.getElem?_eq_none (by simp; omega)] at hx; cases hx
    refine ⟨some ad, cap', (List.range len').map R, by simpa using hcs, fun k x hx => ?_, fun x hx => ?_, by simp; unfold maxLen at hmx; omega⟩
    · obtain ⟨hk, rfl⟩ := hget k x hx
      have h1 := (hR k hk).2 0 (by omega)
      have h2 := (hR k hk).2 1 (by omega)
      have h0 := (hR 0 (by omega)).2 0 (by omega)
      rw [Nat.zero_mul, Nat.add_zero, Addr.add, if_pos rfl] at h0
      obtain ⟨b, o, rfl⟩ := spot_none10 (show W.cell? ad = some _ from h0)
      rw [Addr.add_lit, Nat.add_zero] at h1
      rw [Addr.add_lit, ← Nat.add_assoc] at h2
      exact ⟨b, o, rfl, h1, h2⟩
    · obtain ⟨i, hi, rfl⟩ := List.mem_map.1 hx
      exact (hR i (List.mem_range.1 hi)).1
set_option maxRecDepth 100000 in
theorem step_cells10 {n : Nat} {cs : List Value} {y : DataW H × List MemPlace} (hl : cs.length = 6) (h : DataW.trod enc Try.prog W base sp held n 37 cs = some y) :
    ∃ s : Stp10, cs = stpL s ∧ s.fits W := by
  match cs, hl with
  | [c0, c1, c2, c3, c4, c5], _ =>
    obtain ⟨xs, n', _, hx, _, hlen, hg⟩ := DataW.trod_struct Try.uStep10 h
    match xs, hlen with
    | [y0, y1, y2, y3, y4, y5], _ =>
      obtain ⟨n0, e0, -, -⟩ := DataW.trod_int Try.underlying3 (by simpa [Try.cI10] using hg 0 _ rfl)
      obtain ⟨n1, e1, -, w1⟩ := DataW.trod_int Try.underlying3 (by simpa [Try.cI10] using hg 1 _ rfl)
      obtain ⟨n2, e2, -, w2⟩ := DataW.trod_int Try.underlying3 (by simpa [Try.cI10] using hg 2 _ rfl)
      obtain ⟨n3, e3, -, w3⟩ := DataW.trod_int Try.underlying3 (by simpa [Try.cI10] using hg 3 _ rfl)
      obtain ⟨A, c, L, e4, hB, hr, hk⟩ := open_data10 (cs := [c4]) (by simpa [Try.cSl10] using hg 4 _ rfl)
      obtain ⟨KA, kc, KL, e5, hK, hw, hn⟩ := open_keepsL (cs := [c5]) (by simpa [Try.cKs10] using hg 5 _ rfl)
      simp only [List.cons.injEq, and_true] at e0 e1 e2 e3 e4 e5
      subst e0 e1 e2 e3 e4 e5
      exact ⟨⟨n0, n1, n2, n3, A, c, L, KA, kc, KL⟩, rfl, ⟨wf_inI10 w1, wf_inI10 w2, wf_inI10 w3, hB, hr, hk, hK, hw, hn⟩⟩
set_option maxRecDepth 100000 in
/-- What is to be kept, that came in. -/
theorem open_keeps10 {r : Reach} {b0 : Nat} {v : Value} {dd : DataW H} {p : List MemPlace} (hv : Value.okWide Try.prog W r b0 35 v) (h : DataW.Trod enc Try.prog W base sp held 35 v dd p) :
    ∃ (A : Option Addr) (c : Nat) (l : List Kp), v = .slice A l.length c ∧ KeepIn W A l ∧ (∀ x ∈ l, wfK x) ∧ (l.length : Int) ≤ 9223372036854775807 := by
  obtain ⟨A, n, c, rfl⟩ := okWide_slice Try.underlying35 hv
  obtain ⟨fuel, hf⟩ := h
  obtain ⟨A', c', l, hcs, h1⟩ := open_keepsL hf
  simp [Value.cells] at hcs
  obtain ⟨rfl, rfl, rfl⟩ := hcs
  exact ⟨A, c, l, rfl, h1⟩
set_option maxRecDepth 100000 in
/-- Steps that came in. -/
theorem open_steps10 {r : Reach} {b0 : Nat} {v : Value} {dd : DataW H} {p : List MemPlace} (hv : Value.okWide Try.prog W r b0 23 v) (h : DataW.Trod enc Try.prog W base sp held 23 v dd p) :
    ∃ (A : Option Addr) (n c : Nat) (R : Nat → Stp10), v = .slice A n c ∧ (n : Int) ≤ 9223372036854775807 ∧ StepsIn10 W A n R := by
  obtain ⟨A, n, c, rfl⟩ := okWide_slice Try.underlying23 hv
  obtain ⟨fuel, hf⟩ := h
  rcases Go.Deep.open_slice Try.underlying23 hf with ⟨hcs, -⟩ | ⟨ad, len', cap', mm, nn, D, Pl, hcs, -, hl, hmx, hmm, -, hcell⟩
  · simp [Value.cells] at hcs
    obtain ⟨rfl, rfl, rfl⟩ := hcs
    exact ⟨none, 0, 0, fun _ => ⟨0, 0, 0, 0, none, 0, [], none, 0, []⟩, rfl, by simp, fun i hi => by omega⟩
  · simp [Value.cells] at hcs
    obtain ⟨rfl, rfl, rfl⟩ := hcs
    have hle : n ≤ mm := by rw [hmm]; split <;> omega
    have one : ∀ i, ∃ s : Stp10, i < n → s.fits W ∧ ∀ j, j < 6 → W.cell? (ad.add (i * 6 + j)) = (stpL s)[j]? := fun i => by
      by_cases hi : i < n
      · obtain ⟨cs, hc, ht⟩ := hcell i (by omega)
        rw [Try.cStep10] at hc
        obtain ⟨_, hcl, hat⟩ := World.cells?_some hc
        obtain ⟨s, rfl, hs⟩ := step_cells10 hcl ht
        refine ⟨s, fun _ => ⟨hs, fun j hj => ?_⟩⟩
        have := hat j hj
        rwa [Go.Deep.add_add] at this
      · exact ⟨⟨0, 0, 0, 0, none, 0, [], none, 0, []⟩, fun h => absurd h hi⟩
    obtain ⟨R, hR⟩ := Classical.axiomOfChoice one
    refine ⟨some ad, n, c, R, rfl, by unfold maxLen at hmx; omega, fun i hi => ⟨(hR i hi).1, ?_⟩⟩
    have h0 := (hR 0 (by omega)).2 0 (by omega)
    rw [Nat.zero_mul, Nat.add_zero, Addr.add, if_pos rfl] at h0
    obtain ⟨b, o, rfl⟩ := spot_none10 (show W.cell? ad = some _ from h0)
    refine ⟨b, o, rfl, fun j v hv => ?_⟩
    have hj : j < 6 := by have := (List.getElem?_eq_some_iff.1 hv).1; exact this
    have e := (hR i hi).2 j hj
    rw [Addr.add_lit, ← Nat.add_assoc] at e
    exact e.trans hv
end
end Go.Proofs.Ytgpdkfmneoggkaa
