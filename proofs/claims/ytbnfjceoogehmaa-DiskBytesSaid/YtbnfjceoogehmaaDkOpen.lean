/- Steps, and what is to be kept, that came in. -/
import Derived.Test.YtbnfjceoogehmaaLawWrap
import Derived.Test.YtbnfjceoogehmaaDkI
import Derived.Deep.Slices
namespace Go.Proofs.Ytbnfjceoogehmaa
open Go.ChangeShapes Go.WideShapes Go.ChangeAt Go.RowKit

theorem spot_none9 {w : World} {ad : Addr} {v : Value} (h : w.cell? ad = some v) : ∃ b o, ad = ⟨b, o, none⟩ := by
  obtain ⟨b, o, s⟩ := ad
  cases s with
  | none => exact ⟨b, o, rfl⟩
  | some x =>
    unfold World.cell? at h
    split at h
    · simp at h
    · cases h
theorem Try.cI9 : Try.prog.cellsOf 3 = 1 := by kernel_rfl
theorem Try.cB9 : Try.prog.cellsOf 5 = 1 := by kernel_rfl
theorem Try.cSl9 : Try.prog.cellsOf 35 = 1 := by kernel_rfl
theorem Try.cKs9 : Try.prog.cellsOf 36 = 1 := by kernel_rfl
theorem Try.cKeep9 : Try.prog.cellsOf 68 = 2 := by kernel_rfl
theorem Try.cStep9 : Try.prog.cellsOf 38 = 5 := by kernel_rfl
theorem Try.uKeep9 : Try.prog.underlying 68 = some (.struct #[{ name := "Sector", type := 3, offset := 0, embedded := false, tag := "", pkgPath := "", byteOffset := 0 }, { name := "Writes", type := 3, offset := 1, embedded := false, tag := "", pkgPath := "", byteOffset := 8 }]) := by kernel_rfl
theorem Try.uStep9 : Try.prog.underlying 38 = some (.struct #[{ name := "Kind", type := 3, offset := 0, embedded := false, tag := "", pkgPath := "", byteOffset := 0 }, { name := "A", type := 3, offset := 1, embedded := false, tag := "", pkgPath := "", byteOffset := 8 }, { name := "B", type := 3, offset := 2, embedded := false, tag := "", pkgPath := "", byteOffset := 16 }, { name := "Data", type := 35, offset := 3, embedded := false, tag := "", pkgPath := "", byteOffset := 24 }, { name := "Keep", type := 36, offset := 4, embedded := false, tag := "", pkgPath := "", byteOffset := 48 }]) := by kernel_rfl
/-- Bytes in memory. -/
def ByteIn (w : World) (A : Option Addr) (l : List Int) : Prop := ∀ j v, l[j]? = some v → ∃ b o, A = some ⟨b, o, none⟩ ∧ w.cell? ⟨b, o + j, none⟩ = some (.int .u8 v)
theorem ByteIn.below {w w' : World} {A : Option Addr} {l : List Int} (h : ByteIn w A l) (hb : Below w.heap.size w w') : ByteIn w' A l := fun k x hx => by
  obtain ⟨b, o, e, h1⟩ := h k x hx
  exact ⟨b, o, e, hb.cell (World.block_lt_of_cell? w _ h1) |>.trans h1⟩
/-- A step. -/
structure Stp9 where
  kd : Int
  a : Int
  b : Int
  dA : Option Addr
  dc : Nat
  dl : List Int
  kA : Option Addr
  kc : Nat
  kl : List Kp
def inI (x : Int) : Prop := (-9223372036854775808 : Int) ≤ x ∧ x ≤ 9223372036854775807
structure Stp9.fits (s : Stp9) (W : World) : Prop where
  wa : inI s.a
  wb : inI s.b
  dat : ByteIn W s.dA s.dl
  d01 : ∀ x ∈ s.dl, 0 ≤ x ∧ x < 256
  dn : (s.dl.length : Int) ≤ 9223372036854775807
  kp : KeepIn W s.kA s.kl
  kw : ∀ x ∈ s.kl, wfK x
  kn : (s.kl.length : Int) ≤ 9223372036854775807
theorem Stp9.fits.below {s : Stp9} {w w' : World} (h : s.fits w) (hb : Below w.heap.size w w') : s.fits w' := ⟨h.wa, h.wb, h.dat.below hb, h.d01, h.dn, h.kp.below hb, h.kw, h.kn⟩
/-- Steps in memory. -/
def StepsIn9 (w : World) (A : Option Addr) (n : Nat) (R : Nat → Stp9) : Prop := ∀ i, i < n → (R i).fits w ∧ ∃ b o, A = some ⟨b, o, none⟩ ∧ w.cell? ⟨b, o + i * 5, none⟩ = some (.int .i64 (R i).kd) ∧ w.cell? ⟨b, o + i * 5 + 1, none⟩ = some (.int .i64 (R i).a) ∧ w.cell? ⟨b, o + i * 5 + 2, none⟩ = some (.int .i64 (R i).b) ∧
  w.cell? ⟨b, o + i * 5 + 3, none⟩ = some (.slice (R i).dA (R i).dl.length (R i).dc) ∧ w.cell? ⟨b, o + i * 5 + 4, none⟩ = some (.slice (R i).kA (R i).kl.length (R i).kc)
theorem StepsIn9.below {w w' : World} {A : Option Addr} {n : Nat} {R : Nat → Stp9} (h : StepsIn9 w A n R) (hb : Below w.heap.size w w') : StepsIn9 w' A n R := fun i hi => by
  obtain ⟨h0, b, o, e, h1, h2, h3, h4, h5⟩ := h i hi
  exact ⟨h0.below hb, b, o, e, hb.cell (World.block_lt_of_cell? w _ h1) |>.trans h1, hb.cell (World.block_lt_of_cell? w _ h2) |>.trans h2, hb.cell (World.block_lt_of_cell? w _ h3) |>.trans h3, hb.cell (World.block_lt_of_cell? w _ h4) |>.trans h4, hb.cell (World.block_lt_of_cell? w _ h5) |>.trans h5⟩
section
variable {H : Type} {enc : TypeId × Value → H} {W : World} {base : Nat} {sp : Nat → Bool} {held : Bool}
theorem open_data9 {n : Nat} {cs : List Value} {y : DataW H × List MemPlace} (h : DataW.trod enc Try.prog W base sp held n 35 cs = some y) :
    ∃ (A : Option Addr) (c : Nat) (l : List Int), cs = [.slice A l.length c] ∧ ByteIn W A l ∧ (∀ x ∈ l, 0 ≤ x ∧ x < 256) ∧ (l.length : Int) ≤ 9223372036854775807 := by
  rcases open_ints Try.underlying35 Try.underlying5 Try.cB9 h with ⟨hcs, -⟩ | ⟨a, len', cap', zs, hcs, -, hl, hm, hz, -, hcell, hwz⟩
  · exact ⟨none, 0, [], hcs, fun j v hj => by simp at hj, by simp, by simp⟩
  · have hle : len' ≤ zs.length := by rw [hz]; split <;> omega
    have hlen : (zs.take len').length = len' := by simp; omega
    refine ⟨some a, cap', zs.take len', by rw [hlen]; exact hcs, fun j x hx => ?_, fun x hx => ?_, by rw [hlen]; unfold maxLen at hm; omega⟩
    · have hj : j < len' := by
        rcases Nat.lt_or_ge j len' with h | h
        · exact h
        · rw [List.getElem?_eq_none (by omega)] at hx; cases hx
      have h0 := hcell 0 (by omega)
      rw [Addr.add, if_pos rfl] at h0
      obtain ⟨b, o, rfl⟩ := spot_none9 h0
      refine ⟨b, o, rfl, ?_⟩
      have := hcell j (by omega)
      rw [Addr.add_lit] at this
      rw [this]
      rw [List.getElem?_take_of_lt hj] at hx
      simp [List.getD, hx]
    · have hw := hwz x (List.mem_of_mem_take hx)
      simp only [Lit.wf, Bool.and_eq_true, decide_eq_true_eq] at hw
      have a1 : IntKind.u8.min = 0 := rfl
      have a2 : IntKind.u8.max = 255 := rfl
      omega
theorem wf_inI {x : Int} (h : (Lit.int .i64 x).wf = true) : inI x := by
  simp only [Lit.wf, Bool.and_eq_true, decide_eq_true_eq] at h
  exact h
theorem keep_cells {n : Nat} {cs : List Value} {y : DataW H × List MemPlace} (hl : cs.length = 2) (h : DataW.trod enc Try.prog W base sp held n 68 cs = some y) :
    ∃ x : Kp, cs = [.int .i64 x.1, .int .i64 x.2] ∧ wfK x := by
  match cs, hl with
  | [c0, c1], _ =>
    obtain ⟨xs, n', _, hx, _, hlen, hg⟩ := DataW.trod_struct Try.uKeep9 h
    match xs, hlen with
    | [y0, y1], _ =>
      obtain ⟨n0, e0, -, w0⟩ := DataW.trod_int Try.underlying3 (by simpa [Try.cI9] using hg 0 _ rfl)
      obtain ⟨n1, e1, -, w1⟩ := DataW.trod_int Try.underlying3 (by simpa [Try.cI9] using hg 1 _ rfl)
      simp only [List.cons.injEq, and_true] at e0 e1
      subst e0 e1
      exact ⟨(n0, n1), rfl, wf_inI w0, wf_inI w1⟩
set_option maxRecDepth 100000 in
theorem open_keepsL {n : Nat} {cs : List Value} {y : DataW H × List MemPlace} (h : DataW.trod enc Try.prog W base sp held n 36 cs = some y) :
    ∃ (A : Option Addr) (c : Nat) (l : List Kp), cs = [.slice A l.length c] ∧ KeepIn W A l ∧ (∀ x ∈ l, wfK x) ∧ (l.length : Int) ≤ 9223372036854775807 := by
  rcases Go.Deep.open_slice Try.underlying36 h with ⟨hcs, -⟩ | ⟨ad, len', cap', mm, nn, D, Pl, hcs, -, hl, hmx, hmm, -, hcell⟩
  · exact ⟨none, 0, [], hcs, fun k x hx => by simp at hx, by simp, by simp⟩
  · have hle : len' ≤ mm := by rw [hmm]; split <;> omega
    have one : ∀ i, ∃ x : Kp, i < len' → wfK x ∧ ∀ j, j < 2 → W.cell? (ad.add (i * 2 + j)) = [Value.int .i64 x.1, .int .i64 x.2][j]? := fun i => by
      by_cases hi : i < len'
      · obtain ⟨cs, hc, ht⟩ := hcell i (by omega)
        rw [Try.cKeep9] at hc
        obtain ⟨_, hcl, hat⟩ := World.cells?_some hc
        obtain ⟨s, rfl, hs⟩ := keep_cells hcl ht
        refine ⟨s, fun _ => ⟨hs, fun j hj => ?_⟩⟩
        have := hat j hj
        rwa [Go.Deep.add_add] at this
      · exact ⟨(0, 0), fun h => absurd h hi⟩
    obtain ⟨R, hR⟩ := Classical.axiomOfChoice one
    have hget : ∀ k x, ((List.range len').map R)[k]? = some x → k < len' ∧ x = R k := fun k x hx => by
      rw [List.getElem?_map] at hx
      by_cases hk : k < len'
      · rw [List.getElem?_range hk] at hx
        exact ⟨hk, (Option.some.inj hx).symm⟩
      · rw [List.getElem?_eq_none (by simp; omega)] at hx; cases hx
    refine ⟨some ad, cap', (List.range len').map R, by simpa using hcs, fun k x hx => ?_, fun x hx => ?_, by simp; unfold maxLen at hmx; omega⟩
    · obtain ⟨hk, rfl⟩ := hget k x hx
      have h1 := (hR k hk).2 0 (by omega)
      have h2 := (hR k hk).2 1 (by omega)
      have h0 := (hR 0 (by omega)).2 0 (by omega)
      rw [Nat.zero_mul, Nat.add_zero, Addr.add, if_pos rfl] at h0
      obtain ⟨b, o, rfl⟩ := spot_none9 (show W.cell? ad = some _ from h0)
      rw [Addr.add_lit, Nat.add_zero] at h1
      rw [Addr.add_lit, ← Nat.add_assoc] at h2
      exact ⟨b, o, rfl, h1, h2⟩
    · obtain ⟨i, hi, rfl⟩ := List.mem_map.1 hx
      exact (hR i (List.mem_range.1 hi)).1
set_option maxRecDepth 100000 in
theorem step_cells9 {n : Nat} {cs : List Value} {y : DataW H × List MemPlace} (hl : cs.length = 5) (h : DataW.trod enc Try.prog W base sp held n 38 cs = some y) :
    ∃ s : Stp9, cs = [.int .i64 s.kd, .int .i64 s.a, .int .i64 s.b, .slice s.dA s.dl.length s.dc, .slice s.kA s.kl.length s.kc] ∧ s.fits W := by
  match cs, hl with
  | [c0, c1, c2, c3, c4], _ =>
    obtain ⟨xs, n', _, hx, _, hlen, hg⟩ := DataW.trod_struct Try.uStep9 h
    match xs, hlen with
    | [y0, y1, y2, y3, y4], _ =>
      obtain ⟨n0, e0, -, -⟩ := DataW.trod_int Try.underlying3 (by simpa [Try.cI9] using hg 0 _ rfl)
      obtain ⟨n1, e1, -, w1⟩ := DataW.trod_int Try.underlying3 (by simpa [Try.cI9] using hg 1 _ rfl)
      obtain ⟨n2, e2, -, w2⟩ := DataW.trod_int Try.underlying3 (by simpa [Try.cI9] using hg 2 _ rfl)
      obtain ⟨A, c, L, e3, hB, hr, hk⟩ := open_data9 (cs := [c3]) (by simpa [Try.cSl9] using hg 3 _ rfl)
      obtain ⟨KA, kc, KL, e4, hK, hw, hn⟩ := open_keepsL (cs := [c4]) (by simpa [Try.cKs9] using hg 4 _ rfl)
      simp only [List.cons.injEq, and_true] at e0 e1 e2 e3 e4
      subst e0 e1 e2 e3 e4
      exact ⟨⟨n0, n1, n2, A, c, L, KA, kc, KL⟩, rfl, ⟨wf_inI w1, wf_inI w2, hB, hr, hk, hK, hw, hn⟩⟩
set_option maxRecDepth 100000 in
/-- What is to be kept, that came in. -/
theorem open_keeps9 {r : Reach} {b0 : Nat} {v : Value} {dd : DataW H} {p : List MemPlace} (hv : Value.okWide Try.prog W r b0 36 v) (h : DataW.Trod enc Try.prog W base sp held 36 v dd p) :
    ∃ (A : Option Addr) (c : Nat) (l : List Kp), v = .slice A l.length c ∧ KeepIn W A l ∧ (∀ x ∈ l, wfK x) ∧ (l.length : Int) ≤ 9223372036854775807 := by
  obtain ⟨A, n, c, rfl⟩ := okWide_slice Try.underlying36 hv
  obtain ⟨fuel, hf⟩ := h
  obtain ⟨A', c', l, hcs, h1⟩ := open_keepsL hf
  simp [Value.cells] at hcs
  obtain ⟨rfl, rfl, rfl⟩ := hcs
  exact ⟨A, c, l, rfl, h1⟩
set_option maxRecDepth 100000 in
/-- Steps that came in. -/
theorem open_steps9 {r : Reach} {b0 : Nat} {v : Value} {dd : DataW H} {p : List MemPlace} (hv : Value.okWide Try.prog W r b0 22 v) (h : DataW.Trod enc Try.prog W base sp held 22 v dd p) :
    ∃ (A : Option Addr) (n c : Nat) (R : Nat → Stp9), v = .slice A n c ∧ (n : Int) ≤ 9223372036854775807 ∧ StepsIn9 W A n R := by
  obtain ⟨A, n, c, rfl⟩ := okWide_slice Try.underlying22 hv
  obtain ⟨fuel, hf⟩ := h
  rcases Go.Deep.open_slice Try.underlying22 hf with ⟨hcs, -⟩ | ⟨ad, len', cap', mm, nn, D, Pl, hcs, -, hl, hmx, hmm, -, hcell⟩
  · simp [Value.cells] at hcs
    obtain ⟨rfl, rfl, rfl⟩ := hcs
    exact ⟨none, 0, 0, fun _ => ⟨0, 0, 0, none, 0, [], none, 0, []⟩, rfl, by simp, fun i hi => by omega⟩
  · simp [Value.cells] at hcs
    obtain ⟨rfl, rfl, rfl⟩ := hcs
    have hle : n ≤ mm := by rw [hmm]; split <;> omega
    have one : ∀ i, ∃ s : Stp9, i < n → s.fits W ∧ ∀ j, j < 5 → W.cell? (ad.add (i * 5 + j)) = [Value.int .i64 s.kd, .int .i64 s.a, .int .i64 s.b, .slice s.dA s.dl.length s.dc, .slice s.kA s.kl.length s.kc][j]? := fun i => by
      by_cases hi : i < n
      · obtain ⟨cs, hc, ht⟩ := hcell i (by omega)
        rw [Try.cStep9] at hc
        obtain ⟨_, hcl, hat⟩ := World.cells?_some hc
        obtain ⟨s, rfl, hs⟩ := step_cells9 hcl ht
        refine ⟨s, fun _ => ⟨hs, fun j hj => ?_⟩⟩
        have := hat j hj
        rwa [Go.Deep.add_add] at this
      · exact ⟨⟨0, 0, 0, none, 0, [], none, 0, []⟩, fun h => absurd h hi⟩
    obtain ⟨R, hR⟩ := Classical.axiomOfChoice one
    refine ⟨some ad, n, c, R, rfl, by unfold maxLen at hmx; omega, fun i hi => ⟨(hR i hi).1, ?_⟩⟩
    have h0 := (hR 0 (by omega)).2 0 (by omega)
    rw [Nat.zero_mul, Nat.add_zero, Addr.add, if_pos rfl] at h0
    obtain ⟨b, o, rfl⟩ := spot_none9 (show W.cell? ad = some _ from h0)
    have e := fun j hj => (hR i hi).2 j hj
    have e0 := e 0 (by omega)
    have e1 := e 1 (by omega)
    have e2 := e 2 (by omega)
    have e3 := e 3 (by omega)
    have e4 := e 4 (by omega)
    rw [Addr.add_lit, ← Nat.add_assoc] at e0 e1 e2 e3 e4
    exact ⟨b, o, rfl, e0, e1, e2, e3, e4⟩
end
end Go.Proofs.Ytbnfjceoogehmaa
