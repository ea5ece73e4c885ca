/- From a walk to a row: what every law of this seat needs beside its walk; a world that pays the row's variable; steps that came in. -/
import Derived.Test.YtgkfejnjjoaihaaDoorCards
import Derived.Test.YtgkfejnjjoaihaaDoorTie
import Derived.Test.YtgkfejnjjoaihaaDoorPgDg
import Derived.Deep.Slices
import Derived.Carry
import Derived.ProofKit
import Derived.OpenShut
import Derived.Deep.DeepHandedRow
import Derived.Deep.DeepWitnessRowRef
import Derived.Lib.LaidTab
import Derived.Stop.LaidErr
import Derived.Shelf.Vars
namespace Go.Proofs.YtgkfejnjjoaihaaDoor
open Go.ChangeShapes Go.WideShapes Go.ChangeAt Go.RowKit

section
variable {H : Type} {enc : TypeId × Value → H} {P : Program}
theorem trodAll_below (hl : laidOutB P = true) {W W' : World} (hb : Below W.heap.size W W') : ∀ {ts : List TypeId} {vs : List Value} {ds : List (DataW H)} {ps : List MemPlace},
    (∀ t ∈ ts, P.readableRec t = true ∧ t < P.types.size) → (∀ x ∈ ps, x.block < W.heap.size) → DataW.TrodAll enc P W 0 (fun _ => true) true ts vs ds ps →
    DataW.TrodAll enc P W' 0 (fun b => decide (b < W.heap.size)) true ts vs ds ps
  | [], _, _, _, _, _, h => by
    obtain ⟨rfl, rfl, rfl⟩ := trodAll_nil h
    exact trodAll_mk0
  | t :: ts, _, _, _, ht, hp, h => by
    obtain ⟨v, vs1, d, ds1, a, b, rfl, rfl, rfl, h1, h2⟩ := trodAll_cons h
    have h0 := ht t (List.mem_cons_self ..)
    exact ⟨a, b, Below.trod hl h0.1 h0.2 h1 hb (fun x hx => hp x (List.mem_append_left _ hx)), trodAll_below hl hb (fun t' h' => ht t' (List.mem_cons_of_mem _ h')) (fun x hx => hp x (List.mem_append_right _ hx)) h2, rfl⟩

/-- What a law's row asks behind the call. -/
theorem law_post {f : Func} {s : ChangeSpec} {fresh handsOn : Bool} {W W' : World} {args : Array Value} {ds gs : List (DataW H)} {before : List MemPlace} {tb : TypeId}
    (hl : laidOutB P = true) (hts : ∀ t ∈ f.params.toList, P.readableRec t = true ∧ t < P.types.size) (hr : f.resultTypes = #[tb]) (htb : P.underlying tb = some .bool) (hv : s.vars = [])
    (hW : DataW.Whole enc P f.params.toList s.vars false W args.toList ds gs before) (hfn : s.fn H (ds ++ gs) = { results := [.lit (.bool true)], args := ds }) (hb : Below W.heap.size W W') :
    s.post enc P f false fresh handsOn false W args (.bool true) W' := by
  have hW' := hW
  have hlt : ∀ x ∈ before, x.block < W.heap.size := fun x hx => by simpa using hW.lt x hx
  obtain ⟨p, q, hA, hV, rfl, _, _⟩ := hW
  rw [hv] at hV
  obtain ⟨rfl, rfl⟩ := trodVars_none hV
  refine ⟨ds, [], p ++ [], [], p, [], hW', ?_, ?_, ?_, hb.frame _, fun h => by cases h⟩
  · rw [hfn, hr]; exact trodAll_mk1 (shut_bool htb _)
  · rw [hfn]; exact trodAll_below hl hb hts (fun x hx => hlt x (List.mem_append_left _ hx)) hA
  · rw [hfn, hv]; rfl
end

theorem Tryd.own : ownKnob Tryd.prog.godebug = none := by kernel_rfl
theorem Tryd.gD32 : Tryd.prog.globalNamed "math/bits.deBruijn32tab" = some 0 := by kernel_rfl
theorem Tryd.tD32 : (Tryd.prog.globals[0]?).map (·.type) = some 111 := by kernel_rfl
theorem Tryd.cU8 : Tryd.prog.cellsOf 5 = 1 := by kernel_rfl
theorem Tryd.cD32 : Tryd.prog.cellsOf 111 = 32 := by kernel_rfl
def d32 : List Int := [0, 1, 28, 2, 29, 14, 24, 3, 30, 22, 20, 15, 25, 17, 4, 8, 31, 27, 13, 23, 21, 19, 16, 7, 26, 12, 18, 6, 11, 5, 10, 9]
/-- The library's table holds what the row lists. -/
theorem env_of {W : World} (h : laidMet Tryd.prog Rows.pagesSameRow.laid W) : TzTab W := by
  have hd := Lib.tabIs_of_head (k := .u8) (zs := d32) Tryd.gD32 Tryd.tD32 Tryd.underlying111 Tryd.underlying5 Tryd.cU8 Tryd.cD32 h
  intro j hj
  have := hd.cell Tryd.gD32 j (by simpa [d32] using hj)
  rw [this]
  have hall : ∀ j, j < 32 → d32.getD j 0 = ((Lib.deBruijn32tab.getD j 0 : Nat) : Int) := by decide
  rw [hall j hj]
def putCells (h : Array Obj) (g : Nat) (cs : Array Value) : Array Obj := h.modify g fun
  | .cells _ t frozen => .cells cs t frozen
  | o => o
noncomputable def laidWorld (os : Os) : World :=
  let w0 := World.holding Tryd.prog os ⟨#[], #[], []⟩
  { w0 with heap := putCells w0.heap 0 (d32.map (Value.int .u8)).toArray }
set_option maxRecDepth 100000 in
theorem laid_met (os : Os) (args : Array Value) : laidMet Tryd.prog Rows.pagesSameRow.laid ((laidWorld os).forCall (fun _ _ => 0) ⟨#[], args, []⟩).memory :=
  laidMet_of_run' 8 (by kernel_rfl) (by kernel_rfl)

/-! ### Steps that came in -/
theorem spot_none7 {w : World} {ad : Addr} {v : Value} (h : w.cell? ad = some v) : ∃ b o, ad = ⟨b, o, none⟩ := by
  obtain ⟨b, o, s⟩ := ad
  cases s with
  | none => exact ⟨b, o, rfl⟩
  | some x =>
    unfold World.cell? at h
    split at h
    · simp at h
    · cases h
theorem Tryd.cI7 : Tryd.prog.cellsOf 3 = 1 := by kernel_rfl
theorem Tryd.cU32 : Tryd.prog.cellsOf 30 = 1 := by kernel_rfl
theorem Tryd.cStep7 : Tryd.prog.cellsOf 32 = 6 := by kernel_rfl
theorem Tryd.uStep7 : Tryd.prog.underlying 32 = some (.struct #[{ name := "Kind", type := 3, offset := 0, embedded := false, tag := "", pkgPath := "", byteOffset := 0 }, { name := "A", type := 3, offset := 1, embedded := false, tag := "", pkgPath := "", byteOffset := 8 }, { name := "B", type := 3, offset := 2, embedded := false, tag := "", pkgPath := "", byteOffset := 16 }, { name := "C", type := 3, offset := 3, embedded := false, tag := "", pkgPath := "", byteOffset := 24 }, { name := "D", type := 3, offset := 4, embedded := false, tag := "", pkgPath := "", byteOffset := 32 }, { name := "Addr", type := 30, offset := 5, embedded := false, tag := "", pkgPath := "", byteOffset := 40 }]) := by kernel_rfl
section
variable {H : Type} {enc : TypeId × Value → H} {W : World} {base : Nat} {sp : Nat → Bool} {held : Bool}
theorem step_cells7 {n : Nat} {cs : List Value} {y : DataW H × List MemPlace} (hl : cs.length = 6) (h : DataW.trod enc Tryd.prog W base sp held n 32 cs = some y) : ∃ s : Stp, cs = s.cells.toList ∧ s.x < 4294967296 := by
  match cs, hl with
  | [c0, c1, c2, c3, c4, c5], _ =>
    obtain ⟨xs, n', _, hx, _, hlen, hg⟩ := DataW.trod_struct Tryd.uStep7 h
    match xs, hlen with
    | [y0, y1, y2, y3, y4, y5], _ =>
      obtain ⟨n0, e0, -, w0⟩ := DataW.trod_int Tryd.underlying3 (by simpa [Tryd.cI7] using hg 0 _ rfl)
      obtain ⟨n1, e1, -, w1⟩ := DataW.trod_int Tryd.underlying3 (by simpa [Tryd.cI7] using hg 1 _ rfl)
      obtain ⟨n2, e2, -, w2⟩ := DataW.trod_int Tryd.underlying3 (by simpa [Tryd.cI7] using hg 2 _ rfl)
      obtain ⟨n3, e3, -, w3⟩ := DataW.trod_int Tryd.underlying3 (by simpa [Tryd.cI7] using hg 3 _ rfl)
      obtain ⟨n4, e4, -, w4⟩ := DataW.trod_int Tryd.underlying3 (by simpa [Tryd.cI7] using hg 4 _ rfl)
      obtain ⟨n5, e5, -, w5⟩ := DataW.trod_int Tryd.underlying30 (by simpa [Tryd.cU32] using hg 5 _ rfl)
      simp only [List.cons.injEq, and_true] at e0 e1 e2 e3 e4 e5
      subst e0 e1 e2 e3 e4 e5
      simp only [Lit.wf, Bool.and_eq_true, decide_eq_true_eq] at w5
      have a1 : IntKind.u32.min = 0 := rfl
      have a2 : IntKind.u32.max = 4294967295 := rfl
      refine ⟨⟨n0, n1, n2, n3, n4, n5.toNat⟩, ?_, by show n5.toNat < _; omega⟩
      have e : ((n5.toNat : Nat) : Int) = n5 := by omega
      simp [Stp.cells, stepC, e]
set_option maxRecDepth 100000 in
/-- Steps that came in, nil or not. -/
theorem open_steps7 {r : Reach} {b0 : Nat} {v : Value} {dd : DataW H} {p : List MemPlace} (hv : Value.okWide Tryd.prog W r b0 22 v) (h : DataW.Trod enc Tryd.prog W base sp held 22 v dd p) :
    ∃ (A : Option Addr) (n c : Nat) (R : Nat → Stp), v = .slice A n c ∧ (n : Int) ≤ 9223372036854775807 ∧ StepsOf7 W A n R := by
  obtain ⟨A, n, c, rfl⟩ := okWide_slice Tryd.underlying22 hv
  obtain ⟨fuel, hf⟩ := h
  rcases Go.Deep.open_slice Tryd.underlying22 hf with ⟨hcs, -⟩ | ⟨ad, len', cap', mm, nn, D, Pl, hcs, -, hl, hmx, hmm, -, hcell⟩
  · simp [Value.cells] at hcs
    obtain ⟨rfl, rfl, rfl⟩ := hcs
    exact ⟨none, 0, 0, fun _ => ⟨0, 0, 0, 0, 0, 0⟩, rfl, by simp, fun h0 => by simp at h0⟩
  · simp [Value.cells] at hcs
    obtain ⟨rfl, rfl, rfl⟩ := hcs
    have hle : n ≤ mm := by rw [hmm]; split <;> omega
    have one : ∀ i, ∃ s : Stp, i < n → s.x < 4294967296 ∧ ∀ j, j < 6 → W.cell? (ad.add (i * 6 + j)) = s.cells[j]? := fun i => by
      by_cases hi : i < n
      · obtain ⟨cs, hc, ht⟩ := hcell i (by omega)
        rw [Tryd.cStep7] at hc
        obtain ⟨_, hcl, hat⟩ := World.cells?_some hc
        obtain ⟨s, rfl, hs⟩ := step_cells7 hcl ht
        refine ⟨s, fun _ => ⟨hs, fun j hj => ?_⟩⟩
        have := hat j hj
        rw [Go.Deep.add_add] at this
        simpa using this
      · exact ⟨⟨0, 0, 0, 0, 0, 0⟩, fun h => absurd h hi⟩
    obtain ⟨R, hR⟩ := Classical.axiomOfChoice one
    refine ⟨some ad, n, c, R, rfl, by unfold maxLen at hmx; omega, fun h0 => ?_⟩
    have h1 := (hR 0 h0).2 0 (by omega)
    rw [Nat.zero_mul, Nat.add_zero, Addr.add, if_pos rfl] at h1
    obtain ⟨b, o, rfl⟩ := spot_none7 (show W.cell? ad = some _ from h1)
    refine ⟨b, o, rfl, fun i hi => ⟨(hR i hi).1, fun j hj => ?_⟩⟩
    have := (hR i hi).2 j hj
    rw [Addr.add_lit, ← Nat.add_assoc] at this
    exact this
end

end Go.Proofs.YtgkfejnjjoaihaaDoor
