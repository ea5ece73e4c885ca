/- IsaWords's card. -/
import Derived.Test.YtnkkomodpjgefaaDoorIsaLaid
import Derived.Test.YtnkkomodpjgefaaDoorIsaWordsLaw
namespace Go.Proofs.YtnkkomodpjgefaaDoor.isaWords
open Go.ChangeShapes Go.WideShapes Go.ChangeAt Go.RowKit

theorem Tryd.uIns : Tryd.prog.underlying 26 = some (.struct #[{ name := "Op", type := 24, offset := 0, embedded := false, tag := "", pkgPath := "", byteOffset := 0 }, { name := "D", type := 3, offset := 1, embedded := false, tag := "", pkgPath := "", byteOffset := 8 }, { name := "A", type := 3, offset := 2, embedded := false, tag := "", pkgPath := "", byteOffset := 16 }, { name := "B", type := 3, offset := 3, embedded := false, tag := "", pkgPath := "", byteOffset := 24 }, { name := "Imm", type := 3, offset := 4, embedded := false, tag := "", pkgPath := "", byteOffset := 32 }]) := by kernel_rfl
theorem Tryd.cIns : Tryd.prog.cellsOf 26 = 5 := by kernel_rfl
/-- One instruction of a row that came in. -/
theorem ins_cells {H : Type} {enc : TypeId × Value → H} {W : World} {base : Nat} {sp : Nat → Bool} {held : Bool} {n : Nat} {cs : List Value} {y : DataW H × List MemPlace} (hl : cs.length = 5) (h : DataW.trod enc Tryd.prog W base sp held n 26 cs = some y) :
    ∃ o d a b m : Int, cs = [.int .i64 o, .int .i64 d, .int .i64 a, .int .i64 b, .int .i64 m] := by
  match cs, hl with
  | [c0, c1, c2, c3, c4], _ =>
    obtain ⟨xs, n', _, hx, _, hlen, hg⟩ := DataW.trod_struct Tryd.uIns h
    have hi : Tryd.prog.cellsOf 3 = 1 := by kernel_rfl
    have ho : Tryd.prog.cellsOf 24 = 1 := by kernel_rfl
    match xs, hlen with
    | [y0, y1, y2, y3, y4], _ =>
      obtain ⟨n0, e0, -⟩ := DataW.trod_int Tryd.underlying24 (by simpa [ho] using hg 0 _ rfl)
      obtain ⟨n1, e1, -⟩ := DataW.trod_int Tryd.underlying3 (by simpa [hi] using hg 1 _ rfl)
      obtain ⟨n2, e2, -⟩ := DataW.trod_int Tryd.underlying3 (by simpa [hi] using hg 2 _ rfl)
      obtain ⟨n3, e3, -⟩ := DataW.trod_int Tryd.underlying3 (by simpa [hi] using hg 3 _ rfl)
      obtain ⟨n4, e4, -⟩ := DataW.trod_int Tryd.underlying3 (by simpa [hi] using hg 4 _ rfl)
      simp only [List.cons.injEq, and_true] at e0 e1 e2 e3 e4
      subst e0 e1 e2 e3 e4
      exact ⟨n0, n1, n2, n3, n4, rfl⟩

/-- The number in a cell. -/
def numOf' : Option Value → Int
  | some (.int _ x) => x
  | _ => 0
set_option maxRecDepth 100000 in
/-- A row of instructions that came in, nil or not. -/
theorem open_instrs {H : Type} {enc : TypeId × Value → H} {W : World} {base : Nat} {sp : Nat → Bool} {held : Bool} {r : Reach} {b0 : Nat} {v : Value} {dd : DataW H} {p : List MemPlace} (hv : Value.okWide Tryd.prog W r b0 22 v) (h : DataW.Trod enc Tryd.prog W base sp held 22 v dd p) :
    ∃ (A : Option Addr) (n c : Nat) (o d a b m : Nat → Int), v = .slice A n c ∧ (A = none → n = 0 ∧ c = 0) ∧ InsOf W A n o d a b m := by
  obtain ⟨A, n, c, rfl⟩ := okWide_slice Tryd.underlying22 hv
  obtain ⟨fuel, hf⟩ := h
  rcases Go.Deep.open_slice Tryd.underlying22 hf with ⟨hcs, -⟩ | ⟨ad, len', cap', mm, nn, D, Pl, hcs, -, hl, -, hmm, -, hcell⟩
  · simp [Value.cells] at hcs
    obtain ⟨rfl, rfl, rfl⟩ := hcs
    exact ⟨none, 0, 0, fun _ => 0, fun _ => 0, fun _ => 0, fun _ => 0, fun _ => 0, rfl, fun _ => ⟨rfl, rfl⟩, fun ad e => by cases e⟩
  · simp [Value.cells] at hcs
    obtain ⟨rfl, rfl, rfl⟩ := hcs
    have hle : n ≤ mm := by rw [hmm]; split <;> omega
    let g := fun (q j : Nat) => numOf' (W.cell? (ad.add (j * 5 + q)))
    refine ⟨some ad, n, c, g 0, g 1, g 2, g 3, g 4, rfl, (fun e => by cases e), ?_⟩
    intro ad' e
    cases e
    have one : ∀ i, i < n → ∀ q, q < 5 → W.cell? (ad.add (i * 5 + q)) = (fiveV (g 0) (g 1) (g 2) (g 3) (g 4) i)[q]? := by
      intro i hi q hq
      obtain ⟨cs, hc, ht⟩ := hcell i (by omega)
      rw [Tryd.cIns] at hc
      obtain ⟨_, hcl, hat⟩ := World.cells?_some hc
      obtain ⟨xo, xd, xa, xb, xm, rfl⟩ := ins_cells hcl ht
      have at' : ∀ k, k < 5 → W.cell? (ad.add (i * 5 + k)) = [Value.int .i64 xo, .int .i64 xd, .int .i64 xa, .int .i64 xb, .int .i64 xm][k]? := fun k hk => by
        have := hat k hk
        rwa [Go.Deep.add_add] at this
      have c0 := at' 0 (by omega)
      have c1 := at' 1 (by omega)
      have c2 := at' 2 (by omega)
      have c3 := at' 3 (by omega)
      have c4 := at' 4 (by omega)
      have g0 : g 0 i = xo := by show numOf' _ = _; rw [c0]; rfl
      have g1 : g 1 i = xd := by show numOf' _ = _; rw [c1]; rfl
      have g2 : g 2 i = xa := by show numOf' _ = _; rw [c2]; rfl
      have g3 : g 3 i = xb := by show numOf' _ = _; rw [c3]; rfl
      have g4 : g 4 i = xm := by show numOf' _ = _; rw [c4]; rfl
      rw [at' q hq]; unfold fiveV; rw [g0, g1, g2, g3, g4]
    intro j u hu
    have hj : j < n * 5 := by
      rcases Nat.lt_or_ge j (n * 5) with h | h
      · exact h
      · rw [List.getElem?_eq_none (by rw [insL_len]; exact h)] at hu; cases hu
    have e : j = j / 5 * 5 + j % 5 := by omega
    rw [e] at hu ⊢
    rw [insL_at _ _ _ _ _ n (j / 5) (j % 5) (by omega) (by omega)] at hu
    rw [one (j / 5) (by omega) (j % 5) (by omega)]; exact hu

set_option maxRecDepth 100000 in
theorem contract (H : Type) (enc : TypeId × Value → H) (W : World) (base : Nat) (args : Array Value) (ds gs : List (DataW H)) (before : List MemPlace)
    (hval : ∀ (j : Nat) t v, (Tryd.f3).params[j]? = some t → args[j]? = some v → Value.okWide Tryd.prog W .any base t v)
    (hW : DataW.Whole enc Tryd.prog (Tryd.f3).params.toList Rows.isaWordsSpec.vars false W args.toList ds gs before) (hL : laidMetH Tryd.prog Rows.isaWordsRow.laid W) (hsh : W.ShapedOpen Tryd.prog) :
    Calls Tryd.prog 3 args W fun e W' => ∃ v, e = .returned v ∧ Rows.isaWordsSpec.post enc Tryd.prog Tryd.f3 false true false false W args v W' := by
  have hW' := hW
  obtain ⟨p, q, hA, hV, rfl, hfz, hnd⟩ := hW
  rw [Tryd.params3] at hA hval
  obtain ⟨v0, vs0, d0, ds0, p0, q0, hargs, rfl, rfl, h0, r0⟩ := trodAll_cons hA
  obtain ⟨rfl, rfl, rfl⟩ := trodAll_nil r0
  obtain rfl : args = #[v0] := by cases args; simp_all
  obtain ⟨rfl, rfl⟩ := trodVars_none hV
  obtain ⟨Ai, ni, ci, oi, di, ai, bi, mi, rfl, hAi, hIi⟩ := open_instrs (hval 0 22 v0 rfl rfl) h0
  refine (words_any Ai ni ci oi di ai bi mi W (env_of hL hsh) hAi hIi).mono fun e W' ⟨he, hb⟩ => ?_
  subst he
  exact ⟨_, rfl, law_post Tryd.laidOutB (by decide +kernel) (by kernel_rfl) Tryd.underlying4 rfl hW' rfl hb⟩

theorem reads (os : Os) {H : Type} (enc : TypeId × Value → H) : ∃ places, DataW.whole enc Tryd.prog ((laidWorld os #[]).forCall (fun _ _ => 0) ⟨#[], #[.slice none 0 0], []⟩).memory (Tryd.f3).params.toList Rows.isaWordsSpec.vars false (#[.slice none 0 0] : Array Value).toList 8 = some ([.nil], [], places) :=
  ⟨[], by kernel_rfl⟩

set_option maxRecDepth 100000 in
theorem lifted (os : Os) (started : os.Started) (H : Type) (enc : TypeId × Value → H) (F : Stop.Interp) :
    ReturnsInHanded {} Tryd.checked os 3 .any ((OpenSpec.ofChange Rows.isaWordsSpec).preRow enc Tryd.prog Tryd.f3 Rows.isaWordsRow.domain false Rows.isaWordsRow.laid) (((OpenSpec.ofChange Rows.isaWordsSpec).at F).post enc Tryd.prog Tryd.f3 false true false false) := by
  obtain ⟨places, hx⟩ := reads os enc
  refine returnsInHanded_of_row (C := Tryd.checked) (s := OpenSpec.ofChange Rows.isaWordsSpec) Tryd.own started (by kernel_rfl) Tryd.func3
    (witness_row_atRef (enc := enc) (C := Tryd.checked) false (laidWorld os #[]) #[.slice none 0 0] rfl (by kernel_rfl) (by kernel_rfl) (by kernel_rfl)
      (OpenSpec.preRow_of_cond 8 hx (by kernel_rfl) (fun k hk => by cases hk) (by kernel_rfl) (laid_met os _))) ?_
  intro W base args ds gs before hval hW _ _ _ hL hsh _
  exact contract H enc W base args ds gs before hval hW hL hsh

theorem said : Rows.IsaWordsSaid :=
  OpenClaim.holds_of_cond 3 Tryd.f3 rfl rfl rfl rfl rfl rfl rfl ⟨rfl, rfl, rfl, rfl, rfl⟩ rfl rfl rfl rfl rfl (by kernel_rfl) Tryd.func3 (by kernel_rfl)
    (of_decide_eq_true (by kernel_rfl)) (by unfold Func.isWrapper; first | (rw [if_pos (by decide +kernel)]; kernel_rfl) | (rw [if_neg (by decide +kernel)]; exact ⟨rfl, rfl⟩))
    (fun os started H enc _ F => by rw [OpenClaim.pre_eq_preRow]; exact lifted os started H enc F)

theorem plain (f : FuncId) (fn : Func) (hf : Tryd.pinned.checked.prog.funcNamed "steading/steadinglaw03.IsaWords" = some f) (hfn : Tryd.pinned.checked.prog.funcs[f]? = some fn) :
    true = Tryd.pinned.checked.prog.looks [] ∧ ∀ (j : Nat) t, fn.params[j]? = some t → Tryd.pinned.checked.prog.wantsStandIn t = false := by
  obtain rfl : f = 3 := Option.some.inj ((show Tryd.prog.funcNamed "steading/steadinglaw03.IsaWords" = some 3 by kernel_rfl).symm.trans hf) |>.symm
  obtain rfl : fn = Tryd.f3 := (Option.some.inj ((Tryd.func3).symm.trans hfn)).symm
  refine ⟨by kernel_rfl, fun j t ht => ?_⟩
  rw [Tryd.params3] at ht
  have ht := Array.mem_of_getElem? ht
  simp only [List.mem_toArray, List.mem_cons, List.not_mem_nil, or_false] at ht
  have w0 : Tryd.prog.wantsStandIn 22 = false := by kernel_rfl
  subst ht
  exact w0

theorem card : Rows.IsaWordsCardSaid :=
  Claim7.holds_tied_plain_at .later [] _ _ _ _ said (fun _ h => by cases h) (by kernel_rfl) (fun _ h => by cases h) isaWords_row_tie rfl ⟨rfl, rfl⟩ (by kernel_rfl) rfl plain (by kernel_rfl)

end Go.Proofs.YtnkkomodpjgefaaDoor.isaWords
