/- From a row's cell 'laid' to what the library's contracts ask, and a world that pays it. -/
import Derived.Test.YtnkkomodpjgefabDoorIsaWrap
namespace Go.Proofs.YtnkkomodpjgefabDoor
open Go.ChangeShapes Go.WideShapes Go.ChangeAt Go.RowKit

theorem Tryd.own : ownKnob Tryd.prog.godebug = none := by kernel_rfl
theorem Tryd.laidOutB : laidOutB Tryd.prog = true := by kernel_rfl
theorem Tryd.gMax : Tryd.prog.globalNamed "internal/bytealg.MaxLen" = some 0 := by kernel_rfl
theorem Tryd.gSyn : Tryd.prog.globalNamed "strconv.ErrSyntax" = some 1 := by kernel_rfl
theorem Tryd.gRan : Tryd.prog.globalNamed "strconv.ErrRange" = some 2 := by kernel_rfl
theorem Tryd.gPow : Tryd.prog.globalNamed "internal/strconv.uint64pow10" = some 3 := by kernel_rfl
theorem Tryd.gD64 : Tryd.prog.globalNamed "math/bits.deBruijn64tab" = some 5 := by kernel_rfl
theorem Tryd.tSyn : (Tryd.prog.globals[1]?).map (·.type) = some 78 := by kernel_rfl
theorem Tryd.tRan : (Tryd.prog.globals[2]?).map (·.type) = some 78 := by kernel_rfl
theorem Tryd.tPow : (Tryd.prog.globals[3]?).map (·.type) = some 128 := by kernel_rfl
theorem Tryd.tD64 : (Tryd.prog.globals[5]?).map (·.type) = some 141 := by kernel_rfl
theorem Tryd.cU64 : Tryd.prog.cellsOf 109 = 1 := by kernel_rfl
theorem Tryd.cU8 : Tryd.prog.cellsOf 5 = 1 := by kernel_rfl
theorem Tryd.cPow : Tryd.prog.cellsOf 128 = 20 := by kernel_rfl
theorem Tryd.cD64 : Tryd.prog.cellsOf 141 = 64 := by kernel_rfl
theorem Tryd.cErr : Tryd.prog.cellsOf 137 = 1 := by kernel_rfl
theorem Tryd.cStr : Tryd.prog.cellsOf 9 = 1 := by kernel_rfl
theorem Tryd.star : "*" ++ "errors.errorString" = "*errors.errorString" := by decide
theorem Tryd.rowErr (u : TypeId) (h : Tryd.prog.typeName? 3 u = some "*errors.errorString") : u = 135 :=
  typeName_ptr_named (nm := "errors.errorString") (by rw [Tryd.star]; kernel_rfl) (by kernel_rfl) (by decide) u (by rw [Tryd.star]; exact h)

/-- The library's variables hold what the row lists. -/
theorem env_of {W : World} (h : laidMet Tryd.prog Rows.isaOpsRow.laid W) (hsh : W.ShapedOpen Tryd.prog) : Env W := by
  obtain ⟨a0, s0, hv0, -, -, -⟩ := laid_sentinel h.tail.tail.tail Tryd.gRan Tryd.tRan Tryd.underlying78 Tryd.rowErr Tryd.underlying135 Tryd.underlying137 rfl rfl Tryd.underlying9 Tryd.cErr Tryd.cStr
  obtain ⟨a1, s1, hv1, -, -, -⟩ := laid_sentinel h.tail.tail.tail.tail Tryd.gSyn Tryd.tSyn Tryd.underlying78 Tryd.rowErr Tryd.underlying135 Tryd.underlying137 rfl rfl Tryd.underlying9 Tryd.cErr Tryd.cStr
  have hp : Lib.TabIs Tryd.prog W "internal/strconv.uint64pow10" .u64 Lib.pow10Tab := Lib.tabIs_of_head Tryd.gPow Tryd.tPow Tryd.underlying128 Tryd.underlying109 Tryd.cU64 Tryd.cPow h.tail.tail
  refine ⟨hp, ?_, ⟨_, by have h0 := World.var?_cell Tryd.gSyn hv1 0; simpa using h0, Or.inr ⟨_, _, rfl⟩⟩, ⟨_, by have h0 := World.var?_cell Tryd.gRan hv0 0; simpa using h0, Or.inr ⟨_, _, rfl⟩⟩, ?_⟩
  · exact cell_of_shapedOpen_int (zero := #[.int .i64 0]) hsh (of_decide_eq_true (by kernel_rfl)) (by kernel_rfl) (by kernel_rfl) (by kernel_rfl) (by kernel_rfl) Tryd.underlying3
  · have hd := Lib.tabIs_of_head (k := .u8) (zs := [0, 1, 56, 2, 57, 49, 28, 3, 61, 58, 42, 50, 38, 29, 17, 4, 62, 47, 59, 36, 45, 43, 51, 22, 53, 39, 33, 30, 24, 18, 12, 5, 63, 55, 48, 27, 60, 41, 37, 16, 46, 35, 44, 21, 52, 32, 23, 11, 54, 26, 40, 15, 34, 20, 31, 10, 25, 14, 19, 9, 13, 8, 7, 6]) Tryd.gD64 Tryd.tD64 Tryd.underlying141 Tryd.underlying5 Tryd.cU8 Tryd.cD64 h.tail
    have := World.block_lt_of_cell? W _ (hd.cell Tryd.gD64 0 (by decide))
    exact this

/-! ### A world that pays it -/
abbrev rangeS : ByteArray := ⟨#[118, 97, 108, 117, 101, 32, 111, 117, 116, 32, 111, 102, 32, 114, 97, 110, 103, 101]⟩
abbrev synS : ByteArray := ⟨#[105, 110, 118, 97, 108, 105, 100, 32, 115, 121, 110, 116, 97, 120]⟩
noncomputable def low : Nat := (World.holding Tryd.prog default ⟨#[], #[], []⟩).heap.size
def putCells (h : Array Obj) (g : Nat) (cs : Array Value) : Array Obj := h.modify g fun
  | .cells _ t frozen => .cells cs t frozen
  | o => o
def d32 : List Int := [0, 1, 28, 2, 29, 14, 24, 3, 30, 22, 20, 15, 25, 17, 4, 8, 31, 27, 13, 23, 21, 19, 16, 7, 26, 12, 18, 6, 11, 5, 10, 9]
def d64 : List Int := [0, 1, 56, 2, 57, 49, 28, 3, 61, 58, 42, 50, 38, 29, 17, 4, 62, 47, 59, 36, 45, 43, 51, 22, 53, 39, 33, 30, 24, 18, 12, 5, 63, 55, 48, 27, 60, 41, 37, 16, 46, 35, 44, 21, 52, 32, 23, 11, 54, 26, 40, 15, 34, 20, 31, 10, 25, 14, 19, 9, 13, 8, 7, 6]
noncomputable def laidWorld (os : Os) (more : Array Obj) : World :=
  let w0 := World.holding Tryd.prog os ⟨#[.cells #[.string rangeS] 137, .cells #[.string synS] 137] ++ more, #[], []⟩
  let h1 := putCells w0.heap 2 #[.iface 135 (.pointer (some ⟨low, 0, none⟩))]
  let h2 := putCells h1 1 #[.iface 135 (.pointer (some ⟨low + 1, 0, none⟩))]
  let h3 := putCells h2 3 (Lib.pow10Tab.map (Value.int .u64)).toArray
  let h4 := putCells h3 4 (d32.map (Value.int .u8)).toArray
  let h5 := putCells h4 5 (d64.map (Value.int .u8)).toArray
  { w0 with heap := h5 }
set_option maxRecDepth 100000 in
theorem laid_met (os : Os) (args : Array Value) : laidMet Tryd.prog Rows.isaOpsRow.laid ((laidWorld os #[]).forCall (fun _ _ => 0) ⟨#[], args, []⟩).memory :=
  laidMet_of_run' 8 (by kernel_rfl) (by kernel_rfl)

/-! ### Arguments -/
theorem Tryd.uIns : Tryd.prog.underlying 29 = some (.struct #[{ name := "Op", type := 25, offset := 0, embedded := false, tag := "", pkgPath := "", byteOffset := 0 }, { name := "D", type := 3, offset := 1, embedded := false, tag := "", pkgPath := "", byteOffset := 8 }, { name := "A", type := 3, offset := 2, embedded := false, tag := "", pkgPath := "", byteOffset := 16 }, { name := "B", type := 3, offset := 3, embedded := false, tag := "", pkgPath := "", byteOffset := 24 }, { name := "Imm", type := 3, offset := 4, embedded := false, tag := "", pkgPath := "", byteOffset := 32 }]) := by kernel_rfl

section
variable {H : Type} {enc : TypeId × Value → H} {W : World} {base : Nat} {sp : Nat → Bool} {held : Bool}
set_option maxRecDepth 100000 in
/-- An instruction that came in: five ints. -/
theorem open_instr {r : Reach} {b0 : Nat} {v : Value} {dd : DataW H} {p : List MemPlace} (hv : Value.okWide Tryd.prog W r b0 29 v) (h : DataW.Trod enc Tryd.prog W base sp held 29 v dd p) :
    ∃ op d a b m : Int, v = .agg #[.int .i64 op, .int .i64 d, .int .i64 a, .int .i64 b, .int .i64 m] := by
  obtain ⟨cs, rfl, hsz⟩ := okWide_struct Tryd.uIns hv
  obtain ⟨l⟩ := cs
  have hc : Tryd.prog.cellsOf 29 = 5 := by kernel_rfl
  have hi : Tryd.prog.cellsOf 3 = 1 := by kernel_rfl
  have ho : Tryd.prog.cellsOf 25 = 1 := by kernel_rfl
  match l, hsz.trans hc with
  | [c0, c1, c2, c3, c4], _ =>
    obtain ⟨fuel, hf⟩ := h
    obtain ⟨xs, n, _, hx, _, hlen, hg⟩ := DataW.trod_struct Tryd.uIns hf
    match xs, hlen with
    | [y0, y1, y2, y3, y4], _ =>
      obtain ⟨n0, e0, -⟩ := DataW.trod_int Tryd.underlying25 (by simpa [Value.cells, ho] using hg 0 _ rfl)
      obtain ⟨n1, e1, -⟩ := DataW.trod_int Tryd.underlying3 (by simpa [Value.cells, hi] using hg 1 _ rfl)
      obtain ⟨n2, e2, -⟩ := DataW.trod_int Tryd.underlying3 (by simpa [Value.cells, hi] using hg 2 _ rfl)
      obtain ⟨n3, e3, -⟩ := DataW.trod_int Tryd.underlying3 (by simpa [Value.cells, hi] using hg 3 _ rfl)
      obtain ⟨n4, e4, -⟩ := DataW.trod_int Tryd.underlying3 (by simpa [Value.cells, hi] using hg 4 _ rfl)
      simp only [List.cons.injEq, and_true] at e0 e1 e2 e3 e4
      subst e0 e1 e2 e3 e4
      exact ⟨n0, n1, n2, n3, n4, rfl⟩
end

end Go.Proofs.YtnkkomodpjgefabDoor
