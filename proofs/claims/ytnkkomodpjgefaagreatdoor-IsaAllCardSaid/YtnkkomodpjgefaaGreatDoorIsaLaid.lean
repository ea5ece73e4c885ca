/- From a row's cell 'laid' to what the library's contracts ask, and a world that pays it. -/
import Derived.Test.YtnkkomodpjgefaaGreatDoorIsaWrap
namespace Go.Proofs.YtnkkomodpjgefaaGreatDoor
open Go.ChangeShapes Go.WideShapes Go.ChangeAt Go.RowKit

theorem Tryz.own : ownKnob Tryz.prog.godebug = none := by kernel_rfl
theorem Tryz.laidOutB : laidOutB Tryz.prog = true := by kernel_rfl
theorem Tryz.gMax : Tryz.prog.globalNamed "internal/bytealg.MaxLen" = some 0 := by kernel_rfl
theorem Tryz.gSyn : Tryz.prog.globalNamed "strconv.ErrSyntax" = some 1 := by kernel_rfl
theorem Tryz.gRan : Tryz.prog.globalNamed "strconv.ErrRange" = some 2 := by kernel_rfl
theorem Tryz.gPow : Tryz.prog.globalNamed "internal/strconv.uint64pow10" = some 3 := by kernel_rfl
theorem Tryz.gD64 : Tryz.prog.globalNamed "math/bits.deBruijn64tab" = some 5 := by kernel_rfl
theorem Tryz.tSyn : (Tryz.prog.globals[1]?).map (·.type) = some 75 := by kernel_rfl
theorem Tryz.tRan : (Tryz.prog.globals[2]?).map (·.type) = some 75 := by kernel_rfl
theorem Tryz.tPow : (Tryz.prog.globals[3]?).map (·.type) = some 141 := by kernel_rfl
theorem Tryz.tD64 : (Tryz.prog.globals[5]?).map (·.type) = some 154 := by kernel_rfl
theorem Tryz.cU64 : Tryz.prog.cellsOf 121 = 1 := by kernel_rfl
theorem Tryz.cU8 : Tryz.prog.cellsOf 5 = 1 := by kernel_rfl
theorem Tryz.cPow : Tryz.prog.cellsOf 141 = 20 := by kernel_rfl
theorem Tryz.cD64 : Tryz.prog.cellsOf 154 = 64 := by kernel_rfl
theorem Tryz.cErr : Tryz.prog.cellsOf 150 = 1 := by kernel_rfl
theorem Tryz.cStr : Tryz.prog.cellsOf 9 = 1 := by kernel_rfl
theorem Tryz.star : "*" ++ "errors.errorString" = "*errors.errorString" := by decide
theorem Tryz.rowErr (u : TypeId) (h : Tryz.prog.typeName? 3 u = some "*errors.errorString") : u = 148 :=
  typeName_ptr_named (nm := "errors.errorString") (by rw [Tryz.star]; kernel_rfl) (by kernel_rfl) (by decide) u (by rw [Tryz.star]; exact h)

/-- The library's variables hold what the row lists. -/
theorem env_of {W : World} (h : laidMet Tryz.prog Rows.isaAllRow.laid W) (hsh : W.ShapedOpen Tryz.prog) : Env W := by
  obtain ⟨a0, s0, hv0, -, -, -⟩ := laid_sentinel h.tail.tail.tail Tryz.gRan Tryz.tRan Tryz.underlying75 Tryz.rowErr Tryz.underlying148 Tryz.underlying150 rfl rfl Tryz.underlying9 Tryz.cErr Tryz.cStr
  obtain ⟨a1, s1, hv1, -, -, -⟩ := laid_sentinel h.tail.tail.tail.tail Tryz.gSyn Tryz.tSyn Tryz.underlying75 Tryz.rowErr Tryz.underlying148 Tryz.underlying150 rfl rfl Tryz.underlying9 Tryz.cErr Tryz.cStr
  have hp : Lib.TabIs Tryz.prog W "internal/strconv.uint64pow10" .u64 Lib.pow10Tab := Lib.tabIs_of_head Tryz.gPow Tryz.tPow Tryz.underlying141 Tryz.underlying121 Tryz.cU64 Tryz.cPow h.tail.tail
  refine ⟨hp, ?_, ⟨_, by have h0 := World.var?_cell Tryz.gSyn hv1 0; simpa using h0, Or.inr ⟨_, _, rfl⟩⟩, ⟨_, by have h0 := World.var?_cell Tryz.gRan hv0 0; simpa using h0, Or.inr ⟨_, _, rfl⟩⟩, ?_⟩
  · exact cell_of_shapedOpen_int (zero := #[.int .i64 0]) hsh (of_decide_eq_true (by kernel_rfl)) (by kernel_rfl) (by kernel_rfl) (by kernel_rfl) (by kernel_rfl) Tryz.underlying3
  · have hd := Lib.tabIs_of_head (k := .u8) (zs := [0, 1, 56, 2, 57, 49, 28, 3, 61, 58, 42, 50, 38, 29, 17, 4, 62, 47, 59, 36, 45, 43, 51, 22, 53, 39, 33, 30, 24, 18, 12, 5, 63, 55, 48, 27, 60, 41, 37, 16, 46, 35, 44, 21, 52, 32, 23, 11, 54, 26, 40, 15, 34, 20, 31, 10, 25, 14, 19, 9, 13, 8, 7, 6]) Tryz.gD64 Tryz.tD64 Tryz.underlying154 Tryz.underlying5 Tryz.cU8 Tryz.cD64 h.tail
    have := World.block_lt_of_cell? W _ (hd.cell Tryz.gD64 0 (by decide))
    exact this

/-! ### A world that pays it -/
abbrev rangeS : ByteArray := ⟨#[118, 97, 108, 117, 101, 32, 111, 117, 116, 32, 111, 102, 32, 114, 97, 110, 103, 101]⟩
abbrev synS : ByteArray := ⟨#[105, 110, 118, 97, 108, 105, 100, 32, 115, 121, 110, 116, 97, 120]⟩
noncomputable def low : Nat := (World.holding Tryz.prog default ⟨#[], #[], []⟩).heap.size
def putCells (h : Array Obj) (g : Nat) (cs : Array Value) : Array Obj := h.modify g fun
  | .cells _ t frozen => .cells cs t frozen
  | o => o
def d32 : List Int := [0, 1, 28, 2, 29, 14, 24, 3, 30, 22, 20, 15, 25, 17, 4, 8, 31, 27, 13, 23, 21, 19, 16, 7, 26, 12, 18, 6, 11, 5, 10, 9]
def d64 : List Int := [0, 1, 56, 2, 57, 49, 28, 3, 61, 58, 42, 50, 38, 29, 17, 4, 62, 47, 59, 36, 45, 43, 51, 22, 53, 39, 33, 30, 24, 18, 12, 5, 63, 55, 48, 27, 60, 41, 37, 16, 46, 35, 44, 21, 52, 32, 23, 11, 54, 26, 40, 15, 34, 20, 31, 10, 25, 14, 19, 9, 13, 8, 7, 6]
noncomputable def laidWorld (os : Os) (more : Array Obj) : World :=
  let w0 := World.holding Tryz.prog os ⟨#[.cells #[.string rangeS] 150, .cells #[.string synS] 150] ++ more, #[], []⟩
  let h1 := putCells w0.heap 2 #[.iface 148 (.pointer (some ⟨low, 0, none⟩))]
  let h2 := putCells h1 1 #[.iface 148 (.pointer (some ⟨low + 1, 0, none⟩))]
  let h3 := putCells h2 3 (Lib.pow10Tab.map (Value.int .u64)).toArray
  let h4 := putCells h3 4 (d32.map (Value.int .u8)).toArray
  let h5 := putCells h4 5 (d64.map (Value.int .u8)).toArray
  { w0 with heap := h5 }
set_option maxRecDepth 100000 in
theorem laid_met (os : Os) (args : Array Value) : laidMet Tryz.prog Rows.isaAllRow.laid ((laidWorld os #[]).forCall (fun _ _ => 0) ⟨#[], args, []⟩).memory :=
  laidMet_of_run' 8 (by kernel_rfl) (by kernel_rfl)

/-! ### Arguments -/
theorem Tryz.uIns : Tryz.prog.underlying 31 = some (.struct #[{ name := "Op", type := 29, offset := 0, embedded := false, tag := "", pkgPath := "", byteOffset := 0 }, { name := "D", type := 3, offset := 1, embedded := false, tag := "", pkgPath := "", byteOffset := 8 }, { name := "A", type := 3, offset := 2, embedded := false, tag := "", pkgPath := "", byteOffset := 16 }, { name := "B", type := 3, offset := 3, embedded := false, tag := "", pkgPath := "", byteOffset := 24 }, { name := "Imm", type := 3, offset := 4, embedded := false, tag := "", pkgPath := "", byteOffset := 32 }]) := by kernel_rfl

section
variable {H : Type} {enc : TypeId × Value → H} {W : World} {base : Nat} {sp : Nat → Bool} {held : Bool}
set_option maxRecDepth 100000 in
/-- An instruction that came in: five ints. -/
theorem open_instr {r : Reach} {b0 : Nat} {v : Value} {dd : DataW H} {p : List MemPlace} (hv : Value.okWide Tryz.prog W r b0 31 v) (h : DataW.Trod enc Tryz.prog W base sp held 31 v dd p) :
    ∃ op d a b m : Int, v = .agg #[.int .i64 op, .int .i64 d, .int .i64 a, .int .i64 b, .int .i64 m] := by
  obtain ⟨cs, rfl, hsz⟩ := okWide_struct Tryz.uIns hv
  obtain ⟨l⟩ := cs
  have hc : Tryz.prog.cellsOf 31 = 5 := by kernel_rfl
  have hi : Tryz.prog.cellsOf 3 = 1 := by kernel_rfl
  have ho : Tryz.prog.cellsOf 29 = 1 := by kernel_rfl
  match l, hsz.trans hc with
  | [c0, c1, c2, c3, c4], _ =>
    obtain ⟨fuel, hf⟩ := h
    obtain ⟨xs, n, _, hx, _, hlen, hg⟩ := DataW.trod_struct Tryz.uIns hf
    match xs, hlen with
    | [y0, y1, y2, y3, y4], _ =>
      obtain ⟨n0, e0, -⟩ := DataW.trod_int Tryz.underlying29 (by simpa [Value.cells, ho] using hg 0 _ rfl)
      obtain ⟨n1, e1, -⟩ := DataW.trod_int Tryz.underlying3 (by simpa [Value.cells, hi] using hg 1 _ rfl)
      obtain ⟨n2, e2, -⟩ := DataW.trod_int Tryz.underlying3 (by simpa [Value.cells, hi] using hg 2 _ rfl)
      obtain ⟨n3, e3, -⟩ := DataW.trod_int Tryz.underlying3 (by simpa [Value.cells, hi] using hg 3 _ rfl)
      obtain ⟨n4, e4, -⟩ := DataW.trod_int Tryz.underlying3 (by simpa [Value.cells, hi] using hg 4 _ rfl)
      simp only [List.cons.injEq, and_true] at e0 e1 e2 e3 e4
      subst e0 e1 e2 e3 e4
      exact ⟨n0, n1, n2, n3, n4, rfl⟩
end

end Go.Proofs.YtnkkomodpjgefaaGreatDoor
