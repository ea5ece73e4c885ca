/- Contracts of the ops' names: isa's and the document's are one list. -/
import Derived.Test.YtnkkomodpjgefaaGreatDoorIsaC
import Derived.Laws.Tables
import Derived.Laws.Rows
import Derived.Great.BuildSlice
import Derived.Deep.WholeRow
namespace Go.Proofs.YtnkkomodpjgefaaGreatDoor
open Go.RowKit

/-- The ops' names, by their numbers. -/
def nameTab : List ByteArray := [⟨#[]⟩, ⟨#[110, 111, 112]⟩, ⟨#[115, 116, 111, 112]⟩, ⟨#[99, 97, 108, 108]⟩, ⟨#[98, 97, 99, 107]⟩, ⟨#[99, 111, 110, 115, 116]⟩, ⟨#[104, 105, 103, 104]⟩, ⟨#[99, 111, 112, 121]⟩, ⟨#[97, 100, 100]⟩, ⟨#[115, 117, 98]⟩, ⟨#[109, 117, 108]⟩, ⟨#[100, 105, 118]⟩, ⟨#[109, 111, 100]⟩, ⟨#[97, 110, 100]⟩, ⟨#[111, 114]⟩, ⟨#[120, 111, 114]⟩, ⟨#[115, 104, 108]⟩, ⟨#[115, 104, 114]⟩, ⟨#[97, 100, 100, 105]⟩, ⟨#[108, 111, 97, 100]⟩, ⟨#[115, 116, 111, 114, 101]⟩, ⟨#[108, 111, 97, 100, 98]⟩, ⟨#[115, 116, 111, 114, 101, 98]⟩, ⟨#[106, 117, 109, 112]⟩, ⟨#[106, 117, 109, 112, 114]⟩, ⟨#[108, 105, 110, 107]⟩, ⟨#[98, 101, 113]⟩, ⟨#[98, 110, 101]⟩, ⟨#[98, 108, 116]⟩]
def nameOf (op : Int) : ByteArray := nameTab.getD op.toNat ⟨#[]⟩
def nameCells : Array Value := (nameTab.map Value.string).toArray
def noNames : Array Value := (List.replicate 29 (Value.string ⟨#[]⟩)).toArray

theorem Tryz.s29 : (Tryz.prog.info? 88).map (·.size) = some nameCells.size := by kernel_rfl
theorem name_cell (k : Nat) (h : k < 29) : nameCells[k]? = some (.string (nameOf k)) := by
  have : nameTab.length = 29 := rfl
  unfold nameCells nameOf
  simp [List.getElem?_map, List.getElem?_eq_getElem (show k < nameTab.length by omega)]

set_option maxHeartbeats 400000 in
set_option maxRecDepth 100000 in
theorem opNames_any (w : World) :
    Calls Tryz.prog 40 #[] w fun e w' => e = .returned (.agg nameCells) ∧ w.alloc (.cells nameCells 88) = w' := by
  go_enter Tryz.func40, Tryz.ntmps40
  go_wp2_with (first
    | (refine wpList_buildTo rfl 88 _ rfl (some 1) rfl nameCells (by kernel_rfl) ?_)
    | (refine wpList_store_rowTo rfl 88 _ _ rfl rfl w.heap.size nameCells rfl rfl 88 _ (heap_alloc_new w _) Tryz.s29 (by kernel_rfl) (by kernel_rfl) ?_))
  rw [World.setRow_alloc_new]
  exact bodyPost_ret (v := .agg nameCells) (results_cell_row rfl _ _ w.heap.size 88 nameCells (0, 0) _ rfl (heap_alloc_new w _) Tryz.underlying88 rfl Tryz.s29) rfl ⟨rfl, rfl⟩

theorem name_at0 (w : World) : (Instr.index 88 (.agg nameCells) (.int .i64 0)).run Tryz.prog w = .ok (.string (nameOf 0)) w := by kernel_rfl
theorem name_at1 (w : World) : (Instr.index 88 (.agg nameCells) (.int .i64 1)).run Tryz.prog w = .ok (.string (nameOf 1)) w := by kernel_rfl
theorem name_at2 (w : World) : (Instr.index 88 (.agg nameCells) (.int .i64 2)).run Tryz.prog w = .ok (.string (nameOf 2)) w := by kernel_rfl
theorem name_at3 (w : World) : (Instr.index 88 (.agg nameCells) (.int .i64 3)).run Tryz.prog w = .ok (.string (nameOf 3)) w := by kernel_rfl
theorem name_at4 (w : World) : (Instr.index 88 (.agg nameCells) (.int .i64 4)).run Tryz.prog w = .ok (.string (nameOf 4)) w := by kernel_rfl
theorem name_at5 (w : World) : (Instr.index 88 (.agg nameCells) (.int .i64 5)).run Tryz.prog w = .ok (.string (nameOf 5)) w := by kernel_rfl
theorem name_at6 (w : World) : (Instr.index 88 (.agg nameCells) (.int .i64 6)).run Tryz.prog w = .ok (.string (nameOf 6)) w := by kernel_rfl
theorem name_at7 (w : World) : (Instr.index 88 (.agg nameCells) (.int .i64 7)).run Tryz.prog w = .ok (.string (nameOf 7)) w := by kernel_rfl
theorem name_at8 (w : World) : (Instr.index 88 (.agg nameCells) (.int .i64 8)).run Tryz.prog w = .ok (.string (nameOf 8)) w := by kernel_rfl
theorem name_at9 (w : World) : (Instr.index 88 (.agg nameCells) (.int .i64 9)).run Tryz.prog w = .ok (.string (nameOf 9)) w := by kernel_rfl
theorem name_at10 (w : World) : (Instr.index 88 (.agg nameCells) (.int .i64 10)).run Tryz.prog w = .ok (.string (nameOf 10)) w := by kernel_rfl
theorem name_at11 (w : World) : (Instr.index 88 (.agg nameCells) (.int .i64 11)).run Tryz.prog w = .ok (.string (nameOf 11)) w := by kernel_rfl
theorem name_at12 (w : World) : (Instr.index 88 (.agg nameCells) (.int .i64 12)).run Tryz.prog w = .ok (.string (nameOf 12)) w := by kernel_rfl
theorem name_at13 (w : World) : (Instr.index 88 (.agg nameCells) (.int .i64 13)).run Tryz.prog w = .ok (.string (nameOf 13)) w := by kernel_rfl
theorem name_at14 (w : World) : (Instr.index 88 (.agg nameCells) (.int .i64 14)).run Tryz.prog w = .ok (.string (nameOf 14)) w := by kernel_rfl
theorem name_at15 (w : World) : (Instr.index 88 (.agg nameCells) (.int .i64 15)).run Tryz.prog w = .ok (.string (nameOf 15)) w := by kernel_rfl
theorem name_at16 (w : World) : (Instr.index 88 (.agg nameCells) (.int .i64 16)).run Tryz.prog w = .ok (.string (nameOf 16)) w := by kernel_rfl
theorem name_at17 (w : World) : (Instr.index 88 (.agg nameCells) (.int .i64 17)).run Tryz.prog w = .ok (.string (nameOf 17)) w := by kernel_rfl
theorem name_at18 (w : World) : (Instr.index 88 (.agg nameCells) (.int .i64 18)).run Tryz.prog w = .ok (.string (nameOf 18)) w := by kernel_rfl
theorem name_at19 (w : World) : (Instr.index 88 (.agg nameCells) (.int .i64 19)).run Tryz.prog w = .ok (.string (nameOf 19)) w := by kernel_rfl
theorem name_at20 (w : World) : (Instr.index 88 (.agg nameCells) (.int .i64 20)).run Tryz.prog w = .ok (.string (nameOf 20)) w := by kernel_rfl
theorem name_at21 (w : World) : (Instr.index 88 (.agg nameCells) (.int .i64 21)).run Tryz.prog w = .ok (.string (nameOf 21)) w := by kernel_rfl
theorem name_at22 (w : World) : (Instr.index 88 (.agg nameCells) (.int .i64 22)).run Tryz.prog w = .ok (.string (nameOf 22)) w := by kernel_rfl
theorem name_at23 (w : World) : (Instr.index 88 (.agg nameCells) (.int .i64 23)).run Tryz.prog w = .ok (.string (nameOf 23)) w := by kernel_rfl
theorem name_at24 (w : World) : (Instr.index 88 (.agg nameCells) (.int .i64 24)).run Tryz.prog w = .ok (.string (nameOf 24)) w := by kernel_rfl
theorem name_at25 (w : World) : (Instr.index 88 (.agg nameCells) (.int .i64 25)).run Tryz.prog w = .ok (.string (nameOf 25)) w := by kernel_rfl
theorem name_at26 (w : World) : (Instr.index 88 (.agg nameCells) (.int .i64 26)).run Tryz.prog w = .ok (.string (nameOf 26)) w := by kernel_rfl
theorem name_at27 (w : World) : (Instr.index 88 (.agg nameCells) (.int .i64 27)).run Tryz.prog w = .ok (.string (nameOf 27)) w := by kernel_rfl
theorem name_at28 (w : World) : (Instr.index 88 (.agg nameCells) (.int .i64 28)).run Tryz.prog w = .ok (.string (nameOf 28)) w := by kernel_rfl
theorem name_at (k : Nat) (h : k < 29) (w : World) : (Instr.index 88 (.agg nameCells) (.int .i64 k)).run Tryz.prog w = .ok (.string (nameOf k)) w := by
  have hk : k = 0 ∨ k = 1 ∨ k = 2 ∨ k = 3 ∨ k = 4 ∨ k = 5 ∨ k = 6 ∨ k = 7 ∨ k = 8 ∨ k = 9 ∨ k = 10 ∨ k = 11 ∨ k = 12 ∨ k = 13 ∨ k = 14 ∨ k = 15 ∨ k = 16 ∨ k = 17 ∨ k = 18 ∨ k = 19 ∨ k = 20 ∨ k = 21 ∨ k = 22 ∨ k = 23 ∨ k = 24 ∨ k = 25 ∨ k = 26 ∨ k = 27 ∨ k = 28 := by omega
  rcases hk with rfl | rfl | rfl | rfl | rfl | rfl | rfl | rfl | rfl | rfl | rfl | rfl | rfl | rfl | rfl | rfl | rfl | rfl | rfl | rfl | rfl | rfl | rfl | rfl | rfl | rfl | rfl | rfl | rfl
  · exact name_at0 w
  · exact name_at1 w
  · exact name_at2 w
  · exact name_at3 w
  · exact name_at4 w
  · exact name_at5 w
  · exact name_at6 w
  · exact name_at7 w
  · exact name_at8 w
  · exact name_at9 w
  · exact name_at10 w
  · exact name_at11 w
  · exact name_at12 w
  · exact name_at13 w
  · exact name_at14 w
  · exact name_at15 w
  · exact name_at16 w
  · exact name_at17 w
  · exact name_at18 w
  · exact name_at19 w
  · exact name_at20 w
  · exact name_at21 w
  · exact name_at22 w
  · exact name_at23 w
  · exact name_at24 w
  · exact name_at25 w
  · exact name_at26 w
  · exact name_at27 w
  · exact name_at28 w
theorem name_op {op : Int} (h : isOp op = true) (w : World) : (Instr.index 88 (.agg nameCells) (.int .i64 op)).run Tryz.prog w = .ok (.string (nameOf op)) w := by
  have : 1 ≤ op ∧ op ≤ 28 := by simpa [isOp] using h
  obtain ⟨n, rfl⟩ := Int.eq_ofNat_of_zero_le (show 0 ≤ op by omega)
  exact name_at n (by omega) w
theorem name_none {op : Int} (h : isOp op = false) : nameOf op = ⟨#[]⟩ := by
  have h : ¬ (1 ≤ op ∧ op ≤ 28) := by simpa [isOp] using h
  unfold nameOf
  by_cases h0 : op ≤ 0
  · have : op.toNat = 0 := by omega
    rw [this]; rfl
  · have : nameTab.length = 29 := rfl
    simp [List.getD_eq_getElem?_getD, List.getElem?_eq_none (show nameTab.length ≤ op.toNat by omega)]

set_option maxHeartbeats 400000 in
set_option maxRecDepth 100000 in
theorem name_any (op : Int) (w : World) :
    Calls Tryz.prog 22 #[.int .i64 op] w fun e w' => e = .returned (.string (nameOf op)) ∧ Below w.heap.size w w' := by
  cases h : isOp op
  · have H := Lib.hid h
    rw [name_none h]
    go_enter Tryz.func22, Tryz.ntmps22
    go_wp2_with (go_at_call 38; refine (known_any _ _).mono ?_; rw [H.out]; rintro e w' ⟨rfl, rfl⟩)
    go_ret
    exact ⟨rfl, Below.refl _ _⟩
  · have H := Lib.hid h
    have hn := fun w => name_op h w
    clear h
    go_enter Tryz.func22, Tryz.ntmps22
    go_wp2_with (first | (go_at_call 38; refine (known_any _ _).mono ?_; rw [H.out]; rintro e w' ⟨rfl, rfl⟩) | (go_at_call 40; refine (opNames_any _).mono ?_; rintro e w' ⟨rfl, rfl⟩))
    go_ret
    exact ⟨rfl, (Below.refl _ _).alloc (Nat.le_refl _) _⟩

end Go.Proofs.YtnkkomodpjgefaaGreatDoor
