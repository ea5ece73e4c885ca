/- Contract of the document's Reads, and that it is what isa.Reads says. -/
import Derived.Test.YtnkkomodpjgefaaGreatDoorIsaReads
namespace Go.Proofs.YtnkkomodpjgefaaGreatDoor
open Go.RowKit Go.Sort

/-- The numbers below k that are marked. -/
def upTo (hs : Nat → Bool) : Nat → List Int
  | 0 => []
  | k + 1 => upTo hs k ++ (if hs k then [(k : Int)] else [])
theorem upTo_len (hs : Nat → Bool) (k : Nat) : (upTo hs k).length ≤ k := by
  induction k with
  | zero => exact Nat.le_refl _
  | succ k ih => simp only [upTo]; cases hs k <;> simp <;> omega

theorem sort_two (x y : Int) : ([x, y].mergeSort fun x y => decide (x ≤ y)) = if x ≤ y then [x, y] else [y, x] := by
  by_cases h : x ≤ y <;> simp [List.mergeSort, List.MergeSort.Internal.splitInTwo, List.merge, h]
theorem sort_one (x : Int) : ([x].mergeSort fun x y => decide (x ≤ y)) = [x] := by simp [List.mergeSort]
theorem sort_zero : (([] : List Int).mergeSort fun x y => decide (x ≤ y)) = [] := by simp [List.mergeSort]
theorem up_none : upTo (fun _ => false) 16 = Lib.compact (([] : List Int).mergeSort fun x y => decide (x ≤ y)) := by rw [sort_zero]; decide
theorem up_one (a : Nat) (ha : a < 16) : upTo (fun j => decide (j = a)) 16 = Lib.compact (([(a : Int)]).mergeSort fun x y => decide (x ≤ y)) := by
  rw [sort_one]; revert a; decide
set_option maxRecDepth 100000 in
theorem up_two' : ∀ a : Nat, a < 16 → ∀ b : Nat, b < 16 → upTo (fun j => decide (j = a) || decide (j = b)) 16 = Lib.compact (if (a : Int) ≤ b then [(a : Int), (b : Int)] else [(b : Int), (a : Int)]) := by decide
theorem up_two (a b : Nat) (ha : a < 16) (hb : b < 16) : upTo (fun j => decide (j = a) || decide (j = b)) 16 = Lib.compact (([(a : Int), (b : Int)]).mergeSort fun x y => decide (x ≤ y)) := by
  rw [sort_two]; exact up_two' a ha b hb

/-- Sixteen marks, none set. -/
def marks0 : List Value := [Value.bool false, Value.bool false, Value.bool false, Value.bool false, Value.bool false, Value.bool false, Value.bool false, Value.bool false, Value.bool false, Value.bool false, Value.bool false, Value.bool false, Value.bool false, Value.bool false, Value.bool false, Value.bool false]
theorem marks_at (j : Nat) (h : j < 16) : marks0[j]? = some (.bool false) := by
  revert j; simp only [marks0]; intro j h
  have : j = 0 ∨ j = 1 ∨ j = 2 ∨ j = 3 ∨ j = 4 ∨ j = 5 ∨ j = 6 ∨ j = 7 ∨ j = 8 ∨ j = 9 ∨ j = 10 ∨ j = 11 ∨ j = 12 ∨ j = 13 ∨ j = 14 ∨ j = 15 := by omega
  rcases this with rfl | rfl | rfl | rfl | rfl | rfl | rfl | rfl | rfl | rfl | rfl | rfl | rfl | rfl | rfl | rfl <;> rfl
theorem marks_len : marks0.length = 16 := rfl
theorem marks_set1 (a j : Nat) (h : j < 16) : (marks0.set a (.bool true))[j]? = some (.bool (decide (j = a))) := by
  rw [List.getElem?_set]
  by_cases e : a = j
  · subst e; simp [marks_len, h]
  · have e' : j ≠ a := fun h => e h.symm
    simp [e, e', marks_at j h]
theorem marks_set2 (a b j : Nat) (h : j < 16) : ((marks0.set a (.bool true)).set b (.bool true))[j]? = some (.bool (decide (j = a) || decide (j = b))) := by
  rw [List.getElem?_set]
  by_cases e : b = j
  · subst e; simp [marks_len, h]
  · have e' : j ≠ b := fun h => e h.symm
    simp [e, e', marks_set1 a j h]
/-- A cell of the block that was made last. -/
theorem last_cell (w : World) (n : Nat) (L : List Value) (t : TypeId) (j : Nat) (v : Value) (hn : n = w.heap.size) (h : L[j]? = some v) : (w.alloc (.cells L.toArray t)).cell? ⟨n, j, none⟩ = some v := by
  rw [World.cell?_alloc_at L.toArray t n j hn]; simpa using h

end Go.Proofs.YtnkkomodpjgefaaGreatDoor
