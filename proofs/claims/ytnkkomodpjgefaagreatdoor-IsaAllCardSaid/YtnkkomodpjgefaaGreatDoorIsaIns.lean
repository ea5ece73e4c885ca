/- An instruction's block in memory, over stores, calls and new blocks. -/
import Derived.Test.YtnkkomodpjgefaaGreatDoorIsaP0
namespace Go.Proofs.YtnkkomodpjgefaaGreatDoor
open Go.RowKit

/-- An instruction's block in memory, not frozen. -/
def InsIs (w : World) (B : Nat) (v0 v1 v2 v3 v4 : Value) : Prop :=
  (w.cell? ⟨B, 0, none⟩ = some v0 ∧ w.cell? ⟨B, 1, none⟩ = some v1 ∧ w.cell? ⟨B, 2, none⟩ = some v2 ∧ w.cell? ⟨B, 3, none⟩ = some v3 ∧ w.cell? ⟨B, 4, none⟩ = some v4) ∧ (∀ o, w.frozen? ⟨B, o, none⟩ = false) ∧ B < w.heap.size
theorem InsIs.grow {w : World} {B : Nat} {v0 v1 v2 v3 v4 : Value} (h : InsIs w B v0 v1 v2 v3 v4) (o : Obj) : InsIs (w.alloc o).drew B v0 v1 v2 v3 v4 := by
  obtain ⟨⟨h0, h1, h2, h3, h4⟩, hf, hB⟩ := h
  have c : ∀ q, (w.alloc o).drew.cell? ⟨B, q, none⟩ = w.cell? ⟨B, q, none⟩ := fun q => World.cell?_alloc_lt w o ⟨B, q, none⟩ hB
  have f : ∀ q, (w.alloc o).drew.frozen? ⟨B, q, none⟩ = w.frozen? ⟨B, q, none⟩ := fun q => ((Below.refl w.heap.size w).alloc (Nat.le_refl _) o).frozen (p := ⟨B, q, none⟩) hB
  exact ⟨⟨by rw [c]; exact h0, by rw [c]; exact h1, by rw [c]; exact h2, by rw [c]; exact h3, by rw [c]; exact h4⟩, fun q => by rw [f]; exact hf q, by show B < (w.alloc o).heap.size; simp; omega⟩
theorem InsIs.below {w w' : World} {B n : Nat} {v0 v1 v2 v3 v4 : Value} (h : InsIs w B v0 v1 v2 v3 v4) (hb : Below n w w') (hn : B < n) : InsIs w' B v0 v1 v2 v3 v4 := by
  obtain ⟨⟨h0, h1, h2, h3, h4⟩, hf, hB⟩ := h
  have c : ∀ q, w'.cell? ⟨B, q, none⟩ = w.cell? ⟨B, q, none⟩ := fun q => hb.cell (p := ⟨B, q, none⟩) hn
  have f : ∀ q, w'.frozen? ⟨B, q, none⟩ = w.frozen? ⟨B, q, none⟩ := fun q => hb.frozen (p := ⟨B, q, none⟩) hn
  exact ⟨⟨by rw [c]; exact h0, by rw [c]; exact h1, by rw [c]; exact h2, by rw [c]; exact h3, by rw [c]; exact h4⟩, fun q => by rw [f]; exact hf q, Nat.lt_of_lt_of_le hB hb.size⟩
theorem InsIs.set0 {w : World} {B : Nat} {v0 v1 v2 v3 v4 : Value} (h : InsIs w B v0 v1 v2 v3 v4) (x : Value) : InsIs (w.setCell ⟨B, 0, none⟩ x) B x v1 v2 v3 v4 := by
  obtain ⟨⟨h0, h1, h2, h3, h4⟩, hf, hB⟩ := h
  have c : ∀ q, 0 ≠ q → (w.setCell ⟨B, 0, none⟩ x).cell? ⟨B, q, none⟩ = w.cell? ⟨B, q, none⟩ := fun q hq => cell_other w B 0 q x hq
  refine ⟨⟨World.cell?_setCell_same _ _ _ h0, by rw [c _ (by omega)]; exact h1, by rw [c _ (by omega)]; exact h2, by rw [c _ (by omega)]; exact h3, by rw [c _ (by omega)]; exact h4⟩, fun q => ?_, by simpa using hB⟩
  have := hf q
  simpa using this
theorem InsIs.set1 {w : World} {B : Nat} {v0 v1 v2 v3 v4 : Value} (h : InsIs w B v0 v1 v2 v3 v4) (x : Value) : InsIs (w.setCell ⟨B, 1, none⟩ x) B v0 x v2 v3 v4 := by
  obtain ⟨⟨h0, h1, h2, h3, h4⟩, hf, hB⟩ := h
  have c : ∀ q, 1 ≠ q → (w.setCell ⟨B, 1, none⟩ x).cell? ⟨B, q, none⟩ = w.cell? ⟨B, q, none⟩ := fun q hq => cell_other w B 1 q x hq
  refine ⟨⟨by rw [c _ (by omega)]; exact h0, World.cell?_setCell_same _ _ _ h1, by rw [c _ (by omega)]; exact h2, by rw [c _ (by omega)]; exact h3, by rw [c _ (by omega)]; exact h4⟩, fun q => ?_, by simpa using hB⟩
  have := hf q
  simpa using this
theorem InsIs.set2 {w : World} {B : Nat} {v0 v1 v2 v3 v4 : Value} (h : InsIs w B v0 v1 v2 v3 v4) (x : Value) : InsIs (w.setCell ⟨B, 2, none⟩ x) B v0 v1 x v3 v4 := by
  obtain ⟨⟨h0, h1, h2, h3, h4⟩, hf, hB⟩ := h
  have c : ∀ q, 2 ≠ q → (w.setCell ⟨B, 2, none⟩ x).cell? ⟨B, q, none⟩ = w.cell? ⟨B, q, none⟩ := fun q hq => cell_other w B 2 q x hq
  refine ⟨⟨by rw [c _ (by omega)]; exact h0, by rw [c _ (by omega)]; exact h1, World.cell?_setCell_same _ _ _ h2, by rw [c _ (by omega)]; exact h3, by rw [c _ (by omega)]; exact h4⟩, fun q => ?_, by simpa using hB⟩
  have := hf q
  simpa using this
theorem InsIs.set3 {w : World} {B : Nat} {v0 v1 v2 v3 v4 : Value} (h : InsIs w B v0 v1 v2 v3 v4) (x : Value) : InsIs (w.setCell ⟨B, 3, none⟩ x) B v0 v1 v2 x v4 := by
  obtain ⟨⟨h0, h1, h2, h3, h4⟩, hf, hB⟩ := h
  have c : ∀ q, 3 ≠ q → (w.setCell ⟨B, 3, none⟩ x).cell? ⟨B, q, none⟩ = w.cell? ⟨B, q, none⟩ := fun q hq => cell_other w B 3 q x hq
  refine ⟨⟨by rw [c _ (by omega)]; exact h0, by rw [c _ (by omega)]; exact h1, by rw [c _ (by omega)]; exact h2, World.cell?_setCell_same _ _ _ h3, by rw [c _ (by omega)]; exact h4⟩, fun q => ?_, by simpa using hB⟩
  have := hf q
  simpa using this
theorem InsIs.set4 {w : World} {B : Nat} {v0 v1 v2 v3 v4 : Value} (h : InsIs w B v0 v1 v2 v3 v4) (x : Value) : InsIs (w.setCell ⟨B, 4, none⟩ x) B v0 v1 v2 v3 x := by
  obtain ⟨⟨h0, h1, h2, h3, h4⟩, hf, hB⟩ := h
  have c : ∀ q, 4 ≠ q → (w.setCell ⟨B, 4, none⟩ x).cell? ⟨B, q, none⟩ = w.cell? ⟨B, q, none⟩ := fun q hq => cell_other w B 4 q x hq
  refine ⟨⟨by rw [c _ (by omega)]; exact h0, by rw [c _ (by omega)]; exact h1, by rw [c _ (by omega)]; exact h2, by rw [c _ (by omega)]; exact h3, World.cell?_setCell_same _ _ _ h4⟩, fun q => ?_, by simpa using hB⟩
  have := hf q
  simpa using this
theorem InsIs.new (w : World) (v0 v1 v2 v3 v4 : Value) (t : TypeId) : InsIs (w.alloc (.cells #[v0, v1, v2, v3, v4] t)) w.heap.size v0 v1 v2 v3 v4 := ⟨⟨by simp, by simp, by simp, by simp, by simp⟩, fun o => by simp, by simp⟩
theorem InsIs.alloc {w : World} {B : Nat} {v0 v1 v2 v3 v4 : Value} (h : InsIs w B v0 v1 v2 v3 v4) (o : Obj) : InsIs (w.alloc o) B v0 v1 v2 v3 v4 := h.below ((Below.refl w.heap.size w).alloc (Nat.le_refl _) o) h.2.2

end Go.Proofs.YtnkkomodpjgefaaGreatDoor
