/- Contracts of the document's Of and Read, in the form of isa's. -/
import Derived.Test.YtnkkomodpjgefaaGreatDoorIsaF
import Derived.Test.YtnkkomodpjgefaaGreatDoorIsaE
namespace Go.Proofs.YtnkkomodpjgefaaGreatDoor
open Go.RowKit

theorem rof_any (v : Int) (w : World) (h0 : 0 ≤ v) (h1 : v < 4294967296) :
    Calls Tryz.prog 37 #[.int .u32 v] w fun e w' => e = .returned (.tuple #[.agg #[.int .i64 (oOp v), .int .i64 (oD v), .int .i64 (oA v), .int .i64 (oB v), .int .i64 (oM v)], .int .i64 (oE v)]) ∧ Below w.heap.size w w' := by
  unfold oOp oD oA oB oM oE
  cases h : isWord v
  · simpa using rof_no v w h0 h1 h
  · simpa using rof_yes v w h0 h1 h

theorem Bl5 {n : Nat} {w W1 : World} (h : Below n w W1) (v0 v1 v2 v3 v4 : Value) : Below n w (((((W1.setCell ⟨n, 0, none⟩ v0).setCell ⟨n, 1, none⟩ v1).setCell ⟨n, 2, none⟩ v2).setCell ⟨n, 3, none⟩ v3).setCell ⟨n, 4, none⟩ v4) :=
  ((((h.setCell (p := ⟨n, 0, none⟩) (Nat.le_refl _) _).setCell (p := ⟨n, 1, none⟩) (Nat.le_refl _) _).setCell (p := ⟨n, 2, none⟩) (Nat.le_refl _) _).setCell (p := ⟨n, 3, none⟩) (Nat.le_refl _) _).setCell (p := ⟨n, 4, none⟩) (Nat.le_refl _) _

theorem four_below {n b : Nat} {W w1 : World} {o : Nat} {v0 v1 v2 v3 : Value} (hb : Below n W w1) (hB : b < n)
    (h : W.cell? ⟨b, o, none⟩ = some v0 ∧ W.cell? ⟨b, o + 1, none⟩ = some v1 ∧ W.cell? ⟨b, o + 2, none⟩ = some v2 ∧ W.cell? ⟨b, o + 3, none⟩ = some v3) :
    w1.cell? ⟨b, o, none⟩ = some v0 ∧ w1.cell? ⟨b, o + 1, none⟩ = some v1 ∧ w1.cell? ⟨b, o + 2, none⟩ = some v2 ∧ w1.cell? ⟨b, o + 3, none⟩ = some v3 := by
  have hc := fun o => hb.cell (p := ⟨b, o, none⟩) hB
  simp only [hc]; exact h

set_option maxHeartbeats 800000 in
set_option maxRecDepth 100000 in
theorem rread_four (b off c : Nat) (x0 x1 x2 x3 : Int) (w : World) (h0 : w.cell? ⟨b, off, none⟩ = some (.int .u8 x0)) (h1 : w.cell? ⟨b, off + 1, none⟩ = some (.int .u8 x1)) (h2 : w.cell? ⟨b, off + 2, none⟩ = some (.int .u8 x2)) (h3 : w.cell? ⟨b, off + 3, none⟩ = some (.int .u8 x3))
    (g0 : 0 ≤ x0 ∧ x0 < 256) (g1 : 0 ≤ x1 ∧ x1 < 256) (g2 : 0 ≤ x2 ∧ x2 < 256) (g3 : 0 ≤ x3 ∧ x3 < 256) :
    Calls Tryz.prog 19 #[.slice (some ⟨b, off, none⟩) 4 c] w fun e w' => e = .returned (.tuple #[.agg #[.int .i64 (oOp (fourOf x0 x1 x2 x3)), .int .i64 (oD (fourOf x0 x1 x2 x3)), .int .i64 (oA (fourOf x0 x1 x2 x3)), .int .i64 (oB (fourOf x0 x1 x2 x3)), .int .i64 (oM (fourOf x0 x1 x2 x3))], .int .i64 (oE (fourOf x0 x1 x2 x3))]) ∧ Below w.heap.size w w' := by
  have hv := Lib.hid (show IntKind.u32.wrap (IntKind.u32.wrap (IntKind.u32.wrap (IntKind.u32.wrap x0 + IntKind.u32.wrap (IntKind.u32.wrap x1 * 256)) + IntKind.u32.wrap (IntKind.u32.wrap x2 * 65536)) + IntKind.u32.wrap (IntKind.u32.wrap x3 * 16777216)) = fourOf x0 x1 x2 x3 by simp only [IntKind.wrap_u32]; unfold fourOf; omega)
  obtain ⟨r0, r1⟩ := fourOf_range g0 g1 g2 g3
  obtain ⟨g0, g0'⟩ := g0
  obtain ⟨g1, g1'⟩ := g1
  obtain ⟨g2, g2'⟩ := g2
  obtain ⟨g3, g3'⟩ := g3
  have hb : b < w.heap.size := World.block_lt_of_cell? w _ h0
  have hbz : b < w.heap.size + 1 := by omega
  go_enter Tryz.func19, Tryz.ntmps19
  go_wp2_with fail
  go_region_held3 (fun W => W.cell? ⟨b, off, none⟩ = some (.int .u8 x0) ∧ W.cell? ⟨b, off + 1, none⟩ = some (.int .u8 x1) ∧ W.cell? ⟨b, off + 2, none⟩ = some (.int .u8 x2) ∧ W.cell? ⟨b, off + 3, none⟩ = some (.int .u8 x3))
    (first | go_keep | (exact four_below hb1 (by simp; omega) (by assumption)) | (exact four_below (Bl5 hbw1 _ _ _ _ _) hb (by assumption)))
    (first | (go_at_call 37; rw [hv.out]; refine (rof_any _ _ r0 r1).mono ?_; rintro e w1 ⟨rfl, hb1⟩; obtain ⟨hc1, hf1⟩ := bcell hb1; have hbw1 : Below w.heap.size w1 w1 := Below.refl _ _))
  have hB1 : Below w.heap.size w w1 := Bl.step (Bl.drew (Bl.alloc (Below.refl _ _) _)) hb1
  have d1 : w1.cell? ⟨w.heap.size, 0, none⟩ = some (.int .i64 0) ∧ w1.cell? ⟨w.heap.size, 1, none⟩ = some (.int .i64 0) ∧ w1.cell? ⟨w.heap.size, 2, none⟩ = some (.int .i64 0) ∧ w1.cell? ⟨w.heap.size, 3, none⟩ = some (.int .i64 0) ∧ w1.cell? ⟨w.heap.size, 4, none⟩ = some (.int .i64 0) := five_below hb1 (by simp) (by simp)
  obtain ⟨d0, d1, d2, d3, d4⟩ := d1
  go_wp2
  refine bodyPost_ret (v := .tuple #[.agg #[.int .i64 (oOp (fourOf x0 x1 x2 x3)), .int .i64 (oD (fourOf x0 x1 x2 x3)), .int .i64 (oA (fourOf x0 x1 x2 x3)), .int .i64 (oB (fourOf x0 x1 x2 x3)), .int .i64 (oM (fourOf x0 x1 x2 x3))], .int .i64 (oE (fourOf x0 x1 x2 x3))]) (by simp [results, Tryz.results19, go_sem, d0, d1, d2, d3, d4]) rfl ⟨rfl, ?_⟩
  repeat (first | exact hB1 | refine Bl.set ?_ _ _ | refine Bl.drew ?_ | refine Bl.drewN ?_ _ | refine Bl.alloc ?_ _)

end Go.Proofs.YtnkkomodpjgefaaGreatDoor
