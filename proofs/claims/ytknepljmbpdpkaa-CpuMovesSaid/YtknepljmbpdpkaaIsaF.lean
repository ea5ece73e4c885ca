/- Contracts of isa.Of and isa.Read, in one form; four bytes are told as their word is. -/
import Derived.Test.YtknepljmbpdpkaaIsaD
namespace Go.Proofs.Ytknepljmbpdpkaa
open Go.RowKit

def oOp (v : Int) : Int := if isWord v then v % 256 else 0
def oD (v : Int) : Int := if isWord v then cD v else 0
def oA (v : Int) : Int := if isWord v then cA v else 0
def oB (v : Int) : Int := if isWord v then cB v else 0
def oM (v : Int) : Int := if isWord v then cM v else 0
def oE (v : Int) : Int := if isWord v then 0 else 4

theorem of_any (v : Int) (w : World) (h0 : 0 ≤ v) (h1 : v < 4294967296) :
    Calls Try.prog 60 #[.int .u32 v] w fun e w' => e = .returned (.tuple #[.agg #[.int .i64 (oOp v), .int .i64 (oD v), .int .i64 (oA v), .int .i64 (oB v), .int .i64 (oM v)], .int .i64 (oE v)]) ∧ Below w.heap.size w w' := by
  unfold oOp oD oA oB oM oE
  cases h : isWord v
  · simpa using of_no v w h0 h1 h
  · simpa using of_yes v w h0 h1 h

/-- The word of four bytes. -/
def fourOf (x0 x1 x2 x3 : Int) : Int := x0 + x1 * 256 + x2 * 65536 + x3 * 16777216
theorem fourOf_range {x0 x1 x2 x3 : Int} (h0 : 0 ≤ x0 ∧ x0 < 256) (h1 : 0 ≤ x1 ∧ x1 < 256) (h2 : 0 ≤ x2 ∧ x2 < 256) (h3 : 0 ≤ x3 ∧ x3 < 256) : 0 ≤ fourOf x0 x1 x2 x3 ∧ fourOf x0 x1 x2 x3 < 4294967296 := by
  unfold fourOf; omega

theorem four_bits {x0 x1 x2 x3 : Int} (h0 : 0 ≤ x0 ∧ x0 < 256) (h1 : 0 ≤ x1 ∧ x1 < 256) (h2 : 0 ≤ x2 ∧ x2 < 256) (h3 : 0 ≤ x3 ∧ x3 < 256) :
    bits BinOp.or IntKind.u32 (bits BinOp.or IntKind.u32 (bits BinOp.or IntKind.u32 (bits BinOp.or IntKind.u32 0 x0) (x1 * 256)) (x2 * 65536)) (x3 * 16777216) = fourOf x0 x1 x2 x3 := by
  rw [or_low 0 0 x0 (by omega) (by omega) (by omega) (by omega) (by omega) (by omega)]
  rw [or_low 8 _ (x1 * 256) (by omega) (by omega) (by omega) (by omega) (by omega) (by omega)]
  rw [or_low 16 _ (x2 * 65536) (by omega) (by omega) (by omega) (by omega) (by omega) (by omega)]
  rw [or_low 24 _ (x3 * 16777216) (by omega) (by omega) (by omega) (by omega) (by omega) (by omega)]
  unfold fourOf; omega

set_option maxHeartbeats 400000 in
set_option maxRecDepth 100000 in
theorem read_other (ad : Option Addr) (n c : Nat) (w : World) (h : ((n : Int) != 4) = true) :
    Calls Try.prog 49 #[.slice ad n c] w fun e w' => e = .returned (.tuple #[.agg #[.int .i64 0, .int .i64 0, .int .i64 0, .int .i64 0, .int .i64 0], .int .i64 4]) ∧ Below w.heap.size w w' := by
  go_enter Try.func49, Try.ntmps49
  go_wp2
  refine bodyPost_ret (v := .tuple #[.agg #[.int .i64 0, .int .i64 0, .int .i64 0, .int .i64 0, .int .i64 0], .int .i64 4]) (by simp [results, Try.results49, go_sem]) rfl ⟨rfl, ?_⟩
  repeat (first | exact Below.refl _ _ | refine Bl.set ?_ _ _ | refine Bl.drew ?_ | refine Bl.drewN ?_ _ | refine Bl.alloc ?_ _ | refine Bl.step ?_ (by assumption))

set_option maxHeartbeats 400000 in
set_option maxRecDepth 100000 in
theorem read_four (b off c : Nat) (x0 x1 x2 x3 : Int) (w : World) (h0 : w.cell? ⟨b, off, none⟩ = some (.int .u8 x0)) (h1 : w.cell? ⟨b, off + 1, none⟩ = some (.int .u8 x1)) (h2 : w.cell? ⟨b, off + 2, none⟩ = some (.int .u8 x2)) (h3 : w.cell? ⟨b, off + 3, none⟩ = some (.int .u8 x3))
    (g0 : 0 ≤ x0 ∧ x0 < 256) (g1 : 0 ≤ x1 ∧ x1 < 256) (g2 : 0 ≤ x2 ∧ x2 < 256) (g3 : 0 ≤ x3 ∧ x3 < 256) :
    Calls Try.prog 49 #[.slice (some ⟨b, off, none⟩) 4 c] w fun e w' => e = .returned (.tuple #[.agg #[.int .i64 (oOp (fourOf x0 x1 x2 x3)), .int .i64 (oD (fourOf x0 x1 x2 x3)), .int .i64 (oA (fourOf x0 x1 x2 x3)), .int .i64 (oB (fourOf x0 x1 x2 x3)), .int .i64 (oM (fourOf x0 x1 x2 x3))], .int .i64 (oE (fourOf x0 x1 x2 x3))]) ∧ Below w.heap.size w w' := by
  have hv := Lib.hid (four_bits g0 g1 g2 g3)
  obtain ⟨r0, r1⟩ := fourOf_range g0 g1 g2 g3
  obtain ⟨g0, g0'⟩ := g0
  obtain ⟨g1, g1'⟩ := g1
  obtain ⟨g2, g2'⟩ := g2
  obtain ⟨g3, g3'⟩ := g3
  have hb := World.block_lt_of_cell? w _ h0
  go_enter Try.func49, Try.ntmps49
  go_wp2
  refine wp_loop_rounds 5 ?_
  iterate 4
    rw [rounds_succ]
    go_wp2
  rw [rounds_succ]
  go_wp2_with (go_at_call 60; rw [hv.out]; refine (of_any _ _ r0 r1).mono ?_; rintro e w1 ⟨rfl, hb1⟩; obtain ⟨hc1, hf1⟩ := bcell hb1)
  obtain ⟨c0, c1, c2, c3, c4⟩ := slot5 hb1
  refine bodyPost_ret (v := .tuple #[.agg #[.int .i64 (oOp (fourOf x0 x1 x2 x3)), .int .i64 (oD (fourOf x0 x1 x2 x3)), .int .i64 (oA (fourOf x0 x1 x2 x3)), .int .i64 (oB (fourOf x0 x1 x2 x3)), .int .i64 (oM (fourOf x0 x1 x2 x3))], .int .i64 (oE (fourOf x0 x1 x2 x3))]) (by simp [results, Try.results49, go_sem, c0, c1, c2, c3, c4]) rfl ⟨rfl, ?_⟩
  repeat (first | exact Below.refl _ _ | refine Bl.set ?_ _ _ | refine Bl.drew ?_ | refine Bl.drewN ?_ _ | refine Bl.alloc ?_ _ | refine Bl.step ?_ (by assumption))

end Go.Proofs.Ytknepljmbpdpkaa
