/- Contracts of isa.Of and isa.Read, in one form; four bytes are told as their word is. -/
import Derived.Test.YtnkkomodpjgefabDoorIsaD
namespace Go.Proofs.YtnkkomodpjgefabDoor
open Go.RowKit

def oOp (v : Int) : Int := if isWord v then v % 256 else 0
def oD (v : Int) : Int := if isWord v then cD v else 0
def oA (v : Int) : Int := if isWord v then cA v else 0
def oB (v : Int) : Int := if isWord v then cB v else 0
def oM (v : Int) : Int := if isWord v then cM v else 0
def oE (v : Int) : Int := if isWord v then 0 else 4

theorem of_any (v : Int) (w : World) (h0 : 0 ≤ v) (h1 : v < 4294967296) :
    Calls Tryd.prog 16 #[.int .u32 v] w fun e w' => e = .returned (.tuple #[.agg #[.int .i64 (oOp v), .int .i64 (oD v), .int .i64 (oA v), .int .i64 (oB v), .int .i64 (oM v)], .int .i64 (oE v)]) ∧ Below w.heap.size w w' := by
  unfold oOp oD oA oB oM oE
  cases h : isWord v
  · simpa using of_no v w h0 h1 h
  · simpa using of_yes v w h0 h1 h

/-- The word of four bytes. -/
def fourOf (x0 x1 x2 x3 : Int) : Int := x0 + x1 * 256 + x2 * 65536 + x3 * 16777216
theorem fourOf_range {x0 x1 x2 x3 : Int} (h0 : 0 ≤ x0 ∧ x0 < 256) (h1 : 0 ≤ x1 ∧ x1 < 256) (h2 : 0 ≤ x2 ∧ x2 < 256) (h3 : 0 ≤ x3 ∧ x3 < 256) : 0 ≤ fourOf x0 x1 x2 x3 ∧ fourOf x0 x1 x2 x3 < 4294967296 := by
  unfold fourOf; omega

theorem four_bits {x0 x1 x2 x3 : Int} (h0 : 0 ≤ x0 ∧ x0 < 256) (h1 : 0 ≤ x1 ∧ x1 < 256) (h2 : 0 ≤ x2 ∧ x2 < 256) (h3 : 0 ≤ x3 ∧ x3 < 256) :
    bits BinOp.or IntKind.u32 (bits BinOp.or IntKind.u32 (bits BinOp.or IntKind.u32 (bits BinOp.or IntKind.u32 0 x0) (x1 * 256)) (x2 * 65536)) (x3 * 16777216) = fourOf x0 x1 x2 x3 := by
  rw [or_low 0 0 x0 (by omega) (by omega) (by omega) (by omega) (by omega) (by omega)]
  rw [or_low 8 _ (x1 * 256) (by omega) (by omega) (by omega) (by omega) (by omega) (by omega)]
  rw [or_low 16 _ (x2 * 65536) (by omega) (by omega) (by omega) (by omega) (by omega) (by omega)]
  rw [or_low 24 _ (x3 * 16777216) (by omega) (by omega) (by omega) (by omega) (by omega) (by omega)]
  unfold fourOf; omega

end Go.Proofs.YtnkkomodpjgefabDoor
