/- Contracts of the document's reading of a word: it comes to the same as isa's. -/
import Derived.Test.YtnkkomodpjgefaaGreatDoorIsaD
namespace Go.Proofs.YtnkkomodpjgefaaGreatDoor
open Go.RowKit

theorem rmay_is {op d a b m : Int} (h : mayB op d a b m = true) (w : World) :
    Calls Tryz.prog 51 #[.agg #[.int .i64 op, .int .i64 d, .int .i64 a, .int .i64 b, .int .i64 m]] w fun e w' => e = .returned (.bool true) ∧ Below w.heap.size w w' := by
  rw [← h]; exact rmay_any op d a b m w
theorem rmay_not {op d a b m : Int} (h : mayB op d a b m = false) (w : World) :
    Calls Tryz.prog 51 #[.agg #[.int .i64 op, .int .i64 d, .int .i64 a, .int .i64 b, .int .i64 m]] w fun e w' => e = .returned (.bool false) ∧ Below w.heap.size w w' := by
  rw [← h]; exact rmay_any op d a b m w
theorem rword_at {op d a b m : Int} (h : mayB op d a b m = true) (w : World) :
    Calls Tryz.prog 52 #[.agg #[.int .i64 op, .int .i64 d, .int .i64 a, .int .i64 b, .int .i64 m]] w fun e w' => e = .returned (.int .u32 (wordOf op d a b m)) ∧ Below w.heap.size w w' := rword_yes op d a b m w h

end Go.Proofs.YtnkkomodpjgefaaGreatDoor
