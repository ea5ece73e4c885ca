/- Contracts of isa.Writes and isa.Leads and of the document's answers to both. -/
import Derived.Test.YtknepljmbpdpkaaIsaC
namespace Go.Proofs.Ytknepljmbpdpkaa
open Go.RowKit

theorem has_D (op : Int) : hasOf (setOf (formOf op)) 0 = nmD (formOf op) := by rcases form_range op with h | h | h | h | h | h | h <;> rw [h] <;> rfl
theorem has_A (op : Int) : hasOf (setOf (formOf op)) 1 = nmA (formOf op) := by rcases form_range op with h | h | h | h | h | h | h <;> rw [h] <;> rfl
theorem has_B (op : Int) : hasOf (setOf (formOf op)) 2 = nmB (formOf op) := by rcases form_range op with h | h | h | h | h | h | h <;> rw [h] <;> rfl
theorem has_M (op : Int) : hasOf (setOf (formOf op)) 3 = nmM (formOf op) := by rcases form_range op with h | h | h | h | h | h | h <;> rw [h] <;> rfl

/-- Does an instruction that may be write its D? -/
def wrB (op : Int) : Bool := nmD (formOf op) && !asksOf op
def wrV (op d : Int) : Int := if wrB op then d else 0
theorem ret_ib {k : IntKind} {x y : Int} {c c' : Bool} (h : x = y) (h' : c = c') : Ending.returned (.tuple #[.int k x, .bool c]) = .returned (.tuple #[.int k y, .bool c']) := by rw [h, h']

theorem wr_form (op : Int) (h : isOp op = true) : wrB op = (decide (formOf op = 3 ∨ formOf op = 4 ∨ formOf op = 5) || decide (op = 18 ∨ op = 19 ∨ op = 21)) := by
  have h : 1 ≤ op ∧ op ≤ 28 := by simpa [isOp] using h
  have hk : op = 1 ∨ op = 2 ∨ op = 3 ∨ op = 4 ∨ op = 5 ∨ op = 6 ∨ op = 7 ∨ op = 8 ∨ op = 9 ∨ op = 10 ∨ op = 11 ∨ op = 12 ∨ op = 13 ∨ op = 14 ∨ op = 15 ∨ op = 16 ∨ op = 17 ∨ op = 18 ∨ op = 19 ∨ op = 20 ∨ op = 21 ∨ op = 22 ∨ op = 23 ∨ op = 24 ∨ op = 25 ∨ op = 26 ∨ op = 27 ∨ op = 28 := by omega
  rcases hk with rfl | rfl | rfl | rfl | rfl | rfl | rfl | rfl | rfl | rfl | rfl | rfl | rfl | rfl | rfl | rfl | rfl | rfl | rfl | rfl | rfl | rfl | rfl | rfl | rfl | rfl | rfl | rfl <;> rfl

/-- Does an instruction lead anywhere? -/
def ldB (op : Int) : Bool := decide (op = 23 ∨ op = 25 ∨ op = 26 ∨ op = 27 ∨ op = 28)
def ldV (op m at' : Int) : Int := if ldB op then (at' + 4 * m) % 4294967296 else 0

set_option maxHeartbeats 800000 in
set_option maxRecDepth 100000 in
theorem leads_no (op d a b m at' : Int) (w : World) (h : mayB op d a b m = false) :
    Calls Try.prog 64 #[.agg #[.int .i64 op, .int .i64 d, .int .i64 a, .int .i64 b, .int .i64 m], .int .u32 at'] w fun e w' => e = .returned (.tuple #[.int .u32 0, .bool false]) ∧ Below w.heap.size w w' := by
  have H := Lib.hid h
  clear h
  go_enter Try.func64, Try.ntmps64
  go_wp2_with (go_at_call 69; refine (may_not H.out _).mono ?_; rintro e w1 ⟨rfl, hb1⟩)
  go_ret2
  refine ⟨rfl, ?_⟩
  repeat (first | exact Below.refl _ _ | refine Bl.drew ?_ | refine Bl.drewN ?_ _ | refine Bl.alloc ?_ _ | refine Bl.step ?_ (by assumption))

set_option maxHeartbeats 800000 in
set_option maxRecDepth 100000 in
theorem leads_yes (op d a b m at' : Int) (w : World) (h : mayB op d a b m = true) (h0 : 0 ≤ at') (h1 : at' < 4294967296) :
    Calls Try.prog 64 #[.agg #[.int .i64 op, .int .i64 d, .int .i64 a, .int .i64 b, .int .i64 m], .int .u32 at'] w fun e w' => e = .returned (.tuple #[.int .u32 (ldV op m at'), .bool (ldB op)]) ∧ Below w.heap.size w w' := by
  have H := Lib.hid h
  clear h
  go_enter Try.func64, Try.ntmps64
  go_wp2_with (go_at_call 69; refine (may_is H.out _).mono ?_; rintro e w1 ⟨rfl, hb1⟩; obtain ⟨hc1, hf1⟩ := bcell hb1)
  all_goals
    go_ret2
    refine ⟨ret_ib ?_ ?_, ?_⟩
    · unfold ldV ldB; try simp only [beq_iff_eq, beq_eq_false_iff_ne, ne_eq] at *
      simp [*]; try omega
    · unfold ldB; try simp only [beq_iff_eq, beq_eq_false_iff_ne, ne_eq] at *
      simp [*]
    · repeat (first | exact Below.refl _ _ | refine Bl.drew ?_ | refine Bl.drewN ?_ _ | refine Bl.alloc ?_ _ | refine Bl.step ?_ (by assumption))

end Go.Proofs.Ytknepljmbpdpkaa
