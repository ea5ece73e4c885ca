/- Contracts of the small functions of isa and of the document's answers: each returns what IsaSpec says of its arguments, for every input. -/
import Derived.Test.YtknepljmbpdpkaaRows
import Derived.Test.YtknepljmbpdpkaaIsaMath
import Derived.WalkKit
import Derived.OpenShut
import Derived.StillTailTactics
import Derived.BigRegion
namespace Go.Proofs.Ytknepljmbpdpkaa
open Go.RowKit

theorem ret_int {k : IntKind} {a b : Int} (h : a = b) : Ending.returned (.int k a) = .returned (.int k b) := by rw [h]
theorem ret_bool {a b : Bool} (h : a = b) : Ending.returned (.bool a) = .returned (.bool b) := by rw [h]

set_option maxHeartbeats 400000 in
theorem form_any (op : Int) (w : World) :
    Calls Try.prog 76 #[.int .i64 op] w fun e w' => e = .returned (.int .i64 (formOf op)) ∧ w = w' := by
  go_enter Try.func76, Try.ntmps76
  go_wp2
  all_goals
    go_ret
    exact ⟨ret_int (by simp only [beq_iff_eq, beq_eq_false_iff_ne, ne_eq] at *; unfold formOf; repeat (first | rfl | rw [if_pos (by omega)] | rw [if_neg (by omega)])), rfl⟩

set_option maxHeartbeats 400000 in
theorem rform_any (op : Int) (w : World) :
    Calls Try.prog 66 #[.int .i64 op] w fun e w' => e = .returned (.int .i64 (formOf op)) ∧ w = w' := by
  go_enter Try.func66, Try.ntmps66
  go_wp2
  all_goals
    go_ret
    exact ⟨ret_int (by simp only [beq_iff_eq, beq_eq_false_iff_ne, ne_eq] at *; unfold formOf; repeat (first | rfl | rw [if_pos (by omega)] | rw [if_neg (by omega)])), rfl⟩

set_option maxHeartbeats 400000 in
theorem known_any (op : Int) (w : World) :
    Calls Try.prog 73 #[.int .i64 op] w fun e w' => e = .returned (.bool (isOp op)) ∧ w = w' := by
  go_enter Try.func73, Try.ntmps73
  go_wp2
  all_goals
    go_ret
    exact ⟨ret_bool (by unfold isOp; simp; try omega), rfl⟩

set_option maxHeartbeats 400000 in
theorem bounds_any (op : Int) (w : World) :
    Calls Try.prog 74 #[.int .i64 op] w fun e w' => e = .returned (.tuple #[.int .i64 (leastOf op), .int .i64 (mostOf op)]) ∧ w = w' := by
  by_cases h3 : op = 3 ∨ op = 6
  · have hl : leastOf op = 0 := by unfold leastOf; rw [if_pos h3]
    have hm : mostOf op = 65535 := by unfold mostOf; rw [if_pos h3]
    rw [hl, hm]
    clear hl hm
    rcases h3 with rfl | rfl
    all_goals
      go_enter Try.func74, Try.ntmps74
      go_wp2
      go_ret2
      exact ⟨rfl, rfl⟩
  · have hl : leastOf op = -32768 := by unfold leastOf; rw [if_neg h3]
    have hm : mostOf op = 32767 := by unfold mostOf; rw [if_neg h3]
    rw [hl, hm]
    have h1 : (op == 3) = false := by rw [beq_eq_false_iff_ne]; omega
    have h2 : (op == 6) = false := by rw [beq_eq_false_iff_ne]; omega
    clear hl hm h3
    go_enter Try.func74, Try.ntmps74
    go_wp2
    go_ret2
    exact ⟨rfl, rfl⟩

set_option maxHeartbeats 400000 in
theorem names_any (f : Int) (w : World) :
    Calls Try.prog 75 #[.int .i64 f] w fun e w' => e = .returned (.int .u64 (setOf f)) ∧ w = w' := by
  go_enter Try.func75, Try.ntmps75
  go_wp2
  all_goals
    go_ret
    exact ⟨ret_int (by
      simp only [beq_iff_eq, beq_eq_false_iff_ne, ne_eq] at *
      first
        | (subst_vars; rfl)
        | (unfold setOf; repeat (first | rfl | rw [if_neg (by omega)]))), rfl⟩

theorem ret4 {a b c d a' b' c' d' : Bool} (h1 : a = a') (h2 : b = b') (h3 : c = c') (h4 : d = d') :
    Ending.returned (.tuple #[.bool a, .bool b, .bool c, .bool d]) = .returned (.tuple #[.bool a', .bool b', .bool c', .bool d']) := by rw [h1, h2, h3, h4]

set_option maxHeartbeats 400000 in
theorem rnames_any (f : Int) (w : World) :
    Calls Try.prog 65 #[.int .i64 f] w fun e w' => e = .returned (.tuple #[.bool (nmD f), .bool (nmA f), .bool (nmB f), .bool (nmM f)]) ∧ w = w' := by
  go_enter Try.func65, Try.ntmps65
  go_wp2
  all_goals
    refine bodyPost_ret (v := .tuple #[.bool (nmD f), .bool (nmA f), .bool (nmB f), .bool (nmM f)]) ?_ rfl ⟨rfl, rfl⟩
    simp only [beq_iff_eq, beq_eq_false_iff_ne, ne_eq] at *
    first
      | (subst_vars; simp [results, Try.results65, go_sem, nmD, nmA, nmB, nmM]; done)
      | (simp [results, Try.results65, go_sem, nmD, nmA, nmB, nmM]; refine ⟨⟨?_, ?_, ?_, ?_⟩, ⟨?_, ?_, ?_, ?_⟩, ?_, ?_, ?_, ?_⟩ <;> assumption)

set_option maxHeartbeats 400000 in
theorem register_any (b : Bool) (n : Int) (w : World) :
    Calls Try.prog 72 #[.bool b, .int .i64 n] w fun e w' => e = .returned (.bool (regOk b n)) ∧ w = w' := by
  go_enter Try.func72, Try.ntmps72
  go_wp2
  all_goals
    go_ret
    exact ⟨ret_bool (by unfold regOk; rw [Bool.eq_iff_iff]; simp [*]; try omega), rfl⟩

/-- Is a place (0 to 3) among a set's bits? -/
def hasOf (s p : Int) : Bool := bits BinOp.and .u64 (s / 2 ^ p.toNat) 1 == 1

set_option maxHeartbeats 400000 in
theorem has_any (s p : Int) (w : World) (h0 : 0 ≤ p) (h1 : p ≤ 3) :
    Calls Try.prog 78 #[.int .u64 s, .int .i64 p] w fun e w' => e = .returned (.bool (hasOf s p)) ∧ w = w' := by
  go_enter Try.func78, Try.ntmps78
  go_wp2
  go_ret
  exact ⟨rfl, rfl⟩

set_option maxHeartbeats 400000 in
set_option maxRecDepth 100000 in
theorem numbers_any (B : Nat) (w : World) :
    Calls Try.prog 77 #[.pointer (some ⟨B, 0, none⟩)] w fun e w' =>
      e = .returned (.agg #[.pointer (some ⟨B, 1, none⟩), .pointer (some ⟨B, 2, none⟩), .pointer (some ⟨B, 3, none⟩), .pointer (some ⟨B, 4, none⟩)]) ∧ (w.alloc (.cells #[.pointer (some ⟨B, 1, none⟩), .pointer (some ⟨B, 2, none⟩), .pointer (some ⟨B, 3, none⟩), .pointer (some ⟨B, 4, none⟩)] 128)).drew = w' := by
  go_enter Try.func77, Try.ntmps77
  go_wp2
  go_still_tail 13, (by kernel_rfl)
  change wpList _ _ _ _ _ (World.drew _)
  go_wp2
  refine bodyPost_ret (v := .agg #[.pointer (some ⟨B, 1, none⟩), .pointer (some ⟨B, 2, none⟩), .pointer (some ⟨B, 3, none⟩), .pointer (some ⟨B, 4, none⟩)]) (by simp [results, Try.results77, go_sem]) rfl ⟨rfl, rfl⟩

theorem idx4 (x0 x1 x2 x3 : Value) (w : World) :
    (Instr.index 128 (.agg #[x0, x1, x2, x3]) (.int .i64 0)).run Try.prog w = .ok x0 w ∧
    (Instr.index 128 (.agg #[x0, x1, x2, x3]) (.int .i64 1)).run Try.prog w = .ok x1 w ∧
    (Instr.index 128 (.agg #[x0, x1, x2, x3]) (.int .i64 2)).run Try.prog w = .ok x2 w ∧
    (Instr.index 128 (.agg #[x0, x1, x2, x3]) (.int .i64 3)).run Try.prog w = .ok x3 w :=
  ⟨by kernel_rfl, by kernel_rfl, by kernel_rfl, by kernel_rfl⟩
theorem idx4_0 (x0 x1 x2 x3 : Value) (w : World) : (Instr.index 128 (.agg #[x0, x1, x2, x3]) (.int .i64 0)).run Try.prog w = .ok x0 w := (idx4 ..).1
theorem idx4_1 (x0 x1 x2 x3 : Value) (w : World) : (Instr.index 128 (.agg #[x0, x1, x2, x3]) (.int .i64 1)).run Try.prog w = .ok x1 w := (idx4 ..).2.1
theorem idx4_2 (x0 x1 x2 x3 : Value) (w : World) : (Instr.index 128 (.agg #[x0, x1, x2, x3]) (.int .i64 2)).run Try.prog w = .ok x2 w := (idx4 ..).2.2.1
theorem idx4_3 (x0 x1 x2 x3 : Value) (w : World) : (Instr.index 128 (.agg #[x0, x1, x2, x3]) (.int .i64 3)).run Try.prog w = .ok x3 w := (idx4 ..).2.2.2

theorem bcell {W w1 : World} (hb : Below W.heap.size W w1) : (∀ b o, b < W.heap.size → w1.cell? ⟨b, o, none⟩ = W.cell? ⟨b, o, none⟩) ∧ (∀ b o, b < W.heap.size → w1.frozen? ⟨b, o, none⟩ = W.frozen? ⟨b, o, none⟩) :=
  ⟨fun b o h => hb.cell (p := ⟨b, o, none⟩) h, fun b o h => hb.frozen (p := ⟨b, o, none⟩) h⟩

set_option maxHeartbeats 400000 in
set_option maxRecDepth 100000 in
theorem only_0 (op d a b m : Int) (w : World) (hf : formOf op = 0) :
    Calls Try.prog 70 #[.agg #[.int .i64 op, .int .i64 d, .int .i64 a, .int .i64 b, .int .i64 m]] w fun e w' => e = .returned (.agg #[.int .i64 op, .int .i64 0, .int .i64 0, .int .i64 0, .int .i64 0]) ∧ Below w.heap.size w w' := by
  have e0 : hasOf (setOf 0) 0 = false := rfl
  have e1 : hasOf (setOf 0) 1 = false := rfl
  have e2 : hasOf (setOf 0) 2 = false := rfl
  have e3 : hasOf (setOf 0) 3 = false := rfl
  have i0 := idx4_0 (.pointer (some ⟨w.heap.size, 1, none⟩)) (.pointer (some ⟨w.heap.size, 2, none⟩)) (.pointer (some ⟨w.heap.size, 3, none⟩)) (.pointer (some ⟨w.heap.size, 4, none⟩))
  have i1 := idx4_1 (.pointer (some ⟨w.heap.size, 1, none⟩)) (.pointer (some ⟨w.heap.size, 2, none⟩)) (.pointer (some ⟨w.heap.size, 3, none⟩)) (.pointer (some ⟨w.heap.size, 4, none⟩))
  have i2 := idx4_2 (.pointer (some ⟨w.heap.size, 1, none⟩)) (.pointer (some ⟨w.heap.size, 2, none⟩)) (.pointer (some ⟨w.heap.size, 3, none⟩)) (.pointer (some ⟨w.heap.size, 4, none⟩))
  have i3 := idx4_3 (.pointer (some ⟨w.heap.size, 1, none⟩)) (.pointer (some ⟨w.heap.size, 2, none⟩)) (.pointer (some ⟨w.heap.size, 3, none⟩)) (.pointer (some ⟨w.heap.size, 4, none⟩))
  go_enter Try.func70, Try.ntmps70
  go_wp2_with (first | (go_at_call 76; refine (form_any _ _).mono ?_; rw [hf]; rintro e w' ⟨rfl, rfl⟩) | (go_at_call 75; refine (names_any _ _).mono ?_; rintro e w' ⟨rfl, rfl⟩) | (go_at_call 77; refine (numbers_any _ _).mono ?_; rintro e w' ⟨rfl, rfl⟩))
  refine wp_loop_rounds 5 ?_
  iterate 4
    rw [rounds_succ]
    go_wp2_with (go_at_call 78; refine (has_any _ _ _ (by omega) (by omega)).mono ?_; rintro e w' ⟨rfl, rfl⟩)
  rw [rounds_succ]
  go_wp2
  refine bodyPost_ret (v := .agg #[.int .i64 op, .int .i64 0, .int .i64 0, .int .i64 0, .int .i64 0]) (by simp [results, Try.results70, go_sem]) rfl ⟨rfl, ?_⟩
  exact ((((Below.refl _ _).alloc (Nat.le_refl _) _).alloc (by simp) _).alloc (by simp; omega) _).drew

set_option maxHeartbeats 400000 in
set_option maxRecDepth 100000 in
theorem only_1 (op d a b m : Int) (w : World) (hf : formOf op = 1) :
    Calls Try.prog 70 #[.agg #[.int .i64 op, .int .i64 d, .int .i64 a, .int .i64 b, .int .i64 m]] w fun e w' => e = .returned (.agg #[.int .i64 op, .int .i64 0, .int .i64 0, .int .i64 0, .int .i64 m]) ∧ Below w.heap.size w w' := by
  have e0 : hasOf (setOf 1) 0 = false := rfl
  have e1 : hasOf (setOf 1) 1 = false := rfl
  have e2 : hasOf (setOf 1) 2 = false := rfl
  have e3 : hasOf (setOf 1) 3 = true := rfl
  have i0 := idx4_0 (.pointer (some ⟨w.heap.size, 1, none⟩)) (.pointer (some ⟨w.heap.size, 2, none⟩)) (.pointer (some ⟨w.heap.size, 3, none⟩)) (.pointer (some ⟨w.heap.size, 4, none⟩))
  have i1 := idx4_1 (.pointer (some ⟨w.heap.size, 1, none⟩)) (.pointer (some ⟨w.heap.size, 2, none⟩)) (.pointer (some ⟨w.heap.size, 3, none⟩)) (.pointer (some ⟨w.heap.size, 4, none⟩))
  have i2 := idx4_2 (.pointer (some ⟨w.heap.size, 1, none⟩)) (.pointer (some ⟨w.heap.size, 2, none⟩)) (.pointer (some ⟨w.heap.size, 3, none⟩)) (.pointer (some ⟨w.heap.size, 4, none⟩))
  have i3 := idx4_3 (.pointer (some ⟨w.heap.size, 1, none⟩)) (.pointer (some ⟨w.heap.size, 2, none⟩)) (.pointer (some ⟨w.heap.size, 3, none⟩)) (.pointer (some ⟨w.heap.size, 4, none⟩))
  go_enter Try.func70, Try.ntmps70
  go_wp2_with (first | (go_at_call 76; refine (form_any _ _).mono ?_; rw [hf]; rintro e w' ⟨rfl, rfl⟩) | (go_at_call 75; refine (names_any _ _).mono ?_; rintro e w' ⟨rfl, rfl⟩) | (go_at_call 77; refine (numbers_any _ _).mono ?_; rintro e w' ⟨rfl, rfl⟩))
  refine wp_loop_rounds 5 ?_
  iterate 4
    rw [rounds_succ]
    go_wp2_with (go_at_call 78; refine (has_any _ _ _ (by omega) (by omega)).mono ?_; rintro e w' ⟨rfl, rfl⟩)
  rw [rounds_succ]
  go_wp2
  refine bodyPost_ret (v := .agg #[.int .i64 op, .int .i64 0, .int .i64 0, .int .i64 0, .int .i64 m]) (by simp [results, Try.results70, go_sem]) rfl ⟨rfl, ?_⟩
  exact ((((Below.refl _ _).alloc (Nat.le_refl _) _).alloc (by simp) _).alloc (by simp; omega) _).drew

set_option maxHeartbeats 400000 in
set_option maxRecDepth 100000 in
theorem only_2 (op d a b m : Int) (w : World) (hf : formOf op = 2) :
    Calls Try.prog 70 #[.agg #[.int .i64 op, .int .i64 d, .int .i64 a, .int .i64 b, .int .i64 m]] w fun e w' => e = .returned (.agg #[.int .i64 op, .int .i64 0, .int .i64 a, .int .i64 0, .int .i64 0]) ∧ Below w.heap.size w w' := by
  have e0 : hasOf (setOf 2) 0 = false := rfl
  have e1 : hasOf (setOf 2) 1 = true := rfl
  have e2 : hasOf (setOf 2) 2 = false := rfl
  have e3 : hasOf (setOf 2) 3 = false := rfl
  have i0 := idx4_0 (.pointer (some ⟨w.heap.size, 1, none⟩)) (.pointer (some ⟨w.heap.size, 2, none⟩)) (.pointer (some ⟨w.heap.size, 3, none⟩)) (.pointer (some ⟨w.heap.size, 4, none⟩))
  have i1 := idx4_1 (.pointer (some ⟨w.heap.size, 1, none⟩)) (.pointer (some ⟨w.heap.size, 2, none⟩)) (.pointer (some ⟨w.heap.size, 3, none⟩)) (.pointer (some ⟨w.heap.size, 4, none⟩))
  have i2 := idx4_2 (.pointer (some ⟨w.heap.size, 1, none⟩)) (.pointer (some ⟨w.heap.size, 2, none⟩)) (.pointer (some ⟨w.heap.size, 3, none⟩)) (.pointer (some ⟨w.heap.size, 4, none⟩))
  have i3 := idx4_3 (.pointer (some ⟨w.heap.size, 1, none⟩)) (.pointer (some ⟨w.heap.size, 2, none⟩)) (.pointer (some ⟨w.heap.size, 3, none⟩)) (.pointer (some ⟨w.heap.size, 4, none⟩))
  go_enter Try.func70, Try.ntmps70
  go_wp2_with (first | (go_at_call 76; refine (form_any _ _).mono ?_; rw [hf]; rintro e w' ⟨rfl, rfl⟩) | (go_at_call 75; refine (names_any _ _).mono ?_; rintro e w' ⟨rfl, rfl⟩) | (go_at_call 77; refine (numbers_any _ _).mono ?_; rintro e w' ⟨rfl, rfl⟩))
  refine wp_loop_rounds 5 ?_
  iterate 4
    rw [rounds_succ]
    go_wp2_with (go_at_call 78; refine (has_any _ _ _ (by omega) (by omega)).mono ?_; rintro e w' ⟨rfl, rfl⟩)
  rw [rounds_succ]
  go_wp2
  refine bodyPost_ret (v := .agg #[.int .i64 op, .int .i64 0, .int .i64 a, .int .i64 0, .int .i64 0]) (by simp [results, Try.results70, go_sem]) rfl ⟨rfl, ?_⟩
  exact ((((Below.refl _ _).alloc (Nat.le_refl _) _).alloc (by simp) _).alloc (by simp; omega) _).drew

set_option maxHeartbeats 400000 in
set_option maxRecDepth 100000 in
theorem only_3 (op d a b m : Int) (w : World) (hf : formOf op = 3) :
    Calls Try.prog 70 #[.agg #[.int .i64 op, .int .i64 d, .int .i64 a, .int .i64 b, .int .i64 m]] w fun e w' => e = .returned (.agg #[.int .i64 op, .int .i64 d, .int .i64 0, .int .i64 0, .int .i64 m]) ∧ Below w.heap.size w w' := by
  have e0 : hasOf (setOf 3) 0 = true := rfl
  have e1 : hasOf (setOf 3) 1 = false := rfl
  have e2 : hasOf (setOf 3) 2 = false := rfl
  have e3 : hasOf (setOf 3) 3 = true := rfl
  have i0 := idx4_0 (.pointer (some ⟨w.heap.size, 1, none⟩)) (.pointer (some ⟨w.heap.size, 2, none⟩)) (.pointer (some ⟨w.heap.size, 3, none⟩)) (.pointer (some ⟨w.heap.size, 4, none⟩))
  have i1 := idx4_1 (.pointer (some ⟨w.heap.size, 1, none⟩)) (.pointer (some ⟨w.heap.size, 2, none⟩)) (.pointer (some ⟨w.heap.size, 3, none⟩)) (.pointer (some ⟨w.heap.size, 4, none⟩))
  have i2 := idx4_2 (.pointer (some ⟨w.heap.size, 1, none⟩)) (.pointer (some ⟨w.heap.size, 2, none⟩)) (.pointer (some ⟨w.heap.size, 3, none⟩)) (.pointer (some ⟨w.heap.size, 4, none⟩))
  have i3 := idx4_3 (.pointer (some ⟨w.heap.size, 1, none⟩)) (.pointer (some ⟨w.heap.size, 2, none⟩)) (.pointer (some ⟨w.heap.size, 3, none⟩)) (.pointer (some ⟨w.heap.size, 4, none⟩))
  go_enter Try.func70, Try.ntmps70
  go_wp2_with (first | (go_at_call 76; refine (form_any _ _).mono ?_; rw [hf]; rintro e w' ⟨rfl, rfl⟩) | (go_at_call 75; refine (names_any _ _).mono ?_; rintro e w' ⟨rfl, rfl⟩) | (go_at_call 77; refine (numbers_any _ _).mono ?_; rintro e w' ⟨rfl, rfl⟩))
  refine wp_loop_rounds 5 ?_
  iterate 4
    rw [rounds_succ]
    go_wp2_with (go_at_call 78; refine (has_any _ _ _ (by omega) (by omega)).mono ?_; rintro e w' ⟨rfl, rfl⟩)
  rw [rounds_succ]
  go_wp2
  refine bodyPost_ret (v := .agg #[.int .i64 op, .int .i64 d, .int .i64 0, .int .i64 0, .int .i64 m]) (by simp [results, Try.results70, go_sem]) rfl ⟨rfl, ?_⟩
  exact ((((Below.refl _ _).alloc (Nat.le_refl _) _).alloc (by simp) _).alloc (by simp; omega) _).drew

set_option maxHeartbeats 400000 in
set_option maxRecDepth 100000 in
theorem only_4 (op d a b m : Int) (w : World) (hf : formOf op = 4) :
    Calls Try.prog 70 #[.agg #[.int .i64 op, .int .i64 d, .int .i64 a, .int .i64 b, .int .i64 m]] w fun e w' => e = .returned (.agg #[.int .i64 op, .int .i64 d, .int .i64 a, .int .i64 0, .int .i64 0]) ∧ Below w.heap.size w w' := by
  have e0 : hasOf (setOf 4) 0 = true := rfl
  have e1 : hasOf (setOf 4) 1 = true := rfl
  have e2 : hasOf (setOf 4) 2 = false := rfl
  have e3 : hasOf (setOf 4) 3 = false := rfl
  have i0 := idx4_0 (.pointer (some ⟨w.heap.size, 1, none⟩)) (.pointer (some ⟨w.heap.size, 2, none⟩)) (.pointer (some ⟨w.heap.size, 3, none⟩)) (.pointer (some ⟨w.heap.size, 4, none⟩))
  have i1 := idx4_1 (.pointer (some ⟨w.heap.size, 1, none⟩)) (.pointer (some ⟨w.heap.size, 2, none⟩)) (.pointer (some ⟨w.heap.size, 3, none⟩)) (.pointer (some ⟨w.heap.size, 4, none⟩))
  have i2 := idx4_2 (.pointer (some ⟨w.heap.size, 1, none⟩)) (.pointer (some ⟨w.heap.size, 2, none⟩)) (.pointer (some ⟨w.heap.size, 3, none⟩)) (.pointer (some ⟨w.heap.size, 4, none⟩))
  have i3 := idx4_3 (.pointer (some ⟨w.heap.size, 1, none⟩)) (.pointer (some ⟨w.heap.size, 2, none⟩)) (.pointer (some ⟨w.heap.size, 3, none⟩)) (.pointer (some ⟨w.heap.size, 4, none⟩))
  go_enter Try.func70, Try.ntmps70
  go_wp2_with (first | (go_at_call 76; refine (form_any _ _).mono ?_; rw [hf]; rintro e w' ⟨rfl, rfl⟩) | (go_at_call 75; refine (names_any _ _).mono ?_; rintro e w' ⟨rfl, rfl⟩) | (go_at_call 77; refine (numbers_any _ _).mono ?_; rintro e w' ⟨rfl, rfl⟩))
  refine wp_loop_rounds 5 ?_
  iterate 4
    rw [rounds_succ]
    go_wp2_with (go_at_call 78; refine (has_any _ _ _ (by omega) (by omega)).mono ?_; rintro e w' ⟨rfl, rfl⟩)
  rw [rounds_succ]
  go_wp2
  refine bodyPost_ret (v := .agg #[.int .i64 op, .int .i64 d, .int .i64 a, .int .i64 0, .int .i64 0]) (by simp [results, Try.results70, go_sem]) rfl ⟨rfl, ?_⟩
  exact ((((Below.refl _ _).alloc (Nat.le_refl _) _).alloc (by simp) _).alloc (by simp; omega) _).drew

set_option maxHeartbeats 400000 in
set_option maxRecDepth 100000 in
theorem only_5 (op d a b m : Int) (w : World) (hf : formOf op = 5) :
    Calls Try.prog 70 #[.agg #[.int .i64 op, .int .i64 d, .int .i64 a, .int .i64 b, .int .i64 m]] w fun e w' => e = .returned (.agg #[.int .i64 op, .int .i64 d, .int .i64 a, .int .i64 b, .int .i64 0]) ∧ Below w.heap.size w w' := by
  have e0 : hasOf (setOf 5) 0 = true := rfl
  have e1 : hasOf (setOf 5) 1 = true := rfl
  have e2 : hasOf (setOf 5) 2 = true := rfl
  have e3 : hasOf (setOf 5) 3 = false := rfl
  have i0 := idx4_0 (.pointer (some ⟨w.heap.size, 1, none⟩)) (.pointer (some ⟨w.heap.size, 2, none⟩)) (.pointer (some ⟨w.heap.size, 3, none⟩)) (.pointer (some ⟨w.heap.size, 4, none⟩))
  have i1 := idx4_1 (.pointer (some ⟨w.heap.size, 1, none⟩)) (.pointer (some ⟨w.heap.size, 2, none⟩)) (.pointer (some ⟨w.heap.size, 3, none⟩)) (.pointer (some ⟨w.heap.size, 4, none⟩))
  have i2 := idx4_2 (.pointer (some ⟨w.heap.size, 1, none⟩)) (.pointer (some ⟨w.heap.size, 2, none⟩)) (.pointer (some ⟨w.heap.size, 3, none⟩)) (.pointer (some ⟨w.heap.size, 4, none⟩))
  have i3 := idx4_3 (.pointer (some ⟨w.heap.size, 1, none⟩)) (.pointer (some ⟨w.heap.size, 2, none⟩)) (.pointer (some ⟨w.heap.size, 3, none⟩)) (.pointer (some ⟨w.heap.size, 4, none⟩))
  go_enter Try.func70, Try.ntmps70
  go_wp2_with (first | (go_at_call 76; refine (form_any _ _).mono ?_; rw [hf]; rintro e w' ⟨rfl, rfl⟩) | (go_at_call 75; refine (names_any _ _).mono ?_; rintro e w' ⟨rfl, rfl⟩) | (go_at_call 77; refine (numbers_any _ _).mono ?_; rintro e w' ⟨rfl, rfl⟩))
  refine wp_loop_rounds 5 ?_
  iterate 4
    rw [rounds_succ]
    go_wp2_with (go_at_call 78; refine (has_any _ _ _ (by omega) (by omega)).mono ?_; rintro e w' ⟨rfl, rfl⟩)
  rw [rounds_succ]
  go_wp2
  refine bodyPost_ret (v := .agg #[.int .i64 op, .int .i64 d, .int .i64 a, .int .i64 b, .int .i64 0]) (by simp [results, Try.results70, go_sem]) rfl ⟨rfl, ?_⟩
  exact ((((Below.refl _ _).alloc (Nat.le_refl _) _).alloc (by simp) _).alloc (by simp; omega) _).drew

set_option maxHeartbeats 400000 in
set_option maxRecDepth 100000 in
theorem only_6 (op d a b m : Int) (w : World) (hf : formOf op = 6) :
    Calls Try.prog 70 #[.agg #[.int .i64 op, .int .i64 d, .int .i64 a, .int .i64 b, .int .i64 m]] w fun e w' => e = .returned (.agg #[.int .i64 op, .int .i64 d, .int .i64 a, .int .i64 0, .int .i64 m]) ∧ Below w.heap.size w w' := by
  have e0 : hasOf (setOf 6) 0 = true := rfl
  have e1 : hasOf (setOf 6) 1 = true := rfl
  have e2 : hasOf (setOf 6) 2 = false := rfl
  have e3 : hasOf (setOf 6) 3 = true := rfl
  have i0 := idx4_0 (.pointer (some ⟨w.heap.size, 1, none⟩)) (.pointer (some ⟨w.heap.size, 2, none⟩)) (.pointer (some ⟨w.heap.size, 3, none⟩)) (.pointer (some ⟨w.heap.size, 4, none⟩))
  have i1 := idx4_1 (.pointer (some ⟨w.heap.size, 1, none⟩)) (.pointer (some ⟨w.heap.size, 2, none⟩)) (.pointer (some ⟨w.heap.size, 3, none⟩)) (.pointer (some ⟨w.heap.size, 4, none⟩))
  have i2 := idx4_2 (.pointer (some ⟨w.heap.size, 1, none⟩)) (.pointer (some ⟨w.heap.size, 2, none⟩)) (.pointer (some ⟨w.heap.size, 3, none⟩)) (.pointer (some ⟨w.heap.size, 4, none⟩))
  have i3 := idx4_3 (.pointer (some ⟨w.heap.size, 1, none⟩)) (.pointer (some ⟨w.heap.size, 2, none⟩)) (.pointer (some ⟨w.heap.size, 3, none⟩)) (.pointer (some ⟨w.heap.size, 4, none⟩))
  go_enter Try.func70, Try.ntmps70
  go_wp2_with (first | (go_at_call 76; refine (form_any _ _).mono ?_; rw [hf]; rintro e w' ⟨rfl, rfl⟩) | (go_at_call 75; refine (names_any _ _).mono ?_; rintro e w' ⟨rfl, rfl⟩) | (go_at_call 77; refine (numbers_any _ _).mono ?_; rintro e w' ⟨rfl, rfl⟩))
  refine wp_loop_rounds 5 ?_
  iterate 4
    rw [rounds_succ]
    go_wp2_with (go_at_call 78; refine (has_any _ _ _ (by omega) (by omega)).mono ?_; rintro e w' ⟨rfl, rfl⟩)
  rw [rounds_succ]
  go_wp2
  refine bodyPost_ret (v := .agg #[.int .i64 op, .int .i64 d, .int .i64 a, .int .i64 0, .int .i64 m]) (by simp [results, Try.results70, go_sem]) rfl ⟨rfl, ?_⟩
  exact ((((Below.refl _ _).alloc (Nat.le_refl _) _).alloc (by simp) _).alloc (by simp; omega) _).drew

theorem only_any (op d a b m : Int) (w : World) :
    Calls Try.prog 70 #[.agg #[.int .i64 op, .int .i64 d, .int .i64 a, .int .i64 b, .int .i64 m]] w fun e w' =>
      e = .returned (.agg #[.int .i64 op, .int .i64 (keepIf (nmD (formOf op)) d), .int .i64 (keepIf (nmA (formOf op)) a), .int .i64 (keepIf (nmB (formOf op)) b), .int .i64 (keepIf (nmM (formOf op)) m)]) ∧ Below w.heap.size w w' := by
  rcases form_range op with hf | hf | hf | hf | hf | hf | hf
  · rw [hf]; exact only_0 op d a b m w hf
  · rw [hf]; exact only_1 op d a b m w hf
  · rw [hf]; exact only_2 op d a b m w hf
  · rw [hf]; exact only_3 op d a b m w hf
  · rw [hf]; exact only_4 op d a b m w hf
  · rw [hf]; exact only_5 op d a b m w hf
  · rw [hf]; exact only_6 op d a b m w hf

end Go.Proofs.Ytknepljmbpdpkaa
