/- Contracts of isa.may, Word and their kin: for every instruction. -/
import Derived.Test.YtknepljmbpdpkaaIsaA
import Derived.Deep.RegionHeld3
import Derived.Deep.QuietTactic
import Derived.BigQuiet
import Derived.WalkSmall
import Derived.Lib.Hide
namespace Go.Proofs.Ytknepljmbpdpkaa
open Go.RowKit

theorem five_below {n B : Nat} {W w1 : World} {v0 v1 v2 v3 v4 : Value} (hb : Below n W w1) (hB : B < n)
    (h : W.cell? ⟨B, 0, none⟩ = some v0 ∧ W.cell? ⟨B, 1, none⟩ = some v1 ∧ W.cell? ⟨B, 2, none⟩ = some v2 ∧ W.cell? ⟨B, 3, none⟩ = some v3 ∧ W.cell? ⟨B, 4, none⟩ = some v4) :
    w1.cell? ⟨B, 0, none⟩ = some v0 ∧ w1.cell? ⟨B, 1, none⟩ = some v1 ∧ w1.cell? ⟨B, 2, none⟩ = some v2 ∧ w1.cell? ⟨B, 3, none⟩ = some v3 ∧ w1.cell? ⟨B, 4, none⟩ = some v4 := by
  have hc := fun o => hb.cell (p := ⟨B, o, none⟩) hB
  simp only [hc]; exact h

theorem Try.eqg : Try.prog.eqGuardType Try.prog.depth 52 = false := by kernel_rfl
theorem Try.sih : Try.prog.stoodInHeld 52 = false := by kernel_rfl
theorem Try.fst : Try.prog.underlying 52 = some (.struct (Try.prog.fieldsOf 52)) := by kernel_rfl
/-- Are two instructions the same? -/
def insEq (op d a b m op' d' a' b' m' : Int) : Bool := op == op' && (d == d' && (a == a' && (b == b' && m == m')))

theorem part5 (v0 v1 v2 v3 v4 : Value) (w : World) :
    (part 50 #[v0, v1, v2, v3, v4] 0).run Try.prog w = .ok v0 w ∧ (part 3 #[v0, v1, v2, v3, v4] 1).run Try.prog w = .ok v1 w ∧ (part 3 #[v0, v1, v2, v3, v4] 2).run Try.prog w = .ok v2 w
    ∧ (part 3 #[v0, v1, v2, v3, v4] 3).run Try.prog w = .ok v3 w ∧ (part 3 #[v0, v1, v2, v3, v4] 4).run Try.prog w = .ok v4 w :=
  ⟨by kernel_rfl, by kernel_rfl, by kernel_rfl, by kernel_rfl, by kernel_rfl⟩

theorem ins_fields : (Try.prog.fieldsOf 52).toList = [{ name := "Op", type := 50, offset := 0, embedded := false, tag := "", pkgPath := "", byteOffset := 0 }, { name := "D", type := 3, offset := 1, embedded := false, tag := "", pkgPath := "", byteOffset := 8 }, { name := "A", type := 3, offset := 2, embedded := false, tag := "", pkgPath := "", byteOffset := 16 }, { name := "B", type := 3, offset := 3, embedded := false, tag := "", pkgPath := "", byteOffset := 24 }, { name := "Imm", type := 3, offset := 4, embedded := false, tag := "", pkgPath := "", byteOffset := 32 }] := by kernel_rfl

theorem equal_ins (op d a b m op' d' a' b' m' : Int) (w : World) :
    (Op.equalIn 10000 52 (.agg #[.int .i64 op, .int .i64 d, .int .i64 a, .int .i64 b, .int .i64 m]) (.agg #[.int .i64 op', .int .i64 d', .int .i64 a', .int .i64 b', .int .i64 m'])).run Try.prog w = .ok (insEq op d a b m op' d' a' b' m') w := by
  rw [run_equalIn_struct w 9999 52 _ _ Try.fst Try.sih]
  rw [ins_fields]
  have p1 := fun w => part5 (.int .i64 op) (.int .i64 d) (.int .i64 a) (.int .i64 b) (.int .i64 m) w
  have p2 := fun w => part5 (.int .i64 op') (.int .i64 d') (.int .i64 a') (.int .i64 b') (.int .i64 m') w
  have q0 := fun a b (w : World) => run_equalIn_int w 9998 50 .i64 .i64 a b Try.underlying50
  have q1 := fun a b (w : World) => run_equalIn_int w 9998 3 .i64 .i64 a b Try.underlying3
  unfold insEq
  simp only [Op.eqFields, Sem.run_bind, Sem.run_ite, Sem.run_pure, p1, p2, Result.andThen_ok, q0, q1]
  by_cases h0 : op = op' <;> by_cases h1 : d = d' <;> by_cases h2 : a = a' <;> by_cases h3 : b = b' <;> by_cases h4 : m = m' <;> simp [h0, h1, h2, h3, h4]

theorem neq_ins (op d a b m op' d' a' b' m' : Int) (w : World) :
    (binOp .neq 52 (.agg #[.int .i64 op, .int .i64 d, .int .i64 a, .int .i64 b, .int .i64 m]) (.agg #[.int .i64 op', .int .i64 d', .int .i64 a', .int .i64 b', .int .i64 m'])).run Try.prog w = .ok (.bool (!insEq op d a b m op' d' a' b' m')) w := by
  rw [run_neq_struct, equal_ins]; rfl
theorem eql_ins (op d a b m op' d' a' b' m' : Int) (w : World) :
    (binOp .eql 52 (.agg #[.int .i64 op, .int .i64 d, .int .i64 a, .int .i64 b, .int .i64 m]) (.agg #[.int .i64 op', .int .i64 d', .int .i64 a', .int .i64 b', .int .i64 m'])).run Try.prog w = .ok (.bool (insEq op d a b m op' d' a' b' m')) w := by
  rw [run_eql_struct, equal_ins]; rfl

set_option maxHeartbeats 400000 in
set_option maxRecDepth 100000 in
theorem may_no (op d a b m : Int) (w : World) (h : isOp op = false) :
    Calls Try.prog 69 #[.agg #[.int .i64 op, .int .i64 d, .int .i64 a, .int .i64 b, .int .i64 m]] w fun e w' => e = .returned (.bool false) ∧ Below w.heap.size w w' := by
  go_enter Try.func69, Try.ntmps69
  go_wp2_with fail
  go_quiet ((go_at_call 73; exact Calls.quiet_of_same ((known_any _ _).mono fun e w' h => ⟨h.1, h.2.symm⟩)))
  go_wp2
  go_ret
  exact ⟨rfl, below_drewN ((Below.refl _ _).alloc (Nat.le_refl _) _) _⟩

theorem may_neq' (D A B M : Bool) (d a b m lo hi : Int) (hq : (d == keepIf D d && (a == keepIf A a && (b == keepIf B b && m == keepIf M m))) = false) :
    (regOk D d && (regOk A a && (regOk B b && (decide (m = 0) || (M && decide (lo ≤ m ∧ m ≤ hi)))))) = false := by
  cases D <;> cases A <;> cases B <;> cases M <;> simp [keepIf, regOk] at hq ⊢ <;> grind
theorem may_eq' (D A B M : Bool) (d a b m lo hi : Int) (hl : lo ≤ 0) (hh : 0 ≤ hi) (hq : (d == keepIf D d && (a == keepIf A a && (b == keepIf B b && m == keepIf M m))) = true) :
    (regOk D d && (regOk A a && (regOk B b && (decide (m = 0) || (M && decide (lo ≤ m ∧ m ≤ hi)))))) = decide ((0 ≤ d ∧ d ≤ 15) ∧ (0 ≤ a ∧ a ≤ 15) ∧ (0 ≤ b ∧ b ≤ 15) ∧ lo ≤ m ∧ m ≤ hi) := by
  rw [Bool.eq_iff_iff]
  cases D <;> cases A <;> cases B <;> cases M <;> simp [keepIf, regOk] at hq ⊢ <;> omega
theorem bounds_0 (op : Int) : leastOf op ≤ 0 ∧ 0 ≤ mostOf op := by unfold leastOf mostOf; split <;> omega
theorem mayB_neq (op d a b m : Int) (hq : insEq op d a b m op (keepIf (nmD (formOf op)) d) (keepIf (nmA (formOf op)) a) (keepIf (nmB (formOf op)) b) (keepIf (nmM (formOf op)) m) = false) : mayB op d a b m = false := by
  unfold insEq at hq
  unfold mayB
  rw [may_neq' _ _ _ _ _ _ _ _ _ _ (by simpa using hq)]; simp
theorem mayB_eq (op d a b m : Int) (h : isOp op = true) (hq : insEq op d a b m op (keepIf (nmD (formOf op)) d) (keepIf (nmA (formOf op)) a) (keepIf (nmB (formOf op)) b) (keepIf (nmM (formOf op)) m) = true) :
    mayB op d a b m = decide ((0 ≤ d ∧ d ≤ 15) ∧ (0 ≤ a ∧ a ≤ 15) ∧ (0 ≤ b ∧ b ≤ 15) ∧ leastOf op ≤ m ∧ m ≤ mostOf op) := by
  unfold insEq at hq
  unfold mayB
  rw [may_eq' _ _ _ _ _ _ _ _ _ _ (bounds_0 op).1 (bounds_0 op).2 (by simpa using hq), h]; rfl

theorem idx3_0 (x0 x1 x2 : Value) (w : World) : (Instr.index 122 (.agg #[x0, x1, x2]) (.int .i64 0)).run Try.prog w = .ok x0 w := by kernel_rfl
theorem idx3_1 (x0 x1 x2 : Value) (w : World) : (Instr.index 122 (.agg #[x0, x1, x2]) (.int .i64 1)).run Try.prog w = .ok x1 w := by kernel_rfl
theorem idx3_2 (x0 x1 x2 : Value) (w : World) : (Instr.index 122 (.agg #[x0, x1, x2]) (.int .i64 2)).run Try.prog w = .ok x2 w := by kernel_rfl

set_option maxHeartbeats 400000 in
set_option maxRecDepth 100000 in
theorem may_yes (op d a b m : Int) (w : World) (h : isOp op = true) :
    Calls Try.prog 69 #[.agg #[.int .i64 op, .int .i64 d, .int .i64 a, .int .i64 b, .int .i64 m]] w fun e w' => e = .returned (.bool (mayB op d a b m)) ∧ Below w.heap.size w w' := by
  have hne := neq_ins
  have heg := Try.eqg
  go_enter Try.func69, Try.ntmps69
  go_wp2_with fail
  go_region_held3 (fun W => W.cell? ⟨w.heap.size, 0, none⟩ = some (.int .i64 op) ∧ W.cell? ⟨w.heap.size, 1, none⟩ = some (.int .i64 d) ∧ W.cell? ⟨w.heap.size, 2, none⟩ = some (.int .i64 a) ∧ W.cell? ⟨w.heap.size, 3, none⟩ = some (.int .i64 b) ∧ W.cell? ⟨w.heap.size, 4, none⟩ = some (.int .i64 m))
    (first | go_keep | (exact five_below hb1 (by simp) (by simp)))
    (first | (go_at_call 73; refine (known_any _ _).mono ?_; rintro e w' ⟨rfl, rfl⟩) | (go_at_call 70; refine (only_any _ _ _ _ _ _).mono ?_; rintro e w1 ⟨rfl, hb1⟩))
  have hB1 : Below w.heap.size w w1 := ((((Below.refl _ _).alloc (Nat.le_refl _) _).drew).trans (hb1.mono (by simp)))
  obtain ⟨hc0, hc1, hc2, hc3, hc4⟩ := by assumption
  cases hq : insEq op d a b m op (keepIf (nmD (formOf op)) d) (keepIf (nmA (formOf op)) a) (keepIf (nmB (formOf op)) b) (keepIf (nmM (formOf op)) m)
  · have HQ := Lib.hid hq
    go_wp2
    go_ret
    exact ⟨ret_bool (mayB_neq op d a b m HQ.out).symm, hB1⟩
  · have HQ := Lib.hid hq
    have i0 := fun w => idx3_0 (.int .i64 d) (.int .i64 a) (.int .i64 b) w
    have i1 := fun w => idx3_1 (.int .i64 d) (.int .i64 a) (.int .i64 b) w
    have i2 := fun w => idx3_2 (.int .i64 d) (.int .i64 a) (.int .i64 b) w
    have hres := Lib.hid (mayB_eq op d a b m h hq)
    have hlo := (bounds_0 op).1
    go_wp2
    refine wp_loop_rounds 4 ?_
    rw [rounds_succ]
    by_cases hd : 0 ≤ d ∧ d ≤ 15
    · obtain ⟨hd0, hd1⟩ := hd
      go_wp2
      rw [rounds_succ]
      by_cases ha : 0 ≤ a ∧ a ≤ 15
      · obtain ⟨ha0, ha1⟩ := ha
        go_wp2
        rw [rounds_succ]
        by_cases hbb : 0 ≤ b ∧ b ≤ 15
        · obtain ⟨hbb0, hbb1⟩ := hbb
          go_wp2
          rw [rounds_succ]
          go_wp2_with (go_at_call 74; refine (bounds_any _ _).mono ?_; rintro e w' ⟨rfl, rfl⟩)
          all_goals
            go_ret
            exact ⟨ret_bool (by rw [hres.out, Bool.eq_iff_iff]; simp; omega), hB1⟩
        · go_wp2
          all_goals
            go_ret
            exact ⟨ret_bool (by rw [hres.out]; exact (decide_eq_false (by omega)).symm), hB1⟩
      · go_wp2
        all_goals
          go_ret
          exact ⟨ret_bool (by rw [hres.out]; exact (decide_eq_false (by omega)).symm), hB1⟩
    · go_wp2
      all_goals
        go_ret
        exact ⟨ret_bool (by rw [hres.out]; exact (decide_eq_false (by omega)).symm), hB1⟩

theorem may_any (op d a b m : Int) (w : World) :
    Calls Try.prog 69 #[.agg #[.int .i64 op, .int .i64 d, .int .i64 a, .int .i64 b, .int .i64 m]] w fun e w' => e = .returned (.bool (mayB op d a b m)) ∧ Below w.heap.size w w' := by
  cases h : isOp op
  · have hm : mayB op d a b m = false := by unfold mayB; rw [h]; rfl
    rw [hm]; exact may_no op d a b m w h
  · exact may_yes op d a b m w h
theorem may_is {op d a b m : Int} (h : mayB op d a b m = true) (w : World) :
    Calls Try.prog 69 #[.agg #[.int .i64 op, .int .i64 d, .int .i64 a, .int .i64 b, .int .i64 m]] w fun e w' => e = .returned (.bool true) ∧ Below w.heap.size w w' := by
  rw [← h]; exact may_any op d a b m w
theorem may_not {op d a b m : Int} (h : mayB op d a b m = false) (w : World) :
    Calls Try.prog 69 #[.agg #[.int .i64 op, .int .i64 d, .int .i64 a, .int .i64 b, .int .i64 m]] w fun e w' => e = .returned (.bool false) ∧ Below w.heap.size w w' := by
  rw [← h]; exact may_any op d a b m w

set_option maxHeartbeats 400000 in
set_option maxRecDepth 100000 in
theorem word_no (op d a b m : Int) (w : World) (h : mayB op d a b m = false) :
    Calls Try.prog 55 #[.agg #[.int .i64 op, .int .i64 d, .int .i64 a, .int .i64 b, .int .i64 m]] w fun e w' => e = .returned (.tuple #[.int .u32 0, .int .i64 2]) ∧ Below w.heap.size w w' := by
  have H := Lib.hid h
  clear h
  go_enter Try.func55, Try.ntmps55
  go_wp2_with (go_at_call 69; refine (may_not H.out _).mono ?_; rintro e w1 ⟨rfl, hb1⟩)
  go_ret2
  exact ⟨rfl, ((Below.refl _ _).alloc (Nat.le_refl _) _).trans (hb1.mono (by simp))⟩

set_option maxHeartbeats 400000 in
set_option maxRecDepth 100000 in
theorem word_yes (op d a b m : Int) (w : World) (h : mayB op d a b m = true) :
    Calls Try.prog 55 #[.agg #[.int .i64 op, .int .i64 d, .int .i64 a, .int .i64 b, .int .i64 m]] w fun e w' => e = .returned (.tuple #[.int .u32 (wordOf op d a b m), .int .i64 0]) ∧ Below w.heap.size w w' := by
  have H := Lib.hid h
  have hw := Lib.hid (word_bits h)
  clear h
  go_enter Try.func55, Try.ntmps55
  go_wp2_with (go_at_call 69; refine (may_is H.out _).mono ?_; rintro e w1 ⟨rfl, hb1⟩; obtain ⟨hc, hf⟩ := bcell hb1)
  refine bodyPost_ret (v := .tuple #[.int .u32 (wordOf op d a b m), .int .i64 0]) (by rw [hw.out]; simp [results, Try.results55, go_sem]) rfl ⟨rfl, ?_⟩
  exact ((Below.refl _ _).alloc (Nat.le_refl _) _).trans (hb1.mono (by simp))

/-! ### The document's answers -/
set_option maxHeartbeats 400000 in
set_option maxRecDepth 100000 in
theorem rmay_any (op d a b m : Int) (w : World) :
    Calls Try.prog 67 #[.agg #[.int .i64 op, .int .i64 d, .int .i64 a, .int .i64 b, .int .i64 m]] w fun e w' => e = .returned (.bool (mayB op d a b m)) ∧ Below w.heap.size w w' := by
  go_enter Try.func67, Try.ntmps67
  go_wp2_with (first | (go_at_call 66; refine (rform_any _ _).mono ?_; rintro e w' ⟨rfl, rfl⟩) | (go_at_call 65; refine (rnames_any _ _).mono ?_; rintro e w' ⟨rfl, rfl⟩) | (go_at_call 72; refine (register_any _ _ _).mono ?_; rintro e w' ⟨rfl, rfl⟩))
  all_goals
    go_ret
    refine ⟨ret_bool ?_, (Below.refl _ _).alloc (Nat.le_refl _) _⟩
    try simp only [beq_iff_eq, beq_eq_false_iff_ne, ne_eq, Bool.not_eq_true] at *
    first
      | (simp [mayB, isOp, leastOf, mostOf, *]; done)
      | (rw [Bool.eq_iff_iff]; simp [mayB, isOp, leastOf, mostOf, *]; done)
      | (rw [Bool.eq_iff_iff]; simp [mayB, isOp, leastOf, mostOf, *]; omega)


end Go.Proofs.Ytknepljmbpdpkaa
