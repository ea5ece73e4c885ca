/- What PortsNil needs: a packet of zeros, nine empty tests, the ports on its way. -/
import Derived.Test.YtakpankipagndaaPoN
import Derived.Test.YtakpankipagndaaPoY6
import Derived.Lib.AppendZeros
import Derived.Laws.MakeOwn
namespace Go.Proofs.Ytakpankipagndaa
open Go.RowKit (wrap64)
open Go.RowKit
open Go.Maps (Keyed)
attribute [local go_sem] Oper.semAt_some

/-- append([]byte{x}, make([]byte, n)...). -/
theorem run_append_zeros12 (w : World) (g : Nat) (x : Int) (hc : w.cell? ⟨g, 0, none⟩ = some (.int .u8 x)) (n : Nat) (h2 : 2 ≤ n) (hn2 : n ≤ 1000) (ty : TypeId) :
    (Builtin.append_ #[32, 3] ty #[.slice (some ⟨g, 0, none⟩) 1 1, .int .i64 (n : Int)]).run Try.prog w =
      .ok (.slice (some ⟨w.heap.size, 0, none⟩) (1 + n) (grownCap w (1 + n) 1 5)) (w.drew.alloc (.cells (#[.int .u8 x] ++ Builtin.zeroCells #[.int .u8 0] n ++ Builtin.zeroCells #[.int .u8 0] (grownCap w (1 + n) 1 5 - (1 + n))) 5)) := by
  obtain ⟨i, hi, hz, hs, hb⟩ := info_parts Try.inU8t
  have ht := Try.underlying32
  have htn := Try.underlying3
  have hw : IntKind.i64.wrap (n : Int) = n := by rw [IntKind.wrap_i64]; omega
  have h63 : ¬ (9223372036854775807 < (1 : Int) + (n : Int)) := by omega
  have hf48 := growslice_fits (need := 1 + n) (old := 1) (bytes := 1) (by omega) (by omega)
  have h48 : ¬ (281474976710656 < Builtin.nextslicecap (1 + n) 1) := by omega
  have h48i : ¬ (281474976710656 < (n : Int)) := by omega
  have hneg : ¬ ((n : Int) < 0) := by omega
  have hn0 : ¬ n = 0 := by omega
  have hle : ¬ (1 + n ≤ 1) := by omega
  have hfo := run_firstCells_some (P := Try.prog) w.drew 1 1 ⟨g, 0, none⟩ 1 1 [.int .u8 x] rfl (fun j v hv => by
    match j, hv with
    | 0, hv => cases hv; exact hc)
  simp [Builtin.append_, run_underlying ht, run_underlying htn, sizeOf, typeInfo, zeroValue, hi, hz, hs, hb, asInt, asIntOf, hw, hneg, hn0, hle, h63, h48, h48i, Question.forced, hfo, newRow, grownCap, Value.cells]
theorem zeroCells_at (n k : Nat) (hk : k < n) : (Builtin.zeroCells #[Value.int .u8 0] n)[k]? = some (.int .u8 0) := by
  have h1 : k % 1 = 0 := Nat.mod_one k
  simp [Builtin.zeroCells, hk, h1]
theorem zeroCells_size (n : Nat) : (Builtin.zeroCells #[Value.int .u8 0] n).size = n := by simp [Builtin.zeroCells]
/-- Such a packet. -/
theorem pk_zeros12 (w : World) (x n m : Nat) (hx : x < 256) (c : Nat) : PkF (w.drew.alloc (.cells (#[.int .u8 (x : Int)] ++ Builtin.zeroCells #[.int .u8 0] n ++ Builtin.zeroCells #[.int .u8 0] m) 5)) (some ⟨w.heap.size, 0, none⟩) (1 + n) c (x :: List.replicate n 0) := by
  refine ⟨by simp; omega, (fun e => by cases e), fun i y hy => ?_⟩
  have hrow := heap_alloc_new w.drew (.cells (#[.int .u8 (x : Int)] ++ Builtin.zeroCells #[.int .u8 0] n ++ Builtin.zeroCells #[.int .u8 0] m) 5)
  have hsz : w.drew.heap.size = w.heap.size := rfl
  rw [hsz] at hrow
  cases i with
  | zero =>
    simp at hy
    subst hy
    refine ⟨hx, w.heap.size, 0, rfl, by rw [World.size_alloc]; exact Nat.lt_succ_self _, ?_⟩
    rw [cell_of_row _ _ _ _ _ _ hrow, Array.getElem?_append_left (by simp; omega), Array.getElem?_append_left (by simp)]
    rfl
  | succ i =>
    have hin : i < n := by
      have := (List.getElem?_eq_some_iff.1 hy).1
      simp at this
      exact this
    have hy0 : y = 0 := by
      simp [List.getElem?_replicate, hin] at hy
      exact hy.symm
    subst hy0
    refine ⟨by decide, w.heap.size, 0, rfl, by rw [World.size_alloc]; exact Nat.lt_succ_self _, ?_⟩
    rw [cell_of_row _ _ _ _ _ _ hrow, Nat.zero_add]
    have h2 := zeroCells_at n i hin
    have h3 := zeroCells_size n
    rw [Array.getElem?_append_left (by simp [h3]; omega), Array.getElem?_append_right (by simp)]
    simpa using h2
def z9 : List Ts := List.replicate 9 ⟨0, 0, 0⟩
theorem made_tests12 (w : World) : (Instr.makeSlice 31 (.int .i64 9) (.int .i64 9)).run Try.prog w = .ok (.slice (some ⟨w.heap.size, 0, none⟩) 9 9) (w.alloc (.cells (madeCells #[.int .i64 0, .int .i64 0, .int .i64 0] 27) 74)) := by
  obtain ⟨i, hi, hz, hs, hb⟩ := info_parts Try.inTest
  have := run_makeSlice (P := Try.prog) (w := w) 31 74 i _ Try.underlying31 hi hz .i64 .i64 9 9 (by decide) (by decide) (by rw [hs]; decide) (by rw [hb]; decide) (by decide)
  rw [hs] at this
  exact this
theorem fl_made12 (w : World) : FlIn (w.alloc (.cells (madeCells #[.int .i64 0, .int .i64 0, .int .i64 0] 27) 74)) (some ⟨w.heap.size, 0, none⟩) 9 9 z9 := by
  refine ⟨rfl, (fun e => by cases e), fun i t ht => ?_⟩
  have hrow := heap_alloc_new w (.cells (madeCells #[.int .i64 0, .int .i64 0, .int .i64 0] 27) 74)
  have hi : i < 9 := (List.getElem?_eq_some_iff.1 ht).1
  have ht0 : t = ⟨0, 0, 0⟩ := by
    unfold z9 at ht
    simp only [List.getElem?_replicate, hi, if_true, Option.some.injEq] at ht
    exact ht.symm
  subst ht0
  refine ⟨w.heap.size, 0, rfl, by rw [World.size_alloc]; exact Nat.lt_succ_self _, ?_, ?_, ?_⟩ <;>
  · rw [cell_of_row _ _ _ _ _ _ hrow]
    rcases (show i = 0 ∨ i = 1 ∨ i = 2 ∨ i = 3 ∨ i = 4 ∨ i = 5 ∨ i = 6 ∨ i = 7 ∨ i = 8 by omega) with rfl | rfl | rfl | rfl | rfl | rfl | rfl | rfl | rfl <;> kernel_rfl

/-! ### The ports on the way -/
def m0 : Ps := newPs [2, 2, 2, 2, 2, 2, 2, 2]
def m1 : Ps := (claimR m0 7 []).2.2
def m2 : Ps := (comeR m1 (7 :: List.replicate 63 0)).2.1
theorem mq0 : newQ [2, 2, 2, 2, 2, 2, 2, 2] = true := by decide +kernel
theorem mq1 : newQ [17] = false := by decide +kernel
theorem mq2 : newQ [1, 1, 1, 1, 1, 1, 1, 1, 1] = false := by decide +kernel
theorem mq3 : newQ [4611686018427387904, 4611686018427387904, 4611686018427387904, 4611686018427387904] = false := by decide +kernel
theorem mc1 : (claimR m0 7 []).1 = 0 ∧ (claimR m0 7 []).2.1 = 0 ∧ m0.m < 1000000 := by decide +kernel
theorem md1 : (comeR m1 (7 :: List.replicate 63 0)).1 = 0 ∧ (comeR m1 (7 :: List.replicate 63 0)).2.2 = [(0, false)] := by decide +kernel
theorem md2 (s : Ps) : comeR s (7 :: List.replicate 64 0) = (3, s, []) := if_pos (by decide)
theorem mm2 : m2.m < 1000000 := by decide +kernel
theorem mayF9 : mayF z9 = false := by decide +kernel
theorem me1 (s : Ps) (a : Int) : claimR s a z9 = (0, 2, s) := by unfold claimR; rw [mayF9]; simp
def y0 : Ps := newPs [1]
def y1 : Ps := (claimR y0 0 []).2.2
def yX (n : Nat) : Cl := ⟨[], List.replicate (min n 8) [0], 0, if n < 9 then 0 else 1⟩
def yL (n : Nat) : Ps := y1.upd 0 0 (yX n)
theorem yq0 : newQ [1] = true := by decide +kernel
theorem yc1 : (claimR y0 0 []).1 = 0 ∧ (claimR y0 0 []).2.1 = 0 ∧ y0.m < 1000000 := by decide +kernel
theorem y1_at : y1.c 0 0 = some (yX 0) ∧ y1.q = [1] := ⟨by kernel_rfl, by kernel_rfl⟩
theorem yL_0 : yL 0 = y1 := upd_self y1_at.1
theorem yX_come (n : Nat) (h : n < 9) : (yX n).come [0] = yX (n + 1) := by
  rcases (show n = 0 ∨ n = 1 ∨ n = 2 ∨ n = 3 ∨ n = 4 ∨ n = 5 ∨ n = 6 ∨ n = 7 ∨ n = 8 by omega) with rfl | rfl | rfl | rfl | rfl | rfl | rfl | rfl | rfl <;> kernel_rfl
theorem yL_step (n : Nat) (h : n < 9) : (comeR (yL n) [0]).2.1 = yL (n + 1) := by
  have h1 : (yL n).c 0 0 = some (yX n) := Ps.upd_same _ _ _ _
  have hq : (yL n).quota 0 = 1 := by
    have : (yL n).q = [1] := y1_at.2
    unfold Ps.quota Ps.acc Ps.qt
    rw [this]
    rfl
  have ho : (yL n).openN 0 = [0] := by
    unfold Ps.openN Ps.opens
    rw [hq]
    show (List.filter _ [0]) = _
    rw [List.filter_cons_of_pos (by show ((yL n).c 0 0).isSome = true; rw [h1]; rfl)]
    rfl
  have hc : comeR (yL n) [0] = (0, (yL n).comeL 0 [0] ((yL n).openN 0)) := rfl
  rw [hc, ho]
  show ((yL n).come1 0 [0] 0).1 = _
  unfold Ps.come1
  show (match (yL n).c 0 0 with | some X => if matchL X.fl [0] then ((yL n).upd 0 0 (X.come [0]), [(0, decide (X.rg.length = 8))]) else (yL n, []) | none => (yL n, [])).1 = _
  rw [h1]
  show (if matchL [] [0] then _ else _ : Ps × List (Nat × Bool)).1 = _
  rw [if_pos (by decide +kernel)]
  show (yL n).upd 0 0 ((yX n).come [0]) = _
  rw [yX_come n h]
  exact upd_upd _ _ _ _ _
theorem yL_m (n : Nat) : (yL n).m < 1000000 := by show y1.m < 1000000; decide +kernel
theorem yL_only (n : Nat) (a k : Int) (X : Cl) (h : (yL n).c a k = some X) : a = 0 ∧ k = 0 := by
  by_cases e : a = 0 ∧ k = 0
  · exact e
  · rw [show (yL n).c a k = y1.c a k from Ps.upd_other _ _ _ _ e] at h
    have : y1.c a k = none := by
      have hh : y1 = y0.claimed 0 0 [] := by
        unfold y1 claimR
        rw [if_pos (by decide +kernel), show y0.free 0 = some 0 by decide +kernel]
        rfl
      rw [hh, Ps.cl_other _ _ _ _ e]
      rfl
    rw [this] at h
    cases h
theorem yL_at (n : Nat) : (yL n).c 0 0 = some (yX n) := Ps.upd_same _ _ _ _
theorem y_ends : (yL 9).lost 0 0 = 1 ∧ (yL 9).len 0 0 = 8 := by
  unfold Ps.lost Ps.len
  rw [yL_at 9]
  exact ⟨by kernel_rfl, by kernel_rfl⟩
end Go.Proofs.Ytakpankipagndaa
