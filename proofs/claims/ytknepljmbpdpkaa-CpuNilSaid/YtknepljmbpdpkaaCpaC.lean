/- Run, Load, Store of no memory; what the last programs do. -/
import Derived.Test.YtknepljmbpdpkaaCpaA
namespace Go.Proofs.Ytknepljmbpdpkaa
open Go.RowKit

theorem load_nil (x n r : Int) (w : World) : Calls Try.prog 18 #[.nilIface, .int .u32 x, .int .i64 n, .int .i64 r] w fun e w' => e = .returned (.tuple #[.slice none 0 0, .int .u32 0, .bool false]) ∧ w = w' := by
  go_enter Try.func18, Try.ntmps18
  go_wp2
  go_ret3
  exact ⟨rfl, rfl⟩
theorem store_nil (x : Int) (A : Option Addr) (n c : Nat) (w : World) : Calls Try.prog 20 #[.nilIface, .int .u32 x, .slice A n c] w fun e w' => e = .returned (.tuple #[.int .u32 0, .bool false]) ∧ w = w' := by
  go_enter Try.func20, Try.ntmps20
  go_wp2
  go_ret2
  exact ⟨rfl, rfl⟩
theorem rows_three (w : World) (o1 o2 o3 : Obj) : ((((w.alloc o1).alloc o2).alloc o3).heap[w.heap.size + 1]? = some o2) ∧ ((((w.alloc o1).alloc o2).alloc o3).heap[w.heap.size + 1 + 1]? = some o3) :=
  ⟨(Below.heap_alloc _ _ _ (by simp)).trans (heap_alloc_new1 w _ _), by have := heap_alloc_new1 (w.alloc o1) o2 o3; simpa using this⟩
set_option maxHeartbeats 2000000 in
set_option maxRecDepth 100000 in
theorem run_nil (s : St8) (n : Int) (w : World) :
    Calls Try.prog 12 #[.agg (stA s), .nilIface, .int .i64 n] w fun e w' => e = .returned (.tuple #[.agg (stA st0), stp8 0 0 0 0 0, .int .i64 1]) ∧ Below w.heap.size w w' := by
  go_enter Try.func12, Try.ntmps12
  go_wp2_with fail
  refine bodyPost_ret (v := .tuple #[.agg (stA st0), stp8 0 0 0 0 0, .int .i64 1]) (results_cct rfl _ _ (w.heap.size + 1) (w.heap.size + 1 + 1) (stA st0) #[.int .i64 0, .int .i64 0, .int .u32 0, .int .i64 0, .int .i64 0] _ _ _ _ _ rfl rfl rfl (rows_three w _ _ _).1 (rows_three w _ _ _).2 Try.uState rfl Try.stSize Try.uStop rfl Try.stopSize) rfl ⟨rfl, Bl.alloc (Bl.alloc (Bl.alloc (Below.refl _ _) _) _) _⟩
set_option maxHeartbeats 2000000 in
set_option maxRecDepth 100000 in
theorem run_bad (s : St8) (F : Nat) (n : Int) (hn : n = -1 ∨ n = 65537) (w : World) :
    Calls Try.prog 12 #[.agg (stA s), ifV F, .int .i64 n] w fun e w' => e = .returned (.tuple #[.agg (stA st0), stp8 0 0 0 0 0, .int .i64 2]) ∧ Below w.heap.size w w' := by
  unfold ifV
  rcases hn with rfl | rfl
  all_goals
    go_enter Try.func12, Try.ntmps12
    go_wp2_with fail
    refine bodyPost_ret (v := .tuple #[.agg (stA st0), stp8 0 0 0 0 0, .int .i64 2]) (results_cct rfl _ _ (w.heap.size + 1) (w.heap.size + 1 + 1) (stA st0) #[.int .i64 0, .int .i64 0, .int .u32 0, .int .i64 0, .int .i64 0] _ _ _ _ _ rfl rfl rfl (rows_three w _ _ _).1 (rows_three w _ _ _).2 Try.uState rfl Try.stSize Try.uStop rfl Try.stopSize) rfl ⟨rfl, Bl.alloc (Bl.alloc (Bl.alloc (Below.refl _ _) _) _) _⟩
def code4 : List Int := codeL (nth [28]) (nth [1]) (nth [2]) (nth [0]) (nth [3]) 1
def stU : St8 := ⟨nth [0, 2147483648, 5], 0⟩
def stW : St8 := ⟨nth [0, 5, 2147483648], 0⟩
theorem nth_01 (l : List Int) (h : ∀ v ∈ l, 0 ≤ v ∧ v < 4294967296) (i : Nat) : 0 ≤ nth l i ∧ nth l i < 4294967296 := by
  unfold nth
  rw [List.getD_eq_getElem?_getD]
  by_cases hi : i < l.length
  · rw [List.getElem?_eq_getElem hi]; exact h _ (List.getElem_mem hi)
  · rw [List.getElem?_eq_none (by omega)]; simp
theorem stU_ok : St8Ok stU := ⟨fun i => (nth_01 _ (by simp) i).1, fun i => (nth_01 _ (by simp) i).2, by decide, by decide⟩
theorem stW_ok : St8Ok stW := ⟨fun i => (nth_01 _ (by simp) i).1, fun i => (nth_01 _ (by simp) i).2, by decide, by decide⟩
theorem u1s : (runT 1 0 stU (memK code4)).2.2 = ⟨1, 0, 0, 0, 1⟩ := by kernel_rfl
theorem u1m : (runT 1 0 stU (memK code4)).2.1 = memK code4 := by kernel_rfl
theorem u1p : (runT 1 0 stU (memK code4)).1.pc = 4 := by kernel_rfl
theorem w1s : (runT 1 0 stW (memK code4)).2.2 = ⟨1, 0, 0, 0, 1⟩ := by kernel_rfl
theorem w1p : (runT 1 0 stW (memK code4)).1.pc = 12 := by kernel_rfl
theorem k4l : code4.length = 4 := by kernel_rfl
theorem ins_4 (w : World) (t : TypeId) : InsIn (w.alloc (.cells #[.int .i64 28, .int .i64 1, .int .i64 2, .int .i64 0, .int .i64 3] t)) (some ⟨w.heap.size, 0, none⟩) 1 (nth [28]) (nth [1]) (nth [2]) (nth [0]) (nth [3]) := fun _ => by
  refine ⟨w.heap.size, 0, rfl, by simp, fun j hj => ?_⟩
  have hc : ∀ i, (w.alloc (.cells #[.int .i64 28, .int .i64 1, .int .i64 2, .int .i64 0, .int .i64 3] t)).cell? ⟨w.heap.size, i, none⟩ = (#[.int .i64 28, .int .i64 1, .int .i64 2, .int .i64 0, .int .i64 3] : Array Value)[i]? := fun i => cell_of_row _ _ _ _ _ _ (heap_alloc_new w _)
  rcases (show j = 0 by omega) with rfl <;> exact ⟨hc _, hc _, hc _, hc _, hc _⟩
theorem seg1_below {wa wb : World} {o1 : Obj} (hb : Turned (wa.alloc o1) wb [wa.heap.size]) : Below wa.heap.size wa wb :=
  ((Turned.of_below [wa.heap.size] (Bl.alloc (Below.refl wa.heap.size wa) o1)).trans hb).below (Nat.le_refl _) (by simp)
end Go.Proofs.Ytknepljmbpdpkaa
