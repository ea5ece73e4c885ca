/- Next: a state whose cells lie behind one name. -/
import Derived.Test.YtknepljmbpdpkaaCpN
import Derived.Great.BuildSlice
import Derived.Laws.CopyOwn
namespace Go.Proofs.Ytknepljmbpdpkaa
open Go.RowKit

def stA (s : St8) : Array Value := (stL s).toArray
theorem stA_size (s : St8) : (stA s).size = 17 := rfl
theorem stA_pc (s : St8) : (stA s)[16]? = some (.int .u32 s.pc) := rfl
theorem stA_set (s : St8) (v : Int) : (stA s).setIfInBounds 16 (.int .u32 v) = stA { s with pc := v } := rfl
theorem stA_one (s : St8) : (stA s).all (·.oneCell') = true := by unfold stA stL; simp [Value.oneCell']
theorem stA_pc' (s : St8) (h : 16 < (stA s).size) : (stA s)[16] = .int .u32 s.pc := rfl
theorem Try.uState : Try.prog.underlying 28 = some (.struct (Try.prog.fieldsOf 28)) := by kernel_rfl
theorem Try.stSize : (Try.prog.info? 28).map (·.size) = some 17 := by kernel_rfl
theorem Try.fPc (s : St8) (w : World) : (Instr.field 28 (.agg (stA s)) 1).run Try.prog w = .ok (.int .u32 s.pc) w := by kernel_rfl
theorem heap_alloc_new1 (w : World) (o o' : Obj) : ((w.alloc o).alloc o').heap[w.heap.size + 1]? = some o' := by
  have := heap_alloc_new (w.alloc o) o'
  rwa [World.size_alloc] at this
theorem range_row {w : World} {g : Nat} {A : Array Value} {t : TypeId} {fz : Nat × Nat} {l : List Value} (h : w.heap[g]? = some (.cells A t fz)) (hl : ∀ (j : Nat) (v : Value), l[j]? = some v → A[j]? = some v) : w.rangeAt g 0 l := by
  intro j v hj
  rw [Nat.zero_add, cell_of_row _ _ _ _ _ _ h]
  exact hl j v hj
theorem wpList_load_st {ops : Array Oper} {rest : List Oper} {op : Oper} {a : Act} {w : World} {Q : Exit → Act → World → Prop} (hgd : op.guard = none) (x : Operand) (ho : op.op = .load 28 x)
    (b : Nat) (hx : a.eval x = .pointer (some ⟨b, 0, none⟩)) (s : St8) (hc : w.rangeAt b 0 (stL s))
    (h : wpList Try.prog ops Q rest (a.put op.dst (.agg (stA s))) w) : wpList Try.prog ops Q (op :: rest) a w :=
  wpList_load_mid hgd 28 x ho b 0 hx (stL s) _ hc Try.uState rfl Try.stSize h
theorem st_new (w : World) (s : St8) (t : TypeId) (o : Obj) : ((w.alloc (.cells (stA s) t)).alloc o).rangeAt w.heap.size 0 (stL s) :=
  range_row ((Below.heap_alloc _ o _ (by simp)).trans (heap_alloc_new w _)) (fun j v h => by unfold stA; simpa using h)
set_option maxHeartbeats 1000000 in
set_option maxRecDepth 100000 in
theorem next8 (s : St8) (h : St8Ok s) (w : World) : Calls Try.prog 25 #[.agg (stA s)] w fun e w' => e = .returned (.agg (stA { s with pc := m32 (s.pc + 4) })) ∧ Below w.heap.size w w' := by
  have p0 := h.p0
  have p1 := h.p1
  have q0 := stA_size s
  have q1 := stA_pc' s
  have q2 := stA_set s
  clear h
  go_enter Try.func25, Try.ntmps25
  go_wp2_with (first
    | (refine wpList_load_st rfl _ rfl w.heap.size rfl _ (st_new w _ _ _) ?_)
    | (refine wpList_store_rowTo rfl 28 _ _ rfl rfl (w.heap.size + 1) _ rfl rfl 28 _ (heap_alloc_new1 w _ _) Try.stSize rfl (stA_one _) ?_))
  exact bodyPost_ret (v := .agg (stA { s with pc := m32 (s.pc + 4) })) (results_cell_row rfl _ _ (w.heap.size + 1) 28 _ (0, 0) _ rfl (setRow_heap _ _ _ _ _ _ (heap_alloc_new1 w _ _)) Try.uState rfl Try.stSize) rfl ⟨rfl, below_setRow (Bl.alloc (Bl.alloc (Below.refl _ _) _) _) (by omega) _⟩
theorem core_range {w : World} {C : Nat} {s : St8} {F mp : Nat} (h : CoreAt w C s F mp) : w.rangeAt C 0 (stL s) :=
  range_row h.row (fun j v hj => by
    have hlt : j < 17 := (List.getElem?_eq_some_iff.1 hj).1
    have : coreL s F mp = stL s ++ [ifV F, .map (some mp)] := rfl
    rw [this, List.getElem?_toArray, List.getElem?_append_left (by exact hlt)]
    exact hj)
end Go.Proofs.Ytknepljmbpdpkaa
