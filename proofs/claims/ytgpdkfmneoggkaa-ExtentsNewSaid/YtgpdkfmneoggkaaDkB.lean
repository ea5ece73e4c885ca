/- The contracts of there, has, ask, Size, Writes, Pending, seen. -/
import Derived.Test.YtgpdkfmneoggkaaDkA
import Derived.WalkSpells
import Derived.IntWalk
import Derived.RegionTactic
import Derived.ChangeAlike
import Derived.Deep.RegionWith
import Derived.Deep.RegionLaw
namespace Go.Proofs.Ytgpdkfmneoggkaa
open Go.RowKit
open Go.Maps (Keyed)

/-- A disk that is none: nil, or a zero one. -/
def NoDk (w : World) (v : Value) : Prop := v = .pointer none ∨ ∃ d, v = .pointer (some ⟨d, 0, none⟩) ∧ w.cell? ⟨d, 0, none⟩ = some (.slice none 0 0)
theorem there_no9 {w : World} {v : Value} (h : NoDk w v) : Calls Try.prog 54 #[v] w fun e w' => e = .returned (.bool false) ∧ w = w' := by
  rcases h with rfl | ⟨d, rfl, hc⟩
  · go_enter Try.func54, Try.ntmps54
    go_wp2
    go_ret
    exact ⟨rfl, rfl⟩
  · go_enter Try.func54, Try.ntmps54
    go_wp2
    go_ret
    exact ⟨rfl, rfl⟩

section
variable {w : World} {O : Nat → Prop} {d : Nat} {L : Lay9} {s : Dk}
theorem there_any9 (h : DkAt w O d L s) : Calls Try.prog 54 #[.pointer (some ⟨d, 0, none⟩)] w fun e w' => e = .returned (.bool true) ∧ w = w' := by
  have c0 := h.c0
  have hn : 0 < s.fl.length := h.ok.n1
  clear h
  go_enter Try.func54, Try.ntmps54
  go_wp2
  go_ret
  exact ⟨rfl, rfl⟩
/-- Is there such a sector? -/
def Dk.has (s : Dk) (i : Int) : Bool := decide (0 ≤ i) && decide (i < (s.fl.length : Int))
theorem has_any9 (h : DkAt w O d L s) (i : Int) : Calls Try.prog 81 #[.pointer (some ⟨d, 0, none⟩), .int .i64 i] w fun e w' => e = .returned (.bool (s.has i)) ∧ w = w' := by
  have c0 := h.c0
  unfold Dk.has
  clear h
  by_cases h0 : 0 ≤ i
  · rw [decide_eq_true h0, Bool.true_and]
    go_enter Try.func81, Try.ntmps81
    go_wp2
    go_ret
    exact ⟨rfl, rfl⟩
  · rw [decide_eq_false h0, Bool.false_and]
    go_enter Try.func81, Try.ntmps81
    go_wp2
    go_ret
    exact ⟨rfl, rfl⟩
theorem ask_no9 {v : Value} (h : NoDk w v) (i : Int) : Calls Try.prog 75 #[v, .int .i64 i] w fun e w' => e = .returned (.int .i64 1) ∧ w = w' := by
  go_enter Try.func75, Try.ntmps75
  go_wp2_with (go_at_call 54; refine (there_no9 h).mono ?_; rintro e w' ⟨rfl, rfl⟩)
  go_ret
  exact ⟨rfl, rfl⟩
theorem ask_any9 (h : DkAt w O d L s) (i : Int) : Calls Try.prog 75 #[.pointer (some ⟨d, 0, none⟩), .int .i64 i] w fun e w' => e = .returned (.int .i64 (if s.has i then 0 else 2)) ∧ w = w' := by
  have H := Lib.hid h
  clear h
  cases hh : s.has i with
  | true =>
    go_enter Try.func75, Try.ntmps75
    go_wp2_with (first
      | (go_at_call 54; refine (there_any9 H.out).mono ?_; rintro e w' ⟨rfl, rfl⟩)
      | (go_at_call 81; refine (has_any9 H.out i).mono ?_; rintro e w' ⟨rfl, rfl⟩; rw [hh]))
    go_ret
    exact ⟨rfl, rfl⟩
  | false =>
    go_enter Try.func75, Try.ntmps75
    go_wp2_with (first
      | (go_at_call 54; refine (there_any9 H.out).mono ?_; rintro e w' ⟨rfl, rfl⟩)
      | (go_at_call 81; refine (has_any9 H.out i).mono ?_; rintro e w' ⟨rfl, rfl⟩; rw [hh]))
    go_ret
    exact ⟨rfl, rfl⟩
theorem size_no9 {v : Value} (h : NoDk w v) : Calls Try.prog 53 #[v] w fun e w' => e = .returned (.int .i64 0) ∧ w = w' := by
  go_enter Try.func53, Try.ntmps53
  go_wp2_with (go_at_call 54; refine (there_no9 h).mono ?_; rintro e w' ⟨rfl, rfl⟩)
  go_ret
  exact ⟨rfl, rfl⟩
theorem size_any9 (h : DkAt w O d L s) : Calls Try.prog 53 #[.pointer (some ⟨d, 0, none⟩)] w fun e w' => e = .returned (.int .i64 (s.fl.length : Int)) ∧ w = w' := by
  have H := Lib.hid h
  have c0 := h.c0
  clear h
  go_enter Try.func53, Try.ntmps53
  go_wp2_with (go_at_call 54; refine (there_any9 H.out).mono ?_; rintro e w' ⟨rfl, rfl⟩)
  go_ret
  exact ⟨rfl, rfl⟩
theorem pending_no9 {v : Value} (h : NoDk w v) (i : Int) : Calls Try.prog 29 #[v, .int .i64 i] w fun e w' => e = .returned (.int .i64 0) ∧ w = w' := by
  go_enter Try.func29, Try.ntmps29
  go_wp2_with (go_at_call 54; refine (there_no9 h).mono ?_; rintro e w' ⟨rfl, rfl⟩)
  go_ret
  exact ⟨rfl, rfl⟩
theorem pending_any9 (h : DkAt w O d L s) (i : Int) (hw : (Lit.int .i64 i).wf = true) : Calls Try.prog 29 #[.pointer (some ⟨d, 0, none⟩), .int .i64 i] w fun e w' => e = .returned (.int .i64 ((s.pd i).length : Int)) ∧ w = w' := by
  have H := Lib.hid h
  have c1 := h.c1
  have hl := h.look i hw
  obtain ⟨a, c, hv⟩ := h.form i
  rw [hv] at hl
  clear h hv
  go_enter Try.func29, Try.ntmps29
  go_wp2_with (go_at_call 54; refine (there_any9 H.out).mono ?_; rintro e w' ⟨rfl, rfl⟩)
  go_ret
  exact ⟨rfl, rfl⟩

theorem Try.uCont : Try.prog.underlying 108 = Try.prog.underlying 107 := by kernel_rfl
theorem Try.uCont' : (Try.prog.underlying 108).map TypeDesc.isRow = some true := by kernel_rfl
theorem Try.sCont : (Try.prog.info? 108).map (·.size) = some 128 := by kernel_rfl
theorem Try.zCont : (Try.prog.info? 108).map (fun i => (i.zero, i.size, i.bytes)) = some (some (.agg (secA zeroS)), 128, 128) := by kernel_rfl
theorem sCont (c : Sec) (h : SecOk c) : (Try.prog.info? 108).map (·.size) = some (secA c).size := by rw [secA_size h]; exact Try.sCont
theorem sContL (c : Sec) (h : SecOk c) : (Try.prog.info? 108).map (·.size) = some (secL c).length := by rw [secL_len h]; exact Try.sCont
theorem uCont_d : ∃ D, Try.prog.underlying 108 = some D ∧ D.isRow = true := by
  have := Try.uCont'
  cases h : Try.prog.underlying 108 with
  | none => rw [h] at this; cases this
  | some D => rw [h] at this; exact ⟨D, rfl, Option.some.inj this⟩
/-- A sector is loaded. -/
theorem wpList_load_sec {ops : Array Oper} {rest : List Oper} {op : Oper} {a : Act} {w : World} {Q : Exit → Act → World → Prop} (hgd : op.guard = none) (x : Operand) (ho : op.op = .load 108 x)
    (b o : Nat) (hx : a.eval x = .pointer (some ⟨b, o, none⟩)) (c : Sec) (hok : SecOk c) (hc : w.rangeAt b o (secL c))
    (h : wpList Try.prog ops Q rest (a.put op.dst (.agg (secA c))) w) : wpList Try.prog ops Q (op :: rest) a w := by
  obtain ⟨D, h1, h2⟩ := uCont_d
  exact wpList_load_mid hgd 108 x ho b o hx (secL c) D hc h1 h2 (sContL c hok) h
/-- A sector is stored, in a row of its own. -/
theorem wpList_store_sec {ops : Array Oper} {rest : List Oper} {o : Oper} {a : Act} {w : World} {Q : Exit → Act → World → Prop} (hgd : o.guard = none) (x y : Operand) (ho : o.op = .store 108 x y)
    (hd : o.dst = none) (g : Nat) (c : Sec) (hx : a.eval x = .pointer (some ⟨g, 0, none⟩)) (hy : a.eval y = .agg (secA c))
    (t : TypeId) (old : Array Value) (hg : w.heap[g]? = some (.cells old t (0, 0))) (hs : old.size = 128) (hok : SecOk c)
    (h : wpList Try.prog ops Q rest a (w.setRow g (secA c))) : wpList Try.prog ops Q (o :: rest) a w :=
  wpList_store_rowTo hgd 108 x y ho hd g (secA c) hx hy t old hg (sCont c hok) (by rw [hs, secA_size hok]) (secA_one c) h
theorem ret_sec {fn : Func} {p : Tmp} (h : fn.results = #[.cell p 108]) (tmps : Array Value) (w : World) (g : Nat) (t : TypeId) (c : Sec) (hok : SecOk c)
    (hp : tmps.getD p undef = .pointer (some ⟨g, 0, none⟩)) (hg : w.heap[g]? = some (.cells (secA c) t (0, 0))) : (results fn tmps).run Try.prog w = .ok (.agg (secA c)) w := by
  obtain ⟨D, h1, h2⟩ := uCont_d
  cases D <;> first
    | exact results_cell_row h tmps w g t (secA c) (0, 0) _ hp hg h1 rfl (sCont c hok)
    | cases h2
theorem Dk.seen_some {s : Dk} {i : Nat} (h : s.pd i ≠ []) : (s.pd i)[(s.pd i).length - 1]? = some (s.seen i) := by
  unfold Dk.seen
  rw [List.getLast?_eq_getElem?]
  have : (s.pd i).length - 1 < (s.pd i).length := by have := List.length_pos_iff.2 h; omega
  rw [List.getElem?_eq_getElem this]
  rfl
theorem Dk.seen_none {s : Dk} {i : Nat} (h : s.pd i = []) (hi : i < s.fl.length) : s.fl[i]? = some (s.seen i) := by
  unfold Dk.seen
  rw [h]
  simp [List.getElem?_eq_getElem hi]
theorem Dk.seen_ok {s : Dk} (h : DkOk s) {i : Nat} (hi : i < s.fl.length) : SecOk (s.seen i) := by
  by_cases hp : s.pd i = []
  · exact h.f _ (List.mem_of_getElem? (Dk.seen_none hp hi))
  · exact h.p i _ (List.mem_of_getElem? (Dk.seen_some hp))
set_option maxRecDepth 100000 in
set_option maxHeartbeats 1000000 in
theorem seen_any9 (h : DkAt w O d L s) (i : Nat) (hi : i < s.fl.length) :
    Calls Try.prog 78 #[.pointer (some ⟨d, 0, none⟩), .int .i64 i] w fun e w' => e = .returned (.agg (secA (s.seen i))) ∧ Below w.heap.size w w' := by
  have hn2 := h.ok.n2
  have hw : (Lit.int .i64 (i : Int)).wf = true := by
    rw [Lit.wf]
    simp
    exact ⟨by show (-9223372036854775808 : Int) ≤ _; omega, by show _ ≤ (9223372036854775807 : Int); omega⟩
  have H := Lib.hid h
  have H1 := fun o => Lib.hid (h.step (w' := w.alloc o) ((Below.refl _ w).alloc (Nat.le_refl _) _))
  have c0 := fun o => (H1 o).out.c0
  have c1 := fun o => (H1 o).out.c1
  have hl := fun o => (H1 o).out.look i hw
  have hok := Lib.hid (Dk.seen_ok h.ok hi)
  clear h
  by_cases hp : s.pd i = []
  · obtain ⟨a, c, hv⟩ := H.out.form i
    rw [hp] at hv
    have hv : L.V i = .slice a 0 c := hv
    rw [hv] at hl
    have HR := fun o => Lib.hid (row_range (H1 o).out.row H.out.ok.f (Dk.seen_none hp hi))
    clear hv
    go_enter Try.func78, Try.ntmps78
    go_wp2_with (first
      | (refine wpList_load_sec rfl _ rfl L.F (i * 128) rfl (s.seen i) hok.out (HR _).out ?_)
      | (refine wpList_store_sec rfl _ _ rfl rfl w.heap.size (s.seen i) rfl rfl 108 _ (heap_alloc_new w _) rfl hok.out ?_))
    exact bodyPost_ret (v := .agg (secA (s.seen i))) (ret_sec rfl _ _ w.heap.size 108 (s.seen i) hok.out rfl (setRow_heap _ _ _ _ _ _ (heap_alloc_new w _))) rfl ⟨rfl, below_setRow ((Below.refl _ w).alloc (Nat.le_refl _) _) (Nat.le_refl _) _⟩
  · obtain ⟨g, c, hv⟩ := H.out.form' i hp
    rw [hv] at hl
    have HR := fun o => Lib.hid (row_range (hv ▸ (H1 o).out.rows i) (H.out.ok.p i) (Dk.seen_some hp))
    have hpos : 0 < (s.pd i).length := List.length_pos_iff.2 hp
    have hpl := H.out.ok.pl i
    have hw1 := H.out.ok.w1
    have hsub : IntKind.i64.wrap (((s.pd i).length : Int) - 1) = (((s.pd i).length - 1 : Nat) : Int) := by rw [IntWalk.i64_in _ (by omega)]; omega
    generalize (s.pd i).length = n at *
    clear hv
    go_enter Try.func78, Try.ntmps78
    go_wp2_with (first
      | (refine wpList_load_sec rfl _ rfl g ((n - 1) * 128) rfl (s.seen i) hok.out (HR _).out ?_)
      | (refine wpList_store_sec rfl _ _ rfl rfl w.heap.size (s.seen i) rfl rfl 108 _ (heap_alloc_new w _) rfl hok.out ?_))
    exact bodyPost_ret (v := .agg (secA (s.seen i))) (ret_sec rfl _ _ w.heap.size 108 (s.seen i) hok.out rfl (setRow_heap _ _ _ _ _ _ (heap_alloc_new w _))) rfl ⟨rfl, below_setRow ((Below.refl _ w).alloc (Nat.le_refl _) _) (Nat.le_refl _) _⟩
end
end Go.Proofs.Ytgpdkfmneoggkaa
