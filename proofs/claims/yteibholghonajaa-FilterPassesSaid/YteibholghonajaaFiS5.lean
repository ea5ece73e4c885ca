/- FilterPasses: more tests or packets than the law looks at. -/
import Derived.Test.YteibholghonajaaFiS4
namespace Go.Proofs.Yteibholghonajaa
open Go.RowKit
attribute [local go_sem] Oper.semAt_some

theorem three_cells {w W0 : World} {B : Option Addr} {m d : Nat} {lv : Int} (hW : W0 = ((w.alloc (Obj.cells #[.slice B m d] 45)).alloc (Obj.cells #[.int .i64 lv] 3)).alloc (Obj.cells #[.bool false] 4)) :
    Below w.heap.size w W0 ∧ W0.heap[w.heap.size + 1 + 1]? = some (Obj.cells #[.bool false] 4 (0, 0)) := by
  refine ⟨by rw [hW]; exact (((Below.refl _ w).alloc (Nat.le_refl _) _).alloc (by simp) _).alloc (by simp; omega) _, ?_⟩
  have := heap_alloc_new ((w.alloc (Obj.cells #[.slice B m d] 45)).alloc (Obj.cells #[.int .i64 lv] 3)) (Obj.cells #[.bool false] 4)
  simp only [World.size_alloc] at this
  rw [hW]
  exact this
set_option maxHeartbeats 4000000 in
set_option maxRecDepth 100000 in
theorem passes_big {w : World} {A B : Option Addr} {n0 c m d : Nat} (lv : Int) (hb : 40 < n0 ∨ (¬ 40 < n0 ∧ 40 < m)) :
    Calls Try.prog 7 #[.slice A n0 c, .slice B m d, .int .i64 lv] w fun e w' => e = .returned (.bool true) ∧ Below w.heap.size w w' := by
  rcases hb with hb | ⟨hb, hb'⟩
  · have hb1 : (40 : Int) < (n0 : Int) := by omega
    clear hb
    refine (callsIn_wide (n := 5)).1 ?_
    refine callsIn_of_wp_marks Try.func7 rfl trivial ?_ rfl
    simp only [Try.ntmps7, List.size_toArray, List.length_cons, List.length_nil, Nat.reduceAdd, Nat.reduceSub, Array.replicate_succ, Array.replicate_zero, List.push_toArray, List.append_toArray, List.nil_append, List.cons_append]
    refine wpIn_wide.2 ?_
    go_wp2_with (go_at_call 8; (obtain ⟨W0, hW0⟩ : ∃ W, W = ((w.alloc (Obj.cells #[.slice B m d] 45)).alloc (Obj.cells #[.int .i64 lv] 3)).alloc (Obj.cells #[.bool false] 4) := ⟨_, rfl⟩); rw [← hW0]; obtain ⟨hB0, r6⟩ := three_cells hW0; clear hW0; refine (known_anyF _).mono ?_; rintro e w9 ⟨rfl, hb9⟩; have s6 := (hb9.block _ (Array.getElem?_eq_some_iff.1 r6).1).trans r6; have R6 := Lib.hid s6; have t6 := cell_of_row _ _ 0 _ _ _ s6; have f6 := frozen_of_row _ _ 0 _ _ s6; have l6 := (Array.getElem?_eq_some_iff.1 s6).1; have HB := Lib.hid (hB0.trans (hb9.mono hB0.size)); clear r6 s6 hb9 hB0)
    refine ⟨.bool true, ?_, rfl, HB.out.setCell (by show w.heap.size ≤ w.heap.size + 1 + 1; omega) _⟩
    have hc2 := cell_of_row _ _ 0 _ _ _ (heap_setCell_same _ _ 0 _ _ (.bool true) R6.out)
    simp [results, Try.f7, go_sem, hc2]
  · have hb1 : ¬ (40 : Int) < (n0 : Int) := by omega
    have hb2 : (40 : Int) < (m : Int) := by omega
    clear hb hb'
    refine (callsIn_wide (n := 5)).1 ?_
    refine callsIn_of_wp_marks Try.func7 rfl trivial ?_ rfl
    simp only [Try.ntmps7, List.size_toArray, List.length_cons, List.length_nil, Nat.reduceAdd, Nat.reduceSub, Array.replicate_succ, Array.replicate_zero, List.push_toArray, List.append_toArray, List.nil_append, List.cons_append]
    refine wpIn_wide.2 ?_
    go_wp2_with (go_at_call 8; (obtain ⟨W0, hW0⟩ : ∃ W, W = ((w.alloc (Obj.cells #[.slice B m d] 45)).alloc (Obj.cells #[.int .i64 lv] 3)).alloc (Obj.cells #[.bool false] 4) := ⟨_, rfl⟩); rw [← hW0]; obtain ⟨hB0, r6⟩ := three_cells hW0; clear hW0; refine (known_anyF _).mono ?_; rintro e w9 ⟨rfl, hb9⟩; have s6 := (hb9.block _ (Array.getElem?_eq_some_iff.1 r6).1).trans r6; have R6 := Lib.hid s6; have t6 := cell_of_row _ _ 0 _ _ _ s6; have f6 := frozen_of_row _ _ 0 _ _ s6; have l6 := (Array.getElem?_eq_some_iff.1 s6).1; have HB := Lib.hid (hB0.trans (hb9.mono hB0.size)); clear r6 s6 hb9 hB0)
    refine ⟨.bool true, ?_, rfl, HB.out.setCell (by show w.heap.size ≤ w.heap.size + 1 + 1; omega) _⟩
    have hc2 := cell_of_row _ _ 0 _ _ _ (heap_setCell_same _ _ 0 _ _ (.bool true) R6.out)
    simp [results, Try.f7, go_sem, hc2]
theorem passes_law {w : World} {A B : Option Addr} {n0 c m d : Nat} {L : List Ts} {Ps : List Pk} (lv : Int) (h : FlIn w A n0 c L) (hp : PsIn w B Ps) (hm : Ps.length = m) :
    Calls Try.prog 7 #[.slice A n0 c, .slice B m d, .int .i64 lv] w fun e w' => e = .returned (.bool true) ∧ Below w.heap.size w w' := by
  by_cases h1 : n0 ≤ 40
  · by_cases h2 : m ≤ 40
    · exact passes_ok lv h h1 hp hm h2
    · exact passes_big lv (.inr ⟨by omega, by omega⟩)
  · exact passes_big lv (.inl (by omega))
end Go.Proofs.Yteibholghonajaa
