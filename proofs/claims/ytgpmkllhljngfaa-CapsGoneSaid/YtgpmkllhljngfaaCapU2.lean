/- CapsGone: any steps. -/
import Derived.Test.YtgpmkllhljngfaaCapU
namespace Go.Proofs.Ytgpmkllhljngfaa
open Go.RowKit

set_option maxRecDepth 100000 in
theorem gone_long (w : World) (A : Option Addr) (n c : Nat) (id : Int) (itself : Bool) (hn : 60 < n) (hn2 : (n : Int) ≤ 9223372036854775807) :
    Calls Try.prog 6 #[.slice A n c, .int .i64 id, .bool itself] w fun e w' => e = .returned (.bool true) ∧ Below w.heap.size w w' := by
  have h60 : (60 : Int) < n := by omega
  clear hn
  go_enter Try.func6, Try.ntmps6
  go_wp2_with fail
  refine (known_any _).mono ?_
  rintro e w5 ⟨rfl, hb5⟩
  have B5 := Lib.hid ((((Below.refl _ w).alloc (Nat.le_refl _) (.cells #[.int .i64 id] 2)).alloc (by simp) (.cells #[.bool false] 4)).trans (hb5.mono (by simp; omega)))
  have r5 := (hb5.block (w.heap.size + 1) (by simp)).trans (heap_at _ _ _ (by simp))
  have R5 := Lib.hid r5
  have c5 : w5.cell? ⟨w.heap.size + 1, 0, none⟩ = some (.bool false) := by rw [cell_of_row _ _ _ _ _ _ r5]; rfl
  have f5 : w5.frozen? ⟨w.heap.size + 1, 0, none⟩ = false := by simp [World.frozen?, r5]
  clear hb5 r5
  go_wp2_with fail
  have hc : (w5.setCell ⟨w.heap.size + 1, 0, none⟩ (.bool true)).cell? ⟨w.heap.size + 1, 0, none⟩ = some (.bool true) := by rw [cell_of_row _ _ _ _ _ _ (one_setCell R5.out)]; rfl
  exact bodyPost_ret (v := .bool true) (by simp [results, Try.results6, go_sem, hc]) rfl ⟨rfl, B5.out.setCell (Nat.le_succ _) _⟩
theorem gone_law (w : World) (A : Option Addr) (n c : Nat) (R : Nat → StepS) (id : Int) (itself : Bool) (hA : StepsOf w A n R) (hR : ∀ i, i < n → (R i).fits) (hn : (n : Int) ≤ 9223372036854775807) (hid : (Lit.int .i64 id).wf = true) :
    Calls Try.prog 6 #[.slice A n c, .int .i64 id, .bool itself] w fun e w' => e = .returned (.bool true) ∧ Below w.heap.size w w' := by
  by_cases h : n ≤ 60
  · exact callsIn_wide.1 (gone_in A n c R id itself hA hR h hid)
  · exact gone_long w A n c id itself (by omega) hn
end Go.Proofs.Ytgpmkllhljngfaa
