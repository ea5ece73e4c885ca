/- CapsOwn: any steps. -/
import Derived.Test.YtgpmkllhljngfaaCapT
namespace Go.Proofs.Ytgpmkllhljngfaa
open Go.RowKit

set_option maxRecDepth 100000 in
theorem own_long (w : World) (A : Option Addr) (n c : Nat) (B : Option Addr) (m d : Nat) (h : 40 < n ∨ 40 < m) :
    Calls Try.prog 7 #[.slice A n c, .slice B m d] w fun e w' => e = .returned (.bool true) ∧ Below w.heap.size w w' := by
  by_cases hn : 40 < n
  · have h40 : (40 : Int) < n := by omega
    clear hn h
    go_enter Try.func7, Try.ntmps7
    go_wp2_with fail
    refine (known_any _).mono ?_
    rintro e w5 ⟨rfl, hb5⟩
    go_wp2_with fail
    go_ret
    exact ⟨rfl, hb5⟩
  · have h40 : ¬ (40 : Int) < n := by omega
    have m40 : (40 : Int) < m := by omega
    clear hn h
    go_enter Try.func7, Try.ntmps7
    go_wp2_with fail
    refine (known_any _).mono ?_
    rintro e w5 ⟨rfl, hb5⟩
    go_wp2_with fail
    go_ret
    exact ⟨rfl, hb5⟩
theorem own_law (w : World) (A : Option Addr) (n c : Nat) (R : Nat → StepS) (B : Option Addr) (m d : Nat) (R2 : Nat → StepS) (hA : StepsOf w A n R) (hR : ∀ i, i < n → (R i).fits) (hB : StepsOf w B m R2) (hR2 : ∀ i, i < m → (R2 i).fits) :
    Calls Try.prog 7 #[.slice A n c, .slice B m d] w fun e w' => e = .returned (.bool true) ∧ Below w.heap.size w w' := by
  by_cases h : 40 < n ∨ 40 < m
  · exact own_long w A n c B m d h
  · exact own_any2 w A n c R B m d R2 hA hR hB hR2 (by omega) (by omega)
end Go.Proofs.Ytgpmkllhljngfaa
