/- The law CpuMoves. -/
import Derived.Test.YtknepljmbpdpkaaCpaF
import Derived.Test.YtknepljmbpdpkaaCpaG
import Derived.Test.YtknepljmbpdpkaaCpaH
namespace Go.Proofs.Ytknepljmbpdpkaa
open Go.RowKit

set_option maxHeartbeats 1000000 in
set_option maxRecDepth 100000 in
theorem moves_big {w : World} {Ab Ar Ad : Option Addr} {nb cb n cr nd cd : Nat} (x N r : Int) (h : 3000 < nd ∨ 3000 < N) :
    Calls Try.prog 6 #[.slice Ab nb cb, .slice Ar n cr, .int .u32 x, .int .i64 N, .int .i64 r, .slice Ad nd cd] w fun e w' => e = .returned (.bool true) ∧ Below w.heap.size w w' := by
  by_cases h1 : 3000 < nd
  · have h1' : (3000 : Int) < nd := by omega
    go_enter Try.func6, Try.ntmps6
    go_wp2_with (go_at_call 10; refine (kn8_any _).mono ?_; rintro e w' ⟨rfl, hb⟩)
    go_ret
    exact ⟨rfl, hb⟩
  · have h1' : (nd : Int) ≤ 3000 := by omega
    have h2' : (3000 : Int) < N := by omega
    go_enter Try.func6, Try.ntmps6
    go_wp2_with (go_at_call 10; refine (kn8_any _).mono ?_; rintro e w' ⟨rfl, hb⟩)
    go_ret
    exact ⟨rfl, hb⟩
set_option maxHeartbeats 1000000 in
set_option maxRecDepth 100000 in
theorem moves_bad {w : World} {Ab Ar Ad : Option Addr} {nb cb n cr nd cd : Nat} {ri : Nat → Int} (hr : IntsIn w Ar n ri) (x N r : Int) (h1 : nd ≤ 3000) (h2 : N ≤ 3000) (E : Int) (hE : newE nb n ri = E) (hE0 : E ≠ 0) :
    Calls Try.prog 6 #[.slice Ab nb cb, .slice Ar n cr, .int .u32 x, .int .i64 N, .int .i64 r, .slice Ad nd cd] w fun e w' => e = .returned (.bool true) ∧ Below w.heap.size w w' := by
  have h1' : (nd : Int) ≤ 3000 := by omega
  have HN := Lib.hid (new_no8 (nb := nb) (Ab := Ab) hr cb cr E hE hE0)
  clear hr hE
  go_enter Try.func6, Try.ntmps6
  go_wp2_with ((first
    | (go_at_call 17; refine HN.out.mono ?_; rintro e w1 ⟨rfl, rfl⟩)
    | (go_at_call 10; refine (kn8_any _).mono ?_; rintro e w' ⟨rfl, hb⟩)))
  go_ret
  exact ⟨rfl, hb⟩
set_option maxRecDepth 100000 in
/-- The law CpuMoves. -/
theorem moves_law {w : World} {Ab Ar Ad : Option Addr} {l dl : List Int} {cb n cr cd : Nat} {ri : Nat → Int} (hl : SrcBytes w Ab l) (hl01 : ∀ v ∈ l, 0 ≤ v ∧ v < 256) (hr : IntsIn w Ar n ri) (hd : SrcBytes w Ad dl) (hd01 : ∀ v ∈ dl, 0 ≤ v ∧ v < 256) (hdn : Ad = none → dl.length = 0 ∧ cd = 0)
    (x N r : Int) (x0 : 0 ≤ x) (x1 : x < 4294967296) :
    Calls Try.prog 6 #[.slice Ab l.length cb, .slice Ar n cr, .int .u32 x, .int .i64 N, .int .i64 r, .slice Ad dl.length cd] w fun e w' => e = .returned (.bool true) ∧ Below w.heap.size w w' := by
  by_cases h1 : 3000 < dl.length ∨ 3000 < N
  · exact moves_big x N r h1
  · by_cases hE : newE l.length n ri = 0
    · by_cases hneg : N < 0
      · cases hS : (mayT (mem0 l n ri) 2 dl.length x).2 with
        | true => exact moves_neg_yes hl hl01 hr hd hd01 hdn x r x0 x1 (by omega) hE N hneg hS
        | false => exact moves_neg_no hl hl01 hr hd hd01 hdn x r x0 x1 (by omega) hE N hneg hS
      · obtain ⟨k, rfl⟩ : ∃ k : Nat, N = (k : Int) := ⟨N.toNat, by omega⟩
        cases hM : (mayT (mem0 l n ri) r k x).2 with
        | true =>
          cases hS : (mayT (mem0 l n ri) 2 dl.length x).2 with
          | true => exact moves_yes_yes hl hl01 hr hd hd01 hdn x r x0 x1 (by omega) hE k (by omega) hM hS
          | false => exact moves_yes_no hl hl01 hr hd hd01 hdn x r x0 x1 (by omega) hE k (by omega) hM hS
        | false =>
          cases hS : (mayT (mem0 l n ri) 2 dl.length x).2 with
          | true => exact moves_no_yes hl hl01 hr hd hd01 hdn x r x0 x1 (by omega) hE k (by omega) hM hS
          | false => exact moves_no_no hl hl01 hr hd hd01 hdn x r x0 x1 (by omega) hE k (by omega) hM hS
    · exact moves_bad hr x N r (by omega) (by omega) _ rfl hE
end Go.Proofs.Ytknepljmbpdpkaa
