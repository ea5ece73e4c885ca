/- IsaAll, whatever comes in. -/
import Derived.Test.YtnkkomodpjgefaaGreatDoorIsaAllLaw2
import Derived.Test.YtnkkomodpjgefaaGreatDoorIsaAllLaw3
namespace Go.Proofs.YtnkkomodpjgefaaGreatDoor
open Go.RowKit Go.Shelf Go.Sort

set_option maxRecDepth 100000 in
theorem all_long (A : Option Addr) (n c : Nat) (lv : Int) (w : World) (he : Env w) (hn : 4000 < n) :
    Calls Tryz.prog 3 #[.slice A n c, .int .i64 lv] w fun e w' => e = .returned (.bool true) ∧ Below w.heap.size w w' := by
  have hn' : (4000 : Int) < (n : Int) := by omega
  refine (callsIn_wide (n := 5)).1 ?_
  refine callsIn_of_wp_marks Tryz.func3 rfl trivial ?_ rfl
  simp only [Tryz.ntmps3, List.size_toArray, List.length_cons, List.length_nil, Nat.reduceAdd, Nat.reduceSub, Array.replicate_succ, Array.replicate_zero, List.push_toArray, List.append_toArray, List.nil_append, List.cons_append]
  gi_wp2_with (refine ⟨trivial, ?_⟩; gi_at_call 4; refine (callsIn_wide.2 (known_yes _ (he.below (Bl.alloc (Bl.alloc (Below.refl _ _) _) _)))).mono ?_; rintro e X ⟨rfl, hbX⟩; have hBX := Bl.step (Bl.alloc (Bl.alloc (Below.refl w.heap.size w) (.cells #[.int .i64 lv] 3)) (.cells #[.bool false] 4)) hbX; have hR0 := cell_new_l (w.alloc (.cells #[.int .i64 lv] 3)) (.bool false) 4; simp only [World.size_alloc] at hR0; have cR := (hbX.cell (p := ⟨w.heap.size + 1, 0, none⟩) (by simp)).trans hR0.1; have fR := (hbX.frozen (p := ⟨w.heap.size + 1, 0, none⟩) (by simp)).trans hR0.2)
  have cR2 := World.cell?_setCell_same X ⟨w.heap.size + 1, 0, none⟩ (.bool true) cR
  refine ⟨.bool true, ?_, rfl, hBX.setCell (p := ⟨w.heap.size + 1, 0, none⟩) (by simp) _⟩
  simp [results, Tryz.f3, go_sem, cR2]

theorem all_law (A : Option Addr) (n c : Nat) (L : List Int) (lv : Int) (w : World) (he : Env w) (hL : L.length = n) (hA : A = none → n = 0 ∧ c = 0) (hc : BytesAt w A L) (hr : ∀ x ∈ L, 0 ≤ x ∧ x < 256) (hnc : n ≤ c) :
    Calls Tryz.prog 3 #[.slice A n c, .int .i64 lv] w fun e w' => e = .returned (.bool true) ∧ Below w.heap.size w w' := by
  by_cases hn : n ≤ 4000
  · obtain ⟨N, hN⟩ := begins L
    by_cases h0 : ((0 : Nat) : Int) < lv
    · by_cases h1 : lv ≤ (N : Int)
      · cases h2 : (lv != (N : Int))
        · exact callsIn_wide.1 (all_law_in2 A n c N L lv w he hL hA hc hr hn hnc hN h0 h1 h2)
        · exact callsIn_wide.1 (all_law_in A n c N L lv w he hL hA hc hr hn hnc hN h0 h1 h2)
      · exact callsIn_wide.1 (all_law_in3 A n c N L lv w he hL hA hc hr hn hnc hN (Or.inr (by omega)))
    · exact callsIn_wide.1 (all_law_in3 A n c N L lv w he hL hA hc hr hn hnc hN (Or.inl (by omega)))
  · exact all_long A n c lv w he (by omega)

end Go.Proofs.YtnkkomodpjgefaaGreatDoor
