/- Contract of the document's Reads, and that it is what isa.Reads says. -/
import Derived.Test.YtnkkomodpjgefaaDoorIsaReads
namespace Go.Proofs.YtnkkomodpjgefaaDoor
open Go.RowKit Go.Sort

/-- The numbers below k that are marked. -/
def upTo (hs : Nat → Bool) : Nat → List Int
  | 0 => []
  | k + 1 => upTo hs k ++ (if hs k then [(k : Int)] else [])
theorem upTo_len (hs : Nat → Bool) (k : Nat) : (upTo hs k).length ≤ k := by
  induction k with
  | zero => exact Nat.le_refl _
  | succ k ih => simp only [upTo]; cases hs k <;> simp <;> omega

theorem sort_two (x y : Int) : ([x, y].mergeSort fun x y => decide (x ≤ y)) = if x ≤ y then [x, y] else [y, x] := by
  by_cases h : x ≤ y <;> simp [List.mergeSort, List.MergeSort.Internal.splitInTwo, List.merge, h]
theorem sort_one (x : Int) : ([x].mergeSort fun x y => decide (x ≤ y)) = [x] := by simp [List.mergeSort]
theorem sort_zero : (([] : List Int).mergeSort fun x y => decide (x ≤ y)) = [] := by simp [List.mergeSort]
theorem up_none : upTo (fun _ => false) 16 = Lib.compact (([] : List Int).mergeSort fun x y => decide (x ≤ y)) := by rw [sort_zero]; decide
theorem up_one (a : Nat) (ha : a < 16) : upTo (fun j => decide (j = a)) 16 = Lib.compact (([(a : Int)]).mergeSort fun x y => decide (x ≤ y)) := by
  rw [sort_one]; revert a; decide
set_option maxRecDepth 100000 in
theorem up_two' : ∀ a : Nat, a < 16 → ∀ b : Nat, b < 16 → upTo (fun j => decide (j = a) || decide (j = b)) 16 = Lib.compact (if (a : Int) ≤ b then [(a : Int), (b : Int)] else [(b : Int), (a : Int)]) := by decide
theorem up_two (a b : Nat) (ha : a < 16) (hb : b < 16) : upTo (fun j => decide (j = a) || decide (j = b)) 16 = Lib.compact (([(a : Int), (b : Int)]).mergeSort fun x y => decide (x ≤ y)) := by
  rw [sort_two]; exact up_two' a ha b hb

/-- Sixteen marks, none set. -/
def marks0 : List Value := [Value.bool false, Value.bool false, Value.bool false, Value.bool false, Value.bool false, Value.bool false, Value.bool false, Value.bool false, Value.bool false, Value.bool false, Value.bool false, Value.bool false, Value.bool false, Value.bool false, Value.bool false, Value.bool false]
theorem marks_at (j : Nat) (h : j < 16) : marks0[j]? = some (.bool false) := by
  revert j; simp only [marks0]; intro j h
  have : j = 0 ∨ j = 1 ∨ j = 2 ∨ j = 3 ∨ j = 4 ∨ j = 5 ∨ j = 6 ∨ j = 7 ∨ j = 8 ∨ j = 9 ∨ j = 10 ∨ j = 11 ∨ j = 12 ∨ j = 13 ∨ j = 14 ∨ j = 15 := by omega
  rcases this with rfl | rfl | rfl | rfl | rfl | rfl | rfl | rfl | rfl | rfl | rfl | rfl | rfl | rfl | rfl | rfl <;> rfl
theorem marks_len : marks0.length = 16 := rfl
theorem marks_set1 (a j : Nat) (h : j < 16) : (marks0.set a (.bool true))[j]? = some (.bool (decide (j = a))) := by
  rw [List.getElem?_set]
  by_cases e : a = j
  · subst e; simp [marks_len, h]
  · have e' : j ≠ a := fun h => e h.symm
    simp [e, e', marks_at j h]
theorem marks_set2 (a b j : Nat) (h : j < 16) : ((marks0.set a (.bool true)).set b (.bool true))[j]? = some (.bool (decide (j = a) || decide (j = b))) := by
  rw [List.getElem?_set]
  by_cases e : b = j
  · subst e; simp [marks_len, h]
  · have e' : j ≠ b := fun h => e h.symm
    simp [e, e', marks_set1 a j h]
/-- A cell of the block that was made last. -/
theorem last_cell (w : World) (n : Nat) (L : List Value) (t : TypeId) (j : Nat) (v : Value) (hn : n = w.heap.size) (h : L[j]? = some v) : (w.alloc (.cells L.toArray t)).cell? ⟨n, j, none⟩ = some v := by
  rw [World.cell?_alloc_at L.toArray t n j hn]; simpa using h

set_option maxHeartbeats 1600000 in
set_option maxRecDepth 100000 in
theorem rreads_none (op m : Int) (d : Int) (a : Int) (b : Int) (w : World) (hA : nmA (formOf op) = false) (hB : nmB (formOf op) = false) (h1 : (op == 6) = false) (h2 : (op == 20) = false) (h3 : (op == 22) = false) (h4 : (op == 26) = false) (h5 : (op == 27) = false) (h6 : (op == 28) = false) :
    Calls Tryd.prog 34 #[.agg #[.int .i64 op, .int .i64 d, .int .i64 a, .int .i64 b, .int .i64 m]] w (ReadsPost (upTo (fun _ => false) 16) w) := by
  obtain ⟨i0, hi, hz0, hz1, hz2⟩ := info_parts Tryd.infoInt
  have HS : ∀ j, j < 16 → marks0[j]? = some (.bool ((fun _ => false) j)) := fun j hj => marks_at j hj
  have HQ := Lib.hid HS
  clear HS
  generalize hhs : (fun _ => false) = hs at *
  clear hhs
  go_enter Tryd.func34, Tryd.ntmps34
  go_wp2_with (first
    | (go_at_call 30; refine (rform_any _ _).mono ?_; rintro e w2 ⟨rfl, rfl⟩)
    | (go_at_call 36; refine (rnames_any _ _).mono ?_; rintro e w2 ⟨rfl, rfl⟩))
  go_loopw [8, 9] (fun v i wr => ∃ k : Nat, k ≤ 16 ∧ i = .int .i64 k ∧ wr.ownsRow (w.heap.size + 2) 3 1 v (upTo hs k).length ((upTo hs k).map (Value.int .i64)) ∧ (∀ j, j < 16 → wr.cell? ⟨w.heap.size + 1, j, none⟩ = some (.bool (hs j))) ∧ Below w.heap.size w wr ∧ w.heap.size + 2 ≤ wr.heap.size)
    (fun _ i _ => 16 - (intOf i).toNat)
  case atStart =>
    exact ⟨0, Nat.zero_le _, rfl, World.ownsRow_nil .., fun j hj => last_cell (w.alloc _) _ _ _ j _ (by simp) (HQ.out j hj), Bl.alloc (Bl.alloc (Below.refl _ _) _) _, by simp⟩
  case round =>
    obtain ⟨k, hk, rfl, hown, hcs, hbw, hsz⟩ := hrel
    by_cases hlt : k < 16
    · have hc := hcs k hlt
      have HC := Lib.hid hcs
      have hlt' : (k : Int) < 16 := by omega
      have hk0 : (0 : Int) ≤ k := by omega
      have hl := upTo_len hs k
      clear hcs
      cases hh : hs k
      · rw [hh] at hc
        have HH := Lib.hid hh
        clear hh
        go_wp2
        go_roundw
        case rel => exact ⟨k + 1, by omega, by go_num, own_cast hown (by simp [upTo, HH.out]) (by simp [upTo, HH.out]), HC.out, hbw, hsz⟩
        case measure => simp [intOf]; omega
      · rw [hh] at hc
        have HH := Lib.hid hh
        clear hh
        have tok : True := trivial
        go_wp2_with (at_builtin; have tik := tok; clear tik tok; refine wpList_append_own _ rfl _ _ 54 rfl (w.heap.size + 2) 3 i0 (.int .i64 0) 1 8 Tryd.underlying54 hi hz0 hz1 hz2 rfl (by decide) _ _ _ rfl (hown.alloc _) ⟨wr.heap.size, 0, none⟩ 1 1 [.int .i64 k] rfl rfl (cell_one_new _ _ _) (by simp [Value.oneCell']) (by unfold maxLen; omega) (by omega) (by simp; omega) ?_; intro v2 w3 h3 g3 _)
        have hz3 : w.heap.size + 2 ≤ w3.heap.size := by have := g3.size; simp at this; omega
        have b3 : Below (w.heap.size + 2) wr w3 := ((Below.refl _ _).alloc (by omega) _).grown g3 (by simp; omega) (fun q e => ((hown.alloc (.cells #[.int .i64 k] 3)).lt q e).1)
        go_roundw
        case rel => exact ⟨k + 1, by omega, by go_num, own_cast h3 (by simp [upTo, HH.out]) (by simp [upTo, HH.out]), fun j hj => by rw [b3.cell (p := ⟨w.heap.size + 1, j, none⟩) (by show w.heap.size + 1 < w.heap.size + 2; omega)]; exact HC.out j hj, hbw.trans (b3.mono (by omega)), hz3⟩
        case measure => simp [intOf]; omega
    · obtain rfl : k = 16 := by omega
      have HC := Lib.hid hcs
      clear hcs
      go_wp2
      go_ret
      refine ⟨_, rfl, ?_, hbw⟩
      have hl := upTo_len hs 16
      rcases hown.2 with ⟨hnil, hx⟩ | ⟨g, cap, cur, hv, hbase, hb, h1, h2, h3, h4⟩
      · refine Or.inl ⟨by simpa using hx, none, 0, ?_⟩
        subst hnil; rfl
      · refine Or.inr ⟨g, 0, cap, hv, fun j hj => ?_⟩
        subst hv
        rw [Nat.zero_add, hown.cellAt j (by simpa using hj)]; simp [List.getD, List.getElem?_eq_getElem hj]

set_option maxHeartbeats 1600000 in
set_option maxRecDepth 100000 in
theorem rreads_a (op m : Int) (d : Int) (a : Nat) (b : Int) (w : World) (ha : a < 16) (hA : nmA (formOf op) = true) (hB : nmB (formOf op) = false) (h1 : (op == 6) = false) (h2 : (op == 20) = false) (h3 : (op == 22) = false) (h4 : (op == 26) = false) (h5 : (op == 27) = false) (h6 : (op == 28) = false) :
    Calls Tryd.prog 34 #[.agg #[.int .i64 op, .int .i64 d, .int .i64 a, .int .i64 b, .int .i64 m]] w (ReadsPost (upTo (fun j => decide (j = a)) 16) w) := by
  obtain ⟨i0, hi, hz0, hz1, hz2⟩ := info_parts Tryd.infoInt
  have ha' : (a : Int) < 16 := by omega
  have ha0 : (0 : Int) ≤ a := by omega
  have HS : ∀ j, j < 16 → (marks0.set a (.bool true))[j]? = some (.bool ((fun j => decide (j = a)) j)) := fun j hj => marks_set1 _ j hj
  have HQ := Lib.hid HS
  clear HS
  generalize hhs : (fun j => decide (j = a)) = hs at *
  clear hhs
  go_enter Tryd.func34, Tryd.ntmps34
  go_wp2_with (first
    | (go_at_call 30; refine (rform_any _ _).mono ?_; rintro e w2 ⟨rfl, rfl⟩)
    | (go_at_call 36; refine (rnames_any _ _).mono ?_; rintro e w2 ⟨rfl, rfl⟩))
  go_loopw [8, 9] (fun v i wr => ∃ k : Nat, k ≤ 16 ∧ i = .int .i64 k ∧ wr.ownsRow (w.heap.size + 2) 3 1 v (upTo hs k).length ((upTo hs k).map (Value.int .i64)) ∧ (∀ j, j < 16 → wr.cell? ⟨w.heap.size + 1, j, none⟩ = some (.bool (hs j))) ∧ Below w.heap.size w wr ∧ w.heap.size + 2 ≤ wr.heap.size)
    (fun _ i _ => 16 - (intOf i).toNat)
  case atStart =>
    exact ⟨0, Nat.zero_le _, rfl, World.ownsRow_nil .., fun j hj => last_cell (w.alloc _) _ _ _ j _ (by simp) (HQ.out j hj), Bl.alloc (Bl.alloc (Below.refl _ _) _) _, by simp⟩
  case round =>
    obtain ⟨k, hk, rfl, hown, hcs, hbw, hsz⟩ := hrel
    by_cases hlt : k < 16
    · have hc := hcs k hlt
      have HC := Lib.hid hcs
      have hlt' : (k : Int) < 16 := by omega
      have hk0 : (0 : Int) ≤ k := by omega
      have hl := upTo_len hs k
      clear hcs
      cases hh : hs k
      · rw [hh] at hc
        have HH := Lib.hid hh
        clear hh
        go_wp2
        go_roundw
        case rel => exact ⟨k + 1, by omega, by go_num, own_cast hown (by simp [upTo, HH.out]) (by simp [upTo, HH.out]), HC.out, hbw, hsz⟩
        case measure => simp [intOf]; omega
      · rw [hh] at hc
        have HH := Lib.hid hh
        clear hh
        have tok : True := trivial
        go_wp2_with (at_builtin; have tik := tok; clear tik tok; refine wpList_append_own _ rfl _ _ 54 rfl (w.heap.size + 2) 3 i0 (.int .i64 0) 1 8 Tryd.underlying54 hi hz0 hz1 hz2 rfl (by decide) _ _ _ rfl (hown.alloc _) ⟨wr.heap.size, 0, none⟩ 1 1 [.int .i64 k] rfl rfl (cell_one_new _ _ _) (by simp [Value.oneCell']) (by unfold maxLen; omega) (by omega) (by simp; omega) ?_; intro v2 w3 h3 g3 _)
        have hz3 : w.heap.size + 2 ≤ w3.heap.size := by have := g3.size; simp at this; omega
        have b3 : Below (w.heap.size + 2) wr w3 := ((Below.refl _ _).alloc (by omega) _).grown g3 (by simp; omega) (fun q e => ((hown.alloc (.cells #[.int .i64 k] 3)).lt q e).1)
        go_roundw
        case rel => exact ⟨k + 1, by omega, by go_num, own_cast h3 (by simp [upTo, HH.out]) (by simp [upTo, HH.out]), fun j hj => by rw [b3.cell (p := ⟨w.heap.size + 1, j, none⟩) (by show w.heap.size + 1 < w.heap.size + 2; omega)]; exact HC.out j hj, hbw.trans (b3.mono (by omega)), hz3⟩
        case measure => simp [intOf]; omega
    · obtain rfl : k = 16 := by omega
      have HC := Lib.hid hcs
      clear hcs
      go_wp2
      go_ret
      refine ⟨_, rfl, ?_, hbw⟩
      have hl := upTo_len hs 16
      rcases hown.2 with ⟨hnil, hx⟩ | ⟨g, cap, cur, hv, hbase, hb, h1, h2, h3, h4⟩
      · refine Or.inl ⟨by simpa using hx, none, 0, ?_⟩
        subst hnil; rfl
      · refine Or.inr ⟨g, 0, cap, hv, fun j hj => ?_⟩
        subst hv
        rw [Nat.zero_add, hown.cellAt j (by simpa using hj)]; simp [List.getD, List.getElem?_eq_getElem hj]

set_option maxHeartbeats 1600000 in
set_option maxRecDepth 100000 in
theorem rreads_ab (op m : Int) (d : Int) (a : Nat) (b : Nat) (w : World) (ha : a < 16) (hb : b < 16) (hA : nmA (formOf op) = true) (hB : nmB (formOf op) = true) (h1 : (op == 6) = false) (h2 : (op == 20) = false) (h3 : (op == 22) = false) (h4 : (op == 26) = false) (h5 : (op == 27) = false) (h6 : (op == 28) = false) :
    Calls Tryd.prog 34 #[.agg #[.int .i64 op, .int .i64 d, .int .i64 a, .int .i64 b, .int .i64 m]] w (ReadsPost (upTo (fun j => decide (j = a) || decide (j = b)) 16) w) := by
  obtain ⟨i0, hi, hz0, hz1, hz2⟩ := info_parts Tryd.infoInt
  have ha' : (a : Int) < 16 := by omega
  have ha0 : (0 : Int) ≤ a := by omega
  have hb' : (b : Int) < 16 := by omega
  have hb0 : (0 : Int) ≤ b := by omega
  have HS : ∀ j, j < 16 → ((marks0.set a (.bool true)).set b (.bool true))[j]? = some (.bool ((fun j => decide (j = a) || decide (j = b)) j)) := fun j hj => marks_set2 _ _ j hj
  have HQ := Lib.hid HS
  clear HS
  generalize hhs : (fun j => decide (j = a) || decide (j = b)) = hs at *
  clear hhs
  go_enter Tryd.func34, Tryd.ntmps34
  go_wp2_with (first
    | (go_at_call 30; refine (rform_any _ _).mono ?_; rintro e w2 ⟨rfl, rfl⟩)
    | (go_at_call 36; refine (rnames_any _ _).mono ?_; rintro e w2 ⟨rfl, rfl⟩))
  go_loopw [8, 9] (fun v i wr => ∃ k : Nat, k ≤ 16 ∧ i = .int .i64 k ∧ wr.ownsRow (w.heap.size + 2) 3 1 v (upTo hs k).length ((upTo hs k).map (Value.int .i64)) ∧ (∀ j, j < 16 → wr.cell? ⟨w.heap.size + 1, j, none⟩ = some (.bool (hs j))) ∧ Below w.heap.size w wr ∧ w.heap.size + 2 ≤ wr.heap.size)
    (fun _ i _ => 16 - (intOf i).toNat)
  case atStart =>
    exact ⟨0, Nat.zero_le _, rfl, World.ownsRow_nil .., fun j hj => last_cell (w.alloc _) _ _ _ j _ (by simp) (HQ.out j hj), Bl.alloc (Bl.alloc (Below.refl _ _) _) _, by simp⟩
  case round =>
    obtain ⟨k, hk, rfl, hown, hcs, hbw, hsz⟩ := hrel
    by_cases hlt : k < 16
    · have hc := hcs k hlt
      have HC := Lib.hid hcs
      have hlt' : (k : Int) < 16 := by omega
      have hk0 : (0 : Int) ≤ k := by omega
      have hl := upTo_len hs k
      clear hcs
      cases hh : hs k
      · rw [hh] at hc
        have HH := Lib.hid hh
        clear hh
        go_wp2
        go_roundw
        case rel => exact ⟨k + 1, by omega, by go_num, own_cast hown (by simp [upTo, HH.out]) (by simp [upTo, HH.out]), HC.out, hbw, hsz⟩
        case measure => simp [intOf]; omega
      · rw [hh] at hc
        have HH := Lib.hid hh
        clear hh
        have tok : True := trivial
        go_wp2_with (at_builtin; have tik := tok; clear tik tok; refine wpList_append_own _ rfl _ _ 54 rfl (w.heap.size + 2) 3 i0 (.int .i64 0) 1 8 Tryd.underlying54 hi hz0 hz1 hz2 rfl (by decide) _ _ _ rfl (hown.alloc _) ⟨wr.heap.size, 0, none⟩ 1 1 [.int .i64 k] rfl rfl (cell_one_new _ _ _) (by simp [Value.oneCell']) (by unfold maxLen; omega) (by omega) (by simp; omega) ?_; intro v2 w3 h3 g3 _)
        have hz3 : w.heap.size + 2 ≤ w3.heap.size := by have := g3.size; simp at this; omega
        have b3 : Below (w.heap.size + 2) wr w3 := ((Below.refl _ _).alloc (by omega) _).grown g3 (by simp; omega) (fun q e => ((hown.alloc (.cells #[.int .i64 k] 3)).lt q e).1)
        go_roundw
        case rel => exact ⟨k + 1, by omega, by go_num, own_cast h3 (by simp [upTo, HH.out]) (by simp [upTo, HH.out]), fun j hj => by rw [b3.cell (p := ⟨w.heap.size + 1, j, none⟩) (by show w.heap.size + 1 < w.heap.size + 2; omega)]; exact HC.out j hj, hbw.trans (b3.mono (by omega)), hz3⟩
        case measure => simp [intOf]; omega
    · obtain rfl : k = 16 := by omega
      have HC := Lib.hid hcs
      clear hcs
      go_wp2
      go_ret
      refine ⟨_, rfl, ?_, hbw⟩
      have hl := upTo_len hs 16
      rcases hown.2 with ⟨hnil, hx⟩ | ⟨g, cap, cur, hv, hbase, hb, h1, h2, h3, h4⟩
      · refine Or.inl ⟨by simpa using hx, none, 0, ?_⟩
        subst hnil; rfl
      · refine Or.inr ⟨g, 0, cap, hv, fun j hj => ?_⟩
        subst hv
        rw [Nat.zero_add, hown.cellAt j (by simpa using hj)]; simp [List.getD, List.getElem?_eq_getElem hj]

set_option maxHeartbeats 1600000 in
set_option maxRecDepth 100000 in
theorem rreads_ad (op m : Int) (d : Nat) (a : Nat) (b : Int) (w : World) (ha : a < 16) (hd : d < 16) (hop : op = 20 ∨ op = 22 ∨ op = 26 ∨ op = 27 ∨ op = 28) :
    Calls Tryd.prog 34 #[.agg #[.int .i64 op, .int .i64 d, .int .i64 a, .int .i64 b, .int .i64 m]] w (ReadsPost (upTo (fun j => decide (j = a) || decide (j = d)) 16) w) := by
  obtain ⟨i0, hi, hz0, hz1, hz2⟩ := info_parts Tryd.infoInt
  have ha' : (a : Int) < 16 := by omega
  have ha0 : (0 : Int) ≤ a := by omega
  have hd' : (d : Int) < 16 := by omega
  have hd0 : (0 : Int) ≤ d := by omega
  have HS : ∀ j, j < 16 → ((marks0.set a (.bool true)).set d (.bool true))[j]? = some (.bool ((fun j => decide (j = a) || decide (j = d)) j)) := fun j hj => marks_set2 _ _ j hj
  have HQ := Lib.hid HS
  clear HS
  generalize hhs : (fun j => decide (j = a) || decide (j = d)) = hs at *
  clear hhs
  have hA : nmA (formOf op) = true := by rcases hop with rfl | rfl | rfl | rfl | rfl <;> rfl
  have hB : nmB (formOf op) = false := by rcases hop with rfl | rfl | rfl | rfl | rfl <;> rfl
  generalize hfo : formOf op = fo at *
  rcases hop with rfl | rfl | rfl | rfl | rfl
  all_goals
    go_enter Tryd.func34, Tryd.ntmps34
    go_wp2_with (first
      | (go_at_call 30; refine (rform_any _ _).mono ?_; rintro e w2 ⟨rfl, rfl⟩; try rw [hfo])
      | (go_at_call 36; refine (rnames_any _ _).mono ?_; rintro e w2 ⟨rfl, rfl⟩))
    go_loopw [8, 9] (fun v i wr => ∃ k : Nat, k ≤ 16 ∧ i = .int .i64 k ∧ wr.ownsRow (w.heap.size + 2) 3 1 v (upTo hs k).length ((upTo hs k).map (Value.int .i64)) ∧ (∀ j, j < 16 → wr.cell? ⟨w.heap.size + 1, j, none⟩ = some (.bool (hs j))) ∧ Below w.heap.size w wr ∧ w.heap.size + 2 ≤ wr.heap.size)
      (fun _ i _ => 16 - (intOf i).toNat)
    case atStart =>
      exact ⟨0, Nat.zero_le _, rfl, World.ownsRow_nil .., fun j hj => last_cell (w.alloc _) _ _ _ j _ (by simp) (HQ.out j hj), Bl.alloc (Bl.alloc (Below.refl _ _) _) _, by simp⟩
    case round =>
      obtain ⟨k, hk, rfl, hown, hcs, hbw, hsz⟩ := hrel
      by_cases hlt : k < 16
      · have hc := hcs k hlt
        have HC := Lib.hid hcs
        have hlt' : (k : Int) < 16 := by omega
        have hk0 : (0 : Int) ≤ k := by omega
        have hl := upTo_len hs k
        clear hcs
        cases hh : hs k
        · rw [hh] at hc
          have HH := Lib.hid hh
          clear hh
          go_wp2
          go_roundw
          case rel => exact ⟨k + 1, by omega, by go_num, own_cast hown (by simp [upTo, HH.out]) (by simp [upTo, HH.out]), HC.out, hbw, hsz⟩
          case measure => simp [intOf]; omega
        · rw [hh] at hc
          have HH := Lib.hid hh
          clear hh
          have tok : True := trivial
          go_wp2_with (at_builtin; have tik := tok; clear tik tok; refine wpList_append_own _ rfl _ _ 54 rfl (w.heap.size + 2) 3 i0 (.int .i64 0) 1 8 Tryd.underlying54 hi hz0 hz1 hz2 rfl (by decide) _ _ _ rfl (hown.alloc _) ⟨wr.heap.size, 0, none⟩ 1 1 [.int .i64 k] rfl rfl (cell_one_new _ _ _) (by simp [Value.oneCell']) (by unfold maxLen; omega) (by omega) (by simp; omega) ?_; intro v2 w3 h3 g3 _)
          have hz3 : w.heap.size + 2 ≤ w3.heap.size := by have := g3.size; simp at this; omega
          have b3 : Below (w.heap.size + 2) wr w3 := ((Below.refl _ _).alloc (by omega) _).grown g3 (by simp; omega) (fun q e => ((hown.alloc (.cells #[.int .i64 k] 3)).lt q e).1)
          go_roundw
          case rel => exact ⟨k + 1, by omega, by go_num, own_cast h3 (by simp [upTo, HH.out]) (by simp [upTo, HH.out]), fun j hj => by rw [b3.cell (p := ⟨w.heap.size + 1, j, none⟩) (by show w.heap.size + 1 < w.heap.size + 2; omega)]; exact HC.out j hj, hbw.trans (b3.mono (by omega)), hz3⟩
          case measure => simp [intOf]; omega
      · obtain rfl : k = 16 := by omega
        have HC := Lib.hid hcs
        clear hcs
        go_wp2
        go_ret
        refine ⟨_, rfl, ?_, hbw⟩
        have hl := upTo_len hs 16
        rcases hown.2 with ⟨hnil, hx⟩ | ⟨g, cap, cur, hv, hbase, hb, h1, h2, h3, h4⟩
        · refine Or.inl ⟨by simpa using hx, none, 0, ?_⟩
          subst hnil; rfl
        · refine Or.inr ⟨g, 0, cap, hv, fun j hj => ?_⟩
          subst hv
          rw [Nat.zero_add, hown.cellAt j (by simpa using hj)]; simp [List.getD, List.getElem?_eq_getElem hj]

set_option maxHeartbeats 1600000 in
set_option maxRecDepth 100000 in
theorem rreads_d (op m : Int) (d : Nat) (a : Int) (b : Int) (w : World) (hd : d < 16) (hop : op = 6) :
    Calls Tryd.prog 34 #[.agg #[.int .i64 op, .int .i64 d, .int .i64 a, .int .i64 b, .int .i64 m]] w (ReadsPost (upTo (fun j => decide (j = d)) 16) w) := by
  obtain ⟨i0, hi, hz0, hz1, hz2⟩ := info_parts Tryd.infoInt
  have hd' : (d : Int) < 16 := by omega
  have hd0 : (0 : Int) ≤ d := by omega
  have HS : ∀ j, j < 16 → (marks0.set d (.bool true))[j]? = some (.bool ((fun j => decide (j = d)) j)) := fun j hj => marks_set1 _ j hj
  have HQ := Lib.hid HS
  clear HS
  generalize hhs : (fun j => decide (j = d)) = hs at *
  clear hhs
  have hA : nmA (formOf op) = false := by subst hop; rfl
  have hB : nmB (formOf op) = false := by subst hop; rfl
  generalize hfo : formOf op = fo at *
  subst hop
  all_goals
    go_enter Tryd.func34, Tryd.ntmps34
    go_wp2_with (first
      | (go_at_call 30; refine (rform_any _ _).mono ?_; rintro e w2 ⟨rfl, rfl⟩; try rw [hfo])
      | (go_at_call 36; refine (rnames_any _ _).mono ?_; rintro e w2 ⟨rfl, rfl⟩))
    go_loopw [8, 9] (fun v i wr => ∃ k : Nat, k ≤ 16 ∧ i = .int .i64 k ∧ wr.ownsRow (w.heap.size + 2) 3 1 v (upTo hs k).length ((upTo hs k).map (Value.int .i64)) ∧ (∀ j, j < 16 → wr.cell? ⟨w.heap.size + 1, j, none⟩ = some (.bool (hs j))) ∧ Below w.heap.size w wr ∧ w.heap.size + 2 ≤ wr.heap.size)
      (fun _ i _ => 16 - (intOf i).toNat)
    case atStart =>
      exact ⟨0, Nat.zero_le _, rfl, World.ownsRow_nil .., fun j hj => last_cell (w.alloc _) _ _ _ j _ (by simp) (HQ.out j hj), Bl.alloc (Bl.alloc (Below.refl _ _) _) _, by simp⟩
    case round =>
      obtain ⟨k, hk, rfl, hown, hcs, hbw, hsz⟩ := hrel
      by_cases hlt : k < 16
      · have hc := hcs k hlt
        have HC := Lib.hid hcs
        have hlt' : (k : Int) < 16 := by omega
        have hk0 : (0 : Int) ≤ k := by omega
        have hl := upTo_len hs k
        clear hcs
        cases hh : hs k
        · rw [hh] at hc
          have HH := Lib.hid hh
          clear hh
          go_wp2
          go_roundw
          case rel => exact ⟨k + 1, by omega, by go_num, own_cast hown (by simp [upTo, HH.out]) (by simp [upTo, HH.out]), HC.out, hbw, hsz⟩
          case measure => simp [intOf]; omega
        · rw [hh] at hc
          have HH := Lib.hid hh
          clear hh
          have tok : True := trivial
          go_wp2_with (at_builtin; have tik := tok; clear tik tok; refine wpList_append_own _ rfl _ _ 54 rfl (w.heap.size + 2) 3 i0 (.int .i64 0) 1 8 Tryd.underlying54 hi hz0 hz1 hz2 rfl (by decide) _ _ _ rfl (hown.alloc _) ⟨wr.heap.size, 0, none⟩ 1 1 [.int .i64 k] rfl rfl (cell_one_new _ _ _) (by simp [Value.oneCell']) (by unfold maxLen; omega) (by omega) (by simp; omega) ?_; intro v2 w3 h3 g3 _)
          have hz3 : w.heap.size + 2 ≤ w3.heap.size := by have := g3.size; simp at this; omega
          have b3 : Below (w.heap.size + 2) wr w3 := ((Below.refl _ _).alloc (by omega) _).grown g3 (by simp; omega) (fun q e => ((hown.alloc (.cells #[.int .i64 k] 3)).lt q e).1)
          go_roundw
          case rel => exact ⟨k + 1, by omega, by go_num, own_cast h3 (by simp [upTo, HH.out]) (by simp [upTo, HH.out]), fun j hj => by rw [b3.cell (p := ⟨w.heap.size + 1, j, none⟩) (by show w.heap.size + 1 < w.heap.size + 2; omega)]; exact HC.out j hj, hbw.trans (b3.mono (by omega)), hz3⟩
          case measure => simp [intOf]; omega
      · obtain rfl : k = 16 := by omega
        have HC := Lib.hid hcs
        clear hcs
        go_wp2
        go_ret
        refine ⟨_, rfl, ?_, hbw⟩
        have hl := upTo_len hs 16
        rcases hown.2 with ⟨hnil, hx⟩ | ⟨g, cap, cur, hv, hbase, hb, h1, h2, h3, h4⟩
        · refine Or.inl ⟨by simpa using hx, none, 0, ?_⟩
          subst hnil; rfl
        · refine Or.inr ⟨g, 0, cap, hv, fun j hj => ?_⟩
          subst hv
          rw [Nat.zero_add, hown.cellAt j (by simpa using hj)]; simp [List.getD, List.getElem?_eq_getElem hj]

theorem rd_fin {L raw : List Int} {op d a b m : Int} {w : World} (hL : L = Lib.compact (raw.mergeSort fun x y => decide (x ≤ y))) (hR : rdRaw op d a b = raw)
    (P : Calls Tryd.prog 34 #[.agg #[.int .i64 op, .int .i64 d, .int .i64 a, .int .i64 b, .int .i64 m]] w (ReadsPost L w)) :
    Calls Tryd.prog 34 #[.agg #[.int .i64 op, .int .i64 d, .int .i64 a, .int .i64 b, .int .i64 m]] w (ReadsPost (rdL op d a b) w) := by
  unfold rdL; rw [hR, ← hL]; exact P

set_option maxHeartbeats 800000 in
theorem rreads_may (op d a b m : Int) (w : World) (h : mayB op d a b m = true) :
    Calls Tryd.prog 34 #[.agg #[.int .i64 op, .int .i64 d, .int .i64 a, .int .i64 b, .int .i64 m]] w (ReadsPost (rdL op d a b) w) := by
  obtain ⟨ho, ⟨hd0, hd⟩, ⟨ha0, ha⟩, ⟨hb0, hb⟩, -⟩ := may_parts h
  clear h
  obtain ⟨d, rfl⟩ := Int.eq_ofNat_of_zero_le hd0
  obtain ⟨a, rfl⟩ := Int.eq_ofNat_of_zero_le ha0
  obtain ⟨b, rfl⟩ := Int.eq_ofNat_of_zero_le hb0
  have hd' : d < 16 := by omega
  have ha' : a < 16 := by omega
  have hb' : b < 16 := by omega
  have hk : op = 1 ∨ op = 2 ∨ op = 3 ∨ op = 4 ∨ op = 5 ∨ op = 6 ∨ op = 7 ∨ op = 8 ∨ op = 9 ∨ op = 10 ∨ op = 11 ∨ op = 12 ∨ op = 13 ∨ op = 14 ∨ op = 15 ∨ op = 16 ∨ op = 17 ∨ op = 18 ∨ op = 19 ∨ op = 20 ∨ op = 21 ∨ op = 22 ∨ op = 23 ∨ op = 24 ∨ op = 25 ∨ op = 26 ∨ op = 27 ∨ op = 28 := by omega
  rcases hk with rfl | rfl | rfl | rfl | rfl | rfl | rfl | rfl | rfl | rfl | rfl | rfl | rfl | rfl | rfl | rfl | rfl | rfl | rfl | rfl | rfl | rfl | rfl | rfl | rfl | rfl | rfl | rfl <;> first
    | exact rd_fin up_none (by simp [rdRaw, nmA, nmB, formOf, asksOf]) (rreads_none _ _ _ _ _ w rfl rfl rfl rfl rfl rfl rfl rfl)
    | exact rd_fin (up_one a ha') (by simp [rdRaw, nmA, nmB, formOf, asksOf]) (rreads_a _ _ _ _ _ w ha' rfl rfl rfl rfl rfl rfl rfl rfl)
    | exact rd_fin (up_two a b ha' hb') (by simp [rdRaw, nmA, nmB, formOf, asksOf]) (rreads_ab _ _ _ _ _ w ha' hb' rfl rfl rfl rfl rfl rfl rfl rfl)
    | exact rd_fin (up_two a d ha' hd') (by simp [rdRaw, nmA, nmB, formOf, asksOf]) (rreads_ad _ _ _ _ _ w ha' hd' (by omega))
    | exact rd_fin (up_one d hd') (by simp [rdRaw, nmA, nmB, formOf, asksOf]) (rreads_d _ _ _ _ _ w hd' rfl)

end Go.Proofs.YtnkkomodpjgefaaDoor
