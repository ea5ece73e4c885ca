/- The document's Drop at any space, Spaces, New, Same. -/
import Derived.Test.YtgkfejnjjoaihaaDoorPgQg
namespace Go.Proofs.YtgkfejnjjoaihaaDoor
open Go.RowKit

set_option maxRecDepth 100000 in
set_option maxHeartbeats 1000000 in
theorem q_drop {w : World} {q : Nat} {T : Tb} (h : QT w q T) (s : Int) :
    Calls Tryd.prog 42 #[.pointer (some ⟨q, 0, none⟩), .int .i64 s] w fun e w' => ∃ v : Value, e = .returned (.tuple #[v, .int .i64 (dropE s)]) ∧ w'.ownsRow w.heap.size 3 1 v (dropR T s).length ((dropR T s).map intV) ∧ QT w' q (dropT T s) ∧ Turned w w' [q] := by
  unfold dropE dropR dropT
  cases hs : spaceB s with
  | true =>
    obtain ⟨i, rfl, hi⟩ : ∃ i : Nat, s = i ∧ i < 16 := ⟨s.toNat, by have := (spaceB_iff s).1 hs; omega, by have := (spaceB_iff s).1 hs; omega⟩
    exact q_drop_in h i hi
  | false =>
    have i0 : inB s 0 = false := by rw [inB_zero]; exact hs
    have H := Lib.hid h
    clear h hs
    show Calls Tryd.prog 42 #[.pointer (some ⟨q, 0, none⟩), .int .i64 s] w fun e w' => ∃ v : Value, e = .returned (.tuple #[v, .int .i64 2]) ∧ w'.ownsRow w.heap.size 3 1 v 0 [] ∧ QT w' q T ∧ Turned w w' [q]
    go_enter Tryd.func42, Tryd.ntmps42
    go_wp2_with (go_at_call 57; refine (q_in _ _ _).mono ?_; rintro e w1 ⟨rfl, rfl⟩; rw [i0])
    go_ret2
    exact ⟨_, rfl, ⟨rfl, .inl ⟨rfl, rfl⟩⟩, H.out, Turned.refl _ _⟩

/-! ### Spaces -/
set_option maxRecDepth 100000 in
set_option maxHeartbeats 1000000 in
theorem q_spaces {w : World} {q : Nat} {T : Tb} (h : QT w q T) :
    Calls Tryd.prog 31 #[.pointer (some ⟨q, 0, none⟩)] w fun e w' => ∃ v : Value, e = .returned v ∧ w'.ownsRow w.heap.size 3 1 v (spacesL T).length ((spacesL T).map intV) ∧ Below w.heap.size w w' := by
  obtain ⟨i0, hi, hz0, hz1, hz2⟩ := info_parts Tryd.infoI
  have H := Lib.hid h
  clear h
  unfold spacesL
  obtain ⟨p, hp⟩ : ∃ p : Nat → Bool, p = fun j : Nat => anyT T j := ⟨_, rfl⟩
  have HP := Lib.hid hp
  rw [← hp]
  clear hp
  go_enter Tryd.func31, Tryd.ntmps31
  go_wp2_with fail
  go_loopw [3, 4] (fun v x wr => ∃ k : Nat, k ≤ 16 ∧ x = .int .i64 k ∧ wr.ownsRow w.heap.size 3 1 v (picked p (fun j => j) k).length ((picked p (fun j => j) k).map intV) ∧ Below w.heap.size w wr)
    (fun _ x _ => 16 - (intOf x).toNat)
  case atStart => exact ⟨0, Nat.zero_le _, rfl, ⟨rfl, .inl ⟨rfl, rfl⟩⟩, Below.refl _ _⟩
  case round =>
    obtain ⟨k, hk, rfl, hrow, hbl⟩ := hrel
    have HR := Lib.hid hrow
    have HB := Lib.hid hbl
    clear hrow hbl
    by_cases hlt : k < 16
    · have hlt' : (k : Int) < 16 := by omega
      have hlen := picked_len p (fun j => j) k
      obtain ⟨pk, hpk⟩ : ∃ pk, anyT T k = pk := ⟨_, rfl⟩
      have HPK := Lib.hid (show p k = pk by rw [HP.out]; exact hpk)
      have hcnt := pagesL_any T k ((spaceB_iff _).2 ⟨by omega, by omega⟩)
      rw [hpk] at hcnt
      have HC := Lib.hid (q_pages (H.out.step HB.out) k)
      obtain ⟨n, hn⟩ : ∃ n, (pagesL T k).length = n := ⟨_, rfl⟩
      rw [hn] at hcnt
      clear hpk
      cases pk with
      | false =>
        have hn0 : ¬ (0 : Int) < n := by simp at hcnt; omega
        clear hcnt
        go_wp2_with (go_at_call 56; refine HC.out.mono ?_; rintro e w1 ⟨v1, rfl, hown, hb1⟩; obtain ⟨a2, c2, rfl, hc2⟩ := ints_base hown; rw [hn]; have HB1 := Lib.hid hb1; clear hb1 hown hc2)
        go_roundw
        case rel =>
          refine ⟨k + 1, hlt, by go_num, ?_, HB.out.trans (HB1.out.mono HB.out.size)⟩
          rw [picked_succ, HPK.out]
          simpa using owns_below HR.out HB1.out (Nat.le_refl _)
        case measure => simp [intOf]; omega
      | true =>
        have hn0 : (0 : Int) < n := by simp at hcnt; omega
        clear hcnt
        go_wp2_with (first
          | (go_at_call 56; refine HC.out.mono ?_; rintro e w1 ⟨v1, rfl, hown, hb1⟩; obtain ⟨a2, c2, rfl, hc2⟩ := ints_base hown; rw [hn]; have HB1 := Lib.hid hb1; have HR1 := Lib.hid (owns_below HR.out hb1 (Nat.le_refl _)); clear hb1 hown hc2)
          | (at_builtin; refine wpList_append_own _ rfl _ _ 73 rfl w.heap.size 3 i0 (.int .i64 0) 1 8 Tryd.underlying73 hi hz0 hz1 hz2 rfl (by decide) _ _ _ rfl (HR1.out.alloc _) ⟨_, 0, none⟩ 1 1 [intV k] rfl rfl (cell_one_new _ _ _) (by simp [Value.oneCell', intV]) (by unfold maxLen; omega) (by omega) (by have h1 := HB.out.size; have h2 := HB1.out.size; simp; omega) ?_; intro v' w3 hown' hg3 hnil3; try go_frame))
        go_roundw
        case rel =>
          refine ⟨k + 1, hlt, by go_num, ?_, ?_⟩
          · rw [picked_succ, HPK.out, if_pos rfl, List.length_append, List.map_append]; exact hown'
          · have hb2 := (HB.out.trans (HB1.out.mono HB.out.size)).alloc (by have h1 := HB.out.size; have h2 := HB1.out.size; omega) (.cells #[.int .i64 k] 3)
            exact hb2.grown hg3 (by have h1 := HB.out.size; have h2 := HB1.out.size; simp; omega) (fun j hj => (HR1.out.lt j hj).1)
        case measure => simp [intOf]; omega
    · obtain rfl : k = 16 := by omega
      go_wp2_with fail
      go_ret
      exact ⟨_, rfl, HR.out, HB.out⟩

/-! ### New -/
theorem Tryd.zQCells : Tryd.zeroCells70 = (tabL cvD newT).toArray := by kernel_rfl
set_option maxRecDepth 100000 in
set_option maxHeartbeats 1000000 in
theorem q_new (w : World) : Calls Tryd.prog 10 #[] w fun e w' => e = .returned (.pointer (some ⟨w.heap.size, 0, none⟩)) ∧ QT w' w.heap.size newT ∧ Below w.heap.size w w' := by
  go_enter Tryd.func10, Tryd.ntmps10
  go_wp2_with fail
  go_ret
  rw [Tryd.zQCells]
  exact ⟨rfl, ⟨newT_ok, ⟨heap_alloc_new w _⟩⟩, (Below.refl _ w).alloc (Nat.le_refl _) _⟩

/-! ### Same -/
set_option maxRecDepth 100000 in
set_option maxHeartbeats 1000000 in
theorem q_same {w : World} {t t' : Nat} {T T' : Tb} (h : QT w t T) (h' : QT w t' T') :
    Calls Tryd.prog 18 #[.pointer (some ⟨t, 0, none⟩), .pointer (some ⟨t', 0, none⟩)] w fun e w' => e = .returned (.bool (sameB T T')) ∧ Below w.heap.size w w' := by
  obtain ⟨_, hu⟩ := Tryd.uQTabX
  have hr := h.row.rangeAll
  have hr' := h'.row.rangeAll
  have hk := h.ok
  have hk' := h'.ok
  have hi : (Tryd.prog.info? 70).map (·.size) = some (tabL cvD T).length := by rw [tabL_len]; kernel_rfl
  have hi' : (Tryd.prog.info? 70).map (·.size) = some (tabL cvD T').length := by rw [tabL_len]; kernel_rfl
  clear h h'
  go_enter Tryd.func18, Tryd.ntmps18
  go_wp2_with fail
  refine wp_region_noPanic ?_
  refine wp_region_held_drew (S := fun w' => w'.rangeAt t 0 (tabL cvD T) ∧ w'.rangeAt t' 0 (tabL cvD T')) (by kernel_rfl) ?_ (fun hHeld => ?_)
  · exact ⟨hr, hr'⟩
  refine wpAnyH_take (i := 0) (v := ?_) rfl (by kernel_rfl) (by kernel_rfl) (by kernel_rfl) (fun _ _ _ h => h) (Or.inl ⟨by rfl, ?_⟩) (by assumption) ?_
  rotate_left
  · (intro w hSw; (try dsimp only at hSw); (try simp only [List.getElem_toArray, List.getElem_cons_zero]); go_simp; try (with_reducible rfl))
  try simp only [Act.put, List.getElem_toArray, List.getElem_cons_zero, List.setIfInBounds_toArray, List.set_cons_zero, List.set_cons_succ]
  refine wpAnyH_take (i := 1) (v := ?_) rfl (by kernel_rfl) (by kernel_rfl) (by kernel_rfl) (fun _ _ _ h => h) (Or.inl ⟨by rfl, ?_⟩) (by assumption) ?_
  rotate_left
  · (intro w hSw; (try dsimp only at hSw); (try simp only [List.getElem_toArray, List.getElem_cons_zero, List.getElem_cons_succ]); go_simp; try (with_reducible rfl))
  try simp only [Act.put, List.getElem_toArray, List.getElem_cons_zero, List.getElem_cons_succ, List.setIfInBounds_toArray, List.set_cons_zero, List.set_cons_succ]
  refine wpAnyH_take (i := 2) (v := .agg (tabL cvD T).toArray) rfl (by kernel_rfl) (by kernel_rfl) (by kernel_rfl) (fun _ _ _ h => h) (yieldsIf_load_mid (by rfl) 70 _ rfl t 0 rfl (tabL cvD T) _ (fun w h => h.1) hu rfl hi) (by assumption) ?_
  try simp only [Act.put, List.getElem_toArray, List.getElem_cons_zero, List.getElem_cons_succ, List.setIfInBounds_toArray, List.set_cons_zero, List.set_cons_succ]
  refine wpAnyH_take (i := 3) (v := ?_) rfl (by kernel_rfl) (by kernel_rfl) (by kernel_rfl) (fun _ _ _ h => h) (Or.inl ⟨by rfl, ?_⟩) (by assumption) ?_
  rotate_left
  · (intro w hSw; (try dsimp only at hSw); (try simp only [List.getElem_toArray, List.getElem_cons_zero, List.getElem_cons_succ]); go_simp; try (with_reducible rfl))
  try simp only [Act.put, List.getElem_toArray, List.getElem_cons_zero, List.getElem_cons_succ, List.setIfInBounds_toArray, List.set_cons_zero, List.set_cons_succ]
  refine wpAnyH_take (i := 4) (v := ?_) rfl (by kernel_rfl) (by kernel_rfl) (by kernel_rfl) (fun _ _ _ h => h) (Or.inl ⟨by rfl, ?_⟩) (by assumption) ?_
  rotate_left
  · (intro w hSw; (try dsimp only at hSw); (try simp only [List.getElem_toArray, List.getElem_cons_zero, List.getElem_cons_succ]); go_simp; try (with_reducible rfl))
  try simp only [Act.put, List.getElem_toArray, List.getElem_cons_zero, List.getElem_cons_succ, List.setIfInBounds_toArray, List.set_cons_zero, List.set_cons_succ]
  refine wpAnyH_take (i := 5) (v := .agg (tabL cvD T').toArray) rfl (by kernel_rfl) (by kernel_rfl) (by kernel_rfl) (fun _ _ _ h => h) (yieldsIf_load_mid (by rfl) 70 _ rfl t' 0 rfl (tabL cvD T') _ (fun w h => h.2) hu rfl hi') (by assumption) ?_
  try simp only [Act.put, List.getElem_toArray, List.getElem_cons_zero, List.getElem_cons_succ, List.setIfInBounds_toArray, List.set_cons_zero, List.set_cons_succ]
  refine wpAnyH_take (i := 6) (v := .bool (sameB T T')) rfl (by kernel_rfl) (by kernel_rfl) (by kernel_rfl) (fun _ _ _ h => h) (yieldsIf_eql (by rfl) 70 _ _ _ rfl rfl rfl (fun w => eql_qtabs hk hk' w) (by kernel_rfl)) (by assumption) ?_
  try simp only [Act.put, List.getElem_toArray, List.getElem_cons_zero, List.getElem_cons_succ, List.setIfInBounds_toArray, List.set_cons_zero, List.set_cons_succ]
  refine wpAnyH_take (i := 7) (v := ?_) rfl (by kernel_rfl) (by kernel_rfl) (by kernel_rfl) (fun _ _ _ h => h) (Or.inl ⟨by rfl, ?_⟩) (by assumption) ?_
  rotate_left
  · (intro w hSw; (try dsimp only at hSw); (try simp only [List.getElem_toArray, List.getElem_cons_zero, List.getElem_cons_succ]); go_simp; try (with_reducible rfl))
  try simp only [Act.put, List.getElem_toArray, List.getElem_cons_zero, List.getElem_cons_succ, List.setIfInBounds_toArray, List.set_cons_zero, List.set_cons_succ]
  refine wpAnyH_done (by kernel_rfl) ?_ _
  refine NoPanic.normal ?_
  go_wp2_with fail
  go_ret
  exact ⟨rfl, (Below.refl _ w).drew⟩
end Go.Proofs.YtgkfejnjjoaihaaDoor
