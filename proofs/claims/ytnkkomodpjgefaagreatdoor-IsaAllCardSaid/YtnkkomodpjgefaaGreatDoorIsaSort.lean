/- Sorting and compacting a slice of the call's own, and the document's Same, over slices that read as lists. -/
import Derived.Test.YtnkkomodpjgefaaGreatDoorIsaEnv
import Derived.Test.YtnkkomodpjgefaaGreatDoorIsaBytes
import Derived.Sort.OwnSortedInts
import Derived.Lib.LazyBuf
namespace Go.Proofs.YtnkkomodpjgefaaGreatDoor
open Go.RowKit Go.Sort

/-- A slice of ints that reads as a list. -/
def IntsAt (w : World) (v : Value) (L : List Int) : Prop :=
  (L = [] ∧ ∃ a c, v = .slice a 0 c) ∨ (∃ b off c, v = .slice (some ⟨b, off, none⟩) L.length c ∧ ∀ j, j < L.length → w.cell? ⟨b, off + j, none⟩ = some (.int .i64 (L.getD j 0)))

theorem IntsAt.below {w w' : World} {v : Value} {L : List Int} (h : IntsAt w v L) (hb : Below w.heap.size w w') : IntsAt w' v L := by
  rcases h with h | ⟨b, off, c, hv, hc⟩
  · exact Or.inl h
  · refine Or.inr ⟨b, off, c, hv, fun j hj => ?_⟩
    have hlt : b < w.heap.size := World.block_lt_of_cell? w _ (hc j hj)
    rw [hb.cell (p := ⟨b, off + j, none⟩) hlt]; exact hc j hj

theorem sort_own {base n : Nat} {v : Value} {zs : List Int} {w : World} (h : w.ownsRow base 3 1 v n (zs.map (Value.int .i64))) (hn : zs.length = n) (hs : n < 4611686018427387904) :
    Calls Tryz.prog 35 #[v] w fun e w' => e = .returned (.tuple #[]) ∧ w'.ownsRow base 3 1 v n ((zs.mergeSort fun x y => decide (x ≤ y)).map (Value.int .i64)) ∧ Below base w w' ∧ w.heap.size ≤ w'.heap.size := by
  subst hn
  rcases h.2 with ⟨hnil, hx⟩ | ⟨g, cap, cur, rfl, hbase, hb, h1, h2, h3, h4⟩
  · have hz : zs = [] := by simpa using hx
    subst hz hnil
    refine (Tryz.slices_Sort_int_none none 0 w).mono ?_
    rintro e w' ⟨rfl, rfl⟩
    exact ⟨rfl, by simpa using h, Below.refl _ _, Nat.le_refl _⟩
  · have hH : Holds (Value.int .i64) w g 0 zs.toArray := holds_of_blockI hb (by simpa using h4)
    refine (Tryz.slices_Sort_int g 0 cap zs w hH (Array.getElem?_eq_some_iff.1 hb).1 hs).mono ?_
    rintro e w' ⟨rfl, nn, os, rfl⟩
    exact ⟨rfl, ownsRow_sortedI (by simp) hbase hb h1 h2 h3, (Below.refl base w).grown (grownBy_sortedI _) (Nat.le_trans hbase (Nat.le_of_lt (Array.getElem?_eq_some_iff.1 hb).1)) (fun j hj => by cases hj; exact hbase), (grownBy_sortedI _).size⟩

def CompactPost (base : Nat) (L : List Int) (w : World) (e : Ending) (w' : World) : Prop := ∃ v, e = .returned v ∧ IntsAt w' v L ∧ Below base w w'

theorem compact_len (zs : List Int) : (Lib.compact zs).length ≤ zs.length := by
  unfold Lib.compact Lib.compactUpTo; rw [List.length_map]
  exact Nat.le_trans (List.length_filter_le _ _) (by simp)

theorem compact_own {base n : Nat} {v : Value} {zs : List Int} {w : World} (h : w.ownsRow base 3 1 v n (zs.map (Value.int .i64))) (hn : zs.length = n) (hs : n ≤ 1000) :
    Calls Tryz.prog 36 #[v] w (CompactPost base (Lib.compact zs) w) := by
  subst hn
  have h' := h
  rcases h.2 with ⟨hnil, hx⟩ | ⟨g, cap, cur, rfl, hbase, hb, h1, h2, h3, h4⟩
  · have hz : zs = [] := by simpa using hx
    subst hz hnil
    refine (Tryz.slices_Compact_int_empty none 0 w).mono ?_
    rintro e w' ⟨rfl, rfl⟩
    exact ⟨_, rfl, Or.inl ⟨rfl, none, 0, rfl⟩, Below.refl _ _⟩
  · have hc : ∀ j, j < zs.length → w.cell? ⟨g, 0 + j, none⟩ = some (.int .i64 (zs.getD j 0)) := fun j hj => by
      rw [Nat.zero_add, h'.cellAt j (by omega)]; simp [List.getD, List.getElem?_eq_getElem hj]
    refine (Tryz.slices_Compact_int_cells g 0 zs.length cap zs w (Nat.le_refl _) (by omega) h1 hc (fun j _ => h'.frozenAt _)).mono ?_
    rintro e w' ⟨rfl, q, rfl⟩
    rw [List.take_length]
    have hl := compact_len zs
    have hsome : ∀ j, j < ((Lib.compact zs ++ List.replicate (zs.length - (Lib.compact zs).length) 0).map (Value.int .i64)).length → ((w.drewN q).cell? ⟨g, 0 + j, none⟩).isSome = true := fun j hj => by
      have hj' : j < zs.length := by simp at hj; omega
      have : (w.drewN q).cell? ⟨g, 0 + j, none⟩ = w.cell? ⟨g, 0 + j, none⟩ := rfl
      rw [this, hc j hj']; rfl
    refine ⟨_, rfl, Or.inr ⟨g, 0, cap, rfl, fun j hj => ?_⟩, below_setCells hbase _ _ _ (below_drewN (Below.refl _ _) q)⟩
    rw [World.cell?_setCells_in g _ 0 (w.drewN q) hsome j (by simp; omega)]
    simp only [List.map_append, List.getElem_map, List.getElem_append]
    simp [hj, List.getD, List.getElem?_eq_getElem hj]

set_option maxHeartbeats 800000 in
set_option maxRecDepth 100000 in
theorem same_len (a b : Option Addr) (n m c d : Nat) (w : World) (h : ((n : Int) != (m : Int)) = true) :
    Calls Tryz.prog 14 #[.slice a n c, .slice b m d] w fun e w' => e = .returned (.bool false) ∧ w = w' := by
  go_enter Tryz.func14, Tryz.ntmps14
  go_wp2
  go_ret
  exact ⟨rfl, rfl⟩

set_option maxHeartbeats 800000 in
set_option maxRecDepth 100000 in
theorem same_none (a b : Option Addr) (c d : Nat) (w : World) :
    Calls Tryz.prog 14 #[.slice a 0 c, .slice b 0 d] w fun e w' => e = .returned (.bool true) ∧ w = w' := by
  go_enter Tryz.func14, Tryz.ntmps14
  go_wp2
  refine wp_loop_rounds 1 ?_
  rw [rounds_succ]
  go_wp2
  go_ret
  exact ⟨rfl, rfl⟩

set_option maxHeartbeats 800000 in
set_option maxRecDepth 100000 in
theorem same_rows (b1 o1 c1 b2 o2 c2 : Nat) (L1 L2 : List Int) (n : Nat) (w : World) (hn1 : L1.length = n) (hn2 : L2.length = n) (hs : n ≤ 1000)
    (h1 : ∀ j, j < n → w.cell? ⟨b1, o1 + j, none⟩ = some (.int .i64 (L1.getD j 0))) (h2 : ∀ j, j < n → w.cell? ⟨b2, o2 + j, none⟩ = some (.int .i64 (L2.getD j 0))) :
    Calls Tryz.prog 14 #[.slice (some ⟨b1, o1, none⟩) n c1, .slice (some ⟨b2, o2, none⟩) n c2] w fun e w' => e = .returned (.bool (L1 == L2)) ∧ ∃ q, w' = w.drewN q := by
  go_enter Tryz.func14, Tryz.ntmps14
  go_wp2
  go_loopw [5] (fun i wr => ∃ k : Nat, k ≤ n ∧ i = .int .i64 k ∧ (∀ j, j < k → L1.getD j 0 = L2.getD j 0) ∧ ∃ q, wr = w.drewN q) (fun i _ => n - (intOf i).toNat)
  case atStart => exact ⟨0, Nat.zero_le _, rfl, fun j hj => absurd hj (by omega), 0, rfl⟩
  case round =>
    obtain ⟨k, hk, rfl, heq, q, rfl⟩ := hrel
    by_cases hlt : k < n
    · have g1 := h1 k hlt
      have g2 := h2 k hlt
      have hE := Lib.hid heq
      have hL : L1.getD k 0 ≠ L2.getD k 0 → (L1 == L2) = false := fun h => by rw [beq_eq_false_iff_ne]; rintro rfl; exact h rfl
      clear h1 h2 heq
      have hk0 : (0 : Int) ≤ (k : Int) := by omega
      have hk1 : (k : Int) < (n : Int) := by omega
      generalize hx : L1.getD k 0 = x at *
      generalize hy : L2.getD k 0 = y at *
      have HX := Lib.hid hx
      have HY := Lib.hid hy
      have HL := Lib.hid hL
      clear hx hy hL
      by_cases he : x = y
      · have hb : (x != y) = false := by rw [he]; simp
        have HE := Lib.hid he
        clear he
        go_wp2
        go_quiet (fail)
        go_wp2
        go_roundw
        case rel =>
          refine ⟨k + 1, by omega, by go_num, fun j hj => ?_, _, by first | rfl | exact World.drewN_drewN _ _ _⟩
          by_cases hjk : j < k
          · exact hE.out j hjk
          · obtain rfl : j = k := by omega
            rw [HX.out, HY.out, HE.out]
        case measure => simp [intOf]; omega
      · have hb : (x != y) = true := by rw [bne_iff_ne]; exact he
        have HF := Lib.hid (HL.out he)
        clear he
        go_wp2
        go_quiet (fail)
        go_wp2
        go_ret
        exact ⟨ret_bool HF.out.symm, _, by first | rfl | exact World.drewN_drewN _ _ _⟩
    · obtain rfl : k = n := by omega
      have hL : (L1 == L2) = true := by
        rw [beq_iff_eq]
        apply List.ext_getElem (by omega)
        intro j hj1 hj2
        have := heq j (by omega)
        simpa [List.getD, List.getElem?_eq_getElem hj1, List.getElem?_eq_getElem hj2] using this
      have HL := Lib.hid hL
      clear h1 h2 heq hL
      go_wp2
      go_ret
      exact ⟨ret_bool HL.out.symm, _, rfl⟩

theorem same_any {v1 v2 : Value} {L1 L2 : List Int} {w : World} (h1 : IntsAt w v1 L1) (h2 : IntsAt w v2 L2) (hs : L1.length ≤ 1000) (hs2 : L2.length ≤ 1000) :
    Calls Tryz.prog 14 #[v1, v2] w fun e w' => e = .returned (.bool (L1 == L2)) ∧ ∃ q, w' = w.drewN q := by
  by_cases hl : L1.length = L2.length
  · rcases h1 with ⟨rfl, a1, c1, rfl⟩ | ⟨b1, o1, c1, rfl, k1⟩
    · have : L2 = [] := by simpa using hl.symm
      subst this
      rcases h2 with ⟨_, a2, c2, rfl⟩ | ⟨b2, o2, c2, rfl, k2⟩
      · exact (same_none a1 a2 c1 c2 w).mono fun e w' h => ⟨h.1, 0, h.2.symm⟩
      · exact (same_none a1 _ c1 c2 w).mono fun e w' h => ⟨h.1, 0, h.2.symm⟩
    · rcases h2 with ⟨rfl, a2, c2, rfl⟩ | ⟨b2, o2, c2, rfl, k2⟩
      · have : L1 = [] := by simpa using hl
        subst this
        exact (same_none _ a2 c1 c2 w).mono fun e w' h => ⟨h.1, 0, h.2.symm⟩
      · rw [← hl] at k2 ⊢
        exact same_rows b1 o1 c1 b2 o2 c2 L1 L2 L1.length w rfl hl.symm hs k1 k2
  · have hne : (L1 == L2) = false := by rw [beq_eq_false_iff_ne]; rintro rfl; exact hl rfl
    have hb : ((L1.length : Int) != (L2.length : Int)) = true := by rw [bne_iff_ne]; omega
    rw [hne]
    rcases h1 with ⟨rfl, a1, c1, rfl⟩ | ⟨b1, o1, c1, rfl, k1⟩
    · rcases h2 with ⟨rfl, a2, c2, rfl⟩ | ⟨b2, o2, c2, rfl, k2⟩
      · exact absurd rfl hl
      · exact (same_len a1 _ 0 _ c1 c2 w (by simpa using hb)).mono fun e w' h => ⟨h.1, 0, h.2.symm⟩
    · rcases h2 with ⟨rfl, a2, c2, rfl⟩ | ⟨b2, o2, c2, rfl, k2⟩
      · exact (same_len _ a2 _ 0 c1 c2 w (by simpa using hb)).mono fun e w' h => ⟨h.1, 0, h.2.symm⟩
      · exact (same_len _ _ _ _ c1 c2 w hb).mono fun e w' h => ⟨h.1, 0, h.2.symm⟩

end Go.Proofs.YtnkkomodpjgefaaGreatDoor
