/- alike: a step of the account 1, on both sides. -/
import Derived.Test.YtgpdkfmneoggkaaExTb
namespace Go.Proofs.Ytgpdkfmneoggkaa
open Go.RowKit
attribute [local go_sem] Oper.semAt_some

theorem range_step {w w' : World} {b o : Nat} {cs : List Value} (h : w.rangeAt b o cs) (hb : Below w.heap.size w w') : w'.rangeAt b o cs := fun j v hv => (hb.cell (p := ⟨b, o + j, none⟩) (World.block_lt_of_cell? w _ (h j v hv))).trans (h j v hv)
set_option maxHeartbeats 16000000 in
set_option maxRecDepth 100000 in
theorem alike_any {w0 W : World} {x d y c m : Nat} (h : Inv10 w0 W x d y c m) (hm : m < 1000000) (X : Stp10) (hX0 : X.fits w0) (kd : Int) (hkd : X.kd = kd) :
    Calls Try.prog 22 #[.pointer (some ⟨x, 0, none⟩), .pointer (some ⟨y, 0, none⟩), .agg #[.int .i64 kd, .int .i64 X.a, .int .i64 X.b, .int .i64 X.c, .slice X.dA X.dl.length X.dc, .slice X.kA X.kl.length X.kc]] W fun e w' => e = .returned (.bool true) ∧ Inv10 w0 w' x d y c (m + 1) := by
  obtain ⟨O1, L1, s1, k1, O2, L2, s2, k2, hT, hS1, hS2, hAl, m1, m2⟩ := h
  have HT := Lib.hid hT
  have HS1 := Lib.hid hS1
  have HS2 := Lib.hid hS2
  have HAL := Lib.hid hAl
  have HM1 := Lib.hid m1
  have HM2 := Lib.hid m2
  have H0 := Lib.hid (show Inv10 w0 W x d y c (m + 1) from ⟨O1, L1, s1, k1, O2, L2, s2, k2, hT, hS1, hS2, hAl, by omega, by omega⟩)
  have HF0 := Lib.hid hX0
  have HF := Lib.hid (hX0.below hT.bl)
  clear hT hS1 hS2 hAl m1 m2 hX0 hkd
  go_enter Try.func22, Try.ntmps22
  go_upto_block 0 with fail
  go_cut [7, 8, 9, 10, 11] (fun o q1 q2 q3 q4 W' => o = .bool true ∧ Inv10 w0 W' x d y c (m + 1))
  case first =>
    by_cases hk1 : kd = 1
    · subst hk1
      go_wp2_with fail
      have hTx := HT.out.step (below_x10 W 1 X)
      go_at_call 17
      refine Calls.mono (side_take hTx.a 1 (by rw [HS1.out.n]; omega) X.b HF.out.wb) ?_
      rintro e w1 hs
      obtain ⟨rfl, O1', L1', hT1⟩ := hTx.left hs
      have HT1 := Lib.hid hT1.sym
      have hxc : w1.cell? ⟨W.heap.size, 2, none⟩ = some (.int .i64 X.b) := by
        have hb := hs.2.choose_spec.choose_spec.2.2.block W.heap.size (by simp [xobj10]) (by rintro (hh | hh); exact Nat.lt_irrefl _ (HT.out.a.dk.lt _ hh); exact Nat.lt_irrefl W.heap.size (hh ▸ HT.out.a.ex.lt))
        exact (World.cell?_of_block (a := ⟨W.heap.size, 2, none⟩) hb).trans (cell_of_row _ _ 2 _ _ _ (heap_alloc_new W (xobj10 1 X)))
      clear hTx hs hT1
      go_wp2_with fail
      go_at_call 17
      refine Calls.mono (side_take HT1.out.a 1 (by rw [HS2.out.n]; omega) X.b HF.out.wb) ?_
      rintro e w2 hs
      obtain ⟨rfl, O2', L2', hT2⟩ := HT1.out.left hs
      rw [← HAL.out.p] at hT2 ⊢
      have HR := Lib.hid (show Inv10 w0 w2 x d y c (m + 1) from ⟨_, _, _, _, _, _, _, _, hT2.sym, HS1.out.set 1 _ (takeV_same _ _), HS2.out.set 1 _ (by rw [← HAL.out.p]; exact takeV_same _ _), HAL.out.part1 _, by have := HM1.out; omega, by have := HM2.out; omega⟩)
      clear hs hT2 hxc
      generalize takeV (s1.pt 1) X.b = tv
      go_wp2_with (go_at_call 16; refine (num_any10 _ _).mono ?_; rintro e w' ⟨rfl, rfl⟩)
      go_meet
      exact ⟨rfl, HR.out⟩
    by_cases hk2 : kd = 2
    · subst hk2
      go_wp2_with fail
      have hS0 : (W.alloc (xobj10 2 X)).drew.cell? ⟨W.heap.size, 2, none⟩ = some (.int .i64 X.b) ∧ (W.alloc (xobj10 2 X)).drew.cell? ⟨W.heap.size, 3, none⟩ = some (.int .i64 X.c) := ⟨(cell_of_row _ _ 2 _ _ _ (heap_alloc_new W (xobj10 2 X))), (cell_of_row _ _ 3 _ _ _ (heap_alloc_new W (xobj10 2 X)))⟩
      refine wp_region_noPanic ?_
      refine wp_region_held_drew (S := fun W' => W'.cell? ⟨W.heap.size, 2, none⟩ = some (.int .i64 X.b) ∧ W'.cell? ⟨W.heap.size, 3, none⟩ = some (.int .i64 X.c)) (by kernel_rfl) ?_ (fun hHeld => ?_)
      · exact hS0
      refine wpAnyH_take (i := 0) (v := ?_) rfl (by kernel_rfl) (by kernel_rfl) (by kernel_rfl) (fun _ _ _ h => h) (Or.inl ⟨by rfl, ?_⟩) (by assumption) ?_
      rotate_left
      · (intro w hSw; obtain ⟨hS1, hS2⟩ := hSw; (try simp only [List.getElem_toArray, List.getElem_cons_zero]); go_simp; try (with_reducible rfl))
      try simp only [Act.put, List.getElem_toArray, List.getElem_cons_zero, List.setIfInBounds_toArray, List.set_cons_zero, List.set_cons_succ]
      refine wpAnyH_take (i := 1) (v := ?_) rfl (by kernel_rfl) (by kernel_rfl) (by kernel_rfl) (fun _ _ _ h => h) (Or.inl ⟨by rfl, ?_⟩) (by assumption) ?_
      rotate_left
      · (intro w hSw; obtain ⟨hS1, hS2⟩ := hSw; (try simp only [List.getElem_toArray, List.getElem_cons_zero, List.getElem_cons_succ]); go_simp; try (with_reducible rfl))
      try simp only [Act.put, List.getElem_toArray, List.getElem_cons_zero, List.getElem_cons_succ, List.setIfInBounds_toArray, List.set_cons_zero, List.set_cons_succ]
      refine wpAnyH_take (i := 2) (v := ?_) rfl (by kernel_rfl) (by kernel_rfl) (by kernel_rfl) (fun _ _ _ h => h) (Or.inl ⟨by rfl, ?_⟩) (by assumption) ?_
      rotate_left
      · (intro w hSw; obtain ⟨hS1, hS2⟩ := hSw; (try simp only [List.getElem_toArray, List.getElem_cons_zero, List.getElem_cons_succ]); go_simp; try (with_reducible rfl))
      try simp only [Act.put, List.getElem_toArray, List.getElem_cons_zero, List.getElem_cons_succ, List.setIfInBounds_toArray, List.set_cons_zero, List.set_cons_succ]
      refine wpAnyH_take (i := 3) (v := ?_) rfl (by kernel_rfl) (by kernel_rfl) (by kernel_rfl) (fun _ _ _ h => h) (Or.inl ⟨by rfl, ?_⟩) (by assumption) ?_
      rotate_left
      · (intro w hSw; obtain ⟨hS1, hS2⟩ := hSw; (try simp only [List.getElem_toArray, List.getElem_cons_zero, List.getElem_cons_succ]); go_simp; try (with_reducible rfl))
      try simp only [Act.put, List.getElem_toArray, List.getElem_cons_zero, List.getElem_cons_succ, List.setIfInBounds_toArray, List.set_cons_zero, List.set_cons_succ]
      refine wpAnyH_take (i := 4) (v := ?_) rfl (by kernel_rfl) (by kernel_rfl) (by kernel_rfl) (fun _ _ _ h => h) (Or.inl ⟨by rfl, ?_⟩) (by assumption) ?_
      rotate_left
      · (intro w hSw; obtain ⟨hS1, hS2⟩ := hSw; (try simp only [List.getElem_toArray, List.getElem_cons_zero, List.getElem_cons_succ]); go_simp; try (with_reducible rfl))
      try simp only [Act.put, List.getElem_toArray, List.getElem_cons_zero, List.getElem_cons_succ, List.setIfInBounds_toArray, List.set_cons_zero, List.set_cons_succ]
      refine wpAnyH_take (i := 7) (v := ?_) rfl (by kernel_rfl) (by kernel_rfl) (by kernel_rfl) (fun _ _ _ h => h) (Or.inl ⟨by rfl, ?_⟩) (by assumption) ?_
      rotate_left
      · (intro w hSw; obtain ⟨hS1, hS2⟩ := hSw; (try simp only [List.getElem_toArray, List.getElem_cons_zero, List.getElem_cons_succ]); go_simp; try (with_reducible rfl))
      try simp only [Act.put, List.getElem_toArray, List.getElem_cons_zero, List.getElem_cons_succ, List.setIfInBounds_toArray, List.set_cons_zero, List.set_cons_succ]
      refine wpAnyH_take (i := 8) (v := ?_) rfl (by kernel_rfl) (by kernel_rfl) (by kernel_rfl) (fun _ _ _ h => h) (Or.inl ⟨by rfl, ?_⟩) (by assumption) ?_
      rotate_left
      · (intro w hSw; obtain ⟨hS1, hS2⟩ := hSw; (try simp only [List.getElem_toArray, List.getElem_cons_zero, List.getElem_cons_succ]); go_simp; try (with_reducible rfl))
      try simp only [Act.put, List.getElem_toArray, List.getElem_cons_zero, List.getElem_cons_succ, List.setIfInBounds_toArray, List.set_cons_zero, List.set_cons_succ]
      refine wpAnyH_take (i := 9) (v := ?_) rfl (by kernel_rfl) (by kernel_rfl) (by kernel_rfl) (fun _ _ _ h => h) (Or.inl ⟨by rfl, ?_⟩) (by assumption) ?_
      rotate_left
      · (intro w hSw; obtain ⟨hS1, hS2⟩ := hSw; (try simp only [List.getElem_toArray, List.getElem_cons_zero, List.getElem_cons_succ]); go_simp; try (with_reducible rfl))
      try simp only [Act.put, List.getElem_toArray, List.getElem_cons_zero, List.getElem_cons_succ, List.setIfInBounds_toArray, List.set_cons_zero, List.set_cons_succ]
      refine wpAnyH_take (i := 10) (v := ?_) rfl (by kernel_rfl) (by kernel_rfl) (by kernel_rfl) (fun _ _ _ h => h) (Or.inl ⟨by rfl, ?_⟩) (by assumption) ?_
      rotate_left
      · (intro w hSw; obtain ⟨hS1, hS2⟩ := hSw; (try simp only [List.getElem_toArray, List.getElem_cons_zero, List.getElem_cons_succ]); go_simp; try (with_reducible rfl))
      try simp only [Act.put, List.getElem_toArray, List.getElem_cons_zero, List.getElem_cons_succ, List.setIfInBounds_toArray, List.set_cons_zero, List.set_cons_succ]
      refine wpAnyH_take (i := 11) (v := ?_) rfl (by kernel_rfl) (by kernel_rfl) (by kernel_rfl) (fun _ _ _ h => h) (Or.inl ⟨by rfl, ?_⟩) (by assumption) ?_
      rotate_left
      · (intro w hSw; obtain ⟨hS1, hS2⟩ := hSw; (try simp only [List.getElem_toArray, List.getElem_cons_zero, List.getElem_cons_succ]); go_simp; try (with_reducible rfl))
      try simp only [Act.put, List.getElem_toArray, List.getElem_cons_zero, List.getElem_cons_succ, List.setIfInBounds_toArray, List.set_cons_zero, List.set_cons_succ]
      have hTx := (HT.out.step (below_x10 W 2 X)).step (Below.drew (Below.refl _ (W.alloc (xobj10 2 X))))
      have hB1 : Below W.heap.size W (W.alloc (xobj10 2 X)).drew := (below_x10 W 2 X).drew
      refine wpAnyH_ready (rs := [5]) (by kernel_rfl) (by simp) ?_
      refine AllReadyH.cons rfl (fun K hK => ?_) AllReadyH.nil
      (try simp only [List.getElem_toArray, List.getElem_cons_zero, List.getElem_cons_succ]); go_simp
      go_at_call 23
      refine Calls.mono (side_give hTx.a 1 (by rw [HS1.out.n]; omega) X.b X.c HF.out.wb HF.out.wc) ?_
      rintro e w1 hs
      have hk1 : ∀ o v, (W.alloc (xobj10 2 X)).drew.cell? ⟨W.heap.size, o, none⟩ = some v → w1.cell? ⟨W.heap.size, o, none⟩ = some v := fun o v hv => (World.cell?_of_block (a := ⟨W.heap.size, o, none⟩) (hs.2.choose_spec.choose_spec.2.2.block W.heap.size (by simp [xobj10]) (by rintro (hh | hh); exact Nat.lt_irrefl _ (HT.out.a.dk.lt _ hh); exact Nat.lt_irrefl W.heap.size (hh ▸ HT.out.a.ex.lt)))).trans hv
      obtain ⟨rfl, O1', L1', hT1⟩ := hTx.left hs
      have HT1 := Lib.hid hT1.sym
      have hS1' := And.intro (hk1 _ _ hS0.1) (hk1 _ _ hS0.2)
      clear hs hT1 hTx hk1
      try (go_wp2_with fail)
      refine hK.out _ _ (hS1') (fun hHeld => ?_)
      clear hK K
      try simp only [Act.put, List.getElem_toArray, List.getElem_cons_zero, List.getElem_cons_succ, List.setIfInBounds_toArray, List.set_cons_zero, List.set_cons_succ]
      refine wpAnyH_ready (rs := [6]) (by kernel_rfl) (by simp) ?_
      refine AllReadyH.cons rfl (fun K hK => ?_) AllReadyH.nil
      (try simp only [List.getElem_toArray, List.getElem_cons_zero, List.getElem_cons_succ]); go_simp
      go_at_call 16; refine (num_any10 _ _).mono ?_; rintro e w' ⟨rfl, rfl⟩
      try (go_wp2_with fail)
      refine hK.out _ _ (hS1') (fun hHeld => ?_)
      clear hK K
      try simp only [Act.put, List.getElem_toArray, List.getElem_cons_zero, List.getElem_cons_succ, List.setIfInBounds_toArray, List.set_cons_zero, List.set_cons_succ]
      refine wpAnyH_ready (rs := [12]) (by kernel_rfl) (by simp) ?_
      refine AllReadyH.cons rfl (fun K hK => ?_) AllReadyH.nil
      (try simp only [List.getElem_toArray, List.getElem_cons_zero, List.getElem_cons_succ]); go_simp
      go_at_call 23
      refine Calls.mono (side_give HT1.out.a 1 (by rw [HS2.out.n]; omega) X.b X.c HF.out.wb HF.out.wc) ?_
      rintro e w2 hs
      have hk2 : ∀ o v, w1.cell? ⟨W.heap.size, o, none⟩ = some v → w2.cell? ⟨W.heap.size, o, none⟩ = some v := fun o v hv => (World.cell?_of_block (a := ⟨W.heap.size, o, none⟩) (hs.2.choose_spec.choose_spec.2.2.block W.heap.size (World.block_lt_of_cell? w1 _ hS1'.1) (by rintro (hh | hh); exact Nat.lt_irrefl _ (HT.out.b.dk.lt _ hh); exact Nat.lt_irrefl W.heap.size (hh ▸ HT.out.b.ex.lt)))).trans hv
      obtain ⟨rfl, O2', L2', hT2⟩ := HT1.out.left hs
      have HT2 := Lib.hid hT2.sym
      have hS2' := And.intro (hk2 _ _ hS1'.1) (hk2 _ _ hS1'.2)
      clear hs hT2 hk2
      try (go_wp2_with fail)
      refine hK.out _ _ (hS2') (fun hHeld => ?_)
      clear hK K
      try simp only [Act.put, List.getElem_toArray, List.getElem_cons_zero, List.getElem_cons_succ, List.setIfInBounds_toArray, List.set_cons_zero, List.set_cons_succ]
      refine wpAnyH_ready (rs := [13]) (by kernel_rfl) (by simp) ?_
      refine AllReadyH.cons rfl (fun K hK => ?_) AllReadyH.nil
      (try simp only [List.getElem_toArray, List.getElem_cons_zero, List.getElem_cons_succ]); go_simp
      go_at_call 16; refine (num_any10 _ _).mono ?_; rintro e w' ⟨rfl, rfl⟩
      try (go_wp2_with fail)
      refine hK.out _ _ (hS2') (fun hHeld => ?_)
      clear hK K
      try simp only [Act.put, List.getElem_toArray, List.getElem_cons_zero, List.getElem_cons_succ, List.setIfInBounds_toArray, List.set_cons_zero, List.set_cons_succ]
      refine wpAnyH_take (i := 14) (v := ?_) rfl (by kernel_rfl) (by kernel_rfl) (by kernel_rfl) (fun _ _ _ h => h) (Or.inl ⟨by rfl, ?_⟩) (by assumption) ?_
      rotate_left
      · (intro w hSw; obtain ⟨hS1, hS2⟩ := hSw; (try simp only [List.getElem_toArray, List.getElem_cons_zero, List.getElem_cons_succ]); go_simp; try (with_reducible rfl))
      try simp only [Act.put, List.getElem_toArray, List.getElem_cons_zero, List.getElem_cons_succ, List.setIfInBounds_toArray, List.set_cons_zero, List.set_cons_succ]
      refine wpAnyH_take (i := 15) (v := ?_) rfl (by kernel_rfl) (by kernel_rfl) (by kernel_rfl) (fun _ _ _ h => h) (Or.inl ⟨by rfl, ?_⟩) (by assumption) ?_
      rotate_left
      · (intro w hSw; obtain ⟨hS1, hS2⟩ := hSw; (try simp only [List.getElem_toArray, List.getElem_cons_zero, List.getElem_cons_succ]); go_simp; try (with_reducible rfl))
      try simp only [Act.put, List.getElem_toArray, List.getElem_cons_zero, List.getElem_cons_succ, List.setIfInBounds_toArray, List.set_cons_zero, List.set_cons_succ]
      refine wpAnyH_done (by kernel_rfl) ?_ _
      refine NoPanic.normal ?_
      have HR := Lib.hid (show Inv10 w0 w2 x d y c (m + 1) from ⟨_, _, _, _, _, _, _, _, HT2.out, HS1.out.set 1 _ (giveV_same _ _ _), HS2.out.set 1 _ (giveV_same _ _ _), by rw [← HAL.out.p]; exact HAL.out.part1 _, by have := HM1.out; omega, by have := HM2.out; omega⟩)
      go_wp2_with fail
      go_meet
      exact ⟨by rw [← HAL.out.p]; simp, HR.out⟩
    by_cases hk3 : kd = 3
    · subst hk3
      go_wp2_with fail
      have hS0 : (W.alloc (xobj10 3 X)).drew.cell? ⟨W.heap.size, 2, none⟩ = some (.int .i64 X.b) ∧ (W.alloc (xobj10 3 X)).drew.cell? ⟨W.heap.size, 4, none⟩ = some (.slice X.dA X.dl.length X.dc) := ⟨(cell_of_row _ _ 2 _ _ _ (heap_alloc_new W (xobj10 3 X))), (cell_of_row _ _ 4 _ _ _ (heap_alloc_new W (xobj10 3 X)))⟩
      refine wp_region_noPanic ?_
      refine wp_region_held_drew (S := fun W' => W'.cell? ⟨W.heap.size, 2, none⟩ = some (.int .i64 X.b) ∧ W'.cell? ⟨W.heap.size, 4, none⟩ = some (.slice X.dA X.dl.length X.dc)) (by kernel_rfl) ?_ (fun hHeld => ?_)
      · exact hS0
      refine wpAnyH_take (i := 0) (v := ?_) rfl (by kernel_rfl) (by kernel_rfl) (by kernel_rfl) (fun _ _ _ h => h) (Or.inl ⟨by rfl, ?_⟩) (by assumption) ?_
      rotate_left
      · (intro w hSw; obtain ⟨hS1, hS2⟩ := hSw; (try simp only [List.getElem_toArray, List.getElem_cons_zero]); go_simp; try (with_reducible rfl))
      try simp only [Act.put, List.getElem_toArray, List.getElem_cons_zero, List.setIfInBounds_toArray, List.set_cons_zero, List.set_cons_succ]
      refine wpAnyH_take (i := 1) (v := ?_) rfl (by kernel_rfl) (by kernel_rfl) (by kernel_rfl) (fun _ _ _ h => h) (Or.inl ⟨by rfl, ?_⟩) (by assumption) ?_
      rotate_left
      · (intro w hSw; obtain ⟨hS1, hS2⟩ := hSw; (try simp only [List.getElem_toArray, List.getElem_cons_zero, List.getElem_cons_succ]); go_simp; try (with_reducible rfl))
      try simp only [Act.put, List.getElem_toArray, List.getElem_cons_zero, List.getElem_cons_succ, List.setIfInBounds_toArray, List.set_cons_zero, List.set_cons_succ]
      refine wpAnyH_take (i := 2) (v := ?_) rfl (by kernel_rfl) (by kernel_rfl) (by kernel_rfl) (fun _ _ _ h => h) (Or.inl ⟨by rfl, ?_⟩) (by assumption) ?_
      rotate_left
      · (intro w hSw; obtain ⟨hS1, hS2⟩ := hSw; (try simp only [List.getElem_toArray, List.getElem_cons_zero, List.getElem_cons_succ]); go_simp; try (with_reducible rfl))
      try simp only [Act.put, List.getElem_toArray, List.getElem_cons_zero, List.getElem_cons_succ, List.setIfInBounds_toArray, List.set_cons_zero, List.set_cons_succ]
      refine wpAnyH_take (i := 3) (v := ?_) rfl (by kernel_rfl) (by kernel_rfl) (by kernel_rfl) (fun _ _ _ h => h) (Or.inl ⟨by rfl, ?_⟩) (by assumption) ?_
      rotate_left
      · (intro w hSw; obtain ⟨hS1, hS2⟩ := hSw; (try simp only [List.getElem_toArray, List.getElem_cons_zero, List.getElem_cons_succ]); go_simp; try (with_reducible rfl))
      try simp only [Act.put, List.getElem_toArray, List.getElem_cons_zero, List.getElem_cons_succ, List.setIfInBounds_toArray, List.set_cons_zero, List.set_cons_succ]
      refine wpAnyH_take (i := 4) (v := ?_) rfl (by kernel_rfl) (by kernel_rfl) (by kernel_rfl) (fun _ _ _ h => h) (Or.inl ⟨by rfl, ?_⟩) (by assumption) ?_
      rotate_left
      · (intro w hSw; obtain ⟨hS1, hS2⟩ := hSw; (try simp only [List.getElem_toArray, List.getElem_cons_zero, List.getElem_cons_succ]); go_simp; try (with_reducible rfl))
      try simp only [Act.put, List.getElem_toArray, List.getElem_cons_zero, List.getElem_cons_succ, List.setIfInBounds_toArray, List.set_cons_zero, List.set_cons_succ]
      refine wpAnyH_take (i := 7) (v := ?_) rfl (by kernel_rfl) (by kernel_rfl) (by kernel_rfl) (fun _ _ _ h => h) (Or.inl ⟨by rfl, ?_⟩) (by assumption) ?_
      rotate_left
      · (intro w hSw; obtain ⟨hS1, hS2⟩ := hSw; (try simp only [List.getElem_toArray, List.getElem_cons_zero, List.getElem_cons_succ]); go_simp; try (with_reducible rfl))
      try simp only [Act.put, List.getElem_toArray, List.getElem_cons_zero, List.getElem_cons_succ, List.setIfInBounds_toArray, List.set_cons_zero, List.set_cons_succ]
      refine wpAnyH_take (i := 8) (v := ?_) rfl (by kernel_rfl) (by kernel_rfl) (by kernel_rfl) (fun _ _ _ h => h) (Or.inl ⟨by rfl, ?_⟩) (by assumption) ?_
      rotate_left
      · (intro w hSw; obtain ⟨hS1, hS2⟩ := hSw; (try simp only [List.getElem_toArray, List.getElem_cons_zero, List.getElem_cons_succ]); go_simp; try (with_reducible rfl))
      try simp only [Act.put, List.getElem_toArray, List.getElem_cons_zero, List.getElem_cons_succ, List.setIfInBounds_toArray, List.set_cons_zero, List.set_cons_succ]
      refine wpAnyH_take (i := 9) (v := ?_) rfl (by kernel_rfl) (by kernel_rfl) (by kernel_rfl) (fun _ _ _ h => h) (Or.inl ⟨by rfl, ?_⟩) (by assumption) ?_
      rotate_left
      · (intro w hSw; obtain ⟨hS1, hS2⟩ := hSw; (try simp only [List.getElem_toArray, List.getElem_cons_zero, List.getElem_cons_succ]); go_simp; try (with_reducible rfl))
      try simp only [Act.put, List.getElem_toArray, List.getElem_cons_zero, List.getElem_cons_succ, List.setIfInBounds_toArray, List.set_cons_zero, List.set_cons_succ]
      refine wpAnyH_take (i := 10) (v := ?_) rfl (by kernel_rfl) (by kernel_rfl) (by kernel_rfl) (fun _ _ _ h => h) (Or.inl ⟨by rfl, ?_⟩) (by assumption) ?_
      rotate_left
      · (intro w hSw; obtain ⟨hS1, hS2⟩ := hSw; (try simp only [List.getElem_toArray, List.getElem_cons_zero, List.getElem_cons_succ]); go_simp; try (with_reducible rfl))
      try simp only [Act.put, List.getElem_toArray, List.getElem_cons_zero, List.getElem_cons_succ, List.setIfInBounds_toArray, List.set_cons_zero, List.set_cons_succ]
      refine wpAnyH_take (i := 11) (v := ?_) rfl (by kernel_rfl) (by kernel_rfl) (by kernel_rfl) (fun _ _ _ h => h) (Or.inl ⟨by rfl, ?_⟩) (by assumption) ?_
      rotate_left
      · (intro w hSw; obtain ⟨hS1, hS2⟩ := hSw; (try simp only [List.getElem_toArray, List.getElem_cons_zero, List.getElem_cons_succ]); go_simp; try (with_reducible rfl))
      try simp only [Act.put, List.getElem_toArray, List.getElem_cons_zero, List.getElem_cons_succ, List.setIfInBounds_toArray, List.set_cons_zero, List.set_cons_succ]
      have hTx := (HT.out.step (below_x10 W 3 X)).step (Below.drew (Below.refl _ (W.alloc (xobj10 3 X))))
      have hB1 : Below W.heap.size W (W.alloc (xobj10 3 X)).drew := (below_x10 W 3 X).drew
      refine wpAnyH_ready (rs := [5]) (by kernel_rfl) (by simp) ?_
      refine AllReadyH.cons rfl (fun K hK => ?_) AllReadyH.nil
      (try simp only [List.getElem_toArray, List.getElem_cons_zero, List.getElem_cons_succ]); go_simp
      go_at_call 26
      refine Calls.mono (side_write hTx.a 1 (by rw [HS1.out.n]; omega) X.b X.dA X.dc X.dl (HF.out.dat.below hB1) HF.out.d01 (data_far HF0.out.dat (fun n hn => HT.out.lo1 n (.inl hn))) (by have := HM1.out; omega)) ?_
      rintro e w1 hs
      have hk1 : ∀ o v, (W.alloc (xobj10 3 X)).drew.cell? ⟨W.heap.size, o, none⟩ = some v → w1.cell? ⟨W.heap.size, o, none⟩ = some v := fun o v hv => (World.cell?_of_block (a := ⟨W.heap.size, o, none⟩) (hs.2.choose_spec.choose_spec.2.2.block W.heap.size (by simp [xobj10]) (by rintro (hh | hh); exact Nat.lt_irrefl _ (HT.out.a.dk.lt _ hh); exact Nat.lt_irrefl W.heap.size (hh ▸ HT.out.a.ex.lt)))).trans hv
      obtain ⟨rfl, O1', L1', hT1⟩ := hTx.left hs
      have HT1 := Lib.hid hT1.sym
      have hS1' := And.intro (hk1 _ _ hS0.1) (hk1 _ _ hS0.2)
      clear hs hT1 hTx hk1
      try (go_wp2_with fail)
      refine hK.out _ _ (hS1') (fun hHeld => ?_)
      clear hK K
      try simp only [Act.put, List.getElem_toArray, List.getElem_cons_zero, List.getElem_cons_succ, List.setIfInBounds_toArray, List.set_cons_zero, List.set_cons_succ]
      refine wpAnyH_ready (rs := [6]) (by kernel_rfl) (by simp) ?_
      refine AllReadyH.cons rfl (fun K hK => ?_) AllReadyH.nil
      (try simp only [List.getElem_toArray, List.getElem_cons_zero, List.getElem_cons_succ]); go_simp
      go_at_call 16; refine (num_any10 _ _).mono ?_; rintro e w' ⟨rfl, rfl⟩
      try (go_wp2_with fail)
      refine hK.out _ _ (hS1') (fun hHeld => ?_)
      clear hK K
      try simp only [Act.put, List.getElem_toArray, List.getElem_cons_zero, List.getElem_cons_succ, List.setIfInBounds_toArray, List.set_cons_zero, List.set_cons_succ]
      refine wpAnyH_ready (rs := [12]) (by kernel_rfl) (by simp) ?_
      refine AllReadyH.cons rfl (fun K hK => ?_) AllReadyH.nil
      (try simp only [List.getElem_toArray, List.getElem_cons_zero, List.getElem_cons_succ]); go_simp
      have hdat1 : ByteIn10 w1 X.dA X.dl := HF0.out.dat.below HT1.out.bl
      go_at_call 26
      refine Calls.mono (side_write HT1.out.a 1 (by rw [HS2.out.n]; omega) X.b X.dA X.dc X.dl hdat1 HF.out.d01 (data_far HF0.out.dat (fun n hn => HT1.out.lo1 n (.inl hn))) (by have := HM2.out; omega)) ?_
      rintro e w2 hs
      have hk2 : ∀ o v, w1.cell? ⟨W.heap.size, o, none⟩ = some v → w2.cell? ⟨W.heap.size, o, none⟩ = some v := fun o v hv => (World.cell?_of_block (a := ⟨W.heap.size, o, none⟩) (hs.2.choose_spec.choose_spec.2.2.block W.heap.size (World.block_lt_of_cell? w1 _ hS1'.1) (by rintro (hh | hh); exact Nat.lt_irrefl _ (HT.out.b.dk.lt _ hh); exact Nat.lt_irrefl W.heap.size (hh ▸ HT.out.b.ex.lt)))).trans hv
      obtain ⟨rfl, O2', L2', hT2⟩ := HT1.out.left hs
      have HT2 := Lib.hid hT2.sym
      have hS2' := And.intro (hk2 _ _ hS1'.1) (hk2 _ _ hS1'.2)
      clear hs hT2 hk2
      try (go_wp2_with fail)
      refine hK.out _ _ (hS2') (fun hHeld => ?_)
      clear hK K
      try simp only [Act.put, List.getElem_toArray, List.getElem_cons_zero, List.getElem_cons_succ, List.setIfInBounds_toArray, List.set_cons_zero, List.set_cons_succ]
      refine wpAnyH_ready (rs := [13]) (by kernel_rfl) (by simp) ?_
      refine AllReadyH.cons rfl (fun K hK => ?_) AllReadyH.nil
      (try simp only [List.getElem_toArray, List.getElem_cons_zero, List.getElem_cons_succ]); go_simp
      go_at_call 16; refine (num_any10 _ _).mono ?_; rintro e w' ⟨rfl, rfl⟩
      try (go_wp2_with fail)
      refine hK.out _ _ (hS2') (fun hHeld => ?_)
      clear hK K
      try simp only [Act.put, List.getElem_toArray, List.getElem_cons_zero, List.getElem_cons_succ, List.setIfInBounds_toArray, List.set_cons_zero, List.set_cons_succ]
      refine wpAnyH_take (i := 14) (v := ?_) rfl (by kernel_rfl) (by kernel_rfl) (by kernel_rfl) (fun _ _ _ h => h) (Or.inl ⟨by rfl, ?_⟩) (by assumption) ?_
      rotate_left
      · (intro w hSw; obtain ⟨hS1, hS2⟩ := hSw; (try simp only [List.getElem_toArray, List.getElem_cons_zero, List.getElem_cons_succ]); go_simp; try (with_reducible rfl))
      try simp only [Act.put, List.getElem_toArray, List.getElem_cons_zero, List.getElem_cons_succ, List.setIfInBounds_toArray, List.set_cons_zero, List.set_cons_succ]
      refine wpAnyH_take (i := 15) (v := ?_) rfl (by kernel_rfl) (by kernel_rfl) (by kernel_rfl) (fun _ _ _ h => h) (Or.inl ⟨by rfl, ?_⟩) (by assumption) ?_
      rotate_left
      · (intro w hSw; obtain ⟨hS1, hS2⟩ := hSw; (try simp only [List.getElem_toArray, List.getElem_cons_zero, List.getElem_cons_succ]); go_simp; try (with_reducible rfl))
      try simp only [Act.put, List.getElem_toArray, List.getElem_cons_zero, List.getElem_cons_succ, List.setIfInBounds_toArray, List.set_cons_zero, List.set_cons_succ]
      refine wpAnyH_done (by kernel_rfl) ?_ _
      refine NoPanic.normal ?_
      have hw1 := HAL.out.write1 X.b X.dl
      have HR := Lib.hid (show Inv10 w0 w2 x d y c (m + 1) from ⟨_, _, _, _, _, _, _, _, HT2.out, HS1.out.disk _ (by rw [(writeV_fl _ _ _ _).1]), HS2.out.disk _ (by rw [(writeV_fl _ _ _ _).1]), hw1.2, by have := HM1.out; have := (writeV_fl (s1.pt 1) k1 X.b X.dl).2; omega, by have := HM2.out; have := (writeV_fl (s2.pt 1) k2 X.b X.dl).2; omega⟩)
      go_wp2_with fail
      go_meet
      exact ⟨by rw [hw1.1]; simp, HR.out⟩
    by_cases hk4 : kd = 4
    · subst hk4
      go_wp2_with fail
      have hTx := HT.out.step (below_x10 W 4 X)
      go_at_call 28
      refine Calls.mono (side_flush hTx.a 1 (by rw [HS1.out.n]; omega)) ?_
      rintro e w1 hs
      obtain ⟨rfl, O1', L1', hT1⟩ := hTx.left hs
      have HT1 := Lib.hid hT1.sym
      clear hTx hs hT1
      go_wp2_with (go_at_call 16; refine (num_any10 _ _).mono ?_; rintro e w' ⟨rfl, rfl⟩)
      go_at_call 28
      refine Calls.mono (side_flush HT1.out.a 1 (by rw [HS2.out.n]; omega)) ?_
      rintro e w2 hs
      obtain ⟨rfl, O2', L2', hT2⟩ := HT1.out.left hs
      have HR := Lib.hid (show Inv10 w0 w2 x d y c (m + 1) from ⟨_, _, _, _, _, _, _, _, hT2.sym, HS1.out.disk _ (Dk.flushed_len _ _ _), HS2.out.disk _ (Dk.flushed_len _ _ _), HAL.out.flush1 HS1.out HS2.out, by rw [(flushed_get k1 _ _ (HT.out.a.fit 1)).2.2]; have := HM1.out; omega, by rw [(flushed_get k2 _ _ (HT.out.b.fit 1)).2.2]; have := HM2.out; omega⟩)
      clear hs hT2
      go_wp2_with (go_at_call 16; refine (num_any10 _ _).mono ?_; rintro e w' ⟨rfl, rfl⟩)
      go_meet
      exact ⟨rfl, HR.out⟩
    · have HR := Lib.hid (H0.out.step (below_x10 W kd X))
      go_wp2_with fail
      go_meet
      exact ⟨rfl, HR.out⟩
  case rest =>
    obtain ⟨rfl, hI⟩ := hcut
    obtain ⟨P1, M1, t1, j1, P2, M2, t2, j2, gT, gS1, gS2, gA, g1, g2⟩ := hI
    have GT := Lib.hid gT
    have GS1 := Lib.hid gS1
    have GS2 := Lib.hid gS2
    have GA := Lib.hid gA
    have G1 := Lib.hid g1
    have G2 := Lib.hid g2
    clear gT gS1 gS2 gA g1 g2 HT HS1 HS2 HAL HM1 HM2 H0 HF0 HF
    go_wp2_with fail
    go_loopg [12, 13, 14, 15, 16, 17, 18, 19, 20] 8 (fun g i i1 i2 i3 i4 i5 i6 i7 i8 W' => ∃ j : Nat, j + g = 8 ∧ i = .int .i64 (j : Int) ∧ Two w0 W' P1 x d M1 t1 j1 P2 y c M2 t2 j2)
    case atStart => exact ⟨0, by omega, rfl, GT.out⟩
    case round =>
      obtain ⟨j, hj, rfl, hT'⟩ := hrel
      have HT' := Lib.hid hT'
      clear hT'
      by_cases hlt : j < 8
      · have hlt' : (j : Int) < 8 := by omega
        have hadd : IntKind.i64.wrap ((8 : Int) + j) = ((8 + j : Nat) : Int) := by rw [IntWalk.i64_in _ (by omega)]; push_cast; rfl
        obtain ⟨fc, hfc⟩ : ∃ fc, j1.fl[8 + j]? = some fc := ⟨_, List.getElem?_eq_getElem (by rw [GS1.out.z]; omega)⟩
        have HFC := Lib.hid hfc
        have HFC2 := Lib.hid (show j2.fl[8 + j]? = some fc by rw [← GA.out.f (8 + j) (by omega) (by omega)]; exact hfc)
        have HOKF := Lib.hid (HT'.out.a.dk.ok.f fc (List.mem_of_getElem? hfc))
        have HOKS := Lib.hid (Dk.seen_ok HT'.out.a.dk.ok (i := 1 * 8 + j) (by rw [GS1.out.z]; omega))
        obtain ⟨SF, hSF⟩ : ∃ S, strS fc = .string S := ⟨_, rfl⟩
        obtain ⟨SA, hSA⟩ : ∃ S, strS (j1.seen (1 * 8 + j)) = .string S := ⟨_, rfl⟩
        have HSF := Lib.hid hSF
        have HSA := Lib.hid hSA
        obtain ⟨pl, hpl⟩ : ∃ pl, (j1.pd ((8 + j : Nat) : Int)).length = pl := ⟨_, rfl⟩
        have HPL := Lib.hid hpl
        clear hfc hSF hSA hpl
        by_cases hbit : (t1.pt 1).bit j = true
        · skip
          have hbit' : (t2.pt 1).bit j = true := by rw [← GA.out.p]; exact hbit
          go_wp2_with fail
          go_at_call 36
          refine Calls.mono (xread_yes HT'.out.a 1 (by rw [GS1.out.n]; omega) j (by rw [GS1.out.c 1 (by omega)]; exact hlt) hbit) ?_
          rw [GS1.out.f 1 (by omega)]
          rintro e w1 ⟨ga, qa, rfl, -, -, hra, -, hb1⟩
          have T1 := Lib.hid (HT'.out.step hb1)
          have RA1 := Lib.hid hra
          clear hb1 hra
          go_wp2_with fail
          go_at_call 36
          refine Calls.mono (xread_yes T1.out.b 1 (by rw [GS2.out.n]; omega) j (by rw [GS2.out.c 1 (by omega)]; exact hlt) hbit') ?_
          rw [GS2.out.f 1 (by omega), ← GA.out.seen (i := 1 * 8 + j) (by omega) (by omega)]
          rintro e w2 ⟨gb, qb, rfl, -, -, hrb, -, hb2⟩
          have T2 := Lib.hid (T1.out.step hb2)
          have RB2 := Lib.hid hrb
          have RA2 := Lib.hid (range_step RA1.out hb2)
          clear hb2 hrb RA1 T1
          go_wp2_with (go_at_call 48; refine (xdisk_any T2.out.a.ex).mono ?_; rintro e w' ⟨rfl, rfl⟩)
          go_at_call 61
          refine Calls.mono (flushed_yes9 T2.out.a.dk (8 + j) HFC.out) ?_
          rintro e w3 ⟨gc, qc, rfl, -, -, hrc, -, hb3⟩
          have T3 := Lib.hid (T2.out.step hb3)
          have RC3 := Lib.hid hrc
          have RA3 := Lib.hid (range_step RA2.out hb3)
          have RB3 := Lib.hid (range_step RB2.out hb3)
          clear RA2 RB2
          clear hb3 hrc T2
          go_wp2_with (go_at_call 48; refine (xdisk_any T3.out.b.ex).mono ?_; rintro e w' ⟨rfl, rfl⟩)
          go_at_call 61
          refine Calls.mono (flushed_yes9 T3.out.b.dk (8 + j) HFC2.out) ?_
          rintro e w4 ⟨gd, qd, rfl, -, -, hrd, -, hb4⟩
          have T4 := Lib.hid (T3.out.step hb4)
          have cv3 := conv_sec (range_step RC3.out hb4) HOKF.out qc
          have cv4 := conv_sec hrd HOKF.out qd
          have cv1 := conv_sec (range_step RA3.out hb4) HOKS.out qa
          have cv2 := conv_sec (range_step RB3.out hb4) HOKS.out qb
          rw [HSA.out] at cv1 cv2
          clear RA3 RB3
          rw [HSF.out] at cv3 cv4
          clear hb4 hrd T3 RC3
          have hpa := pending_any9 T4.out.a.dk ((8 + j : Nat) : Int) (wf_sec (by omega))
          have hpb := pending_any9 T4.out.b.dk ((8 + j : Nat) : Int) (wf_sec (by omega))
          rw [HPL.out] at hpa
          rw [← GA.out.q (8 + j) (by omega) (by omega), HPL.out] at hpb
          rw [show ((8 + j : Nat) : Int) = (8 : Int) + (j : Int) by push_cast; rfl] at hpa hpb
          have HPA := Lib.hid hpa
          have HPB := Lib.hid hpb
          clear hpa hpb
          go_wp2_with (first
            | (go_at_call 16; refine (num_any10 _ _).mono ?_; rintro e w' ⟨rfl, rfl⟩)
            | (with_reducible (go_at_call 48; refine Calls.mono (xdisk_any T4.out.a.ex) ?_); rintro e w' ⟨rfl, rfl⟩)
            | (with_reducible (go_at_call 48; refine Calls.mono (xdisk_any T4.out.b.ex) ?_); rintro e w' ⟨rfl, rfl⟩)
            | (with_reducible (go_at_call 29; refine Calls.mono HPA.out ?_); rintro e w' ⟨rfl, rfl⟩)
            | (with_reducible (go_at_call 29; refine Calls.mono HPB.out ?_); rintro e w' ⟨rfl, rfl⟩))
          go_roundg (8 - (j + 1))
          case measure => omega
          case rel => exact ⟨j + 1, by omega, by go_num, T4.out⟩
        · have hbit : (t1.pt 1).bit j = false := by simpa using hbit
          have hhas : (t1.pt 1).has (j : Int) = false := by rw [Pt.has_nat, hbit]; simp
          have hhas' : (t2.pt 1).has (j : Int) = false := by rw [← GA.out.p]; exact hhas
          have hcn := conv_nil9
          go_wp2_with fail
          go_at_call 36
          refine Calls.mono (xread_none HT'.out.a.ex 1 (by rw [GS1.out.n]; omega) j hhas) ?_
          rintro e w1 ⟨rfl, rfl⟩
          go_wp2_with fail
          go_at_call 36
          refine Calls.mono (xread_none HT'.out.b.ex 1 (by rw [GS2.out.n]; omega) j hhas') ?_
          rintro e w2 ⟨rfl, rfl⟩
          obtain ⟨w2, rfl⟩ : ∃ w2 : World, w2 = wr := ⟨_, rfl⟩
          have T2 := Lib.hid HT'.out
          go_wp2_with (go_at_call 48; refine (xdisk_any T2.out.a.ex).mono ?_; rintro e w' ⟨rfl, rfl⟩)
          go_at_call 61
          refine Calls.mono (flushed_yes9 T2.out.a.dk (8 + j) HFC.out) ?_
          rintro e w3 ⟨gc, qc, rfl, -, -, hrc, -, hb3⟩
          have T3 := Lib.hid (T2.out.step hb3)
          have RC3 := Lib.hid hrc
          clear hb3 hrc T2
          go_wp2_with (go_at_call 48; refine (xdisk_any T3.out.b.ex).mono ?_; rintro e w' ⟨rfl, rfl⟩)
          go_at_call 61
          refine Calls.mono (flushed_yes9 T3.out.b.dk (8 + j) HFC2.out) ?_
          rintro e w4 ⟨gd, qd, rfl, -, -, hrd, -, hb4⟩
          have T4 := Lib.hid (T3.out.step hb4)
          have cv3 := conv_sec (range_step RC3.out hb4) HOKF.out qc
          have cv4 := conv_sec hrd HOKF.out qd
          rw [HSF.out] at cv3 cv4
          clear hb4 hrd T3 RC3
          have hpa := pending_any9 T4.out.a.dk ((8 + j : Nat) : Int) (wf_sec (by omega))
          have hpb := pending_any9 T4.out.b.dk ((8 + j : Nat) : Int) (wf_sec (by omega))
          rw [HPL.out] at hpa
          rw [← GA.out.q (8 + j) (by omega) (by omega), HPL.out] at hpb
          rw [show ((8 + j : Nat) : Int) = (8 : Int) + (j : Int) by push_cast; rfl] at hpa hpb
          have HPA := Lib.hid hpa
          have HPB := Lib.hid hpb
          clear hpa hpb
          go_wp2_with (first
            | (go_at_call 16; refine (num_any10 _ _).mono ?_; rintro e w' ⟨rfl, rfl⟩)
            | (with_reducible (go_at_call 48; refine Calls.mono (xdisk_any T4.out.a.ex) ?_); rintro e w' ⟨rfl, rfl⟩)
            | (with_reducible (go_at_call 48; refine Calls.mono (xdisk_any T4.out.b.ex) ?_); rintro e w' ⟨rfl, rfl⟩)
            | (with_reducible (go_at_call 29; refine Calls.mono HPA.out ?_); rintro e w' ⟨rfl, rfl⟩)
            | (with_reducible (go_at_call 29; refine Calls.mono HPB.out ?_); rintro e w' ⟨rfl, rfl⟩))
          go_roundg (8 - (j + 1))
          case measure => omega
          case rel => exact ⟨j + 1, by omega, by go_num, T4.out⟩
      · obtain rfl : j = 8 := by omega
        have htk1 := xtaken_yes HT'.out.a.ex 1 (by rw [GS1.out.n]; omega)
        have htk2 := xtaken_yes HT'.out.b.ex 1 (by rw [GS2.out.n]; omega)
        rw [← GA.out.p] at htk2
        obtain ⟨tk, htk⟩ : ∃ tk, takenN (t1.pt 1) 64 = tk := ⟨_, rfl⟩
        rw [htk] at htk1 htk2
        have HTK1 := Lib.hid htk1
        have HTK2 := Lib.hid htk2
        clear htk1 htk2 htk
        go_wp2_with (first
          | (with_reducible (go_at_call 18; refine Calls.mono HTK1.out ?_); rintro e w' ⟨rfl, rfl⟩)
          | (with_reducible (go_at_call 18; refine Calls.mono HTK2.out ?_); rintro e w' ⟨rfl, rfl⟩))
        go_ret
        exact ⟨by simp, _, _, _, _, _, _, _, _, HT'.out, GS1.out, GS2.out, GA.out, G1.out, G2.out⟩
end Go.Proofs.Ytgpdkfmneoggkaa
