/- stands, where nothing is pending. -/
import Derived.Test.YtbnfjceoogehmaaDkXd
import Derived.Test.YtbnfjceoogehmaaDkT
import Derived.Deep.RegionWith
namespace Go.Proofs.Ytbnfjceoogehmaa
open Go.RowKit Go.Shelf
open Go.Maps (Keyed)
attribute [local go_sem] Oper.semAt_some

theorem dirty1_none9 {w : World} {O : Nat → Prop} {d : Nat} {L : Lay9} {s : Dk} (p : DkAt w O d L s) (h : ∀ i, s.pd i = []) (F : Value) (bx : Nat) (hb : w.cell? ⟨bx, 0, none⟩ = some (.pointer (some ⟨d, 0, none⟩))) :
    Calls Try.prog 49 #[F, .pointer (some ⟨bx, 0, none⟩)] w fun e w' => (∃ v, e = .returned v) ∧ Below w.heap.size w w' := by
  have HS := Lib.hid (dirtyL_none9 p h)
  clear p
  go_enter Try.func49, Try.ntmps49
  go_wp2_with (go_at_call 50; refine HS.out.mono ?_; rintro e w2 ⟨rfl, hb2⟩; have HB2 := Lib.hid hb2; clear hb2)
  refine wp_loop_rounds 1 ?_
  rw [rounds_succ]
  go_wp2
  go_end0
  exact ⟨⟨_, rfl⟩, HB2.out⟩
theorem conv_nil9 (w : World) : (convert 35 9 (.slice none 0 0)).run Try.prog w = .ok (.string ByteArray.empty) w := by
  kernel_rfl
/-- The two disks stand together. -/
structure Two9 (W : World) (O : Nat → Prop) (d : Nat) (L : Lay9) (s : Dk) (B n : Nat) (C : Nat → Sec) (v : Value) (b : Nat → Nat) (a4 a5 a6 : Nat) : Prop where
  dk : DkAt W O d L s
  qd : QdIs B n n C v b W
  e4 : W.cell? ⟨a4, 0, none⟩ = some (.pointer (some ⟨B + 1, 0, none⟩))
  e5 : W.cell? ⟨a5, 0, none⟩ = some (.int .i64 0)
  e6 : W.cell? ⟨a6, 0, none⟩ = some (.bool false)
  f6 : W.frozen? ⟨a6, 0, none⟩ = false
theorem Two9.step {W W' : World} {O : Nat → Prop} {d : Nat} {L : Lay9} {s : Dk} {B n : Nat} {C : Nat → Sec} {v : Value} {b : Nat → Nat} {a4 a5 a6 : Nat} (h : Two9 W O d L s B n C v b a4 a5 a6) (hb : Below W.heap.size W W') : Two9 W' O d L s B n C v b a4 a5 a6 :=
  ⟨h.dk.step hb, h.qd.keep hb, (hb.cell (p := ⟨a4, 0, none⟩) (World.block_lt_of_cell? W _ h.e4)).trans h.e4, (hb.cell (p := ⟨a5, 0, none⟩) (World.block_lt_of_cell? W _ h.e5)).trans h.e5, (hb.cell (p := ⟨a6, 0, none⟩) (World.block_lt_of_cell? W _ h.e6)).trans h.e6, (hb.frozen (p := ⟨a6, 0, none⟩) (World.block_lt_of_cell? W _ h.e6)).trans h.f6⟩
theorem two_step9 {G : Value → Value → World → Prop} {X : Prop} {W0 : World} (h : Hid (∀ a b W, Below W0.heap.size W0 W → G a b W) → X) (h2 : ∀ a b W, Below W0.heap.size W0 W → G a b W) : X := h (Lib.hid h2)
set_option maxRecDepth 100000 in
set_option maxHeartbeats 4000000 in
theorem stands_none9 {w : World} {O : Nat → Prop} {d : Nat} {L : Lay9} {s : Dk} {B n : Nat} {C : Nat → Sec} {v : Value} {b : Nat → Nat} (hd : DkAt w O d L s) (hq : QdIs B n n C v b w) (h1 : 1 ≤ n) (h2 : n ≤ 4096) (hC : ∀ i, i < n → SecOk (C i))
    (hf : s.fl = rowC C n) (hp : ∀ i, s.pd i = []) (hw : s.wr = 0) :
    Calls Try.prog 13 #[.pointer (some ⟨d, 0, none⟩), .pointer (some ⟨B + 1, 0, none⟩), .int .i64 0] w fun e w' => e = .returned (.bool true) ∧ Below w.heap.size w w' := by
  obtain ⟨g, c, rfl⟩ := hq.row h1
  have HD := Lib.hid hd
  have HQ := Lib.hid hq
  have HC := Lib.hid hC
  have HF := Lib.hid hf
  have HP := Lib.hid hp
  have HW := Lib.hid hw
  clear hd hq hC hf hp hw
  refine (callsIn_wide (n := 5)).1 ?_
  refine callsIn_of_wp_marks Try.func13 rfl trivial ?_ rfl
  simp only [Try.ntmps13, List.size_toArray, List.length_cons, List.length_nil, Nat.reduceAdd, Nat.reduceSub, Array.replicate_succ, Array.replicate_zero, List.push_toArray, List.append_toArray, List.nil_append, List.cons_append]
  refine wpIn_wide.2 ?_
  go_wp2
  obtain ⟨W0, hW0⟩ : ∃ W, W = ((w.alloc (.cells #[.pointer (some ⟨B + 1, 0, none⟩)] 27)).alloc (.cells #[.int .i64 0] 3)).alloc (.cells #[.bool false] 4) := ⟨_, rfl⟩
  rw [← hW0]
  have hB0 : Below w.heap.size w W0 := by
    rw [hW0]
    exact (((Below.refl _ w).alloc (Nat.le_refl _) _).alloc (by simp) _).alloc (by simp; omega) _
  have hT0 : Two9 W0 O d L s B n C (.slice (some ⟨g, 0, none⟩) n c) b w.heap.size (w.heap.size + 1) (w.heap.size + 1 + 1) := by
    have e6 := heap_alloc_new ((w.alloc (.cells #[.pointer (some ⟨B + 1, 0, none⟩)] 27)).alloc (.cells #[.int .i64 0] 3)) (.cells #[.bool false] 4)
    have e5 := (Below.heap_alloc ((w.alloc (.cells #[.pointer (some ⟨B + 1, 0, none⟩)] 27)).alloc (.cells #[.int .i64 0] 3)) (.cells #[.bool false] 4) (w.heap.size + 1) (by simp)).trans
      (by have := heap_alloc_new (w.alloc (.cells #[.pointer (some ⟨B + 1, 0, none⟩)] 27)) (.cells #[.int .i64 0] 3); simp only [World.size_alloc] at this; exact this)
    have e4 := (Below.heap_alloc ((w.alloc (.cells #[.pointer (some ⟨B + 1, 0, none⟩)] 27)).alloc (.cells #[.int .i64 0] 3)) (.cells #[.bool false] 4) w.heap.size (by simp; omega)).trans
      ((Below.heap_alloc (w.alloc (.cells #[.pointer (some ⟨B + 1, 0, none⟩)] 27)) (.cells #[.int .i64 0] 3) w.heap.size (by simp)).trans (heap_alloc_new w _))
    rw [← hW0] at e4 e5 e6
    simp only [World.size_alloc] at e6
    exact ⟨HD.out.step hB0, HQ.out.keep hB0, cell_of_row _ _ 0 _ _ _ e4, cell_of_row _ _ 0 _ _ _ e5, cell_of_row _ _ 0 _ _ _ e6, frozen_of_row _ _ 0 _ _ e6⟩
  have HT := Lib.hid hT0
  have HT1 := Lib.hid (hT0.step (Below.refl _ W0).drew)
  have HB0 := Lib.hid hB0
  have HW0 := Lib.hid hW0
  obtain ⟨a4, ha4⟩ : ∃ a, w.heap.size = a := ⟨_, rfl⟩
  rw [ha4] at HT HT1
  rw [ha4]
  have HA4 := Lib.hid ha4
  have hlen : s.fl.length = n := by rw [HF.out, rowC_len]
  have HSK : ∀ W : World, Below W0.heap.size W0 W → W.cell? ⟨a4, 0, none⟩ = some (.pointer (some ⟨B + 1, 0, none⟩)) ∧ W.cell? ⟨B + 1, 0, none⟩ = some (.slice (some ⟨g, 0, none⟩) n c) ∧ W.cell? ⟨B + 1, 2, none⟩ = some (.int .i64 0) := fun W hb => by
    have hh := HT.out.step hb
    exact ⟨hh.e4, hh.qd.c0, cell_of_row _ _ 2 _ _ _ hh.qd.disk⟩
  have hkk : 0 < n * 128 := by omega
  obtain ⟨FB, hFB⟩ : ∃ FB, strOfNums (flat (rowC C n)) = FB := ⟨_, rfl⟩
  have HFB := Lib.hid hFB
  clear hFB hB0 hT0 hW0 ha4
  apply two_step9 (W0 := W0)
  -- REGION1
  · intro AFTER
    refine wp_region_noPanic ?_
    refine wp_region_held_drew (S := fun W => W.cell? ⟨a4, 0, none⟩ = some (.pointer (some ⟨B + 1, 0, none⟩)) ∧ W.cell? ⟨B + 1, 0, none⟩ = some (.slice (some ⟨g, 0, none⟩) n c) ∧ W.cell? ⟨B + 1, 2, none⟩ = some (.int .i64 0)) (by kernel_rfl) ?_ (fun hHeld => ?_)
    · exact HSK _ (Below.refl _ W0).drew
    refine wpAnyH_take (i := 0) (v := ?_) rfl (by kernel_rfl) (by kernel_rfl) (by kernel_rfl) (fun _ _ _ h => h) (Or.inl ⟨by rfl, ?_⟩) (by assumption) ?_
    rotate_left
    · (intro w hSw; obtain ⟨hS1, hS2, hS3⟩ := hSw; (try simp only [List.getElem_toArray, List.getElem_cons_zero]); go_simp; try (with_reducible rfl))
    try simp only [Act.put, List.getElem_toArray, List.getElem_cons_zero, List.setIfInBounds_toArray, List.set_cons_zero, List.set_cons_succ]
    refine wpAnyH_take (i := 2) (v := ?_) rfl (by kernel_rfl) (by kernel_rfl) (by kernel_rfl) (fun _ _ _ h => h) (Or.inl ⟨by rfl, ?_⟩) (by assumption) ?_
    rotate_left
    · (intro w hSw; obtain ⟨hS1, hS2, hS3⟩ := hSw; (try simp only [List.getElem_toArray, List.getElem_cons_zero, List.getElem_cons_succ]); go_simp; try (with_reducible rfl))
    try simp only [Act.put, List.getElem_toArray, List.getElem_cons_zero, List.getElem_cons_succ, List.setIfInBounds_toArray, List.set_cons_zero, List.set_cons_succ]
    refine wpAnyH_take (i := 3) (v := ?_) rfl (by kernel_rfl) (by kernel_rfl) (by kernel_rfl) (fun _ _ _ h => h) (Or.inl ⟨by rfl, ?_⟩) (by assumption) ?_
    rotate_left
    · (intro w hSw; obtain ⟨hS1, hS2, hS3⟩ := hSw; (try simp only [List.getElem_toArray, List.getElem_cons_zero, List.getElem_cons_succ]); go_simp; try (with_reducible rfl))
    try simp only [Act.put, List.getElem_toArray, List.getElem_cons_zero, List.getElem_cons_succ, List.setIfInBounds_toArray, List.set_cons_zero, List.set_cons_succ]
    refine wpAnyH_take (i := 4) (v := ?_) rfl (by kernel_rfl) (by kernel_rfl) (by kernel_rfl) (fun _ _ _ h => h) (Or.inl ⟨by rfl, ?_⟩) (by assumption) ?_
    rotate_left
    · (intro w hSw; obtain ⟨hS1, hS2, hS3⟩ := hSw; (try simp only [List.getElem_toArray, List.getElem_cons_zero, List.getElem_cons_succ]); go_simp; try (with_reducible rfl))
    try simp only [Act.put, List.getElem_toArray, List.getElem_cons_zero, List.getElem_cons_succ, List.setIfInBounds_toArray, List.set_cons_zero, List.set_cons_succ]
    refine wpAnyH_take (i := 5) (v := ?_) rfl (by kernel_rfl) (by kernel_rfl) (by kernel_rfl) (fun _ _ _ h => h) (Or.inl ⟨by rfl, ?_⟩) (by assumption) ?_
    rotate_left
    · (intro w hSw; obtain ⟨hS1, hS2, hS3⟩ := hSw; (try simp only [List.getElem_toArray, List.getElem_cons_zero, List.getElem_cons_succ]); go_simp; try (with_reducible rfl))
    try simp only [Act.put, List.getElem_toArray, List.getElem_cons_zero, List.getElem_cons_succ, List.setIfInBounds_toArray, List.set_cons_zero, List.set_cons_succ]
    refine wpAnyH_take (i := 6) (v := ?_) rfl (by kernel_rfl) (by kernel_rfl) (by kernel_rfl) (fun _ _ _ h => h) (Or.inl ⟨by rfl, ?_⟩) (by assumption) ?_
    rotate_left
    · (intro w hSw; obtain ⟨hS1, hS2, hS3⟩ := hSw; (try simp only [List.getElem_toArray, List.getElem_cons_zero, List.getElem_cons_succ]); go_simp; try (with_reducible rfl))
    try simp only [Act.put, List.getElem_toArray, List.getElem_cons_zero, List.getElem_cons_succ, List.setIfInBounds_toArray, List.set_cons_zero, List.set_cons_succ]
    refine wpAnyH_ready (rs := [1]) (by kernel_rfl) (by simp) ?_
    refine AllReadyH.cons rfl (fun K hK => ?_) AllReadyH.nil
    (try simp only [List.getElem_toArray, List.getElem_cons_zero, List.getElem_cons_succ]); go_simp
    go_at_call 25; refine (size_any9 HT1.out.dk).mono ?_; rintro e w' ⟨rfl, rfl⟩
    rw [hlen]
    try (go_wp2_with fail)
    refine hK.out _ _ (HSK _ (Below.refl _ W0).drew) (fun hHeld => ?_)
    clear hK K
    try simp only [Act.put, List.getElem_toArray, List.getElem_cons_zero, List.getElem_cons_succ, List.setIfInBounds_toArray, List.set_cons_zero, List.set_cons_succ]
    refine wpAnyH_take (i := 7) (v := ?_) rfl (by kernel_rfl) (by kernel_rfl) (by kernel_rfl) (fun _ _ _ h => h) (Or.inl ⟨by rfl, ?_⟩) (by assumption) ?_
    rotate_left
    · (intro w hSw; obtain ⟨hS1, hS2, hS3⟩ := hSw; (try simp only [List.getElem_toArray, List.getElem_cons_zero, List.getElem_cons_succ]); go_simp; try (with_reducible rfl))
    try simp only [Act.put, List.getElem_toArray, List.getElem_cons_zero, List.getElem_cons_succ, List.setIfInBounds_toArray, List.set_cons_zero, List.set_cons_succ]
    refine wpAnyH_take (i := 8) (v := ?_) rfl (by kernel_rfl) (by kernel_rfl) (by kernel_rfl) (fun _ _ _ h => h) (Or.inl ⟨by rfl, ?_⟩) (by assumption) ?_
    rotate_left
    · (intro w hSw; obtain ⟨hS1, hS2, hS3⟩ := hSw; (try simp only [List.getElem_toArray, List.getElem_cons_zero, List.getElem_cons_succ]); go_simp; try (with_reducible rfl))
    try simp only [Act.put, List.getElem_toArray, List.getElem_cons_zero, List.getElem_cons_succ, List.setIfInBounds_toArray, List.set_cons_zero, List.set_cons_succ]
    refine wpAnyH_take (i := 9) (v := ?_) rfl (by kernel_rfl) (by kernel_rfl) (by kernel_rfl) (fun _ _ _ h => h) (Or.inl ⟨by rfl, ?_⟩) (by assumption) ?_
    rotate_left
    · (intro w hSw; obtain ⟨hS1, hS2, hS3⟩ := hSw; (try simp only [List.getElem_toArray, List.getElem_cons_zero, List.getElem_cons_succ]); go_simp; try (with_reducible rfl))
    try simp only [Act.put, List.getElem_toArray, List.getElem_cons_zero, List.getElem_cons_succ, List.setIfInBounds_toArray, List.set_cons_zero, List.set_cons_succ]
    refine wpAnyH_take (i := 12) (v := ?_) rfl (by kernel_rfl) (by kernel_rfl) (by kernel_rfl) (fun _ _ _ h => h) (Or.inl ⟨by rfl, ?_⟩) (by assumption) ?_
    rotate_left
    · (intro w hSw; obtain ⟨hS1, hS2, hS3⟩ := hSw; (try simp only [List.getElem_toArray, List.getElem_cons_zero, List.getElem_cons_succ]); go_simp; try (with_reducible rfl))
    try simp only [Act.put, List.getElem_toArray, List.getElem_cons_zero, List.getElem_cons_succ, List.setIfInBounds_toArray, List.set_cons_zero, List.set_cons_succ]
    refine wpAnyH_ready (rs := [10]) (by kernel_rfl) (by simp) ?_
    refine AllReadyH.cons rfl (fun K hK => ?_) AllReadyH.nil
    (try simp only [List.getElem_toArray, List.getElem_cons_zero, List.getElem_cons_succ]); go_simp
    go_at_call 24; refine (bytes_any9 HT1.out.dk).mono ?_; rintro e wI ⟨vI, rfl, hvI, hbI⟩
    have HBI := Lib.hid (show Below W0.heap.size W0 wI from (Below.refl _ W0).drew.trans hbI)
    have HTI := Lib.hid (HT.out.step HBI.out)
    have HVI := Lib.hid (show wI.ownsRow W0.heap.size 5 1 vI (n * 128) (rowV (rowC C n)) from by have := hvI; rw [hlen, HF.out] at this; exact this)
    clear hbI hvI
    try (go_wp2_with fail)
    refine hK.out _ _ (HSK _ HBI.out) (fun hHeld => ?_)
    clear hK K
    try simp only [Act.put, List.getElem_toArray, List.getElem_cons_zero, List.getElem_cons_succ, List.setIfInBounds_toArray, List.set_cons_zero, List.set_cons_succ]
    refine wpAnyH_ready (rs := [11, 13]) (by kernel_rfl) (by simp) ?_
    refine (AllReadyH.cons rfl (fun K hK => ?_) (AllReadyH.cons rfl (fun K hK => ?_) AllReadyH.nil))
    · (try simp only [List.getElem_toArray, List.getElem_cons_zero, List.getElem_cons_succ])
      have hcv := conv_flat HVI.out hkk
      rw [HFB.out] at hcv
      go_simp
      refine hK.out _ _ (HSK _ HBI.out) (fun hHeld => ?_)
      clear hK K hcv
      try simp only [Act.put, List.getElem_toArray, List.getElem_cons_zero, List.getElem_cons_succ, List.setIfInBounds_toArray, List.set_cons_zero, List.set_cons_succ]
      refine wpAnyH_ready (rs := [13]) (by kernel_rfl) (by simp) ?_
      refine AllReadyH.cons rfl (fun K hK => ?_) AllReadyH.nil
      (try simp only [List.getElem_toArray, List.getElem_cons_zero, List.getElem_cons_succ]); go_simp
      go_at_call 29; refine (qbytes_any9 HTI.out.qd h1 h2 HC.out).mono ?_; rintro e wJ ⟨vJ, rfl, hvJ, hbJ⟩
      have HBJ := Lib.hid (HBI.out.trans (hbJ.mono HBI.out.size))
      have HTJ := Lib.hid (HT.out.step HBJ.out)
      have HVJ := Lib.hid (show wJ.ownsRow wI.heap.size 5 1 vJ (n * 128) (rowV (rowC C n)) from by have := hvJ; rw [rowC_len] at this; exact this)
      have HVIJ := Lib.hid (owns_eq HVI.out (fun g e => hbJ.block g (HVI.out.lt g e).2))
      clear hbJ hvJ
      try (go_wp2_with fail)
      refine hK.out _ _ (HSK _ HBJ.out) (fun hHeld => ?_)
      clear hK K
      try simp only [Act.put, List.getElem_toArray, List.getElem_cons_zero, List.getElem_cons_succ, List.setIfInBounds_toArray, List.set_cons_zero, List.set_cons_succ]
      refine wpAnyH_ready (rs := [14]) (by kernel_rfl) (by simp) ?_
      refine AllReadyH.cons rfl (fun K hK => ?_) AllReadyH.nil
      (try simp only [List.getElem_toArray, List.getElem_cons_zero, List.getElem_cons_succ])
      have hcv := conv_flat HVJ.out hkk
      rw [HFB.out] at hcv
      go_simp
      refine hK.out _ _ (HSK _ HBJ.out) (fun hHeld => ?_)
      clear hK K hcv
      try simp only [Act.put, List.getElem_toArray, List.getElem_cons_zero, List.getElem_cons_succ, List.setIfInBounds_toArray, List.set_cons_zero, List.set_cons_succ]
      refine wpAnyH_take (i := 15) (v := ?_) rfl (by kernel_rfl) (by kernel_rfl) (by kernel_rfl) (fun _ _ _ h => h) (Or.inl ⟨by rfl, ?_⟩) (by assumption) ?_
      rotate_left
      · (intro w hSw; obtain ⟨hS1, hS2, hS3⟩ := hSw; (try simp only [List.getElem_toArray, List.getElem_cons_zero, List.getElem_cons_succ]); go_simp; try (with_reducible rfl))
      try simp only [Act.put, List.getElem_toArray, List.getElem_cons_zero, List.getElem_cons_succ, List.setIfInBounds_toArray, List.set_cons_zero, List.set_cons_succ]
      refine wpAnyH_take (i := 16) (v := ?_) rfl (by kernel_rfl) (by kernel_rfl) (by kernel_rfl) (fun _ _ _ h => h) (Or.inl ⟨by rfl, ?_⟩) (by assumption) ?_
      rotate_left
      · (intro w hSw; obtain ⟨hS1, hS2, hS3⟩ := hSw; (try simp only [List.getElem_toArray, List.getElem_cons_zero, List.getElem_cons_succ]); go_simp; try (with_reducible rfl))
      try simp only [Act.put, List.getElem_toArray, List.getElem_cons_zero, List.getElem_cons_succ, List.setIfInBounds_toArray, List.set_cons_zero, List.set_cons_succ]
      refine wpAnyH_take (i := 17) (v := ?_) rfl (by kernel_rfl) (by kernel_rfl) (by kernel_rfl) (fun _ _ _ h => h) (Or.inl ⟨by rfl, ?_⟩) (by assumption) ?_
      rotate_left
      · (intro w hSw; obtain ⟨hS1, hS2, hS3⟩ := hSw; (try simp only [List.getElem_toArray, List.getElem_cons_zero, List.getElem_cons_succ]); go_simp; try (with_reducible rfl))
      try simp only [Act.put, List.getElem_toArray, List.getElem_cons_zero, List.getElem_cons_succ, List.setIfInBounds_toArray, List.set_cons_zero, List.set_cons_succ]
      refine wpAnyH_take (i := 18) (v := ?_) rfl (by kernel_rfl) (by kernel_rfl) (by kernel_rfl) (fun _ _ _ h => h) (Or.inl ⟨by rfl, ?_⟩) (by assumption) ?_
      rotate_left
      · (intro w hSw; obtain ⟨hS1, hS2, hS3⟩ := hSw; (try simp only [List.getElem_toArray, List.getElem_cons_zero, List.getElem_cons_succ]); go_simp; try (with_reducible rfl))
      try simp only [Act.put, List.getElem_toArray, List.getElem_cons_zero, List.getElem_cons_succ, List.setIfInBounds_toArray, List.set_cons_zero, List.set_cons_succ]
      refine wpAnyH_take (i := 20) (v := ?_) rfl (by kernel_rfl) (by kernel_rfl) (by kernel_rfl) (fun _ _ _ h => h) (Or.inl ⟨by rfl, ?_⟩) (by assumption) ?_
      rotate_left
      · (intro w hSw; obtain ⟨hS1, hS2, hS3⟩ := hSw; (try simp only [List.getElem_toArray, List.getElem_cons_zero, List.getElem_cons_succ]); go_simp; try (with_reducible rfl))
      try simp only [Act.put, List.getElem_toArray, List.getElem_cons_zero, List.getElem_cons_succ, List.setIfInBounds_toArray, List.set_cons_zero, List.set_cons_succ]
      refine wpAnyH_take (i := 21) (v := ?_) rfl (by kernel_rfl) (by kernel_rfl) (by kernel_rfl) (fun _ _ _ h => h) (Or.inl ⟨by rfl, ?_⟩) (by assumption) ?_
      rotate_left
      · (intro w hSw; obtain ⟨hS1, hS2, hS3⟩ := hSw; (try simp only [List.getElem_toArray, List.getElem_cons_zero, List.getElem_cons_succ]); go_simp; try (with_reducible rfl))
      try simp only [Act.put, List.getElem_toArray, List.getElem_cons_zero, List.getElem_cons_succ, List.setIfInBounds_toArray, List.set_cons_zero, List.set_cons_succ]
      refine wpAnyH_take (i := 22) (v := ?_) rfl (by kernel_rfl) (by kernel_rfl) (by kernel_rfl) (fun _ _ _ h => h) (Or.inl ⟨by rfl, ?_⟩) (by assumption) ?_
      rotate_left
      · (intro w hSw; obtain ⟨hS1, hS2, hS3⟩ := hSw; (try simp only [List.getElem_toArray, List.getElem_cons_zero, List.getElem_cons_succ]); go_simp; try (with_reducible rfl))
      try simp only [Act.put, List.getElem_toArray, List.getElem_cons_zero, List.getElem_cons_succ, List.setIfInBounds_toArray, List.set_cons_zero, List.set_cons_succ]
      refine wpAnyH_take (i := 23) (v := ?_) rfl (by kernel_rfl) (by kernel_rfl) (by kernel_rfl) (fun _ _ _ h => h) (Or.inl ⟨by rfl, ?_⟩) (by assumption) ?_
      rotate_left
      · (intro w hSw; obtain ⟨hS1, hS2, hS3⟩ := hSw; (try simp only [List.getElem_toArray, List.getElem_cons_zero, List.getElem_cons_succ]); go_simp; try (with_reducible rfl))
      try simp only [Act.put, List.getElem_toArray, List.getElem_cons_zero, List.getElem_cons_succ, List.setIfInBounds_toArray, List.set_cons_zero, List.set_cons_succ]
      refine wpAnyH_ready (rs := [19]) (by kernel_rfl) (by simp) ?_
      refine AllReadyH.cons rfl (fun K hK => ?_) AllReadyH.nil
      (try simp only [List.getElem_toArray, List.getElem_cons_zero, List.getElem_cons_succ]); go_simp
      go_at_call 30; refine (writes_any9 HTJ.out.dk).mono ?_; rintro e w' ⟨rfl, rfl⟩
      rw [HW.out]
      try (go_wp2_with fail)
      refine hK.out _ _ (HSK _ HBJ.out) (fun hHeld => ?_)
      clear hK K
      try simp only [Act.put, List.getElem_toArray, List.getElem_cons_zero, List.getElem_cons_succ, List.setIfInBounds_toArray, List.set_cons_zero, List.set_cons_succ]
      refine wpAnyH_take (i := 24) (v := ?_) rfl (by kernel_rfl) (by kernel_rfl) (by kernel_rfl) (fun _ _ _ h => h) (Or.inl ⟨by rfl, ?_⟩) (by assumption) ?_
      rotate_left
      · (intro w hSw; obtain ⟨hS1, hS2, hS3⟩ := hSw; (try simp only [List.getElem_toArray, List.getElem_cons_zero, List.getElem_cons_succ]); go_simp; try (with_reducible rfl))
      try simp only [Act.put, List.getElem_toArray, List.getElem_cons_zero, List.getElem_cons_succ, List.setIfInBounds_toArray, List.set_cons_zero, List.set_cons_succ]
      refine wpAnyH_take (i := 25) (v := ?_) rfl (by kernel_rfl) (by kernel_rfl) (by kernel_rfl) (fun _ _ _ h => h) (Or.inl ⟨by rfl, ?_⟩) (by assumption) ?_
      rotate_left
      · (intro w hSw; obtain ⟨hS1, hS2, hS3⟩ := hSw; (try simp only [List.getElem_toArray, List.getElem_cons_zero, List.getElem_cons_succ]); go_simp; try (with_reducible rfl))
      try simp only [Act.put, List.getElem_toArray, List.getElem_cons_zero, List.getElem_cons_succ, List.setIfInBounds_toArray, List.set_cons_zero, List.set_cons_succ]
      refine wpAnyH_done (by kernel_rfl) ?_ _
      refine NoPanic.normal ?_
      exact AFTER.out vI vJ wJ HBJ.out
    · (try simp only [List.getElem_toArray, List.getElem_cons_zero, List.getElem_cons_succ]); go_simp
      go_at_call 29; refine (qbytes_any9 HTI.out.qd h1 h2 HC.out).mono ?_; rintro e wJ ⟨vJ, rfl, hvJ, hbJ⟩
      have HBJ := Lib.hid (HBI.out.trans (hbJ.mono HBI.out.size))
      have HTJ := Lib.hid (HT.out.step HBJ.out)
      have HVJ := Lib.hid (show wJ.ownsRow wI.heap.size 5 1 vJ (n * 128) (rowV (rowC C n)) from by have := hvJ; rw [rowC_len] at this; exact this)
      have HVIJ := Lib.hid (owns_eq HVI.out (fun g e => hbJ.block g (HVI.out.lt g e).2))
      clear hbJ hvJ
      try (go_wp2_with fail)
      refine hK.out _ _ (HSK _ HBJ.out) (fun hHeld => ?_)
      clear hK K
      try simp only [Act.put, List.getElem_toArray, List.getElem_cons_zero, List.getElem_cons_succ, List.setIfInBounds_toArray, List.set_cons_zero, List.set_cons_succ]
      refine wpAnyH_ready (rs := [11, 14]) (by kernel_rfl) (by simp) ?_
      refine (AllReadyH.cons rfl (fun K hK => ?_) (AllReadyH.cons rfl (fun K hK => ?_) AllReadyH.nil))
      · (try simp only [List.getElem_toArray, List.getElem_cons_zero, List.getElem_cons_succ])
        have hcv := conv_flat HVIJ.out hkk
        rw [HFB.out] at hcv
        go_simp
        refine hK.out _ _ (HSK _ HBJ.out) (fun hHeld => ?_)
        clear hK K hcv
        try simp only [Act.put, List.getElem_toArray, List.getElem_cons_zero, List.getElem_cons_succ, List.setIfInBounds_toArray, List.set_cons_zero, List.set_cons_succ]
        refine wpAnyH_ready (rs := [14]) (by kernel_rfl) (by simp) ?_
        refine AllReadyH.cons rfl (fun K hK => ?_) AllReadyH.nil
        (try simp only [List.getElem_toArray, List.getElem_cons_zero, List.getElem_cons_succ])
        have hcv := conv_flat HVJ.out hkk
        rw [HFB.out] at hcv
        go_simp
        refine hK.out _ _ (HSK _ HBJ.out) (fun hHeld => ?_)
        clear hK K hcv
        try simp only [Act.put, List.getElem_toArray, List.getElem_cons_zero, List.getElem_cons_succ, List.setIfInBounds_toArray, List.set_cons_zero, List.set_cons_succ]
        refine wpAnyH_take (i := 15) (v := ?_) rfl (by kernel_rfl) (by kernel_rfl) (by kernel_rfl) (fun _ _ _ h => h) (Or.inl ⟨by rfl, ?_⟩) (by assumption) ?_
        rotate_left
        · (intro w hSw; obtain ⟨hS1, hS2, hS3⟩ := hSw; (try simp only [List.getElem_toArray, List.getElem_cons_zero, List.getElem_cons_succ]); go_simp; try (with_reducible rfl))
        try simp only [Act.put, List.getElem_toArray, List.getElem_cons_zero, List.getElem_cons_succ, List.setIfInBounds_toArray, List.set_cons_zero, List.set_cons_succ]
        refine wpAnyH_take (i := 16) (v := ?_) rfl (by kernel_rfl) (by kernel_rfl) (by kernel_rfl) (fun _ _ _ h => h) (Or.inl ⟨by rfl, ?_⟩) (by assumption) ?_
        rotate_left
        · (intro w hSw; obtain ⟨hS1, hS2, hS3⟩ := hSw; (try simp only [List.getElem_toArray, List.getElem_cons_zero, List.getElem_cons_succ]); go_simp; try (with_reducible rfl))
        try simp only [Act.put, List.getElem_toArray, List.getElem_cons_zero, List.getElem_cons_succ, List.setIfInBounds_toArray, List.set_cons_zero, List.set_cons_succ]
        refine wpAnyH_take (i := 17) (v := ?_) rfl (by kernel_rfl) (by kernel_rfl) (by kernel_rfl) (fun _ _ _ h => h) (Or.inl ⟨by rfl, ?_⟩) (by assumption) ?_
        rotate_left
        · (intro w hSw; obtain ⟨hS1, hS2, hS3⟩ := hSw; (try simp only [List.getElem_toArray, List.getElem_cons_zero, List.getElem_cons_succ]); go_simp; try (with_reducible rfl))
        try simp only [Act.put, List.getElem_toArray, List.getElem_cons_zero, List.getElem_cons_succ, List.setIfInBounds_toArray, List.set_cons_zero, List.set_cons_succ]
        refine wpAnyH_take (i := 18) (v := ?_) rfl (by kernel_rfl) (by kernel_rfl) (by kernel_rfl) (fun _ _ _ h => h) (Or.inl ⟨by rfl, ?_⟩) (by assumption) ?_
        rotate_left
        · (intro w hSw; obtain ⟨hS1, hS2, hS3⟩ := hSw; (try simp only [List.getElem_toArray, List.getElem_cons_zero, List.getElem_cons_succ]); go_simp; try (with_reducible rfl))
        try simp only [Act.put, List.getElem_toArray, List.getElem_cons_zero, List.getElem_cons_succ, List.setIfInBounds_toArray, List.set_cons_zero, List.set_cons_succ]
        refine wpAnyH_take (i := 20) (v := ?_) rfl (by kernel_rfl) (by kernel_rfl) (by kernel_rfl) (fun _ _ _ h => h) (Or.inl ⟨by rfl, ?_⟩) (by assumption) ?_
        rotate_left
        · (intro w hSw; obtain ⟨hS1, hS2, hS3⟩ := hSw; (try simp only [List.getElem_toArray, List.getElem_cons_zero, List.getElem_cons_succ]); go_simp; try (with_reducible rfl))
        try simp only [Act.put, List.getElem_toArray, List.getElem_cons_zero, List.getElem_cons_succ, List.setIfInBounds_toArray, List.set_cons_zero, List.set_cons_succ]
        refine wpAnyH_take (i := 21) (v := ?_) rfl (by kernel_rfl) (by kernel_rfl) (by kernel_rfl) (fun _ _ _ h => h) (Or.inl ⟨by rfl, ?_⟩) (by assumption) ?_
        rotate_left
        · (intro w hSw; obtain ⟨hS1, hS2, hS3⟩ := hSw; (try simp only [List.getElem_toArray, List.getElem_cons_zero, List.getElem_cons_succ]); go_simp; try (with_reducible rfl))
        try simp only [Act.put, List.getElem_toArray, List.getElem_cons_zero, List.getElem_cons_succ, List.setIfInBounds_toArray, List.set_cons_zero, List.set_cons_succ]
        refine wpAnyH_take (i := 22) (v := ?_) rfl (by kernel_rfl) (by kernel_rfl) (by kernel_rfl) (fun _ _ _ h => h) (Or.inl ⟨by rfl, ?_⟩) (by assumption) ?_
        rotate_left
        · (intro w hSw; obtain ⟨hS1, hS2, hS3⟩ := hSw; (try simp only [List.getElem_toArray, List.getElem_cons_zero, List.getElem_cons_succ]); go_simp; try (with_reducible rfl))
        try simp only [Act.put, List.getElem_toArray, List.getElem_cons_zero, List.getElem_cons_succ, List.setIfInBounds_toArray, List.set_cons_zero, List.set_cons_succ]
        refine wpAnyH_take (i := 23) (v := ?_) rfl (by kernel_rfl) (by kernel_rfl) (by kernel_rfl) (fun _ _ _ h => h) (Or.inl ⟨by rfl, ?_⟩) (by assumption) ?_
        rotate_left
        · (intro w hSw; obtain ⟨hS1, hS2, hS3⟩ := hSw; (try simp only [List.getElem_toArray, List.getElem_cons_zero, List.getElem_cons_succ]); go_simp; try (with_reducible rfl))
        try simp only [Act.put, List.getElem_toArray, List.getElem_cons_zero, List.getElem_cons_succ, List.setIfInBounds_toArray, List.set_cons_zero, List.set_cons_succ]
        refine wpAnyH_ready (rs := [19]) (by kernel_rfl) (by simp) ?_
        refine AllReadyH.cons rfl (fun K hK => ?_) AllReadyH.nil
        (try simp only [List.getElem_toArray, List.getElem_cons_zero, List.getElem_cons_succ]); go_simp
        go_at_call 30; refine (writes_any9 HTJ.out.dk).mono ?_; rintro e w' ⟨rfl, rfl⟩
        rw [HW.out]
        try (go_wp2_with fail)
        refine hK.out _ _ (HSK _ HBJ.out) (fun hHeld => ?_)
        clear hK K
        try simp only [Act.put, List.getElem_toArray, List.getElem_cons_zero, List.getElem_cons_succ, List.setIfInBounds_toArray, List.set_cons_zero, List.set_cons_succ]
        refine wpAnyH_take (i := 24) (v := ?_) rfl (by kernel_rfl) (by kernel_rfl) (by kernel_rfl) (fun _ _ _ h => h) (Or.inl ⟨by rfl, ?_⟩) (by assumption) ?_
        rotate_left
        · (intro w hSw; obtain ⟨hS1, hS2, hS3⟩ := hSw; (try simp only [List.getElem_toArray, List.getElem_cons_zero, List.getElem_cons_succ]); go_simp; try (with_reducible rfl))
        try simp only [Act.put, List.getElem_toArray, List.getElem_cons_zero, List.getElem_cons_succ, List.setIfInBounds_toArray, List.set_cons_zero, List.set_cons_succ]
        refine wpAnyH_take (i := 25) (v := ?_) rfl (by kernel_rfl) (by kernel_rfl) (by kernel_rfl) (fun _ _ _ h => h) (Or.inl ⟨by rfl, ?_⟩) (by assumption) ?_
        rotate_left
        · (intro w hSw; obtain ⟨hS1, hS2, hS3⟩ := hSw; (try simp only [List.getElem_toArray, List.getElem_cons_zero, List.getElem_cons_succ]); go_simp; try (with_reducible rfl))
        try simp only [Act.put, List.getElem_toArray, List.getElem_cons_zero, List.getElem_cons_succ, List.setIfInBounds_toArray, List.set_cons_zero, List.set_cons_succ]
        refine wpAnyH_done (by kernel_rfl) ?_ _
        refine NoPanic.normal ?_
        exact AFTER.out vI vJ wJ HBJ.out
      · (try simp only [List.getElem_toArray, List.getElem_cons_zero, List.getElem_cons_succ])
        have hcv := conv_flat HVJ.out hkk
        rw [HFB.out] at hcv
        go_simp
        refine hK.out _ _ (HSK _ HBJ.out) (fun hHeld => ?_)
        clear hK K hcv
        try simp only [Act.put, List.getElem_toArray, List.getElem_cons_zero, List.getElem_cons_succ, List.setIfInBounds_toArray, List.set_cons_zero, List.set_cons_succ]
        refine wpAnyH_ready (rs := [11]) (by kernel_rfl) (by simp) ?_
        refine AllReadyH.cons rfl (fun K hK => ?_) AllReadyH.nil
        (try simp only [List.getElem_toArray, List.getElem_cons_zero, List.getElem_cons_succ])
        have hcv := conv_flat HVIJ.out hkk
        rw [HFB.out] at hcv
        go_simp
        refine hK.out _ _ (HSK _ HBJ.out) (fun hHeld => ?_)
        clear hK K hcv
        try simp only [Act.put, List.getElem_toArray, List.getElem_cons_zero, List.getElem_cons_succ, List.setIfInBounds_toArray, List.set_cons_zero, List.set_cons_succ]
        refine wpAnyH_take (i := 15) (v := ?_) rfl (by kernel_rfl) (by kernel_rfl) (by kernel_rfl) (fun _ _ _ h => h) (Or.inl ⟨by rfl, ?_⟩) (by assumption) ?_
        rotate_left
        · (intro w hSw; obtain ⟨hS1, hS2, hS3⟩ := hSw; (try simp only [List.getElem_toArray, List.getElem_cons_zero, List.getElem_cons_succ]); go_simp; try (with_reducible rfl))
        try simp only [Act.put, List.getElem_toArray, List.getElem_cons_zero, List.getElem_cons_succ, List.setIfInBounds_toArray, List.set_cons_zero, List.set_cons_succ]
        refine wpAnyH_take (i := 16) (v := ?_) rfl (by kernel_rfl) (by kernel_rfl) (by kernel_rfl) (fun _ _ _ h => h) (Or.inl ⟨by rfl, ?_⟩) (by assumption) ?_
        rotate_left
        · (intro w hSw; obtain ⟨hS1, hS2, hS3⟩ := hSw; (try simp only [List.getElem_toArray, List.getElem_cons_zero, List.getElem_cons_succ]); go_simp; try (with_reducible rfl))
        try simp only [Act.put, List.getElem_toArray, List.getElem_cons_zero, List.getElem_cons_succ, List.setIfInBounds_toArray, List.set_cons_zero, List.set_cons_succ]
        refine wpAnyH_take (i := 17) (v := ?_) rfl (by kernel_rfl) (by kernel_rfl) (by kernel_rfl) (fun _ _ _ h => h) (Or.inl ⟨by rfl, ?_⟩) (by assumption) ?_
        rotate_left
        · (intro w hSw; obtain ⟨hS1, hS2, hS3⟩ := hSw; (try simp only [List.getElem_toArray, List.getElem_cons_zero, List.getElem_cons_succ]); go_simp; try (with_reducible rfl))
        try simp only [Act.put, List.getElem_toArray, List.getElem_cons_zero, List.getElem_cons_succ, List.setIfInBounds_toArray, List.set_cons_zero, List.set_cons_succ]
        refine wpAnyH_take (i := 18) (v := ?_) rfl (by kernel_rfl) (by kernel_rfl) (by kernel_rfl) (fun _ _ _ h => h) (Or.inl ⟨by rfl, ?_⟩) (by assumption) ?_
        rotate_left
        · (intro w hSw; obtain ⟨hS1, hS2, hS3⟩ := hSw; (try simp only [List.getElem_toArray, List.getElem_cons_zero, List.getElem_cons_succ]); go_simp; try (with_reducible rfl))
        try simp only [Act.put, List.getElem_toArray, List.getElem_cons_zero, List.getElem_cons_succ, List.setIfInBounds_toArray, List.set_cons_zero, List.set_cons_succ]
        refine wpAnyH_take (i := 20) (v := ?_) rfl (by kernel_rfl) (by kernel_rfl) (by kernel_rfl) (fun _ _ _ h => h) (Or.inl ⟨by rfl, ?_⟩) (by assumption) ?_
        rotate_left
        · (intro w hSw; obtain ⟨hS1, hS2, hS3⟩ := hSw; (try simp only [List.getElem_toArray, List.getElem_cons_zero, List.getElem_cons_succ]); go_simp; try (with_reducible rfl))
        try simp only [Act.put, List.getElem_toArray, List.getElem_cons_zero, List.getElem_cons_succ, List.setIfInBounds_toArray, List.set_cons_zero, List.set_cons_succ]
        refine wpAnyH_take (i := 21) (v := ?_) rfl (by kernel_rfl) (by kernel_rfl) (by kernel_rfl) (fun _ _ _ h => h) (Or.inl ⟨by rfl, ?_⟩) (by assumption) ?_
        rotate_left
        · (intro w hSw; obtain ⟨hS1, hS2, hS3⟩ := hSw; (try simp only [List.getElem_toArray, List.getElem_cons_zero, List.getElem_cons_succ]); go_simp; try (with_reducible rfl))
        try simp only [Act.put, List.getElem_toArray, List.getElem_cons_zero, List.getElem_cons_succ, List.setIfInBounds_toArray, List.set_cons_zero, List.set_cons_succ]
        refine wpAnyH_take (i := 22) (v := ?_) rfl (by kernel_rfl) (by kernel_rfl) (by kernel_rfl) (fun _ _ _ h => h) (Or.inl ⟨by rfl, ?_⟩) (by assumption) ?_
        rotate_left
        · (intro w hSw; obtain ⟨hS1, hS2, hS3⟩ := hSw; (try simp only [List.getElem_toArray, List.getElem_cons_zero, List.getElem_cons_succ]); go_simp; try (with_reducible rfl))
        try simp only [Act.put, List.getElem_toArray, List.getElem_cons_zero, List.getElem_cons_succ, List.setIfInBounds_toArray, List.set_cons_zero, List.set_cons_succ]
        refine wpAnyH_take (i := 23) (v := ?_) rfl (by kernel_rfl) (by kernel_rfl) (by kernel_rfl) (fun _ _ _ h => h) (Or.inl ⟨by rfl, ?_⟩) (by assumption) ?_
        rotate_left
        · (intro w hSw; obtain ⟨hS1, hS2, hS3⟩ := hSw; (try simp only [List.getElem_toArray, List.getElem_cons_zero, List.getElem_cons_succ]); go_simp; try (with_reducible rfl))
        try simp only [Act.put, List.getElem_toArray, List.getElem_cons_zero, List.getElem_cons_succ, List.setIfInBounds_toArray, List.set_cons_zero, List.set_cons_succ]
        refine wpAnyH_ready (rs := [19]) (by kernel_rfl) (by simp) ?_
        refine AllReadyH.cons rfl (fun K hK => ?_) AllReadyH.nil
        (try simp only [List.getElem_toArray, List.getElem_cons_zero, List.getElem_cons_succ]); go_simp
        go_at_call 30; refine (writes_any9 HTJ.out.dk).mono ?_; rintro e w' ⟨rfl, rfl⟩
        rw [HW.out]
        try (go_wp2_with fail)
        refine hK.out _ _ (HSK _ HBJ.out) (fun hHeld => ?_)
        clear hK K
        try simp only [Act.put, List.getElem_toArray, List.getElem_cons_zero, List.getElem_cons_succ, List.setIfInBounds_toArray, List.set_cons_zero, List.set_cons_succ]
        refine wpAnyH_take (i := 24) (v := ?_) rfl (by kernel_rfl) (by kernel_rfl) (by kernel_rfl) (fun _ _ _ h => h) (Or.inl ⟨by rfl, ?_⟩) (by assumption) ?_
        rotate_left
        · (intro w hSw; obtain ⟨hS1, hS2, hS3⟩ := hSw; (try simp only [List.getElem_toArray, List.getElem_cons_zero, List.getElem_cons_succ]); go_simp; try (with_reducible rfl))
        try simp only [Act.put, List.getElem_toArray, List.getElem_cons_zero, List.getElem_cons_succ, List.setIfInBounds_toArray, List.set_cons_zero, List.set_cons_succ]
        refine wpAnyH_take (i := 25) (v := ?_) rfl (by kernel_rfl) (by kernel_rfl) (by kernel_rfl) (fun _ _ _ h => h) (Or.inl ⟨by rfl, ?_⟩) (by assumption) ?_
        rotate_left
        · (intro w hSw; obtain ⟨hS1, hS2, hS3⟩ := hSw; (try simp only [List.getElem_toArray, List.getElem_cons_zero, List.getElem_cons_succ]); go_simp; try (with_reducible rfl))
        try simp only [Act.put, List.getElem_toArray, List.getElem_cons_zero, List.getElem_cons_succ, List.setIfInBounds_toArray, List.set_cons_zero, List.set_cons_succ]
        refine wpAnyH_done (by kernel_rfl) ?_ _
        refine NoPanic.normal ?_
        exact AFTER.out vI vJ wJ HBJ.out
  -- END1
  · intro vI vJ wJ hJ

    have HTJ := Lib.hid (HT.out.step hJ)
    have HBJ := Lib.hid (HB0.out.trans (hJ.mono HB0.out.size))
    clear hJ
    obtain ⟨a7, ha7⟩ : ∃ a, wJ.heap.size = a := ⟨_, rfl⟩
    have HT7 := Lib.hid (HTJ.out.step ((Below.refl _ wJ).alloc (Nat.le_refl _) (.cells #[.slice none 0 0] 71)))
    have HB7 := Lib.hid (HBJ.out.alloc HBJ.out.size (.cells #[.slice none 0 0] 71))
    have HC7 := Lib.hid (show (wJ.alloc (.cells #[.slice none 0 0] 71)).cell? ⟨a7, 0, none⟩ = some (.slice none 0 0) by rw [← ha7]; exact cell_of_row _ _ 0 _ _ _ (heap_alloc_new wJ _))
    go_wp2
    clear ha7
    go_loopw [8, 9, 10, 11, 12, 13, 14] (fun i _ _ _ _ _ _ wr => ∃ S : Int, -1 ≤ S ∧ S ≤ (n : Int) + 1 ∧ i = .int .i64 S ∧ Two9 wr O d L s B n C (.slice (some ⟨g, 0, none⟩) n c) b a4 (a4 + 1) (a4 + 1 + 1) ∧ wr.cell? ⟨a7, 0, none⟩ = some (.slice none 0 0) ∧ Below w.heap.size w wr) (fun i _ _ _ _ _ _ _ => ((n : Int) + 1 - intOf i).toNat)
    case atStart => exact ⟨-1, by omega, by omega, rfl, HT7.out, HC7.out, HB7.out⟩
    case round =>
      obtain ⟨S, hS0, hS1, rfl, hT, h7, hB⟩ := hrel
      have HTR := Lib.hid hT
      have H7 := Lib.hid h7
      have HBR := Lib.hid hB
      have e4 := hT.e4
      have q0 := hT.qd.c0
      have h7l := World.block_lt_of_cell? wr _ h7
      clear hT h7 hB
      by_cases hle : S ≤ n
      · by_cases hin : 0 ≤ S ∧ S < n
        · obtain ⟨j, rfl⟩ := Int.eq_ofNat_of_zero_le hin.1
          have hj : j < n := by omega
          have hj' : (j : Int) < n := by omega
          have HWF := Lib.hid (show (Lit.int .i64 (j : Int)).wf = true from wfK_wf (x := ((j : Int), 0)) ⟨⟨by show _ ≤ (j : Int); omega, by show (j : Int) ≤ _; omega⟩, by show _ ≤ (0 : Int); decide, by show (0 : Int) ≤ _; decide⟩)
          have HPJ := Lib.hid (show (s.pd (j : Int)).length = 0 from by rw [HP.out]; rfl)
          have HOK := Lib.hid (HC.out j hj)
          obtain ⟨FJ, hFJ⟩ : ∃ FJ, strS (C j) = .string FJ := ⟨_, rfl⟩
          have HFJ := Lib.hid hFJ
          clear hFJ
          have hseen : s.seen j = C j := by unfold Dk.seen; rw [HP.out, HF.out, List.getD_eq_getElem?_getD, rowC_get C hj]; rfl
          have hfl : s.fl[j]? = some (C j) := by rw [HF.out]; exact rowC_get C hj
          have HR1 := Lib.hid (read_yes9 HTR.out.dk j (by rw [hlen]; exact hj))
          rw [hseen] at HR1
          have HFL := Lib.hid hfl
          clear hfl
          go_wp2_with (first
            | (go_at_call 31; refine HR1.out.mono ?_; rintro e w1 ⟨g1, k1, rfl, hg1, hgl1, hr1, hz1, hb1⟩; have HT1' := Lib.hid (HTR.out.step hb1); have HBB1 := Lib.hid hb1; have HRG1 := Lib.hid hr1; have HZ1 := Lib.hid hz1; clear hr1 hz1 hb1)
            | (go_at_call 32; refine (flushed_yes9 HT1'.out.dk j HFL.out).mono ?_; rintro e w2 ⟨g2, k2, rfl, hg2, hgl2, hr2, hz2, hb2⟩; have HT2' := Lib.hid (HT1'.out.step hb2); have HBB2 := Lib.hid hb2; have HRG2 := Lib.hid hr2; have HZ2 := Lib.hid hz2; have e42 := HT2'.out.e4; have hcv2 := conv_sec hr2 HOK.out k2; rw [HFJ.out] at hcv2; have HRG12 := Lib.hid (show w2.rangeAt g1 0 (secL (C j)) from fun i x hx => (hb2.cell (p := ⟨g1, 0 + i, none⟩) hgl1).trans (HRG1.out i x hx)); have hcv1 := conv_sec HRG12.out HOK.out k1; rw [HFJ.out] at hcv1; have HRB := Lib.hid (show w2.rangeAt (b j) 0 (secL (C j)) from fun i x hx => by rw [Nat.zero_add, cell_of_row _ _ _ _ _ _ (HT2'.out.qd.sec j hj).2.2.2]; simpa using hx); have hcvb := conv_sec HRB.out HOK.out 128; rw [HFJ.out] at hcvb; clear hr2 hz2 hb2)
            | (go_at_call 33; refine (qread_yes9 HT2'.out.qd h2 j hj).mono ?_; rintro e w' ⟨rfl, rfl⟩; rw [show secV (b j) = .slice (some ⟨b j, 0, none⟩) 128 128 from rfl])
            | (go_at_call 10; refine (num_any9 _ _).mono ?_; rintro e w' ⟨rfl, rfl⟩))
          have HT2d := Lib.hid (HT2'.out.step (Below.refl _ w2).drew)
          have HK2 := Lib.hid (show ∀ W : World, Below w2.heap.size w2 W → W.cell? ⟨a4, 0, none⟩ = some (.pointer (some ⟨B + 1, 0, none⟩)) ∧ W.cell? ⟨B + 1, 0, none⟩ = some (.slice (some ⟨g, 0, none⟩) n c) ∧ W.cell? ⟨B + 1, 1, none⟩ = some (.slice (some ⟨B, 0, none⟩) n n) ∧ W.cell? ⟨g, j, none⟩ = some (.slice (some ⟨b j, 0, none⟩) 128 128) ∧ W.cell? ⟨B, j, none⟩ = some (.slice none 0 0) ∧ (convert 35 9 (.slice (some ⟨g2, 0, none⟩) 128 k2)).run Try.prog W = .ok (.string FJ) W ∧ (convert 35 9 (.slice (some ⟨b j, 0, none⟩) 128 128)).run Try.prog W = .ok (.string FJ) W from fun W hb => by
            have hh := HT2'.out.step hb
            refine ⟨hh.e4, hh.qd.c0, hh.qd.c1, hh.qd.s0 hj, hh.qd.p0 hj, ?_, ?_⟩
            · rw [← HFJ.out]
              exact conv_sec (fun i x hx => (hb.cell (p := ⟨g2, 0 + i, none⟩) hgl2).trans (HRG2.out i x hx)) HOK.out k2
            · rw [← HFJ.out]
              exact conv_sec (fun i x hx => by rw [Nat.zero_add, cell_of_row _ _ _ _ _ _ (hh.qd.sec j hj).2.2.2]; simpa using hx) HOK.out 128)
          refine wp_region_noPanic ?_
          refine wp_region_held_drew (S := fun W => W.cell? ⟨a4, 0, none⟩ = some (.pointer (some ⟨B + 1, 0, none⟩)) ∧ W.cell? ⟨B + 1, 0, none⟩ = some (.slice (some ⟨g, 0, none⟩) n c) ∧ W.cell? ⟨B + 1, 1, none⟩ = some (.slice (some ⟨B, 0, none⟩) n n) ∧ W.cell? ⟨g, j, none⟩ = some (.slice (some ⟨b j, 0, none⟩) 128 128) ∧ W.cell? ⟨B, j, none⟩ = some (.slice none 0 0) ∧ (convert 35 9 (.slice (some ⟨g2, 0, none⟩) 128 k2)).run Try.prog W = .ok (.string FJ) W ∧ (convert 35 9 (.slice (some ⟨b j, 0, none⟩) 128 128)).run Try.prog W = .ok (.string FJ) W) (by kernel_rfl) ?_ (fun hHeld => ?_)
          · exact HK2.out _ (Below.refl _ w2).drew
          refine wpAnyH_take (i := 0) (v := ?_) rfl (by kernel_rfl) (by kernel_rfl) (by kernel_rfl) (fun _ _ _ h => h) (Or.inl ⟨by rfl, ?_⟩) (by assumption) ?_
          rotate_left
          · (intro w hSw; obtain ⟨hS1, hS2, hS3, hS4, hS5, hS6, hS7⟩ := hSw; (try simp only [List.getElem_toArray, List.getElem_cons_zero]); go_simp; try (with_reducible rfl))
          try simp only [Act.put, List.getElem_toArray, List.getElem_cons_zero, List.setIfInBounds_toArray, List.set_cons_zero, List.set_cons_succ]
          refine wpAnyH_take (i := 1) (v := ?_) rfl (by kernel_rfl) (by kernel_rfl) (by kernel_rfl) (fun _ _ _ h => h) (Or.inl ⟨by rfl, ?_⟩) (by assumption) ?_
          rotate_left
          · (intro w hSw; obtain ⟨hS1, hS2, hS3, hS4, hS5, hS6, hS7⟩ := hSw; (try simp only [List.getElem_toArray, List.getElem_cons_zero, List.getElem_cons_succ]); go_simp; try (with_reducible rfl))
          try simp only [Act.put, List.getElem_toArray, List.getElem_cons_zero, List.getElem_cons_succ, List.setIfInBounds_toArray, List.set_cons_zero, List.set_cons_succ]
          refine wpAnyH_take (i := 2) (v := ?_) rfl (by kernel_rfl) (by kernel_rfl) (by kernel_rfl) (fun _ _ _ h => h) (Or.inl ⟨by rfl, ?_⟩) (by assumption) ?_
          rotate_left
          · (intro w hSw; obtain ⟨hS1, hS2, hS3, hS4, hS5, hS6, hS7⟩ := hSw; (try simp only [List.getElem_toArray, List.getElem_cons_zero, List.getElem_cons_succ]); go_simp; try (with_reducible rfl))
          try simp only [Act.put, List.getElem_toArray, List.getElem_cons_zero, List.getElem_cons_succ, List.setIfInBounds_toArray, List.set_cons_zero, List.set_cons_succ]
          refine wpAnyH_take (i := 3) (v := ?_) rfl (by kernel_rfl) (by kernel_rfl) (by kernel_rfl) (fun _ _ _ h => h) (Or.inl ⟨by rfl, ?_⟩) (by assumption) ?_
          rotate_left
          · (intro w hSw; obtain ⟨hS1, hS2, hS3, hS4, hS5, hS6, hS7⟩ := hSw; (try simp only [List.getElem_toArray, List.getElem_cons_zero, List.getElem_cons_succ]); go_simp; try (with_reducible rfl))
          try simp only [Act.put, List.getElem_toArray, List.getElem_cons_zero, List.getElem_cons_succ, List.setIfInBounds_toArray, List.set_cons_zero, List.set_cons_succ]
          refine wpAnyH_take (i := 4) (v := ?_) rfl (by kernel_rfl) (by kernel_rfl) (by kernel_rfl) (fun _ _ _ h => h) (Or.inl ⟨by rfl, ?_⟩) (by assumption) ?_
          rotate_left
          · (intro w hSw; obtain ⟨hS1, hS2, hS3, hS4, hS5, hS6, hS7⟩ := hSw; (try simp only [List.getElem_toArray, List.getElem_cons_zero, List.getElem_cons_succ]); go_simp; try (with_reducible rfl))
          try simp only [Act.put, List.getElem_toArray, List.getElem_cons_zero, List.getElem_cons_succ, List.setIfInBounds_toArray, List.set_cons_zero, List.set_cons_succ]
          refine wpAnyH_take (i := 5) (v := ?_) rfl (by kernel_rfl) (by kernel_rfl) (by kernel_rfl) (fun _ _ _ h => h) (Or.inl ⟨by rfl, ?_⟩) (by assumption) ?_
          rotate_left
          · (intro w hSw; obtain ⟨hS1, hS2, hS3, hS4, hS5, hS6, hS7⟩ := hSw; (try simp only [List.getElem_toArray, List.getElem_cons_zero, List.getElem_cons_succ]); go_simp; try (with_reducible rfl))
          try simp only [Act.put, List.getElem_toArray, List.getElem_cons_zero, List.getElem_cons_succ, List.setIfInBounds_toArray, List.set_cons_zero, List.set_cons_succ]
          refine wpAnyH_take (i := 6) (v := ?_) rfl (by kernel_rfl) (by kernel_rfl) (by kernel_rfl) (fun _ _ _ h => h) (Or.inl ⟨by rfl, ?_⟩) (by assumption) ?_
          rotate_left
          · (intro w hSw; obtain ⟨hS1, hS2, hS3, hS4, hS5, hS6, hS7⟩ := hSw; (try simp only [List.getElem_toArray, List.getElem_cons_zero, List.getElem_cons_succ]); go_simp; try (with_reducible rfl))
          try simp only [Act.put, List.getElem_toArray, List.getElem_cons_zero, List.getElem_cons_succ, List.setIfInBounds_toArray, List.set_cons_zero, List.set_cons_succ]
          refine wpAnyH_take (i := 7) (v := ?_) rfl (by kernel_rfl) (by kernel_rfl) (by kernel_rfl) (fun _ _ _ h => h) (Or.inl ⟨by rfl, ?_⟩) (by assumption) ?_
          rotate_left
          · (intro w hSw; obtain ⟨hS1, hS2, hS3, hS4, hS5, hS6, hS7⟩ := hSw; (try simp only [List.getElem_toArray, List.getElem_cons_zero, List.getElem_cons_succ]); go_simp; try (with_reducible rfl))
          try simp only [Act.put, List.getElem_toArray, List.getElem_cons_zero, List.getElem_cons_succ, List.setIfInBounds_toArray, List.set_cons_zero, List.set_cons_succ]
          refine wpAnyH_take (i := 8) (v := ?_) rfl (by kernel_rfl) (by kernel_rfl) (by kernel_rfl) (fun _ _ _ h => h) (Or.inl ⟨by rfl, ?_⟩) (by assumption) ?_
          rotate_left
          · (intro w hSw; obtain ⟨hS1, hS2, hS3, hS4, hS5, hS6, hS7⟩ := hSw; (try simp only [List.getElem_toArray, List.getElem_cons_zero, List.getElem_cons_succ]); go_simp; try (with_reducible rfl))
          try simp only [Act.put, List.getElem_toArray, List.getElem_cons_zero, List.getElem_cons_succ, List.setIfInBounds_toArray, List.set_cons_zero, List.set_cons_succ]
          refine wpAnyH_take (i := 9) (v := ?_) rfl (by kernel_rfl) (by kernel_rfl) (by kernel_rfl) (fun _ _ _ h => h) (Or.inl ⟨by rfl, ?_⟩) (by assumption) ?_
          rotate_left
          · (intro w hSw; obtain ⟨hS1, hS2, hS3, hS4, hS5, hS6, hS7⟩ := hSw; (try simp only [List.getElem_toArray, List.getElem_cons_zero, List.getElem_cons_succ]); go_simp; try (with_reducible rfl))
          try simp only [Act.put, List.getElem_toArray, List.getElem_cons_zero, List.getElem_cons_succ, List.setIfInBounds_toArray, List.set_cons_zero, List.set_cons_succ]
          refine wpAnyH_take (i := 10) (v := ?_) rfl (by kernel_rfl) (by kernel_rfl) (by kernel_rfl) (fun _ _ _ h => h) (Or.inl ⟨by rfl, ?_⟩) (by assumption) ?_
          rotate_left
          · (intro w hSw; obtain ⟨hS1, hS2, hS3, hS4, hS5, hS6, hS7⟩ := hSw; (try simp only [List.getElem_toArray, List.getElem_cons_zero, List.getElem_cons_succ]); go_simp; try (with_reducible rfl))
          try simp only [Act.put, List.getElem_toArray, List.getElem_cons_zero, List.getElem_cons_succ, List.setIfInBounds_toArray, List.set_cons_zero, List.set_cons_succ]
          refine wpAnyH_take (i := 11) (v := ?_) rfl (by kernel_rfl) (by kernel_rfl) (by kernel_rfl) (fun _ _ _ h => h) (Or.inl ⟨by rfl, ?_⟩) (by assumption) ?_
          rotate_left
          · (intro w hSw; obtain ⟨hS1, hS2, hS3, hS4, hS5, hS6, hS7⟩ := hSw; (try simp only [List.getElem_toArray, List.getElem_cons_zero, List.getElem_cons_succ]); go_simp; try (with_reducible rfl))
          try simp only [Act.put, List.getElem_toArray, List.getElem_cons_zero, List.getElem_cons_succ, List.setIfInBounds_toArray, List.set_cons_zero, List.set_cons_succ]
          refine wpAnyH_take (i := 12) (v := ?_) rfl (by kernel_rfl) (by kernel_rfl) (by kernel_rfl) (fun _ _ _ h => h) (Or.inl ⟨by rfl, ?_⟩) (by assumption) ?_
          rotate_left
          · (intro w hSw; obtain ⟨hS1, hS2, hS3, hS4, hS5, hS6, hS7⟩ := hSw; (try simp only [List.getElem_toArray, List.getElem_cons_zero, List.getElem_cons_succ]); go_simp; try (with_reducible rfl))
          try simp only [Act.put, List.getElem_toArray, List.getElem_cons_zero, List.getElem_cons_succ, List.setIfInBounds_toArray, List.set_cons_zero, List.set_cons_succ]
          refine wpAnyH_take (i := 13) (v := ?_) rfl (by kernel_rfl) (by kernel_rfl) (by kernel_rfl) (fun _ _ _ h => h) (Or.inl ⟨by rfl, ?_⟩) (by assumption) ?_
          rotate_left
          · (intro w hSw; obtain ⟨hS1, hS2, hS3, hS4, hS5, hS6, hS7⟩ := hSw; (try simp only [List.getElem_toArray, List.getElem_cons_zero, List.getElem_cons_succ]); go_simp; try (with_reducible rfl))
          try simp only [Act.put, List.getElem_toArray, List.getElem_cons_zero, List.getElem_cons_succ, List.setIfInBounds_toArray, List.set_cons_zero, List.set_cons_succ]
          refine wpAnyH_take (i := 15) (v := ?_) rfl (by kernel_rfl) (by kernel_rfl) (by kernel_rfl) (fun _ _ _ h => h) (Or.inl ⟨by rfl, ?_⟩) (by assumption) ?_
          rotate_left
          · (intro w hSw; obtain ⟨hS1, hS2, hS3, hS4, hS5, hS6, hS7⟩ := hSw; (try simp only [List.getElem_toArray, List.getElem_cons_zero, List.getElem_cons_succ]); go_simp; try (with_reducible rfl))
          try simp only [Act.put, List.getElem_toArray, List.getElem_cons_zero, List.getElem_cons_succ, List.setIfInBounds_toArray, List.set_cons_zero, List.set_cons_succ]
          refine wpAnyH_take (i := 16) (v := ?_) rfl (by kernel_rfl) (by kernel_rfl) (by kernel_rfl) (fun _ _ _ h => h) (Or.inl ⟨by rfl, ?_⟩) (by assumption) ?_
          rotate_left
          · (intro w hSw; obtain ⟨hS1, hS2, hS3, hS4, hS5, hS6, hS7⟩ := hSw; (try simp only [List.getElem_toArray, List.getElem_cons_zero, List.getElem_cons_succ]); go_simp; try (with_reducible rfl))
          try simp only [Act.put, List.getElem_toArray, List.getElem_cons_zero, List.getElem_cons_succ, List.setIfInBounds_toArray, List.set_cons_zero, List.set_cons_succ]
          refine wpAnyH_take (i := 17) (v := ?_) rfl (by kernel_rfl) (by kernel_rfl) (by kernel_rfl) (fun _ _ _ h => h) (Or.inl ⟨by rfl, ?_⟩) (by assumption) ?_
          rotate_left
          · (intro w hSw; obtain ⟨hS1, hS2, hS3, hS4, hS5, hS6, hS7⟩ := hSw; (try simp only [List.getElem_toArray, List.getElem_cons_zero, List.getElem_cons_succ]); go_simp; try (with_reducible rfl))
          try simp only [Act.put, List.getElem_toArray, List.getElem_cons_zero, List.getElem_cons_succ, List.setIfInBounds_toArray, List.set_cons_zero, List.set_cons_succ]
          refine wpAnyH_take (i := 18) (v := ?_) rfl (by kernel_rfl) (by kernel_rfl) (by kernel_rfl) (fun _ _ _ h => h) (Or.inl ⟨by rfl, ?_⟩) (by assumption) ?_
          rotate_left
          · (intro w hSw; obtain ⟨hS1, hS2, hS3, hS4, hS5, hS6, hS7⟩ := hSw; (try simp only [List.getElem_toArray, List.getElem_cons_zero, List.getElem_cons_succ]); go_simp; try (with_reducible rfl))
          try simp only [Act.put, List.getElem_toArray, List.getElem_cons_zero, List.getElem_cons_succ, List.setIfInBounds_toArray, List.set_cons_zero, List.set_cons_succ]
          refine wpAnyH_take (i := 19) (v := ?_) rfl (by kernel_rfl) (by kernel_rfl) (by kernel_rfl) (fun _ _ _ h => h) (Or.inl ⟨by rfl, ?_⟩) (by assumption) ?_
          rotate_left
          · (intro w hSw; obtain ⟨hS1, hS2, hS3, hS4, hS5, hS6, hS7⟩ := hSw; (try simp only [List.getElem_toArray, List.getElem_cons_zero, List.getElem_cons_succ]); go_simp; try (with_reducible rfl))
          try simp only [Act.put, List.getElem_toArray, List.getElem_cons_zero, List.getElem_cons_succ, List.setIfInBounds_toArray, List.set_cons_zero, List.set_cons_succ]
          refine wpAnyH_take (i := 20) (v := ?_) rfl (by kernel_rfl) (by kernel_rfl) (by kernel_rfl) (fun _ _ _ h => h) (Or.inl ⟨by rfl, ?_⟩) (by assumption) ?_
          rotate_left
          · (intro w hSw; obtain ⟨hS1, hS2, hS3, hS4, hS5, hS6, hS7⟩ := hSw; (try simp only [List.getElem_toArray, List.getElem_cons_zero, List.getElem_cons_succ]); go_simp; try (with_reducible rfl))
          try simp only [Act.put, List.getElem_toArray, List.getElem_cons_zero, List.getElem_cons_succ, List.setIfInBounds_toArray, List.set_cons_zero, List.set_cons_succ]
          refine wpAnyH_take (i := 21) (v := ?_) rfl (by kernel_rfl) (by kernel_rfl) (by kernel_rfl) (fun _ _ _ h => h) (Or.inl ⟨by rfl, ?_⟩) (by assumption) ?_
          rotate_left
          · (intro w hSw; obtain ⟨hS1, hS2, hS3, hS4, hS5, hS6, hS7⟩ := hSw; (try simp only [List.getElem_toArray, List.getElem_cons_zero, List.getElem_cons_succ]); go_simp; try (with_reducible rfl))
          try simp only [Act.put, List.getElem_toArray, List.getElem_cons_zero, List.getElem_cons_succ, List.setIfInBounds_toArray, List.set_cons_zero, List.set_cons_succ]
          refine wpAnyH_take (i := 22) (v := ?_) rfl (by kernel_rfl) (by kernel_rfl) (by kernel_rfl) (fun _ _ _ h => h) (Or.inl ⟨by rfl, ?_⟩) (by assumption) ?_
          rotate_left
          · (intro w hSw; obtain ⟨hS1, hS2, hS3, hS4, hS5, hS6, hS7⟩ := hSw; (try simp only [List.getElem_toArray, List.getElem_cons_zero, List.getElem_cons_succ]); go_simp; try (with_reducible rfl))
          try simp only [Act.put, List.getElem_toArray, List.getElem_cons_zero, List.getElem_cons_succ, List.setIfInBounds_toArray, List.set_cons_zero, List.set_cons_succ]
          refine wpAnyH_ready (rs := [14]) (by kernel_rfl) (by simp) ?_
          refine AllReadyH.cons rfl (fun K hK => ?_) AllReadyH.nil
          (try simp only [List.getElem_toArray, List.getElem_cons_zero, List.getElem_cons_succ]); go_simp
          go_at_call 28; refine (pending_any9 HT2d.out.dk j HWF.out).mono ?_; rintro e w' ⟨rfl, rfl⟩
          rw [HPJ.out]
          try (go_wp2_with fail)
          refine hK.out _ _ (HK2.out _ (Below.refl _ w2).drew) (fun hHeld => ?_)
          clear hK K
          try simp only [Act.put, List.getElem_toArray, List.getElem_cons_zero, List.getElem_cons_succ, List.setIfInBounds_toArray, List.set_cons_zero, List.set_cons_succ]
          refine wpAnyH_take (i := 23) (v := ?_) rfl (by kernel_rfl) (by kernel_rfl) (by kernel_rfl) (fun _ _ _ h => h) (Or.inl ⟨by rfl, ?_⟩) (by assumption) ?_
          rotate_left
          · (intro w hSw; obtain ⟨hS1, hS2, hS3, hS4, hS5, hS6, hS7⟩ := hSw; (try simp only [List.getElem_toArray, List.getElem_cons_zero, List.getElem_cons_succ]); go_simp; try (with_reducible rfl))
          try simp only [Act.put, List.getElem_toArray, List.getElem_cons_zero, List.getElem_cons_succ, List.setIfInBounds_toArray, List.set_cons_zero, List.set_cons_succ]
          refine wpAnyH_take (i := 24) (v := ?_) rfl (by kernel_rfl) (by kernel_rfl) (by kernel_rfl) (fun _ _ _ h => h) (Or.inl ⟨by rfl, ?_⟩) (by assumption) ?_
          rotate_left
          · (intro w hSw; obtain ⟨hS1, hS2, hS3, hS4, hS5, hS6, hS7⟩ := hSw; (try simp only [List.getElem_toArray, List.getElem_cons_zero, List.getElem_cons_succ]); go_simp; try (with_reducible rfl))
          try simp only [Act.put, List.getElem_toArray, List.getElem_cons_zero, List.getElem_cons_succ, List.setIfInBounds_toArray, List.set_cons_zero, List.set_cons_succ]
          refine wpAnyH_done (by kernel_rfl) ?_ _
          refine NoPanic.normal ?_
          obtain ⟨x1, x2, x3, x4, x5, -, -⟩ := hHeld
          obtain ⟨x0, hx0⟩ : ∃ x0, (C j)[0]? = some x0 := ⟨_, List.getElem?_eq_getElem (by rw [HOK.out.len]; omega)⟩
          have hl0 : (secL (C j))[0]? = some (.int .u8 x0) := by unfold secL; rw [List.getElem?_map, hx0]; rfl
          have y1 : w2.drew.cell? ⟨g1, 0, none⟩ = some (.int .u8 x0) := HRG12.out 0 _ hl0
          have y2 : w2.drew.cell? ⟨g2, 0, none⟩ = some (.int .u8 x0) := HRG2.out 0 _ hl0
          have z1 : w2.drew.frozen? ⟨g1, 0, none⟩ = false := (HBB2.out.frozen (p := ⟨g1, 0, none⟩) hgl1).trans (HZ1.out 0)
          have z2 : w2.drew.frozen? ⟨g2, 0, none⟩ = false := HZ2.out 0
          have hne : g2 ≠ g1 := by omega
          have hne' : g1 ≠ g2 := by omega
          have hs1 := HBB1.out.size
          have HB3 := Lib.hid (show Below wr.heap.size wr w2.drew from (HBB1.out.trans (HBB2.out.mono hs1)).drew)
          have y3 : ∀ V, (w2.setCell ⟨g1, 0, none⟩ V).cell? ⟨g2, 0, none⟩ = some (.int .u8 x0) := fun V => (World.cell?_of_block (a := ⟨g2, 0, none⟩) (heap_setCell_other _ _ _ _ hne)).trans y2
          have z3 : ∀ V, (w2.setCell ⟨g1, 0, none⟩ V).frozen? ⟨g2, 0, none⟩ = false := fun V => (World.frozen?_of_block (a := ⟨g2, 0, none⟩) (heap_setCell_other _ _ _ _ hne)).trans z2
          clear hx0 hl0 hcv1 hcv2 hcvb e42
          go_wp2
          go_roundw
          case rel =>
            have HBF := (HB3.out.setCell (p := ⟨g1, 0, none⟩) hg1 (.int .u8 (IntKind.u8.wrap (x0 + 1)))).setCell (p := ⟨g2, 0, none⟩) (by show wr.heap.size ≤ g2; omega) (.int .u8 (IntKind.u8.wrap (x0 + 1)))
            exact ⟨(j : Int) + 1, by omega, by omega, by go_num, HTR.out.step HBF, (HBF.cell (p := ⟨a7, 0, none⟩) h7l).trans H7.out, HBR.out.trans (HBF.mono HBR.out.size)⟩
          case measure => simp [intOf]; omega
        · have hhas : s.has S = false := by unfold Dk.has; simp; omega
          have HWF := Lib.hid (show (Lit.int .i64 S).wf = true from wfK_wf (x := (S, 0)) ⟨⟨by show _ ≤ S; omega, by show S ≤ _; omega⟩, by show _ ≤ (0 : Int); decide, by show (0 : Int) ≤ _; decide⟩)
          have HPJ := Lib.hid (show (s.pd S).length = 0 from by rw [HP.out]; rfl)
          have HHAS := Lib.hid hhas
          have HIN := Lib.hid hin
          have hcn := conv_nil9
          clear hhas hin
          go_wp2_with (first
            | (go_at_call 31; refine (read_out9 HTR.out.dk S HHAS.out).mono ?_; rintro e w' ⟨rfl, rfl⟩)
            | (go_at_call 32; refine (flushed_out9 HTR.out.dk S HHAS.out).mono ?_; rintro e w' ⟨rfl, rfl⟩)
            | (go_at_call 33; refine (qread_no9 HTR.out.qd h1 h2 S HIN.out).mono ?_; rintro e w' ⟨rfl, rfl⟩)
            | (go_at_call 28; refine (pending_any9 HTR.out.dk S HWF.out).mono ?_; rintro e w' ⟨rfl, rfl⟩; rw [HPJ.out])
            | (go_at_call 10; refine (num_any9 _ _).mono ?_; rintro e w' ⟨rfl, rfl⟩))
          go_roundw
          case rel => exact ⟨S + 1, by omega, by omega, by go_num, HTR.out, H7.out, HBR.out⟩
          case measure => simp [intOf]; omega
      · have hle' : ¬ S ≤ (n : Int) := hle
        have q9 := eql_seq9
        go_wp2_with (go_at_call 34; refine (dirty_any9 _ _ rfl).mono ?_; rintro e w' ⟨rfl, rfl⟩)
        refine wp_loop_rounds 3 ?_
        rw [rounds_succ]
        go_wp2
        obtain ⟨W1, hW1⟩ : ∃ W, W = ((wr.alloc (.cells #[.pointer (some ⟨d, 0, none⟩)] 23)).alloc (.cells #[.int .i64 0] 3)).alloc (.cells #[.int .i64 0] 3) := ⟨_, rfl⟩
        have hb1 : Below wr.heap.size wr W1 := by
          rw [hW1]; exact (((Below.refl _ wr).alloc (Nat.le_refl _) _).alloc (by simp) _).alloc (by simp; omega) _
        have hrow : W1.cell? ⟨wr.heap.size, 0, none⟩ = some (.pointer (some ⟨d, 0, none⟩)) ∧ W1.cell? ⟨wr.heap.size + 1, 0, none⟩ = some (.int .i64 0) ∧ W1.cell? ⟨wr.heap.size + 1 + 1, 0, none⟩ = some (.int .i64 0) ∧ wr.heap.size + 1 + 1 < W1.heap.size := by
          subst hW1
          have e3 := heap_alloc_new ((wr.alloc (.cells #[.pointer (some ⟨d, 0, none⟩)] 23)).alloc (.cells #[.int .i64 0] 3)) (.cells #[.int .i64 0] 3)
          have e2 := (Below.heap_alloc ((wr.alloc (.cells #[.pointer (some ⟨d, 0, none⟩)] 23)).alloc (.cells #[.int .i64 0] 3)) (.cells #[.int .i64 0] 3) (wr.heap.size + 1) (by simp)).trans
            (by have := heap_alloc_new (wr.alloc (.cells #[.pointer (some ⟨d, 0, none⟩)] 23)) (.cells #[.int .i64 0] 3); simp only [World.size_alloc] at this; exact this)
          have e1 := (Below.heap_alloc ((wr.alloc (.cells #[.pointer (some ⟨d, 0, none⟩)] 23)).alloc (.cells #[.int .i64 0] 3)) (.cells #[.int .i64 0] 3) wr.heap.size (by simp; omega)).trans
            ((Below.heap_alloc (wr.alloc (.cells #[.pointer (some ⟨d, 0, none⟩)] 23)) (.cells #[.int .i64 0] 3) wr.heap.size (by simp)).trans (heap_alloc_new wr _))
          simp only [World.size_alloc] at e3
          exact ⟨cell_of_row _ _ 0 _ _ _ e1, cell_of_row _ _ 0 _ _ _ e2, cell_of_row _ _ 0 _ _ _ e3, by simp⟩
        rw [← hW1]
        have HTW1 := Lib.hid (HTR.out.step hb1)
        have HROW := Lib.hid hrow
        have HBW1 := Lib.hid (HBR.out.trans (hb1.mono HBR.out.size))
        have H71 := Lib.hid ((hb1.cell (p := ⟨a7, 0, none⟩) h7l).trans H7.out)
        have hl7 : a7 < W1.heap.size := Nat.lt_of_lt_of_le h7l hb1.size
        clear hW1 hb1 hrow e4 q0
        refine (wpIn_wide (n := 5)).1 ?_
        refine range_none rfl (by omega) (gf := 49) (lb := #[.pointer (some ⟨wr.heap.size, 0, none⟩)]) rfl trivial (enters_of Try.func49 (by kernel_rfl) rfl) (fun l V hV => ?_) ?_
        · exact callsIn_wide.2 (dirty1_none9 (HTW1.out.step hV).dk HP.out _ wr.heap.size ((hV.cell (p := ⟨wr.heap.size, 0, none⟩) (by have := HROW.out.2.2.2; show wr.heap.size < _; omega)).trans HROW.out.1))
        · intro Da Wa hDa hBa hKa
          have HTA := Lib.hid (HTW1.out.step hBa)
          have HBA := Lib.hid (HBW1.out.trans (hBa.mono HBW1.out.size))
          have HKA := Lib.hid hKa
          have HDA := Lib.hid (show w.heap.size ≤ Da from Nat.le_trans HBW1.out.size hDa)
          have t16 : Wa.cell? ⟨wr.heap.size + 1, 0, none⟩ = some (.int .i64 0) := (hBa.cell (p := ⟨wr.heap.size + 1, 0, none⟩) (by have := HROW.out.2.2.2; show wr.heap.size + 1 < _; omega)).trans HROW.out.2.1
          have t17 : Wa.cell? ⟨wr.heap.size + 1 + 1, 0, none⟩ = some (.int .i64 0) := (hBa.cell (p := ⟨wr.heap.size + 1 + 1, 0, none⟩) HROW.out.2.2.2).trans HROW.out.2.2.1
          have HBX := Lib.hid ((hBa.cell (p := ⟨wr.heap.size, 0, none⟩) (by have := HROW.out.2.2.2; show wr.heap.size < _; omega)).trans HROW.out.1)
          have t7 : Wa.cell? ⟨a7, 0, none⟩ = some (.slice none 0 0) := (hBa.cell (p := ⟨a7, 0, none⟩) hl7).trans H71.out
          have t5 := HTA.out.e5
          have HL7A := Lib.hid (Nat.lt_of_lt_of_le hl7 hBa.size)
          clear hBa hKa hDa hl7 h7l
          go_wp2
          rw [rounds_succ]
          go_wp2
          obtain ⟨W2, hW2⟩ : ∃ W, W = (Wa.alloc (.cells #[.int .i64 1] 3)).alloc (.cells #[.int .i64 0] 3) := ⟨_, rfl⟩
          have hb2 : Below Wa.heap.size Wa W2 := by
            rw [hW2]; exact ((Below.refl _ Wa).alloc (Nat.le_refl _) _).alloc (by simp) _
          have hrow2 : W2.cell? ⟨Wa.heap.size, 0, none⟩ = some (.int .i64 1) ∧ W2.cell? ⟨Wa.heap.size + 1, 0, none⟩ = some (.int .i64 0) ∧ Wa.heap.size + 1 < W2.heap.size := by
            subst hW2
            have e3 := heap_alloc_new (Wa.alloc (.cells #[.int .i64 1] 3)) (.cells #[.int .i64 0] 3)
            have e2 := (Below.heap_alloc (Wa.alloc (.cells #[.int .i64 1] 3)) (.cells #[.int .i64 0] 3) Wa.heap.size (by simp)).trans (heap_alloc_new Wa _)
            simp only [World.size_alloc] at e3
            exact ⟨cell_of_row _ _ 0 _ _ _ e2, cell_of_row _ _ 0 _ _ _ e3, by simp⟩
          rw [← hW2]
          have HTW2 := Lib.hid (HTA.out.step hb2)
          have HROW2 := Lib.hid hrow2
          have HBW2 := Lib.hid (HBA.out.trans (hb2.mono HBA.out.size))
          have HBX2 := Lib.hid ((hb2.cell (p := ⟨wr.heap.size, 0, none⟩) (World.block_lt_of_cell? Wa _ HBX.out)).trans HBX.out)
          have H72 := Lib.hid ((hb2.cell (p := ⟨a7, 0, none⟩) HL7A.out).trans t7)
          have HKA2 := Lib.hid ((hb2.block Da (Array.getElem?_eq_some_iff.1 HKA.out).1).trans HKA.out)
          have HL72 := Lib.hid (Nat.lt_of_lt_of_le HL7A.out hb2.size)
          clear hW2 hb2 hrow2 t16 t17 t7 t5
          refine (wpIn_wide (n := 5)).1 ?_
          refine range_none rfl (by omega) (gf := 49) (lb := #[.pointer (some ⟨wr.heap.size, 0, none⟩)]) rfl trivial (enters_of Try.func49 (by kernel_rfl) rfl) (fun l V hV => ?_) ?_
          · exact callsIn_wide.2 (dirty1_none9 (HTW2.out.step hV).dk HP.out _ wr.heap.size ((hV.cell (p := ⟨wr.heap.size, 0, none⟩) (World.block_lt_of_cell? W2 _ HBX2.out)).trans HBX2.out))
          · intro Db Wb hDb hBb hKb
            have HTB := Lib.hid (HTW2.out.step hBb)
            have HBB := Lib.hid (HBW2.out.trans (hBb.mono HBW2.out.size))
            have HKB := Lib.hid hKb
            have HKAB := Lib.hid ((hBb.block Da (Array.getElem?_eq_some_iff.1 HKA2.out).1).trans HKA2.out)
            have HDB := Lib.hid (show w.heap.size ≤ Db from Nat.le_trans HBW2.out.size hDb)
            have hDab : Da ≠ Db := fun e => by have := (Array.getElem?_eq_some_iff.1 HKA2.out).1; omega
            have t16 : Wb.cell? ⟨Wa.heap.size, 0, none⟩ = some (.int .i64 1) := (hBb.cell (p := ⟨Wa.heap.size, 0, none⟩) (by have := HROW2.out.2.2; show Wa.heap.size < _; omega)).trans HROW2.out.1
            have t17 : Wb.cell? ⟨Wa.heap.size + 1, 0, none⟩ = some (.int .i64 0) := (hBb.cell (p := ⟨Wa.heap.size + 1, 0, none⟩) HROW2.out.2.2).trans HROW2.out.2.1
            have t7 : Wb.cell? ⟨a7, 0, none⟩ = some (.slice none 0 0) := (hBb.cell (p := ⟨a7, 0, none⟩) HL72.out).trans H72.out
            have t5 := HTB.out.e5
            have t6 := HTB.out.e6
            have f6 := HTB.out.f6
            have l6 := World.block_lt_of_cell? Wb _ t6
            have t6a : ∀ o, (Wb.alloc o).cell? ⟨a4 + 1 + 1, 0, none⟩ = some (.bool false) := fun o => (World.cell?_of_block (a := ⟨a4 + 1 + 1, 0, none⟩) (Below.heap_alloc _ _ _ l6)).trans t6
            have f6a : ∀ o, (Wb.alloc o).frozen? ⟨a4 + 1 + 1, 0, none⟩ = false := fun o => (World.frozen?_of_block (a := ⟨a4 + 1 + 1, 0, none⟩) (Below.heap_alloc _ _ _ l6)).trans f6
            have nB : Db ≠ a4 + 1 + 1 := fun e => by have h' := t6; rw [← e] at h'; simp [World.cell?, HKB.out] at h'
            have nA : Da ≠ a4 + 1 + 1 := fun e => by have h' := t6; rw [← e] at h'; simp [World.cell?, HKAB.out] at h'
            have KB := Lib.hid (show ((Wb.setCell ⟨a4 + 1 + 1, 0, none⟩ (.bool true)).alloc (.cells #[.int .i64 2] 3)).heap[Db]? = some (.deferred (some [])) from
              (Below.heap_alloc _ _ _ (by rw [show (Wb.setCell ⟨a4 + 1 + 1, 0, none⟩ (.bool true)).heap.size = Wb.heap.size by simp]; exact (Array.getElem?_eq_some_iff.1 HKB.out).1)).trans ((heap_setCell_other _ _ _ _ nB).trans HKB.out))
            have KA := Lib.hid (show (((Wb.setCell ⟨a4 + 1 + 1, 0, none⟩ (.bool true)).alloc (.cells #[.int .i64 2] 3)).putObj Db (.deferred none)).heap[Da]? = some (.deferred (some [])) from
              (World.putObj_heap_other hDab).trans ((Below.heap_alloc _ _ _ (by rw [show (Wb.setCell ⟨a4 + 1 + 1, 0, none⟩ (.bool true)).heap.size = Wb.heap.size by simp]; exact (Array.getElem?_eq_some_iff.1 HKAB.out).1)).trans ((heap_setCell_other _ _ _ _ nA).trans HKAB.out)))
            have hres := Lib.hid (show ((((Wb.setCell ⟨a4 + 1 + 1, 0, none⟩ (.bool true)).alloc (.cells #[.int .i64 2] 3)).putObj Db (.deferred none)).putObj Da (.deferred none)).cell? ⟨a4 + 1 + 1, 0, none⟩ = some (.bool true) from
              (World.cell?_of_block (a := ⟨a4 + 1 + 1, 0, none⟩) (World.putObj_heap_other (Ne.symm nA))).trans ((World.cell?_of_block (a := ⟨a4 + 1 + 1, 0, none⟩) (World.putObj_heap_other (Ne.symm nB))).trans ((World.cell?_of_block (a := ⟨a4 + 1 + 1, 0, none⟩) (Below.heap_alloc _ _ _ (by rw [show (Wb.setCell ⟨a4 + 1 + 1, 0, none⟩ (.bool true)).heap.size = Wb.heap.size by simp]; exact l6))).trans (World.cell?_setCell_same' _ _ _ (by rw [t6]; rfl)))))
            have HFIN := Lib.hid (show Below w.heap.size w ((((Wb.setCell ⟨a4 + 1 + 1, 0, none⟩ (.bool true)).alloc (.cells #[.int .i64 2] 3)).putObj Db (.deferred none)).putObj Da (.deferred none)) from
              (((HBB.out.setCell (by show w.heap.size ≤ a4 + 1 + 1; have := HA4.out; omega) _).alloc (by simp; exact HBB.out.size) _).trans (below_putObj9 _ HDB.out)).trans (below_putObj9 _ HDA.out))
            clear hBb hKb hDb
            go_wp2
            rw [rounds_succ]
            go_wp2
            refine ⟨by simp, .inl ⟨_, _, rfl, run_takeDeferred KB.out, ?_⟩⟩
            refine ⟨by simp, .inl ⟨_, _, rfl, run_takeDeferred KA.out, ?_⟩⟩
            refine ⟨.bool true, ?_, rfl, HFIN.out⟩
            have hc2 := hres.out
            simp [results, Try.f13, go_sem, hc2]
end Go.Proofs.Ytbnfjceoogehmaa
