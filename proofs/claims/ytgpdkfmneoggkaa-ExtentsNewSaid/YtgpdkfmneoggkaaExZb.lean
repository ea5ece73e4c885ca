/- goes, where nothing is taken. -/
import Derived.Test.YtgpdkfmneoggkaaExZ
namespace Go.Proofs.Ytgpdkfmneoggkaa
open Go.RowKit
attribute [local go_sem] Oper.semAt_some

theorem xruns_cells (v : Value) (a : Int) (w : World) (h1 : v.oneCell' = true) : Calls Try.prog 64 #[v, .int .i64 a] w fun e w' => ∃ bx by' : Nat, e = .returned (.func (.func 77) #[] #[.pointer (some ⟨bx, 0, none⟩), .pointer (some ⟨by', 0, none⟩)]) ∧ w'.cell? ⟨bx, 0, none⟩ = some v ∧ w'.cell? ⟨by', 0, none⟩ = some (.int .i64 a) ∧ Below w.heap.size w w' := by
  refine (xruns_any v a w h1).mono fun e w' hh => ?_
  obtain ⟨rfl, rfl⟩ := hh
  have r1 := (Below.heap_alloc (w.alloc (Obj.cells #[v] 26)) (Obj.cells #[.int .i64 a] 3) w.heap.size (by simp)).trans (heap_alloc_new w _)
  have r2 := heap_alloc_new (w.alloc (Obj.cells #[v] 26)) (Obj.cells #[.int .i64 a] 3)
  rw [World.size_alloc] at r2
  exact ⟨_, _, rfl, cell_of_row _ _ 0 _ _ _ r1, cell_of_row _ _ 0 _ _ _ r2, ((Below.refl _ w).alloc (Nat.le_refl _) _).alloc (by simp) _⟩
/-- What goes looks at. -/
structure Gw (W : World) (x d q dq : Nat) (Y : Lq) (s : Xt) (a : Int) (h0 h5 h6 bx by' bw : Nat) (lv : Int) : Prop where
  ex : ExIs W x d s
  qx : QxAt W q dq Y s
  e5 : W.cell? ⟨h5, 0, none⟩ = some (.int .i64 lv)
  e6 : W.cell? ⟨h6, 0, none⟩ = some (.bool false)
  f6 : W.frozen? ⟨h6, 0, none⟩ = false
  cx : W.cell? ⟨bx, 0, none⟩ = some (.pointer (some ⟨x, 0, none⟩))
  cy : W.cell? ⟨by', 0, none⟩ = some (.int .i64 a)
  cw : W.cell? ⟨bw, 0, none⟩ = some (.slice none 0 0)
theorem Gw.step {W W' : World} {x d q dq : Nat} {Y : Lq} {s : Xt} {a : Int} {h0 h5 h6 bx by' bw : Nat} {lv : Int} (h : Gw W x d q dq Y s a h0 h5 h6 bx by' bw lv) (hb : Below W.heap.size W W') : Gw W' x d q dq Y s a h0 h5 h6 bx by' bw lv :=
  ⟨h.ex.step hb, h.qx.step hb, cell_step h.e5 hb, cell_step h.e6 hb, (World.frozen?_of_block (a := ⟨h6, 0, none⟩) (hb.block _ (World.block_lt_of_cell? W _ h.e6))).trans h.f6, cell_step h.cx hb, cell_step h.cy hb, cell_step h.cw hb⟩
set_option maxHeartbeats 4000000 in
set_option maxRecDepth 100000 in
theorem goes_none {w : World} {x d q dq : Nat} {Y : Lq} {s : Xt} (hE : ExIs w x d s) (hX : QxAt w q dq Y s) (hb : ∀ a i, (s.pt a).bit i = false) (dv : Value) (hdv : dv.oneCell' = true) (a lv : Int) :
    Calls Try.prog 46 #[.agg #[.pointer (some ⟨x, 0, none⟩), dv, .pointer (some ⟨q, 0, none⟩)], .int .i64 a, .int .i64 lv] w fun e w' => e = .returned (.bool true) ∧ Below w.heap.size w w' := by
  have HE := Lib.hid hE
  have HX := Lib.hid hX
  have HZ := Lib.hid hb
  clear hE hX hb
  refine (callsIn_wide (n := 5)).1 ?_
  refine callsIn_of_wp_marks Try.func46 rfl trivial ?_ rfl
  simp only [Try.ntmps46, List.size_toArray, List.length_cons, List.length_nil, Nat.reduceAdd, Nat.reduceSub, Array.replicate_succ, Array.replicate_zero, List.push_toArray, List.append_toArray, List.nil_append, List.cons_append]
  refine wpIn_wide.2 ?_
  go_upto_region 1 with fail
  obtain ⟨W0, hW0⟩ : ∃ W, W = ((w.alloc (Obj.cells #[.pointer (some ⟨x, 0, none⟩), dv, .pointer (some ⟨q, 0, none⟩)] 30)).alloc (Obj.cells #[.int .i64 lv] 3)).alloc (Obj.cells #[.bool false] 4) := ⟨_, rfl⟩
  try rw [← hW0]
  have hB0 : Below w.heap.size w W0 := by
    rw [hW0]
    exact (((Below.refl _ w).alloc (Nat.le_refl _) _).alloc (by simp) _).alloc (by simp; omega) _
  have hrows : W0.heap[w.heap.size]? = some (Obj.cells #[.pointer (some ⟨x, 0, none⟩), dv, .pointer (some ⟨q, 0, none⟩)] 30 (0, 0)) ∧ W0.heap[w.heap.size + 1]? = some (Obj.cells #[.int .i64 lv] 3 (0, 0)) ∧ W0.heap[w.heap.size + 1 + 1]? = some (Obj.cells #[.bool false] 4 (0, 0)) := by
    have e6 := heap_alloc_new ((w.alloc (Obj.cells #[.pointer (some ⟨x, 0, none⟩), dv, .pointer (some ⟨q, 0, none⟩)] 30)).alloc (Obj.cells #[.int .i64 lv] 3)) (Obj.cells #[.bool false] 4)
    have e5 := (Below.heap_alloc ((w.alloc (Obj.cells #[.pointer (some ⟨x, 0, none⟩), dv, .pointer (some ⟨q, 0, none⟩)] 30)).alloc (Obj.cells #[.int .i64 lv] 3)) (Obj.cells #[.bool false] 4) (w.heap.size + 1) (by simp)).trans
      (by have := heap_alloc_new (w.alloc (Obj.cells #[.pointer (some ⟨x, 0, none⟩), dv, .pointer (some ⟨q, 0, none⟩)] 30)) (Obj.cells #[.int .i64 lv] 3); simp only [World.size_alloc] at this; exact this)
    have e4 := (Below.heap_alloc ((w.alloc (Obj.cells #[.pointer (some ⟨x, 0, none⟩), dv, .pointer (some ⟨q, 0, none⟩)] 30)).alloc (Obj.cells #[.int .i64 lv] 3)) (Obj.cells #[.bool false] 4) w.heap.size (by simp; omega)).trans
      ((Below.heap_alloc (w.alloc (Obj.cells #[.pointer (some ⟨x, 0, none⟩), dv, .pointer (some ⟨q, 0, none⟩)] 30)) (Obj.cells #[.int .i64 lv] 3) w.heap.size (by simp)).trans (heap_alloc_new w _))
    rw [← hW0] at e4 e5 e6
    simp only [World.size_alloc] at e6
    exact ⟨e4, e5, e6⟩
  have HB0 := Lib.hid hB0
  have HR := Lib.hid hrows
  have HE0 := Lib.hid (HE.out.step hB0)
  have HX0 := Lib.hid (HX.out.step hB0)
  have hx0 := cell_of_row _ _ 0 _ _ _ hrows.1
  have hx2 := cell_of_row _ _ 2 _ _ _ hrows.1
  have hl0 := (Array.getElem?_eq_some_iff.1 hrows.1).1
  have HSK : ∀ W : World, Below W0.heap.size W0 W → W.cell? ⟨w.heap.size, 0, none⟩ = some (.pointer (some ⟨x, 0, none⟩)) ∧ W.cell? ⟨w.heap.size, 2, none⟩ = some (.pointer (some ⟨q, 0, none⟩)) := fun W hb =>
    ⟨cell_step (cell_of_row _ _ 0 _ _ _ HR.out.1) hb, cell_step (cell_of_row _ _ 2 _ _ _ HR.out.1) hb⟩
  have GW : ∀ (W : World) (bx by' bw : Nat), Below W0.heap.size W0 W → W.cell? ⟨bx, 0, none⟩ = some (.pointer (some ⟨x, 0, none⟩)) → W.cell? ⟨by', 0, none⟩ = some (.int .i64 a) → W.cell? ⟨bw, 0, none⟩ = some (.slice none 0 0) → Gw W x d q dq Y s a w.heap.size (w.heap.size + 1) (w.heap.size + 1 + 1) bx by' bw lv := fun W bx by' bw hb h1 h2 h3 =>
    ⟨HE0.out.step hb, HX0.out.step hb, cell_step (cell_of_row _ _ 0 _ _ _ HR.out.2.1) hb, cell_step (cell_of_row _ _ 0 _ _ _ HR.out.2.2) hb, (World.frozen?_of_block (a := ⟨w.heap.size + 1 + 1, 0, none⟩) (hb.block _ (Array.getElem?_eq_some_iff.1 HR.out.2.2).1)).trans (frozen_of_row _ _ 0 _ _ HR.out.2.2), h1, h2, h3⟩
  clear hW0 hB0 hrows HE HX hx0 hx2 hl0
  go_cut [7, 8] from 12 to 72 (fun f p W => ∃ bx by' bw : Nat, f = .func (.func 77) #[] #[.pointer (some ⟨bx, 0, none⟩), .pointer (some ⟨by', 0, none⟩)] ∧ p = .pointer (some ⟨bw, 0, none⟩) ∧ Gw W x d q dq Y s a w.heap.size (w.heap.size + 1) (w.heap.size + 1 + 1) bx by' bw lv ∧ Below w.heap.size w W)
  case first =>
    -- REGION1
    have BD := Lib.hid ((Below.refl W0.heap.size W0).drew)
    refine wp_region_noPanic ?_
    refine wp_region_held_drew (S := fun W => W.cell? ⟨w.heap.size, 0, none⟩ = some (.pointer (some ⟨x, 0, none⟩)) ∧ W.cell? ⟨w.heap.size, 2, none⟩ = some (.pointer (some ⟨q, 0, none⟩))) (by kernel_rfl) ?_ (fun hHeld => ?_)
    · exact HSK _ (Below.refl _ W0).drew
    refine wpAnyH_take (i := 0) (v := ?_) rfl (by kernel_rfl) (by kernel_rfl) (by kernel_rfl) (fun _ _ _ h => h) (Or.inl ⟨by rfl, ?_⟩) (by assumption) ?_
    rotate_left
    · (intro w hSw; obtain ⟨hS1, hS2⟩ := hSw; (try simp only [List.getElem_toArray, List.getElem_cons_zero]); go_simp; try (with_reducible rfl))
    try simp only [Act.put, List.getElem_toArray, List.getElem_cons_zero, List.setIfInBounds_toArray, List.set_cons_zero, List.set_cons_succ]
    refine wpAnyH_take (i := 1) (v := ?_) rfl (by kernel_rfl) (by kernel_rfl) (by kernel_rfl) (fun _ _ _ h => h) (Or.inl ⟨by rfl, ?_⟩) (by assumption) ?_
    rotate_left
    · (intro w hSw; obtain ⟨hS1, hS2⟩ := hSw; (try simp only [List.getElem_toArray, List.getElem_cons_zero, List.getElem_cons_succ]); go_simp; try (with_reducible rfl))
    try simp only [Act.put, List.getElem_toArray, List.getElem_cons_zero, List.getElem_cons_succ, List.setIfInBounds_toArray, List.set_cons_zero, List.set_cons_succ]
    refine wpAnyH_take (i := 2) (v := ?_) rfl (by kernel_rfl) (by kernel_rfl) (by kernel_rfl) (fun _ _ _ h => h) (Or.inl ⟨by rfl, ?_⟩) (by assumption) ?_
    rotate_left
    · (intro w hSw; obtain ⟨hS1, hS2⟩ := hSw; (try simp only [List.getElem_toArray, List.getElem_cons_zero, List.getElem_cons_succ]); go_simp; try (with_reducible rfl))
    try simp only [Act.put, List.getElem_toArray, List.getElem_cons_zero, List.getElem_cons_succ, List.setIfInBounds_toArray, List.set_cons_zero, List.set_cons_succ]
    refine wpAnyH_take (i := 4) (v := ?_) rfl (by kernel_rfl) (by kernel_rfl) (by kernel_rfl) (fun _ _ _ h => h) (Or.inl ⟨by rfl, ?_⟩) (by assumption) ?_
    rotate_left
    · (intro w hSw; obtain ⟨hS1, hS2⟩ := hSw; (try simp only [List.getElem_toArray, List.getElem_cons_zero, List.getElem_cons_succ]); go_simp; try (with_reducible rfl))
    try simp only [Act.put, List.getElem_toArray, List.getElem_cons_zero, List.getElem_cons_succ, List.setIfInBounds_toArray, List.set_cons_zero, List.set_cons_succ]
    refine wpAnyH_take (i := 5) (v := ?_) rfl (by kernel_rfl) (by kernel_rfl) (by kernel_rfl) (fun _ _ _ h => h) (Or.inl ⟨by rfl, ?_⟩) (by assumption) ?_
    rotate_left
    · (intro w hSw; obtain ⟨hS1, hS2⟩ := hSw; (try simp only [List.getElem_toArray, List.getElem_cons_zero, List.getElem_cons_succ]); go_simp; try (with_reducible rfl))
    try simp only [Act.put, List.getElem_toArray, List.getElem_cons_zero, List.getElem_cons_succ, List.setIfInBounds_toArray, List.set_cons_zero, List.set_cons_succ]
    refine wpAnyH_take (i := 6) (v := ?_) rfl (by kernel_rfl) (by kernel_rfl) (by kernel_rfl) (fun _ _ _ h => h) (Or.inl ⟨by rfl, ?_⟩) (by assumption) ?_
    rotate_left
    · (intro w hSw; obtain ⟨hS1, hS2⟩ := hSw; (try simp only [List.getElem_toArray, List.getElem_cons_zero, List.getElem_cons_succ]); go_simp; try (with_reducible rfl))
    try simp only [Act.put, List.getElem_toArray, List.getElem_cons_zero, List.getElem_cons_succ, List.setIfInBounds_toArray, List.set_cons_zero, List.set_cons_succ]
    obtain ⟨WD, hWD⟩ : ∃ WD, W0.drew = WD := ⟨_, rfl⟩
    rw [hWD] at BD ⊢
    clear hWD
    refine wpAnyH_ready (rs := [3, 8]) (by kernel_rfl) (by simp) ?_
    refine (AllReadyH.cons rfl (fun K hK => ?_) (AllReadyH.cons rfl (fun K hK => ?_) AllReadyH.nil))
    · (try simp only [List.getElem_toArray, List.getElem_cons_zero, List.getElem_cons_succ]); go_simp
      go_at_call 64
      refine Calls.mono (xruns_cells _ a _ rfl) ?_
      rintro e w1 ⟨bx, by', rfl, cx, cy, hbw1⟩
      have Bw1 := Lib.hid (BD.out.trans (hbw1.mono BD.out.size))
      clear hbw1
      try (go_wp2_with fail)
      refine hK.out _ _ (HSK _ Bw1.out) (fun hHeld => ?_)
      clear hK K
      try simp only [Act.put, List.getElem_toArray, List.getElem_cons_zero, List.getElem_cons_succ, List.setIfInBounds_toArray, List.set_cons_zero, List.set_cons_succ]
      refine wpAnyH_ready (rs := [7, 8]) (by kernel_rfl) (by simp) ?_
      refine (AllReadyH.cons rfl (fun K hK => ?_) (AllReadyH.cons rfl (fun K hK => ?_) AllReadyH.nil))
      · (try simp only [List.getElem_toArray, List.getElem_cons_zero, List.getElem_cons_succ]); go_simp
        go_at_call 74
        refine Calls.mono (qruns_none (HX0.out.step Bw1.out) HZ.out a) ?_
        rintro e w' ⟨rfl, rfl⟩
        try (go_wp2_with fail)
        refine hK.out _ _ (HSK _ Bw1.out) (fun hHeld => ?_)
        clear hK K
        try simp only [Act.put, List.getElem_toArray, List.getElem_cons_zero, List.getElem_cons_succ, List.setIfInBounds_toArray, List.set_cons_zero, List.set_cons_succ]
        refine wpAnyH_ready (rs := [8]) (by kernel_rfl) (by simp) ?_
        refine (AllReadyH.cons rfl (fun K hK => ?_) AllReadyH.nil)
        (try simp only [List.getElem_toArray, List.getElem_cons_zero, List.getElem_cons_succ]); go_simp
        have hbw2 : Below w1.heap.size w1 (w1.alloc (Obj.cells #[Value.slice none 0 0] 125)) := (Below.refl _ _).alloc (Nat.le_refl _) _
        have nww2 := heap_alloc_new w1 (Obj.cells #[Value.slice none 0 0] 125)
        have cww2 := cell_of_row _ _ 0 _ _ _ nww2
        have fww2 := frozen_of_row _ _ 0 _ _ nww2
        have Bw2 := Lib.hid (Bw1.out.trans (hbw2.mono Bw1.out.size))
        have cxw2 := cell_step cx hbw2
        have cyw2 := cell_step cy hbw2
        clear nww2 hbw2
        refine hK.out _ _ (HSK _ Bw2.out) (fun hHeld => ?_)
        clear hK K
        try simp only [Act.put, List.getElem_toArray, List.getElem_cons_zero, List.getElem_cons_succ, List.setIfInBounds_toArray, List.set_cons_zero, List.set_cons_succ]
        have hlbw := Bw1.out.size
        obtain ⟨bw, hbw⟩ : ∃ bw, w1.heap.size = bw := ⟨_, rfl⟩
        rw [hbw] at hlbw cww2 fww2 ⊢
        clear hbw
        generalize w1.alloc (Obj.cells #[Value.slice none 0 0] 125) = w2 at *
        have LBW := Lib.hid (show W0.heap.size ≤ bw from hlbw)
        clear hlbw
        refine wpAnyH_take (i := 9) (v := ?_) rfl (by kernel_rfl) (by kernel_rfl) (by kernel_rfl) (fun _ _ _ h => h) (Or.inl ⟨by rfl, ?_⟩) (by assumption) ?_
        rotate_left
        · (intro w hSw; obtain ⟨hS1, hS2⟩ := hSw; (try simp only [List.getElem_toArray, List.getElem_cons_zero, List.getElem_cons_succ]); go_simp; try (with_reducible rfl))
        try simp only [Act.put, List.getElem_toArray, List.getElem_cons_zero, List.getElem_cons_succ, List.setIfInBounds_toArray, List.set_cons_zero, List.set_cons_succ]
        refine wpAnyH_ready (rs := [10]) (by kernel_rfl) (by simp) ?_
        refine (AllReadyH.cons rfl (fun K hK => ?_) AllReadyH.nil)
        (try simp only [List.getElem_toArray, List.getElem_cons_zero, List.getElem_cons_succ]); go_simp
        have hbx : bx ≠ bw := fun e => by have h9 := cxw2; rw [e, cww2] at h9; cases h9
        have hby : by' ≠ bw := fun e => by have h9 := cyw2; rw [e, cww2] at h9; cases h9
        have BF := Lib.hid (show Below W0.heap.size W0 (w2.setCell ⟨bw, 0, none⟩ (.slice none 0 0)) from Bw2.out.setCell LBW.out _)
        have cxf : (w2.setCell ⟨bw, 0, none⟩ (.slice none 0 0)).cell? ⟨bx, 0, none⟩ = some (.pointer (some ⟨x, 0, none⟩)) := (World.cell?_of_block (a := ⟨bx, 0, none⟩) (heap_setCell_other _ _ _ _ hbx)).trans cxw2
        have cyf : (w2.setCell ⟨bw, 0, none⟩ (.slice none 0 0)).cell? ⟨by', 0, none⟩ = some (.int .i64 a) := (World.cell?_of_block (a := ⟨by', 0, none⟩) (heap_setCell_other _ _ _ _ hby)).trans cyw2
        have cwf : (w2.setCell ⟨bw, 0, none⟩ (.slice none 0 0)).cell? ⟨bw, 0, none⟩ = some (.slice none 0 0) := World.cell?_setCell_same' _ _ _ (by rw [cww2]; rfl)
        refine hK.out _ _ (HSK _ BF.out) (fun hHeld => ?_)
        clear hK K
        try simp only [Act.put, List.getElem_toArray, List.getElem_cons_zero, List.getElem_cons_succ, List.setIfInBounds_toArray, List.set_cons_zero, List.set_cons_succ]
        refine wpAnyH_done (by kernel_rfl) ?_ _
        refine NoPanic.normal ?_
        have CXF := Lib.hid cxf
        have CYF := Lib.hid cyf
        have CWF := Lib.hid cwf
        clear cxf cyf cwf
        generalize (w2.setCell ⟨bw, 0, none⟩ (.slice none 0 0)) = WF at *
        go_wp2_with fail
        go_meet
        exact ⟨bx, by', bw, rfl, rfl, GW WF bx by' bw BF.out CXF.out CYF.out CWF.out, HB0.out.trans (BF.out.mono HB0.out.size)⟩
      · (try simp only [List.getElem_toArray, List.getElem_cons_zero, List.getElem_cons_succ]); go_simp
        have hbw2 : Below w1.heap.size w1 (w1.alloc (Obj.cells #[Value.slice none 0 0] 125)) := (Below.refl _ _).alloc (Nat.le_refl _) _
        have nww2 := heap_alloc_new w1 (Obj.cells #[Value.slice none 0 0] 125)
        have cww2 := cell_of_row _ _ 0 _ _ _ nww2
        have fww2 := frozen_of_row _ _ 0 _ _ nww2
        have Bw2 := Lib.hid (Bw1.out.trans (hbw2.mono Bw1.out.size))
        have cxw2 := cell_step cx hbw2
        have cyw2 := cell_step cy hbw2
        clear nww2 hbw2
        refine hK.out _ _ (HSK _ Bw2.out) (fun hHeld => ?_)
        clear hK K
        try simp only [Act.put, List.getElem_toArray, List.getElem_cons_zero, List.getElem_cons_succ, List.setIfInBounds_toArray, List.set_cons_zero, List.set_cons_succ]
        have hlbw := Bw1.out.size
        obtain ⟨bw, hbw⟩ : ∃ bw, w1.heap.size = bw := ⟨_, rfl⟩
        rw [hbw] at hlbw cww2 fww2 ⊢
        clear hbw
        generalize w1.alloc (Obj.cells #[Value.slice none 0 0] 125) = w2 at *
        have LBW := Lib.hid (show W0.heap.size ≤ bw from hlbw)
        clear hlbw
        refine wpAnyH_ready (rs := [7]) (by kernel_rfl) (by simp) ?_
        refine (AllReadyH.cons rfl (fun K hK => ?_) AllReadyH.nil)
        (try simp only [List.getElem_toArray, List.getElem_cons_zero, List.getElem_cons_succ]); go_simp
        go_at_call 74
        refine Calls.mono (qruns_none (HX0.out.step Bw2.out) HZ.out a) ?_
        rintro e w' ⟨rfl, rfl⟩
        try (go_wp2_with fail)
        refine hK.out _ _ (HSK _ Bw2.out) (fun hHeld => ?_)
        clear hK K
        try simp only [Act.put, List.getElem_toArray, List.getElem_cons_zero, List.getElem_cons_succ, List.setIfInBounds_toArray, List.set_cons_zero, List.set_cons_succ]
        refine wpAnyH_take (i := 9) (v := ?_) rfl (by kernel_rfl) (by kernel_rfl) (by kernel_rfl) (fun _ _ _ h => h) (Or.inl ⟨by rfl, ?_⟩) (by assumption) ?_
        rotate_left
        · (intro w hSw; obtain ⟨hS1, hS2⟩ := hSw; (try simp only [List.getElem_toArray, List.getElem_cons_zero, List.getElem_cons_succ]); go_simp; try (with_reducible rfl))
        try simp only [Act.put, List.getElem_toArray, List.getElem_cons_zero, List.getElem_cons_succ, List.setIfInBounds_toArray, List.set_cons_zero, List.set_cons_succ]
        refine wpAnyH_ready (rs := [10]) (by kernel_rfl) (by simp) ?_
        refine (AllReadyH.cons rfl (fun K hK => ?_) AllReadyH.nil)
        (try simp only [List.getElem_toArray, List.getElem_cons_zero, List.getElem_cons_succ]); go_simp
        have hbx : bx ≠ bw := fun e => by have h9 := cxw2; rw [e, cww2] at h9; cases h9
        have hby : by' ≠ bw := fun e => by have h9 := cyw2; rw [e, cww2] at h9; cases h9
        have BF := Lib.hid (show Below W0.heap.size W0 (w2.setCell ⟨bw, 0, none⟩ (.slice none 0 0)) from Bw2.out.setCell LBW.out _)
        have cxf : (w2.setCell ⟨bw, 0, none⟩ (.slice none 0 0)).cell? ⟨bx, 0, none⟩ = some (.pointer (some ⟨x, 0, none⟩)) := (World.cell?_of_block (a := ⟨bx, 0, none⟩) (heap_setCell_other _ _ _ _ hbx)).trans cxw2
        have cyf : (w2.setCell ⟨bw, 0, none⟩ (.slice none 0 0)).cell? ⟨by', 0, none⟩ = some (.int .i64 a) := (World.cell?_of_block (a := ⟨by', 0, none⟩) (heap_setCell_other _ _ _ _ hby)).trans cyw2
        have cwf : (w2.setCell ⟨bw, 0, none⟩ (.slice none 0 0)).cell? ⟨bw, 0, none⟩ = some (.slice none 0 0) := World.cell?_setCell_same' _ _ _ (by rw [cww2]; rfl)
        refine hK.out _ _ (HSK _ BF.out) (fun hHeld => ?_)
        clear hK K
        try simp only [Act.put, List.getElem_toArray, List.getElem_cons_zero, List.getElem_cons_succ, List.setIfInBounds_toArray, List.set_cons_zero, List.set_cons_succ]
        refine wpAnyH_done (by kernel_rfl) ?_ _
        refine NoPanic.normal ?_
        have CXF := Lib.hid cxf
        have CYF := Lib.hid cyf
        have CWF := Lib.hid cwf
        clear cxf cyf cwf
        generalize (w2.setCell ⟨bw, 0, none⟩ (.slice none 0 0)) = WF at *
        go_wp2_with fail
        go_meet
        exact ⟨bx, by', bw, rfl, rfl, GW WF bx by' bw BF.out CXF.out CYF.out CWF.out, HB0.out.trans (BF.out.mono HB0.out.size)⟩
    · (try simp only [List.getElem_toArray, List.getElem_cons_zero, List.getElem_cons_succ]); go_simp
      have hbw1 : Below WD.heap.size WD (WD.alloc (Obj.cells #[Value.slice none 0 0] 125)) := (Below.refl _ _).alloc (Nat.le_refl _) _
      have nww1 := heap_alloc_new WD (Obj.cells #[Value.slice none 0 0] 125)
      have cww1 := cell_of_row _ _ 0 _ _ _ nww1
      have fww1 := frozen_of_row _ _ 0 _ _ nww1
      have Bw1 := Lib.hid (BD.out.trans (hbw1.mono BD.out.size))
      clear nww1 hbw1
      refine hK.out _ _ (HSK _ Bw1.out) (fun hHeld => ?_)
      clear hK K
      try simp only [Act.put, List.getElem_toArray, List.getElem_cons_zero, List.getElem_cons_succ, List.setIfInBounds_toArray, List.set_cons_zero, List.set_cons_succ]
      have hlbw := BD.out.size
      obtain ⟨bw, hbw⟩ : ∃ bw, WD.heap.size = bw := ⟨_, rfl⟩
      rw [hbw] at hlbw cww1 fww1 ⊢
      clear hbw
      generalize WD.alloc (Obj.cells #[Value.slice none 0 0] 125) = w1 at *
      have LBW := Lib.hid (show W0.heap.size ≤ bw from hlbw)
      clear hlbw
      refine wpAnyH_ready (rs := [3]) (by kernel_rfl) (by simp) ?_
      refine (AllReadyH.cons rfl (fun K hK => ?_) AllReadyH.nil)
      (try simp only [List.getElem_toArray, List.getElem_cons_zero, List.getElem_cons_succ]); go_simp
      go_at_call 64
      refine Calls.mono (xruns_cells _ a _ rfl) ?_
      rintro e w2 ⟨bx, by', rfl, cx, cy, hbw2⟩
      have Bw2 := Lib.hid (Bw1.out.trans (hbw2.mono Bw1.out.size))
      have cww2 := cell_step cww1 hbw2
      have fww2 : w2.frozen? ⟨bw, 0, none⟩ = false := (World.frozen?_of_block (a := ⟨bw, 0, none⟩) (hbw2.block _ (World.block_lt_of_cell? _ _ cww1))).trans fww1
      clear hbw2
      try (go_wp2_with fail)
      refine hK.out _ _ (HSK _ Bw2.out) (fun hHeld => ?_)
      clear hK K
      try simp only [Act.put, List.getElem_toArray, List.getElem_cons_zero, List.getElem_cons_succ, List.setIfInBounds_toArray, List.set_cons_zero, List.set_cons_succ]
      refine wpAnyH_ready (rs := [7]) (by kernel_rfl) (by simp) ?_
      refine (AllReadyH.cons rfl (fun K hK => ?_) AllReadyH.nil)
      (try simp only [List.getElem_toArray, List.getElem_cons_zero, List.getElem_cons_succ]); go_simp
      go_at_call 74
      refine Calls.mono (qruns_none (HX0.out.step Bw2.out) HZ.out a) ?_
      rintro e w' ⟨rfl, rfl⟩
      try (go_wp2_with fail)
      refine hK.out _ _ (HSK _ Bw2.out) (fun hHeld => ?_)
      clear hK K
      try simp only [Act.put, List.getElem_toArray, List.getElem_cons_zero, List.getElem_cons_succ, List.setIfInBounds_toArray, List.set_cons_zero, List.set_cons_succ]
      refine wpAnyH_take (i := 9) (v := ?_) rfl (by kernel_rfl) (by kernel_rfl) (by kernel_rfl) (fun _ _ _ h => h) (Or.inl ⟨by rfl, ?_⟩) (by assumption) ?_
      rotate_left
      · (intro w hSw; obtain ⟨hS1, hS2⟩ := hSw; (try simp only [List.getElem_toArray, List.getElem_cons_zero, List.getElem_cons_succ]); go_simp; try (with_reducible rfl))
      try simp only [Act.put, List.getElem_toArray, List.getElem_cons_zero, List.getElem_cons_succ, List.setIfInBounds_toArray, List.set_cons_zero, List.set_cons_succ]
      refine wpAnyH_ready (rs := [10]) (by kernel_rfl) (by simp) ?_
      refine (AllReadyH.cons rfl (fun K hK => ?_) AllReadyH.nil)
      (try simp only [List.getElem_toArray, List.getElem_cons_zero, List.getElem_cons_succ]); go_simp
      have hbx : bx ≠ bw := fun e => by have h9 := cx; rw [e, cww2] at h9; cases h9
      have hby : by' ≠ bw := fun e => by have h9 := cy; rw [e, cww2] at h9; cases h9
      have BF := Lib.hid (show Below W0.heap.size W0 (w2.setCell ⟨bw, 0, none⟩ (.slice none 0 0)) from Bw2.out.setCell LBW.out _)
      have cxf : (w2.setCell ⟨bw, 0, none⟩ (.slice none 0 0)).cell? ⟨bx, 0, none⟩ = some (.pointer (some ⟨x, 0, none⟩)) := (World.cell?_of_block (a := ⟨bx, 0, none⟩) (heap_setCell_other _ _ _ _ hbx)).trans cx
      have cyf : (w2.setCell ⟨bw, 0, none⟩ (.slice none 0 0)).cell? ⟨by', 0, none⟩ = some (.int .i64 a) := (World.cell?_of_block (a := ⟨by', 0, none⟩) (heap_setCell_other _ _ _ _ hby)).trans cy
      have cwf : (w2.setCell ⟨bw, 0, none⟩ (.slice none 0 0)).cell? ⟨bw, 0, none⟩ = some (.slice none 0 0) := World.cell?_setCell_same' _ _ _ (by rw [cww2]; rfl)
      refine hK.out _ _ (HSK _ BF.out) (fun hHeld => ?_)
      clear hK K
      try simp only [Act.put, List.getElem_toArray, List.getElem_cons_zero, List.getElem_cons_succ, List.setIfInBounds_toArray, List.set_cons_zero, List.set_cons_succ]
      refine wpAnyH_done (by kernel_rfl) ?_ _
      refine NoPanic.normal ?_
      have CXF := Lib.hid cxf
      have CYF := Lib.hid cyf
      have CWF := Lib.hid cwf
      clear cxf cyf cwf
      generalize (w2.setCell ⟨bw, 0, none⟩ (.slice none 0 0)) = WF at *
      go_wp2_with fail
      go_meet
      exact ⟨bx, by', bw, rfl, rfl, GW WF bx by' bw BF.out CXF.out CYF.out CWF.out, HB0.out.trans (BF.out.mono HB0.out.size)⟩
    -- END1
  case rest =>
    obtain ⟨bx, by', bw, rfl, rfl, hG, hB⟩ := hcut
    have HGc := Lib.hid hG
    have HBc := Lib.hid hB
    have q9 := eql_seqS
    have HA := Lib.hid (show w.heap.size + 1 + 1 < wc.heap.size from World.block_lt_of_cell? wc _ hG.e6)
    clear hG hB HR HE0 HX0 HSK GW HB0
    go_wp2_with fail
    refine wp_loop_rounds 3 ?_
    rw [rounds_succ]
    go_wp2
    obtain ⟨W1, hW1⟩ : ∃ W, W = (wc.alloc (.cells #[.int .i64 0] 3)).alloc (.cells #[.int .i64 0] 3) := ⟨_, rfl⟩
    have hb1 : Below wc.heap.size wc W1 := by
      rw [hW1]; exact ((Below.refl _ wc).alloc (Nat.le_refl _) _).alloc (by simp) _
    have hrow : W1.cell? ⟨wc.heap.size, 0, none⟩ = some (.int .i64 0) ∧ W1.cell? ⟨wc.heap.size + 1, 0, none⟩ = some (.int .i64 0) ∧ wc.heap.size + 1 < W1.heap.size := by
      subst hW1
      have e3 := heap_alloc_new (wc.alloc (.cells #[.int .i64 0] 3)) (.cells #[.int .i64 0] 3)
      have e2 := (Below.heap_alloc (wc.alloc (.cells #[.int .i64 0] 3)) (.cells #[.int .i64 0] 3) wc.heap.size (by simp)).trans (heap_alloc_new wc _)
      simp only [World.size_alloc] at e3
      exact ⟨cell_of_row _ _ 0 _ _ _ e2, cell_of_row _ _ 0 _ _ _ e3, by simp⟩
    rw [← hW1]
    have HTW1 := Lib.hid (HGc.out.step hb1)
    have HROW := Lib.hid hrow
    have HBW1 := Lib.hid (HBc.out.trans (hb1.mono HBc.out.size))
    clear hW1 hb1 hrow q9
    refine (wpIn_wide (n := 5)).1 ?_
    refine range_none rfl (by omega) (gf := 77) (lb := #[.pointer (some ⟨bx, 0, none⟩), .pointer (some ⟨by', 0, none⟩)]) rfl trivial (enters_of Try.func77 (by kernel_rfl) rfl) (fun l V hV => ?_) ?_
    · have hh := HTW1.out.step hV
      exact callsIn_wide.2 (runs1_none hh.ex HZ.out _ a bx by' hh.cx hh.cy)
    · intro Da Wa hDa hBa hKa
      have HTA := Lib.hid (HTW1.out.step hBa)
      have HBA := Lib.hid (HBW1.out.trans (hBa.mono HBW1.out.size))
      have HKA := Lib.hid hKa
      have HDA := Lib.hid (show w.heap.size ≤ Da from Nat.le_trans HBW1.out.size hDa)
      have t16 : Wa.cell? ⟨wc.heap.size, 0, none⟩ = some (.int .i64 0) := cell_step HROW.out.1 hBa
      have t17 : Wa.cell? ⟨wc.heap.size + 1, 0, none⟩ = some (.int .i64 0) := cell_step HROW.out.2.1 hBa
      have t7 := HTA.out.cw
      clear hBa hKa hDa
      go_wp2
      rw [rounds_succ]
      go_wp2
      obtain ⟨W2, hW2⟩ : ∃ W, W = (Wa.alloc (.cells #[.int .i64 1] 3)).alloc (.cells #[.int .i64 0] 3) := ⟨_, rfl⟩
      have hb2 : Below Wa.heap.size Wa W2 := by
        rw [hW2]; exact ((Below.refl _ Wa).alloc (Nat.le_refl _) _).alloc (by simp) _
      have hrow2 : W2.cell? ⟨Wa.heap.size, 0, none⟩ = some (.int .i64 1) ∧ W2.cell? ⟨Wa.heap.size + 1, 0, none⟩ = some (.int .i64 0) ∧ Wa.heap.size + 1 < W2.heap.size := by
        subst hW2
        have e3 := heap_alloc_new (Wa.alloc (.cells #[.int .i64 1] 3)) (.cells #[.int .i64 0] 3)
        have e2 := (Below.heap_alloc (Wa.alloc (.cells #[.int .i64 1] 3)) (.cells #[.int .i64 0] 3) Wa.heap.size (by simp)).trans (heap_alloc_new Wa _)
        simp only [World.size_alloc] at e3
        exact ⟨cell_of_row _ _ 0 _ _ _ e2, cell_of_row _ _ 0 _ _ _ e3, by simp⟩
      rw [← hW2]
      have HTW2 := Lib.hid (HTA.out.step hb2)
      have HROW2 := Lib.hid hrow2
      have HBW2 := Lib.hid (HBA.out.trans (hb2.mono HBA.out.size))
      have HKA2 := Lib.hid ((hb2.block Da (Array.getElem?_eq_some_iff.1 HKA.out).1).trans HKA.out)
      clear hW2 hb2 hrow2 t16 t17 t7
      refine (wpIn_wide (n := 5)).1 ?_
      refine range_none rfl (by omega) (gf := 77) (lb := #[.pointer (some ⟨bx, 0, none⟩), .pointer (some ⟨by', 0, none⟩)]) rfl trivial (enters_of Try.func77 (by kernel_rfl) rfl) (fun l V hV => ?_) ?_
      · have hh := HTW2.out.step hV
        exact callsIn_wide.2 (runs1_none hh.ex HZ.out _ a bx by' hh.cx hh.cy)
      · intro Db Wb hDb hBb hKb
        have HTB := Lib.hid (HTW2.out.step hBb)
        have HBB := Lib.hid (HBW2.out.trans (hBb.mono HBW2.out.size))
        have HKB := Lib.hid hKb
        have HKAB := Lib.hid ((hBb.block Da (Array.getElem?_eq_some_iff.1 HKA2.out).1).trans HKA2.out)
        have HDB := Lib.hid (show w.heap.size ≤ Db from Nat.le_trans HBW2.out.size hDb)
        have hDab : Da ≠ Db := fun e => by have := (Array.getElem?_eq_some_iff.1 HKA2.out).1; omega
        have t16 : Wb.cell? ⟨Wa.heap.size, 0, none⟩ = some (.int .i64 1) := cell_step HROW2.out.1 hBb
        have t17 : Wb.cell? ⟨Wa.heap.size + 1, 0, none⟩ = some (.int .i64 0) := cell_step HROW2.out.2.1 hBb
        have t7 := HTB.out.cw
        have t6 := HTB.out.e6
        have f6 := HTB.out.f6
        have l6 := World.block_lt_of_cell? Wb _ t6
        have t6a : ∀ o, (Wb.alloc o).cell? ⟨w.heap.size + 1 + 1, 0, none⟩ = some (.bool false) := fun o => (World.cell?_of_block (a := ⟨w.heap.size + 1 + 1, 0, none⟩) (Below.heap_alloc _ _ _ l6)).trans t6
        have f6a : ∀ o, (Wb.alloc o).frozen? ⟨w.heap.size + 1 + 1, 0, none⟩ = false := fun o => (World.frozen?_of_block (a := ⟨w.heap.size + 1 + 1, 0, none⟩) (Below.heap_alloc _ _ _ l6)).trans f6
        have nB : Db ≠ w.heap.size + 1 + 1 := fun e => by have h' := t6; rw [← e] at h'; simp [World.cell?, HKB.out] at h'
        have nA : Da ≠ w.heap.size + 1 + 1 := fun e => by have h' := t6; rw [← e] at h'; simp [World.cell?, HKAB.out] at h'
        have KB := Lib.hid (show ((Wb.setCell ⟨w.heap.size + 1 + 1, 0, none⟩ (.bool true)).alloc (.cells #[.int .i64 2] 3)).heap[Db]? = some (.deferred (some [])) from
          (Below.heap_alloc _ _ _ (by rw [show (Wb.setCell ⟨w.heap.size + 1 + 1, 0, none⟩ (.bool true)).heap.size = Wb.heap.size by simp]; exact (Array.getElem?_eq_some_iff.1 HKB.out).1)).trans ((heap_setCell_other _ _ _ _ nB).trans HKB.out))
        have KA := Lib.hid (show (((Wb.setCell ⟨w.heap.size + 1 + 1, 0, none⟩ (.bool true)).alloc (.cells #[.int .i64 2] 3)).putObj Db (.deferred none)).heap[Da]? = some (.deferred (some [])) from
          (World.putObj_heap_other hDab).trans ((Below.heap_alloc _ _ _ (by rw [show (Wb.setCell ⟨w.heap.size + 1 + 1, 0, none⟩ (.bool true)).heap.size = Wb.heap.size by simp]; exact (Array.getElem?_eq_some_iff.1 HKAB.out).1)).trans ((heap_setCell_other _ _ _ _ nA).trans HKAB.out)))
        have hres := Lib.hid (show ((((Wb.setCell ⟨w.heap.size + 1 + 1, 0, none⟩ (.bool true)).alloc (.cells #[.int .i64 2] 3)).putObj Db (.deferred none)).putObj Da (.deferred none)).cell? ⟨w.heap.size + 1 + 1, 0, none⟩ = some (.bool true) from
          (World.cell?_of_block (a := ⟨w.heap.size + 1 + 1, 0, none⟩) (World.putObj_heap_other (Ne.symm nA))).trans ((World.cell?_of_block (a := ⟨w.heap.size + 1 + 1, 0, none⟩) (World.putObj_heap_other (Ne.symm nB))).trans ((World.cell?_of_block (a := ⟨w.heap.size + 1 + 1, 0, none⟩) (Below.heap_alloc _ _ _ (by rw [show (Wb.setCell ⟨w.heap.size + 1 + 1, 0, none⟩ (.bool true)).heap.size = Wb.heap.size by simp]; exact l6))).trans (World.cell?_setCell_same' _ _ _ (by rw [t6]; rfl)))))
        have HFIN := Lib.hid (show Below w.heap.size w ((((Wb.setCell ⟨w.heap.size + 1 + 1, 0, none⟩ (.bool true)).alloc (.cells #[.int .i64 2] 3)).putObj Db (.deferred none)).putObj Da (.deferred none)) from
          (((HBB.out.setCell (by show w.heap.size ≤ w.heap.size + 1 + 1; omega) _).alloc (by simp; exact HBB.out.size) _).trans (below_putObj9 _ HDB.out)).trans (below_putObj9 _ HDA.out))
        clear hBb hKb hDb
        go_wp2
        rw [rounds_succ]
        go_wp2
        refine ⟨by simp, .inl ⟨_, _, rfl, run_takeDeferred KB.out, ?_⟩⟩
        refine ⟨by simp, .inl ⟨_, _, rfl, run_takeDeferred KA.out, ?_⟩⟩
        refine ⟨.bool true, ?_, rfl, HFIN.out⟩
        have hc2 := hres.out
        simp [results, Try.f46, go_sem, hc2]
end Go.Proofs.Ytgpdkfmneoggkaa
