/- goes, of a table that is not there. -/
import Derived.Test.YtgkfejnjjoaihaaDoorPgNj
namespace Go.Proofs.YtgkfejnjjoaihaaDoor
open Go.RowKit
attribute [local go_sem] Oper.semAt_some

theorem below_putObj9 {B D : Nat} {w : World} (o : Obj) (h : B ≤ D) : Below B w (w.putObj D o) := ⟨rfl, rfl, rfl, by simp, fun k hk => World.putObj_heap_other (by omega)⟩
theorem cell_step7 {w w' : World} {p : Addr} {v : Value} (h : w.cell? p = some v) (hb : Below w.heap.size w w') : w'.cell? p = some v := (hb.cell (World.block_lt_of_cell? w _ h)).trans h

/-- A range over a function that tells nothing. -/
theorem range_none {F : Fence} {n : Nat} {P : Program} {g : Operand} {ps : Array Tmp} {assign body : Code} {Q : Exit → Act → World → Prop} {a : Act} {w : World}
    (hro : F.round = none) (h1 : 1 ≤ n) {gf : Nat} {lb : Array Value} (hg : a.eval g = .func (.func gf) #[] lb) (hFg : F.fn gf) (eg : ∀ args w, (callFunc gf args).run P w = .ok (.enter gf args) w)
    (hcall : ∀ l V, Below w.heap.size w V → CallsIn F (n - 1) P gf (#[.func (.yield l) #[] #[]] ++ lb) V fun e W' => (∃ v, e = .returned v) ∧ Below V.heap.size V W')
    (hdone : ∀ (D : Nat) (W : World), w.heap.size ≤ D → Below w.heap.size w W → W.heap[D]? = some (.deferred (some [])) → Q .normal { a with defers := { target := .collected D, args := #[] } :: a.defers } W) :
    (Code.rangeFunc g ps assign body).wpIn F n P Q a w := by
  refine wpIn_rangeFunc fun fn hfn => ?_
  rw [hro]
  let R : LoopState → Option Code → Loop := fun st pe => { state := st, pending := pe, fn, tmps := a.tmps, params := ps, assign, body, defers := w.heap.size }
  have hR : R = fun st pe => { state := st, pending := pe, fn, tmps := a.tmps, params := ps, assign, body, defers := w.heap.size } := rfl
  clear_value R
  let V : World := (w.alloc (.deferred (some []))).alloc (.loop (R .ready none))
  have hL : V.heap[w.heap.size + 1]? = some (.loop (R .ready none)) := by
    have := World.alloc_heap_new (w.alloc (.deferred (some []))) (.loop (R .ready none)); rwa [World.size_alloc] at this
  have hD : V.heap[w.heap.size]? = some (.deferred (some [])) := (Below.heap_alloc _ _ _ (by simp)).trans (World.alloc_heap_new w _)
  have hV : Below w.heap.size w V := ((Below.refl _ w).alloc (Nat.le_refl _) _).alloc (by simp) _
  refine ⟨w.heap.size + 1, [{ target := .collected w.heap.size, args := #[] }], V, { target := .fn (.func gf) lb, args := #[.func (.yield (w.heap.size + 1)) #[] #[]] }, V, gf,
    #[.func (.yield (w.heap.size + 1)) #[] #[]] ++ lb, V, ?_, ?_, ?_, ?_, fun _ => h1, ?_⟩
  · show _ = Result.ok _ ((w.alloc (.deferred (some []))).alloc (.loop (R .ready none)))
    rw [hR]; exact run_enterLoop_outer _ _ _ _ _
  · simp only [resolve, hg]
    simp [go_sem]
  · intro f' hf'; simp [Target.leads] at hf'; subst hf'; exact hFg
  · simp [invoke, go_sem, eg]
  refine (hcall (w.heap.size + 1) V hV).mono ?_
  rintro e W2 ⟨⟨v, rfl⟩, hb⟩
  have hl := (hb.block _ (Array.getElem?_eq_some_iff.1 hL).1).trans hL
  have hd := (hb.block _ (Array.getElem?_eq_some_iff.1 hD).1).trans hD
  have hend := run_endLoop (P := P) hl (by rw [hR]; simp)
  rw [hR] at hend
  exact ⟨none, _, hend, hdone _ _ (Nat.le_refl _) ((hV.trans (hb.mono hV.size)).trans (below_putObj9 _ (by omega))) ((World.putObj_heap_other (by omega)).trans hd)⟩


theorem spacelit_nt {w : World} {q : Option Addr} (h : NoT w q) (F : Value) (s : Int) (bx by' : Nat) (h1 : w.cell? ⟨bx, 0, none⟩ = some (.pointer q)) (h2 : w.cell? ⟨by', 0, none⟩ = some (.int .i64 s)) :
    Calls Tryd.prog 61 #[F, .pointer (some ⟨bx, 0, none⟩), .pointer (some ⟨by', 0, none⟩)] w fun e w' => (∃ v, e = .returned v) ∧ Below w.heap.size w w' := by
  have HP := Lib.hid h
  clear h
  go_enter Tryd.func61, Tryd.ntmps61
  go_wp2_with (go_at_call 43; refine (there_nt HP.out).mono ?_; rintro e w' ⟨rfl, rfl⟩)
  (try simp only [Exit.inBlock, Exit.then]); refine bodyPost_ret (results_none rfl _ _ _) rfl ?_
  exact ⟨⟨_, rfl⟩, Below.refl _ _⟩
theorem space_cells (q : Option Addr) (s : Int) (w : World) : Calls Tryd.prog 54 #[.pointer q, .int .i64 s] w fun e w' => ∃ bx by' : Nat, e = .returned (.func (.func 61) #[] #[.pointer (some ⟨bx, 0, none⟩), .pointer (some ⟨by', 0, none⟩)]) ∧ w'.cell? ⟨bx, 0, none⟩ = some (.pointer q) ∧ w'.cell? ⟨by', 0, none⟩ = some (.int .i64 s) ∧ Below w.heap.size w w' := by
  refine (space_any q s).mono fun e w' hh => ?_
  obtain ⟨rfl, rfl⟩ := hh
  have r1 := (Below.heap_alloc (w.alloc (Obj.cells #[.pointer q] 23)) (Obj.cells #[.int .i64 s] 3) w.heap.size (by simp)).trans (heap_alloc_new w _)
  have r2 := heap_alloc_new (w.alloc (Obj.cells #[.pointer q] 23)) (Obj.cells #[.int .i64 s] 3)
  rw [World.size_alloc] at r2
  exact ⟨_, _, rfl, cell_of_row _ _ 0 _ _ _ r1, cell_of_row _ _ 0 _ _ _ r2, ((Below.refl _ w).alloc (Nat.le_refl _) _).alloc (by simp) _⟩
theorem eql_seqS7 (F G : Nat) (w : World) : (binOp .eql 104 (.func (.func 61) #[] #[.pointer (some ⟨F, 0, none⟩), .pointer (some ⟨G, 0, none⟩)]) .nilFunc).run Tryd.prog w = .ok (.bool false) w := by kernel_rfl
/-- What goes looks at. -/
structure Gw (W : World) (q : Option Addr) (s : Int) (h5 h6 bx by' bw : Nat) (lv : Int) : Prop where
  nt : NoT W q
  e5 : W.cell? ⟨h5, 0, none⟩ = some (.int .i64 lv)
  e6 : W.cell? ⟨h6, 0, none⟩ = some (.bool false)
  f6 : W.frozen? ⟨h6, 0, none⟩ = false
  cx : W.cell? ⟨bx, 0, none⟩ = some (.pointer q)
  cy : W.cell? ⟨by', 0, none⟩ = some (.int .i64 s)
  cw : W.cell? ⟨bw, 0, none⟩ = some (.slice none 0 0)
theorem Gw.step {W W' : World} {q : Option Addr} {s : Int} {h5 h6 bx by' bw : Nat} {lv : Int} (h : Gw W q s h5 h6 bx by' bw lv) (hb : Below W.heap.size W W') : Gw W' q s h5 h6 bx by' bw lv :=
  ⟨h.nt.below hb, cell_step7 h.e5 hb, cell_step7 h.e6 hb, (World.frozen?_of_block (a := ⟨h6, 0, none⟩) (hb.block _ (World.block_lt_of_cell? W _ h.e6))).trans h.f6, cell_step7 h.cx hb, cell_step7 h.cy hb, cell_step7 h.cw hb⟩
set_option maxHeartbeats 4000000 in
set_option maxRecDepth 100000 in
theorem goes_nt {w : World} {q : Option Addr} (h : NoT w q) (s lv : Int) :
    Calls Tryd.prog 27 #[.pointer q, .pointer none, .int .i64 s, .int .i64 lv] w fun e w' => e = .returned (.bool true) ∧ Below w.heap.size w w' := by
  have HX := Lib.hid h
  clear h
  refine (callsIn_wide (n := 5)).1 ?_
  refine callsIn_of_wp_marks Tryd.func27 rfl trivial ?_ rfl
  simp only [Tryd.ntmps27, List.size_toArray, List.length_cons, List.length_nil, Nat.reduceAdd, Nat.reduceSub, Array.replicate_succ, Array.replicate_zero, List.push_toArray, List.append_toArray, List.nil_append, List.cons_append]
  refine wpIn_wide.2 ?_
  go_upto_region 1 with fail
  obtain ⟨W0, hW0⟩ : ∃ W, W = (((w.alloc (Obj.cells #[.pointer none] 25)).alloc (Obj.cells #[.int .i64 s] 3)).alloc (Obj.cells #[.int .i64 lv] 3)).alloc (Obj.cells #[.bool false] 4) := ⟨_, rfl⟩
  try rw [← hW0]
  have hB0 : Below w.heap.size w W0 := by
    rw [hW0]
    exact ((((Below.refl _ w).alloc (Nat.le_refl _) _).alloc (by simp) _).alloc (by simp; omega) _).alloc (by simp; omega) _
  have hrows : W0.heap[w.heap.size]? = some (Obj.cells #[.pointer none] 25 (0, 0)) ∧ W0.heap[w.heap.size + 1]? = some (Obj.cells #[.int .i64 s] 3 (0, 0)) ∧ W0.heap[w.heap.size + 1 + 1]? = some (Obj.cells #[.int .i64 lv] 3 (0, 0)) ∧ W0.heap[w.heap.size + 1 + 1 + 1]? = some (Obj.cells #[.bool false] 4 (0, 0)) := by
    obtain ⟨V1, hV1⟩ : ∃ V1, V1 = w.alloc (Obj.cells #[.pointer none] 25) := ⟨_, rfl⟩
    obtain ⟨V2, hV2⟩ : ∃ V2, V2 = V1.alloc (Obj.cells #[.int .i64 s] 3) := ⟨_, rfl⟩
    obtain ⟨V3, hV3⟩ : ∃ V3, V3 = V2.alloc (Obj.cells #[.int .i64 lv] 3) := ⟨_, rfl⟩
    have s1 : V1.heap.size = w.heap.size + 1 := by rw [hV1]; simp
    have s2 : V2.heap.size = w.heap.size + 1 + 1 := by rw [hV2, World.size_alloc, s1]
    have s3 : V3.heap.size = w.heap.size + 1 + 1 + 1 := by rw [hV3, World.size_alloc, s2]
    have a1 : V1.heap[w.heap.size]? = some (Obj.cells #[.pointer none] 25 (0, 0)) := by rw [hV1]; exact heap_alloc_new w _
    have a2 : V2.heap[w.heap.size + 1]? = some (Obj.cells #[.int .i64 s] 3 (0, 0)) := by rw [hV2, ← s1]; exact heap_alloc_new V1 _
    have a3 : V3.heap[w.heap.size + 1 + 1]? = some (Obj.cells #[.int .i64 lv] 3 (0, 0)) := by rw [hV3, ← s2]; exact heap_alloc_new V2 _
    have a4 : W0.heap[w.heap.size + 1 + 1 + 1]? = some (Obj.cells #[.bool false] 4 (0, 0)) := by rw [hW0, ← hV1, ← hV2, ← hV3, ← s3]; exact heap_alloc_new V3 _
    have e2 : ∀ k, k < V1.heap.size → V2.heap[k]? = V1.heap[k]? := fun k hk => by rw [hV2]; exact Below.heap_alloc _ _ _ hk
    have e3 : ∀ k, k < V2.heap.size → V3.heap[k]? = V2.heap[k]? := fun k hk => by rw [hV3]; exact Below.heap_alloc _ _ _ hk
    have e4 : ∀ k, k < V3.heap.size → W0.heap[k]? = V3.heap[k]? := fun k hk => by rw [hW0, ← hV1, ← hV2, ← hV3]; exact Below.heap_alloc _ _ _ hk
    exact ⟨((e4 _ (by omega)).trans ((e3 _ (by omega)).trans (e2 _ (by omega)))).trans a1, ((e4 _ (by omega)).trans (e3 _ (by omega))).trans a2, (e4 _ (by omega)).trans a3, a4⟩
  have HB0 := Lib.hid hB0
  have HR := Lib.hid hrows
  have HX0 := Lib.hid (HX.out.below hB0)
  have HSK : ∀ W : World, Below W0.heap.size W0 W → W.cell? ⟨w.heap.size, 0, none⟩ = some (.pointer none) ∧ W.cell? ⟨w.heap.size + 1, 0, none⟩ = some (.int .i64 s) := fun W hb =>
    ⟨cell_step7 (cell_of_row _ _ 0 _ _ _ HR.out.1) hb, cell_step7 (cell_of_row _ _ 0 _ _ _ HR.out.2.1) hb⟩
  have GW : ∀ (W : World) (bx by' bw : Nat), Below W0.heap.size W0 W → W.cell? ⟨bx, 0, none⟩ = some (.pointer q) → W.cell? ⟨by', 0, none⟩ = some (.int .i64 s) → W.cell? ⟨bw, 0, none⟩ = some (.slice none 0 0) → Gw W q s (w.heap.size + 1 + 1) (w.heap.size + 1 + 1 + 1) bx by' bw lv := fun W bx by' bw hb h1 h2 h3 =>
    ⟨HX0.out.below hb, cell_step7 (cell_of_row _ _ 0 _ _ _ HR.out.2.2.1) hb, cell_step7 (cell_of_row _ _ 0 _ _ _ HR.out.2.2.2) hb, (World.frozen?_of_block (a := ⟨w.heap.size + 1 + 1 + 1, 0, none⟩) (hb.block _ (Array.getElem?_eq_some_iff.1 HR.out.2.2.2).1)).trans (frozen_of_row _ _ 0 _ _ HR.out.2.2.2), h1, h2, h3⟩
  clear hW0 hB0 hrows HX
  go_cut [9, 10] from 17 to 87 (fun f p W => ∃ bx by' bw : Nat, f = .func (.func 61) #[] #[.pointer (some ⟨bx, 0, none⟩), .pointer (some ⟨by', 0, none⟩)] ∧ p = .pointer (some ⟨bw, 0, none⟩) ∧ Gw W q s (w.heap.size + 1 + 1) (w.heap.size + 1 + 1 + 1) bx by' bw lv ∧ Below w.heap.size w W)
  case first =>
    -- REGION1
    have BD := Lib.hid ((Below.refl W0.heap.size W0).drew)
    refine wp_region_noPanic ?_
    refine wp_region_held_drew (S := fun W => W.cell? ⟨w.heap.size, 0, none⟩ = some (.pointer none) ∧ W.cell? ⟨w.heap.size + 1, 0, none⟩ = some (.int .i64 s)) (by kernel_rfl) ?_ (fun hHeld => ?_)
    · exact HSK _ (Below.refl _ W0).drew
    refine wpAnyH_take (i := 0) (v := ?_) rfl (by kernel_rfl) (by kernel_rfl) (by kernel_rfl) (fun _ _ _ h => h) (Or.inl ⟨by rfl, ?_⟩) (by assumption) ?_
    rotate_left
    · (intro w hSw; obtain ⟨hS1, hS2⟩ := hSw; (try simp only [List.getElem_toArray, List.getElem_cons_zero]); go_simp; try (with_reducible rfl))
    try simp only [Act.put, List.getElem_toArray, List.getElem_cons_zero, List.setIfInBounds_toArray, List.set_cons_zero, List.set_cons_succ]
    refine wpAnyH_take (i := 1) (v := ?_) rfl (by kernel_rfl) (by kernel_rfl) (by kernel_rfl) (fun _ _ _ h => h) (Or.inl ⟨by rfl, ?_⟩) (by assumption) ?_
    rotate_left
    · (intro w hSw; obtain ⟨hS1, hS2⟩ := hSw; (try simp only [List.getElem_toArray, List.getElem_cons_zero, List.getElem_cons_succ]); go_simp; try (with_reducible rfl))
    try simp only [Act.put, List.getElem_toArray, List.getElem_cons_zero, List.getElem_cons_succ, List.setIfInBounds_toArray, List.set_cons_zero, List.set_cons_succ]
    refine wpAnyH_take (i := 3) (v := ?_) rfl (by kernel_rfl) (by kernel_rfl) (by kernel_rfl) (fun _ _ _ h => h) (Or.inl ⟨by rfl, ?_⟩) (by assumption) ?_
    rotate_left
    · (intro w hSw; obtain ⟨hS1, hS2⟩ := hSw; (try simp only [List.getElem_toArray, List.getElem_cons_zero, List.getElem_cons_succ]); go_simp; try (with_reducible rfl))
    try simp only [Act.put, List.getElem_toArray, List.getElem_cons_zero, List.getElem_cons_succ, List.setIfInBounds_toArray, List.set_cons_zero, List.set_cons_succ]
    refine wpAnyH_take (i := 4) (v := ?_) rfl (by kernel_rfl) (by kernel_rfl) (by kernel_rfl) (fun _ _ _ h => h) (Or.inl ⟨by rfl, ?_⟩) (by assumption) ?_
    rotate_left
    · (intro w hSw; obtain ⟨hS1, hS2⟩ := hSw; (try simp only [List.getElem_toArray, List.getElem_cons_zero, List.getElem_cons_succ]); go_simp; try (with_reducible rfl))
    try simp only [Act.put, List.getElem_toArray, List.getElem_cons_zero, List.getElem_cons_succ, List.setIfInBounds_toArray, List.set_cons_zero, List.set_cons_succ]
    obtain ⟨WD, hWD⟩ : ∃ WD, W0.drew = WD := ⟨_, rfl⟩
    rw [hWD] at BD ⊢
    clear hWD
    refine wpAnyH_ready (rs := [2, 6]) (by kernel_rfl) (by simp) ?_
    refine (AllReadyH.cons rfl (fun K hK => ?_) (AllReadyH.cons rfl (fun K hK => ?_) AllReadyH.nil))
    · (try simp only [List.getElem_toArray, List.getElem_cons_zero, List.getElem_cons_succ]); go_simp
      go_at_call 54
      refine Calls.mono (space_cells q s _) ?_
      rintro e w1 ⟨bx, by', rfl, cx, cy, hbw1⟩
      have Bw1 := Lib.hid (BD.out.trans (hbw1.mono BD.out.size))
      clear hbw1
      try (go_wp2_with fail)
      refine hK.out _ _ (HSK _ Bw1.out) (fun hHeld => ?_)
      clear hK K
      try simp only [Act.put, List.getElem_toArray, List.getElem_cons_zero, List.getElem_cons_succ, List.setIfInBounds_toArray, List.set_cons_zero, List.set_cons_succ]
      refine wpAnyH_ready (rs := [5, 6]) (by kernel_rfl) (by simp) ?_
      refine (AllReadyH.cons rfl (fun K hK => ?_) (AllReadyH.cons rfl (fun K hK => ?_) AllReadyH.nil))
      · (try simp only [List.getElem_toArray, List.getElem_cons_zero, List.getElem_cons_succ]); go_simp
        go_at_call 56
        refine Calls.mono (q_pages_no s _) ?_
        rintro e w2 ⟨rfl, hbw2⟩
        have Bw2 := Lib.hid (Bw1.out.trans (hbw2.mono Bw1.out.size))
        have cxw2 := cell_step7 cx hbw2
        have cyw2 := cell_step7 cy hbw2
        clear hbw2
        try (go_wp2_with fail)
        refine hK.out _ _ (HSK _ Bw2.out) (fun hHeld => ?_)
        clear hK K
        try simp only [Act.put, List.getElem_toArray, List.getElem_cons_zero, List.getElem_cons_succ, List.setIfInBounds_toArray, List.set_cons_zero, List.set_cons_succ]
        refine wpAnyH_ready (rs := [6]) (by kernel_rfl) (by simp) ?_
        refine (AllReadyH.cons rfl (fun K hK => ?_) AllReadyH.nil)
        (try simp only [List.getElem_toArray, List.getElem_cons_zero, List.getElem_cons_succ]); go_simp
        have hbw3 : Below w2.heap.size w2 (w2.alloc (Obj.cells #[Value.slice none 0 0] 73)) := (Below.refl _ _).alloc (Nat.le_refl _) _
        have nww3 := heap_alloc_new w2 (Obj.cells #[Value.slice none 0 0] 73)
        have cww3 := cell_of_row _ _ 0 _ _ _ nww3
        have fww3 := frozen_of_row _ _ 0 _ _ nww3
        have Bw3 := Lib.hid (Bw2.out.trans (hbw3.mono Bw2.out.size))
        have cxw3 := cell_step7 cxw2 hbw3
        have cyw3 := cell_step7 cyw2 hbw3
        clear nww3 hbw3
        refine hK.out _ _ (HSK _ Bw3.out) (fun hHeld => ?_)
        clear hK K
        try simp only [Act.put, List.getElem_toArray, List.getElem_cons_zero, List.getElem_cons_succ, List.setIfInBounds_toArray, List.set_cons_zero, List.set_cons_succ]
        have hlbw := Bw2.out.size
        obtain ⟨bw, hbw⟩ : ∃ bw, w2.heap.size = bw := ⟨_, rfl⟩
        rw [hbw] at hlbw cww3 fww3 ⊢
        clear hbw
        generalize w2.alloc (Obj.cells #[Value.slice none 0 0] 73) = w3 at *
        have LBW := Lib.hid (show W0.heap.size ≤ bw from hlbw)
        clear hlbw
        refine wpAnyH_take (i := 7) (v := ?_) rfl (by kernel_rfl) (by kernel_rfl) (by kernel_rfl) (fun _ _ _ h => h) (Or.inl ⟨by rfl, ?_⟩) (by assumption) ?_
        rotate_left
        · (intro w hSw; obtain ⟨hS1, hS2⟩ := hSw; (try simp only [List.getElem_toArray, List.getElem_cons_zero, List.getElem_cons_succ]); go_simp; try (with_reducible rfl))
        try simp only [Act.put, List.getElem_toArray, List.getElem_cons_zero, List.getElem_cons_succ, List.setIfInBounds_toArray, List.set_cons_zero, List.set_cons_succ]
        refine wpAnyH_ready (rs := [8]) (by kernel_rfl) (by simp) ?_
        refine (AllReadyH.cons rfl (fun K hK => ?_) AllReadyH.nil)
        (try simp only [List.getElem_toArray, List.getElem_cons_zero, List.getElem_cons_succ]); go_simp
        have hbx : bx ≠ bw := fun e => by have h9 := cxw3; rw [e, cww3] at h9; cases h9
        have hby : by' ≠ bw := fun e => by have h9 := cyw3; rw [e, cww3] at h9; cases h9
        have BF := Lib.hid (show Below W0.heap.size W0 (w3.setCell ⟨bw, 0, none⟩ (.slice none 0 0)) from Bw3.out.setCell LBW.out _)
        have cxf : (w3.setCell ⟨bw, 0, none⟩ (.slice none 0 0)).cell? ⟨bx, 0, none⟩ = some (.pointer q) := (World.cell?_of_block (a := ⟨bx, 0, none⟩) (heap_setCell_other _ _ _ _ hbx)).trans cxw3
        have cyf : (w3.setCell ⟨bw, 0, none⟩ (.slice none 0 0)).cell? ⟨by', 0, none⟩ = some (.int .i64 s) := (World.cell?_of_block (a := ⟨by', 0, none⟩) (heap_setCell_other _ _ _ _ hby)).trans cyw3
        have cwf : (w3.setCell ⟨bw, 0, none⟩ (.slice none 0 0)).cell? ⟨bw, 0, none⟩ = some (.slice none 0 0) := World.cell?_setCell_same' _ _ _ (by rw [cww3]; rfl)
        refine hK.out _ _ (HSK _ BF.out) (fun hHeld => ?_)
        clear hK K
        try simp only [Act.put, List.getElem_toArray, List.getElem_cons_zero, List.getElem_cons_succ, List.setIfInBounds_toArray, List.set_cons_zero, List.set_cons_succ]
        refine wpAnyH_done (by kernel_rfl) ?_ _
        refine NoPanic.normal ?_
        have CXF := Lib.hid cxf
        have CYF := Lib.hid cyf
        have CWF := Lib.hid cwf
        clear cxf cyf cwf
        generalize (w3.setCell ⟨bw, 0, none⟩ (.slice none 0 0)) = WF at *
        go_wp2_with fail
        go_meet
        exact ⟨bx, by', bw, rfl, rfl, GW WF bx by' bw BF.out CXF.out CYF.out CWF.out, HB0.out.trans (BF.out.mono HB0.out.size)⟩
      · (try simp only [List.getElem_toArray, List.getElem_cons_zero, List.getElem_cons_succ]); go_simp
        have hbw2 : Below w1.heap.size w1 (w1.alloc (Obj.cells #[Value.slice none 0 0] 73)) := (Below.refl _ _).alloc (Nat.le_refl _) _
        have nww2 := heap_alloc_new w1 (Obj.cells #[Value.slice none 0 0] 73)
        have cww2 := cell_of_row _ _ 0 _ _ _ nww2
        have fww2 := frozen_of_row _ _ 0 _ _ nww2
        have Bw2 := Lib.hid (Bw1.out.trans (hbw2.mono Bw1.out.size))
        have cxw2 := cell_step7 cx hbw2
        have cyw2 := cell_step7 cy hbw2
        clear nww2 hbw2
        refine hK.out _ _ (HSK _ Bw2.out) (fun hHeld => ?_)
        clear hK K
        try simp only [Act.put, List.getElem_toArray, List.getElem_cons_zero, List.getElem_cons_succ, List.setIfInBounds_toArray, List.set_cons_zero, List.set_cons_succ]
        have hlbw := Bw1.out.size
        obtain ⟨bw, hbw⟩ : ∃ bw, w1.heap.size = bw := ⟨_, rfl⟩
        rw [hbw] at hlbw cww2 fww2 ⊢
        clear hbw
        generalize w1.alloc (Obj.cells #[Value.slice none 0 0] 73) = w2 at *
        have LBW := Lib.hid (show W0.heap.size ≤ bw from hlbw)
        clear hlbw
        refine wpAnyH_ready (rs := [5]) (by kernel_rfl) (by simp) ?_
        refine (AllReadyH.cons rfl (fun K hK => ?_) AllReadyH.nil)
        (try simp only [List.getElem_toArray, List.getElem_cons_zero, List.getElem_cons_succ]); go_simp
        go_at_call 56
        refine Calls.mono (q_pages_no s _) ?_
        rintro e w3 ⟨rfl, hbw3⟩
        have Bw3 := Lib.hid (Bw2.out.trans (hbw3.mono Bw2.out.size))
        have cww3 := cell_step7 cww2 hbw3
        have fww3 : w3.frozen? ⟨bw, 0, none⟩ = false := (World.frozen?_of_block (a := ⟨bw, 0, none⟩) (hbw3.block _ (World.block_lt_of_cell? _ _ cww2))).trans fww2
        have cxw3 := cell_step7 cxw2 hbw3
        have cyw3 := cell_step7 cyw2 hbw3
        clear hbw3
        try (go_wp2_with fail)
        refine hK.out _ _ (HSK _ Bw3.out) (fun hHeld => ?_)
        clear hK K
        try simp only [Act.put, List.getElem_toArray, List.getElem_cons_zero, List.getElem_cons_succ, List.setIfInBounds_toArray, List.set_cons_zero, List.set_cons_succ]
        refine wpAnyH_take (i := 7) (v := ?_) rfl (by kernel_rfl) (by kernel_rfl) (by kernel_rfl) (fun _ _ _ h => h) (Or.inl ⟨by rfl, ?_⟩) (by assumption) ?_
        rotate_left
        · (intro w hSw; obtain ⟨hS1, hS2⟩ := hSw; (try simp only [List.getElem_toArray, List.getElem_cons_zero, List.getElem_cons_succ]); go_simp; try (with_reducible rfl))
        try simp only [Act.put, List.getElem_toArray, List.getElem_cons_zero, List.getElem_cons_succ, List.setIfInBounds_toArray, List.set_cons_zero, List.set_cons_succ]
        refine wpAnyH_ready (rs := [8]) (by kernel_rfl) (by simp) ?_
        refine (AllReadyH.cons rfl (fun K hK => ?_) AllReadyH.nil)
        (try simp only [List.getElem_toArray, List.getElem_cons_zero, List.getElem_cons_succ]); go_simp
        have hbx : bx ≠ bw := fun e => by have h9 := cxw3; rw [e, cww3] at h9; cases h9
        have hby : by' ≠ bw := fun e => by have h9 := cyw3; rw [e, cww3] at h9; cases h9
        have BF := Lib.hid (show Below W0.heap.size W0 (w3.setCell ⟨bw, 0, none⟩ (.slice none 0 0)) from Bw3.out.setCell LBW.out _)
        have cxf : (w3.setCell ⟨bw, 0, none⟩ (.slice none 0 0)).cell? ⟨bx, 0, none⟩ = some (.pointer q) := (World.cell?_of_block (a := ⟨bx, 0, none⟩) (heap_setCell_other _ _ _ _ hbx)).trans cxw3
        have cyf : (w3.setCell ⟨bw, 0, none⟩ (.slice none 0 0)).cell? ⟨by', 0, none⟩ = some (.int .i64 s) := (World.cell?_of_block (a := ⟨by', 0, none⟩) (heap_setCell_other _ _ _ _ hby)).trans cyw3
        have cwf : (w3.setCell ⟨bw, 0, none⟩ (.slice none 0 0)).cell? ⟨bw, 0, none⟩ = some (.slice none 0 0) := World.cell?_setCell_same' _ _ _ (by rw [cww3]; rfl)
        refine hK.out _ _ (HSK _ BF.out) (fun hHeld => ?_)
        clear hK K
        try simp only [Act.put, List.getElem_toArray, List.getElem_cons_zero, List.getElem_cons_succ, List.setIfInBounds_toArray, List.set_cons_zero, List.set_cons_succ]
        refine wpAnyH_done (by kernel_rfl) ?_ _
        refine NoPanic.normal ?_
        have CXF := Lib.hid cxf
        have CYF := Lib.hid cyf
        have CWF := Lib.hid cwf
        clear cxf cyf cwf
        generalize (w3.setCell ⟨bw, 0, none⟩ (.slice none 0 0)) = WF at *
        go_wp2_with fail
        go_meet
        exact ⟨bx, by', bw, rfl, rfl, GW WF bx by' bw BF.out CXF.out CYF.out CWF.out, HB0.out.trans (BF.out.mono HB0.out.size)⟩
    · (try simp only [List.getElem_toArray, List.getElem_cons_zero, List.getElem_cons_succ]); go_simp
      have hbw1 : Below WD.heap.size WD (WD.alloc (Obj.cells #[Value.slice none 0 0] 73)) := (Below.refl _ _).alloc (Nat.le_refl _) _
      have nww1 := heap_alloc_new WD (Obj.cells #[Value.slice none 0 0] 73)
      have cww1 := cell_of_row _ _ 0 _ _ _ nww1
      have fww1 := frozen_of_row _ _ 0 _ _ nww1
      have Bw1 := Lib.hid (BD.out.trans (hbw1.mono BD.out.size))
      clear nww1 hbw1
      refine hK.out _ _ (HSK _ Bw1.out) (fun hHeld => ?_)
      clear hK K
      try simp only [Act.put, List.getElem_toArray, List.getElem_cons_zero, List.getElem_cons_succ, List.setIfInBounds_toArray, List.set_cons_zero, List.set_cons_succ]
      have hlbw := BD.out.size
      obtain ⟨bw, hbw⟩ : ∃ bw, WD.heap.size = bw := ⟨_, rfl⟩
      rw [hbw] at hlbw cww1 fww1 ⊢
      clear hbw
      generalize WD.alloc (Obj.cells #[Value.slice none 0 0] 73) = w1 at *
      have LBW := Lib.hid (show W0.heap.size ≤ bw from hlbw)
      clear hlbw
      refine wpAnyH_ready (rs := [2]) (by kernel_rfl) (by simp) ?_
      refine (AllReadyH.cons rfl (fun K hK => ?_) AllReadyH.nil)
      (try simp only [List.getElem_toArray, List.getElem_cons_zero, List.getElem_cons_succ]); go_simp
      go_at_call 54
      refine Calls.mono (space_cells q s _) ?_
      rintro e w2 ⟨bx, by', rfl, cx, cy, hbw2⟩
      have Bw2 := Lib.hid (Bw1.out.trans (hbw2.mono Bw1.out.size))
      have cww2 := cell_step7 cww1 hbw2
      have fww2 : w2.frozen? ⟨bw, 0, none⟩ = false := (World.frozen?_of_block (a := ⟨bw, 0, none⟩) (hbw2.block _ (World.block_lt_of_cell? _ _ cww1))).trans fww1
      clear hbw2
      try (go_wp2_with fail)
      refine hK.out _ _ (HSK _ Bw2.out) (fun hHeld => ?_)
      clear hK K
      try simp only [Act.put, List.getElem_toArray, List.getElem_cons_zero, List.getElem_cons_succ, List.setIfInBounds_toArray, List.set_cons_zero, List.set_cons_succ]
      refine wpAnyH_ready (rs := [5]) (by kernel_rfl) (by simp) ?_
      refine (AllReadyH.cons rfl (fun K hK => ?_) AllReadyH.nil)
      (try simp only [List.getElem_toArray, List.getElem_cons_zero, List.getElem_cons_succ]); go_simp
      go_at_call 56
      refine Calls.mono (q_pages_no s _) ?_
      rintro e w3 ⟨rfl, hbw3⟩
      have Bw3 := Lib.hid (Bw2.out.trans (hbw3.mono Bw2.out.size))
      have cww3 := cell_step7 cww2 hbw3
      have fww3 : w3.frozen? ⟨bw, 0, none⟩ = false := (World.frozen?_of_block (a := ⟨bw, 0, none⟩) (hbw3.block _ (World.block_lt_of_cell? _ _ cww2))).trans fww2
      have cxw3 := cell_step7 cx hbw3
      have cyw3 := cell_step7 cy hbw3
      clear hbw3
      try (go_wp2_with fail)
      refine hK.out _ _ (HSK _ Bw3.out) (fun hHeld => ?_)
      clear hK K
      try simp only [Act.put, List.getElem_toArray, List.getElem_cons_zero, List.getElem_cons_succ, List.setIfInBounds_toArray, List.set_cons_zero, List.set_cons_succ]
      refine wpAnyH_take (i := 7) (v := ?_) rfl (by kernel_rfl) (by kernel_rfl) (by kernel_rfl) (fun _ _ _ h => h) (Or.inl ⟨by rfl, ?_⟩) (by assumption) ?_
      rotate_left
      · (intro w hSw; obtain ⟨hS1, hS2⟩ := hSw; (try simp only [List.getElem_toArray, List.getElem_cons_zero, List.getElem_cons_succ]); go_simp; try (with_reducible rfl))
      try simp only [Act.put, List.getElem_toArray, List.getElem_cons_zero, List.getElem_cons_succ, List.setIfInBounds_toArray, List.set_cons_zero, List.set_cons_succ]
      refine wpAnyH_ready (rs := [8]) (by kernel_rfl) (by simp) ?_
      refine (AllReadyH.cons rfl (fun K hK => ?_) AllReadyH.nil)
      (try simp only [List.getElem_toArray, List.getElem_cons_zero, List.getElem_cons_succ]); go_simp
      have hbx : bx ≠ bw := fun e => by have h9 := cxw3; rw [e, cww3] at h9; cases h9
      have hby : by' ≠ bw := fun e => by have h9 := cyw3; rw [e, cww3] at h9; cases h9
      have BF := Lib.hid (show Below W0.heap.size W0 (w3.setCell ⟨bw, 0, none⟩ (.slice none 0 0)) from Bw3.out.setCell LBW.out _)
      have cxf : (w3.setCell ⟨bw, 0, none⟩ (.slice none 0 0)).cell? ⟨bx, 0, none⟩ = some (.pointer q) := (World.cell?_of_block (a := ⟨bx, 0, none⟩) (heap_setCell_other _ _ _ _ hbx)).trans cxw3
      have cyf : (w3.setCell ⟨bw, 0, none⟩ (.slice none 0 0)).cell? ⟨by', 0, none⟩ = some (.int .i64 s) := (World.cell?_of_block (a := ⟨by', 0, none⟩) (heap_setCell_other _ _ _ _ hby)).trans cyw3
      have cwf : (w3.setCell ⟨bw, 0, none⟩ (.slice none 0 0)).cell? ⟨bw, 0, none⟩ = some (.slice none 0 0) := World.cell?_setCell_same' _ _ _ (by rw [cww3]; rfl)
      refine hK.out _ _ (HSK _ BF.out) (fun hHeld => ?_)
      clear hK K
      try simp only [Act.put, List.getElem_toArray, List.getElem_cons_zero, List.getElem_cons_succ, List.setIfInBounds_toArray, List.set_cons_zero, List.set_cons_succ]
      refine wpAnyH_done (by kernel_rfl) ?_ _
      refine NoPanic.normal ?_
      have CXF := Lib.hid cxf
      have CYF := Lib.hid cyf
      have CWF := Lib.hid cwf
      clear cxf cyf cwf
      generalize (w3.setCell ⟨bw, 0, none⟩ (.slice none 0 0)) = WF at *
      go_wp2_with fail
      go_meet
      exact ⟨bx, by', bw, rfl, rfl, GW WF bx by' bw BF.out CXF.out CYF.out CWF.out, HB0.out.trans (BF.out.mono HB0.out.size)⟩
    -- END1
  case rest =>
    obtain ⟨bx, by', bw, rfl, rfl, hG, hB⟩ := hcut
    have HGc := Lib.hid hG
    have HBc := Lib.hid hB
    have q9 := eql_seqS7
    have HA := Lib.hid (show w.heap.size + 1 + 1 + 1 < wc.heap.size from World.block_lt_of_cell? wc _ hG.e6)
    clear hG hB HR HX0 HSK GW HB0
    go_wp2_with fail
    refine wp_loop_rounds 3 ?_
    rw [rounds_succ]
    go_wp2
    obtain ⟨W1, hW1⟩ : ∃ W, W = (wc.alloc (.cells #[.int .i64 0] 3)).alloc (.cells #[.int .i64 0] 3) := ⟨_, rfl⟩
    have hb1 : Below wc.heap.size wc W1 := by
      rw [hW1]; exact ((Below.refl _ wc).alloc (Nat.le_refl _) _).alloc (by simp) _
    have hrow : W1.cell? ⟨wc.heap.size, 0, none⟩ = some (.int .i64 0) ∧ W1.cell? ⟨wc.heap.size + 1, 0, none⟩ = some (.int .i64 0) ∧ wc.heap.size + 1 < W1.heap.size := by
      subst hW1
      have e3 := heap_alloc_new (wc.alloc (.cells #[.int .i64 0] 3)) (.cells #[.int .i64 0] 3)
      have e2 := (Below.heap_alloc (wc.alloc (.cells #[.int .i64 0] 3)) (.cells #[.int .i64 0] 3) wc.heap.size (by simp)).trans (heap_alloc_new wc _)
      simp only [World.size_alloc] at e3
      exact ⟨cell_of_row _ _ 0 _ _ _ e2, cell_of_row _ _ 0 _ _ _ e3, by simp⟩
    rw [← hW1]
    have HTW1 := Lib.hid (HGc.out.step hb1)
    have HROW := Lib.hid hrow
    have HBW1 := Lib.hid (HBc.out.trans (hb1.mono HBc.out.size))
    clear hW1 hb1 hrow q9
    refine (wpIn_wide (n := 5)).1 ?_
    refine range_none rfl (by omega) (gf := 61) (lb := #[.pointer (some ⟨bx, 0, none⟩), .pointer (some ⟨by', 0, none⟩)]) rfl trivial (enters_of Tryd.func61 (by kernel_rfl) rfl) (fun l V hV => ?_) ?_
    · have hh := HTW1.out.step hV
      exact callsIn_wide.2 (spacelit_nt hh.nt _ s bx by' hh.cx hh.cy)
    · intro Da Wa hDa hBa hKa
      have HTA := Lib.hid (HTW1.out.step hBa)
      have HBA := Lib.hid (HBW1.out.trans (hBa.mono HBW1.out.size))
      have HKA := Lib.hid hKa
      have HDA := Lib.hid (show w.heap.size ≤ Da from Nat.le_trans HBW1.out.size hDa)
      have t16 : Wa.cell? ⟨wc.heap.size, 0, none⟩ = some (.int .i64 0) := cell_step7 HROW.out.1 hBa
      have t17 : Wa.cell? ⟨wc.heap.size + 1, 0, none⟩ = some (.int .i64 0) := cell_step7 HROW.out.2.1 hBa
      have t7 := HTA.out.cw
      clear hBa hKa hDa
      go_wp2
      rw [rounds_succ]
      go_wp2
      obtain ⟨W2, hW2⟩ : ∃ W, W = (Wa.alloc (.cells #[.int .i64 1] 3)).alloc (.cells #[.int .i64 0] 3) := ⟨_, rfl⟩
      have hb2 : Below Wa.heap.size Wa W2 := by
        rw [hW2]; exact ((Below.refl _ Wa).alloc (Nat.le_refl _) _).alloc (by simp) _
      have hrow2 : W2.cell? ⟨Wa.heap.size, 0, none⟩ = some (.int .i64 1) ∧ W2.cell? ⟨Wa.heap.size + 1, 0, none⟩ = some (.int .i64 0) ∧ Wa.heap.size + 1 < W2.heap.size := by
        subst hW2
        have e3 := heap_alloc_new (Wa.alloc (.cells #[.int .i64 1] 3)) (.cells #[.int .i64 0] 3)
        have e2 := (Below.heap_alloc (Wa.alloc (.cells #[.int .i64 1] 3)) (.cells #[.int .i64 0] 3) Wa.heap.size (by simp)).trans (heap_alloc_new Wa _)
        simp only [World.size_alloc] at e3
        exact ⟨cell_of_row _ _ 0 _ _ _ e2, cell_of_row _ _ 0 _ _ _ e3, by simp⟩
      rw [← hW2]
      have HTW2 := Lib.hid (HTA.out.step hb2)
      have HROW2 := Lib.hid hrow2
      have HBW2 := Lib.hid (HBA.out.trans (hb2.mono HBA.out.size))
      have HKA2 := Lib.hid ((hb2.block Da (Array.getElem?_eq_some_iff.1 HKA.out).1).trans HKA.out)
      clear hW2 hb2 hrow2 t16 t17 t7
      refine (wpIn_wide (n := 5)).1 ?_
      refine range_none rfl (by omega) (gf := 61) (lb := #[.pointer (some ⟨bx, 0, none⟩), .pointer (some ⟨by', 0, none⟩)]) rfl trivial (enters_of Tryd.func61 (by kernel_rfl) rfl) (fun l V hV => ?_) ?_
      · have hh := HTW2.out.step hV
        exact callsIn_wide.2 (spacelit_nt hh.nt _ s bx by' hh.cx hh.cy)
      · intro Db Wb hDb hBb hKb
        have HTB := Lib.hid (HTW2.out.step hBb)
        have HBB := Lib.hid (HBW2.out.trans (hBb.mono HBW2.out.size))
        have HKB := Lib.hid hKb
        have HKAB := Lib.hid ((hBb.block Da (Array.getElem?_eq_some_iff.1 HKA2.out).1).trans HKA2.out)
        have HDB := Lib.hid (show w.heap.size ≤ Db from Nat.le_trans HBW2.out.size hDb)
        have hDab : Da ≠ Db := fun e => by have := (Array.getElem?_eq_some_iff.1 HKA2.out).1; omega
        have t16 : Wb.cell? ⟨Wa.heap.size, 0, none⟩ = some (.int .i64 1) := cell_step7 HROW2.out.1 hBb
        have t17 : Wb.cell? ⟨Wa.heap.size + 1, 0, none⟩ = some (.int .i64 0) := cell_step7 HROW2.out.2.1 hBb
        have t7 := HTB.out.cw
        have t6 := HTB.out.e6
        have f6 := HTB.out.f6
        have l6 := World.block_lt_of_cell? Wb _ t6
        have t6a : ∀ o, (Wb.alloc o).cell? ⟨w.heap.size + 1 + 1 + 1, 0, none⟩ = some (.bool false) := fun o => (World.cell?_of_block (a := ⟨w.heap.size + 1 + 1 + 1, 0, none⟩) (Below.heap_alloc _ _ _ l6)).trans t6
        have f6a : ∀ o, (Wb.alloc o).frozen? ⟨w.heap.size + 1 + 1 + 1, 0, none⟩ = false := fun o => (World.frozen?_of_block (a := ⟨w.heap.size + 1 + 1 + 1, 0, none⟩) (Below.heap_alloc _ _ _ l6)).trans f6
        have nB : Db ≠ w.heap.size + 1 + 1 + 1 := fun e => by have h' := t6; rw [← e] at h'; simp [World.cell?, HKB.out] at h'
        have nA : Da ≠ w.heap.size + 1 + 1 + 1 := fun e => by have h' := t6; rw [← e] at h'; simp [World.cell?, HKAB.out] at h'
        have KB := Lib.hid (show ((Wb.setCell ⟨w.heap.size + 1 + 1 + 1, 0, none⟩ (.bool true)).alloc (.cells #[.int .i64 2] 3)).heap[Db]? = some (.deferred (some [])) from
          (Below.heap_alloc _ _ _ (by rw [show (Wb.setCell ⟨w.heap.size + 1 + 1 + 1, 0, none⟩ (.bool true)).heap.size = Wb.heap.size by simp]; exact (Array.getElem?_eq_some_iff.1 HKB.out).1)).trans ((heap_setCell_other _ _ _ _ nB).trans HKB.out))
        have KA := Lib.hid (show (((Wb.setCell ⟨w.heap.size + 1 + 1 + 1, 0, none⟩ (.bool true)).alloc (.cells #[.int .i64 2] 3)).putObj Db (.deferred none)).heap[Da]? = some (.deferred (some [])) from
          (World.putObj_heap_other hDab).trans ((Below.heap_alloc _ _ _ (by rw [show (Wb.setCell ⟨w.heap.size + 1 + 1 + 1, 0, none⟩ (.bool true)).heap.size = Wb.heap.size by simp]; exact (Array.getElem?_eq_some_iff.1 HKAB.out).1)).trans ((heap_setCell_other _ _ _ _ nA).trans HKAB.out)))
        have hres := Lib.hid (show ((((Wb.setCell ⟨w.heap.size + 1 + 1 + 1, 0, none⟩ (.bool true)).alloc (.cells #[.int .i64 2] 3)).putObj Db (.deferred none)).putObj Da (.deferred none)).cell? ⟨w.heap.size + 1 + 1 + 1, 0, none⟩ = some (.bool true) from
          (World.cell?_of_block (a := ⟨w.heap.size + 1 + 1 + 1, 0, none⟩) (World.putObj_heap_other (Ne.symm nA))).trans ((World.cell?_of_block (a := ⟨w.heap.size + 1 + 1 + 1, 0, none⟩) (World.putObj_heap_other (Ne.symm nB))).trans ((World.cell?_of_block (a := ⟨w.heap.size + 1 + 1 + 1, 0, none⟩) (Below.heap_alloc _ _ _ (by rw [show (Wb.setCell ⟨w.heap.size + 1 + 1 + 1, 0, none⟩ (.bool true)).heap.size = Wb.heap.size by simp]; exact l6))).trans (World.cell?_setCell_same' _ _ _ (by rw [t6]; rfl)))))
        have HFIN := Lib.hid (show Below w.heap.size w ((((Wb.setCell ⟨w.heap.size + 1 + 1 + 1, 0, none⟩ (.bool true)).alloc (.cells #[.int .i64 2] 3)).putObj Db (.deferred none)).putObj Da (.deferred none)) from
          (((HBB.out.setCell (by show w.heap.size ≤ w.heap.size + 1 + 1 + 1; omega) _).alloc (by simp; exact HBB.out.size) _).trans (below_putObj9 _ HDB.out)).trans (below_putObj9 _ HDA.out))
        clear hBb hKb hDb
        go_wp2
        rw [rounds_succ]
        go_wp2
        refine ⟨by simp, .inl ⟨_, _, rfl, run_takeDeferred KB.out, ?_⟩⟩
        refine ⟨by simp, .inl ⟨_, _, rfl, run_takeDeferred KA.out, ?_⟩⟩
        refine ⟨.bool true, ?_, rfl, HFIN.out⟩
        have hc2 := hres.out
        simp [results, Tryd.f27, go_sem, hc2]
end Go.Proofs.YtgkfejnjjoaihaaDoor
