/- A range over a function that tells nothing; Runs of none; nothing: of extents that are none. -/
import Derived.Test.YtgpdkfmneoggkaaExK
import Derived.Test.YtgpdkfmneoggkaaFrmRange
namespace Go.Proofs.Ytgpdkfmneoggkaa
open Go.RowKit
open Go.Maps (Keyed)
attribute [local go_sem] Oper.semAt_some

theorem below_putObj9 {B D : Nat} {w : World} (o : Obj) (h : B ≤ D) : Below B w (w.putObj D o) := ⟨rfl, rfl, rfl, by simp, fun k hk => World.putObj_heap_other (by omega)⟩
/-- A range over a function that tells nothing. -/
theorem range_none {F : Fence} {n : Nat} {P : Program} {g : Operand} {ps : Array Tmp} {assign body : Code} {Q : Exit → Act → World → Prop} {a : Act} {w : World}
    (hro : F.round = none) (h1 : 1 ≤ n) {gf : Nat} {lb : Array Value} (hg : a.eval g = .func (.func gf) #[] lb) (hFg : F.fn gf) (eg : ∀ args w, (callFunc gf args).run P w = .ok (.enter gf args) w)
    (hcall : ∀ l V, Below w.heap.size w V → CallsIn F (n - 1) P gf (#[.func (.yield l) #[] #[]] ++ lb) V fun e W' => (∃ v, e = .returned v) ∧ Below V.heap.size V W')
    (hdone : ∀ (D : Nat) (W : World), w.heap.size ≤ D → Below w.heap.size w W → W.heap[D]? = some (.deferred (some [])) → Q .normal { a with defers := { target := .collected D, args := #[] } :: a.defers } W) :
    (Code.rangeFunc g ps assign body).wpIn F n P Q a w := by
  refine wpIn_rangeFunc fun fn hfn => ?_
  rw [hro]
  let R : LoopState → Option Code → Loop := fun st pe => { state := st, pending := pe, fn, tmps := a.tmps, params := ps, assign, body, defers := w.heap.size }
  have hR : R = fun st pe => { state := st, pending := pe, fn, tmps := a.tmps, params := ps, assign, body, defers := w.heap.size } := rfl
  clear_value R
  let V : World := (w.alloc (.deferred (some []))).alloc (.loop (R .ready none))
  have hL : V.heap[w.heap.size + 1]? = some (.loop (R .ready none)) := by
    have := World.alloc_heap_new (w.alloc (.deferred (some []))) (.loop (R .ready none)); rwa [World.size_alloc] at this
  have hD : V.heap[w.heap.size]? = some (.deferred (some [])) := (Below.heap_alloc _ _ _ (by simp)).trans (World.alloc_heap_new w _)
  have hV : Below w.heap.size w V := ((Below.refl _ w).alloc (Nat.le_refl _) _).alloc (by simp) _
  refine ⟨w.heap.size + 1, [{ target := .collected w.heap.size, args := #[] }], V, { target := .fn (.func gf) lb, args := #[.func (.yield (w.heap.size + 1)) #[] #[]] }, V, gf,
    #[.func (.yield (w.heap.size + 1)) #[] #[]] ++ lb, V, ?_, ?_, ?_, ?_, fun _ => h1, ?_⟩
  · show _ = Result.ok _ ((w.alloc (.deferred (some []))).alloc (.loop (R .ready none)))
    rw [hR]; exact run_enterLoop_outer _ _ _ _ _
  · simp only [resolve, hg]
    simp [go_sem]
  · intro f' hf'; simp [Target.leads] at hf'; subst hf'; exact hFg
  · simp [invoke, go_sem, eg]
  refine (hcall (w.heap.size + 1) V hV).mono ?_
  rintro e W2 ⟨⟨v, rfl⟩, hb⟩
  have hl := (hb.block _ (Array.getElem?_eq_some_iff.1 hL).1).trans hL
  have hd := (hb.block _ (Array.getElem?_eq_some_iff.1 hD).1).trans hD
  have hend := run_endLoop (P := P) hl (by rw [hR]; simp)
  rw [hR] at hend
  exact ⟨none, _, hend, hdone _ _ (Nat.le_refl _) ((hV.trans (hb.mono hV.size)).trans (below_putObj9 _ (by omega))) ((World.putObj_heap_other (by omega)).trans hd)⟩


theorem NoEx.below {w w' : World} {v : Value} (h : NoEx w v) (hb : Below w.heap.size w w') : NoEx w' v := by
  rcases h with h | ⟨d, h, hc⟩
  · exact .inl h
  · exact .inr ⟨d, h, (hb.cell (p := ⟨d, 0, none⟩) (World.block_lt_of_cell? w _ hc)).trans hc⟩
theorem NoEx.one {w : World} {v : Value} (h : NoEx w v) : v.oneCell' = true := by
  rcases h with rfl | ⟨d, rfl, -⟩ <;> rfl
theorem xruns_any (v : Value) (a : Int) (w : World) (h1 : v.oneCell' = true) : Calls Try.prog 64 #[v, .int .i64 a] w fun e w' => e = .returned (.func (.func 77) #[] #[.pointer (some ⟨w.heap.size, 0, none⟩), .pointer (some ⟨w.heap.size + 1, 0, none⟩)]) ∧ w' = (w.alloc (.cells #[v] 26)).alloc (.cells #[.int .i64 a] 3) := by
  go_enter Try.func64, Try.ntmps64
  go_wp2
  go_ret
  exact ⟨rfl, rfl⟩
theorem runs1_no {w : World} {v : Value} (h : NoEx w v) (F : Value) (a : Int) (bx by' : Nat) (h1 : w.cell? ⟨bx, 0, none⟩ = some v) (h2 : w.cell? ⟨by', 0, none⟩ = some (.int .i64 a)) :
    Calls Try.prog 77 #[F, .pointer (some ⟨bx, 0, none⟩), .pointer (some ⟨by', 0, none⟩)] w fun e w' => (∃ v, e = .returned v) ∧ Below w.heap.size w w' := by
  go_enter Try.func77, Try.ntmps77
  go_wp2_with (go_at_call 51; refine (of_no h _).mono ?_; rintro e w' ⟨rfl, rfl⟩)
  (try simp only [Exit.inBlock, Exit.then]); refine bodyPost_ret (results_none rfl _ _ _) rfl ?_
  exact ⟨⟨_, rfl⟩, Below.refl _ _⟩
theorem eql_seqS (F G : Nat) (w : World) : (binOp .eql 116 (.func (.func 77) #[] #[.pointer (some ⟨F, 0, none⟩), .pointer (some ⟨G, 0, none⟩)]) .nilFunc).run Try.prog w = .ok (.bool false) w := by kernel_rfl
set_option maxRecDepth 100000 in
set_option maxHeartbeats 8000000 in
theorem xnothing_any {w : World} {v : Value} (h : NoEx w v) : Calls Try.prog 24 #[v] w fun e w' => e = .returned (.bool true) ∧ Below w.heap.size w w' := by
  have HP := Lib.hid h
  have H1 := Lib.hid h.one
  have HA := Lib.hid (h.below ((Below.refl _ w).alloc (Nat.le_refl _) (.cells #[.bool false] 4)))
  have q9 := eql_seqS
  refine (callsIn_wide (n := 5)).1 ?_
  clear h
  refine callsIn_of_wp_marks Try.func24 rfl trivial ?_ rfl
  simp only [Try.ntmps24, List.size_toArray, List.length_cons, List.length_nil, Nat.reduceAdd, Nat.reduceSub, Array.replicate_succ, Array.replicate_zero, List.push_toArray, List.append_toArray, List.nil_append, List.cons_append]
  gi_wp2_with (refine ⟨trivial, ?_⟩; first
    | (gi_at_call 17; refine (callsIn_wide.2 (xtake_no HA.out 0 1)).mono ?_; rintro e w' ⟨rfl, rfl⟩)
    | (gi_at_call 36; refine (callsIn_wide.2 (xread_no HA.out 0 0)).mono ?_; rintro e w' ⟨rfl, rfl⟩)
    | (gi_at_call 38; refine (callsIn_wide.2 (xkeeps_no HA.out 0 _)).mono ?_; rintro e w' ⟨rfl, rfl⟩))
  refine ⟨trivial, ?_⟩
  gi_at_call 19
  refine (callsIn_wide.2 (new_yes9 1 (by omega) (by omega) _)).mono ?_
  rintro e w1 ⟨d, O1, L1, rfl, -, -, hb1⟩
  have HN1 := Lib.hid (HA.out.below hb1)
  have C0 := (hb1.cell (p := ⟨w.heap.size, 0, none⟩) (by simp)).trans (cell_of_row _ _ 0 _ _ _ (heap_alloc_new w (.cells #[.bool false] 4)))
  have F0 : w1.frozen? ⟨w.heap.size, 0, none⟩ = false := (World.frozen?_of_block (a := ⟨w.heap.size, 0, none⟩) (hb1.block _ (by simp))).trans (frozen_of_row _ _ 0 _ _ (heap_alloc_new w (.cells #[.bool false] 4)))
  have HB1 := Lib.hid (((Below.refl _ w).alloc (Nat.le_refl _) (.cells #[.bool false] 4)).trans (hb1.mono (by simp)))
  clear hb1
  gi_wp2_with (refine ⟨trivial, ?_⟩; first
    | (gi_at_call 14; refine (callsIn_wide.2 (xover_no HN1.out _)).mono ?_; rintro e w' ⟨rfl, rfl⟩)
    | (gi_at_call 13; refine (callsIn_wide.2 (xpart_no HN1.out 0)).mono ?_; rintro e w' ⟨rfl, rfl⟩)
    | (gi_at_call 25; refine (callsIn_wide.2 (xowner_no HN1.out 0)).mono ?_; rintro e w' ⟨rfl, rfl⟩)
    | (gi_at_call 64; refine (callsIn_wide.2 (xruns_any v 0 _ H1.out)).mono ?_; rintro e w' ⟨rfl, rfl⟩))
  have s1 := HB1.out.size
  have HB2 := Lib.hid ((HB1.out.alloc s1 (.cells #[v] 26)).alloc (by simp; omega) (.cells #[.int .i64 0] 3))
  obtain ⟨W2, hW2⟩ : ∃ W2, (w1.alloc (.cells #[v] 26)).alloc (.cells #[.int .i64 0] 3) = W2 := ⟨_, rfl⟩
  have b12 : Below w1.heap.size w1 W2 := by rw [← hW2]; exact ((Below.refl _ w1).alloc (Nat.le_refl _) _).alloc (by simp) _
  have hl0 := World.block_lt_of_cell? w1 _ C0
  have D0 := Lib.hid ((b12.cell (p := ⟨w.heap.size, 0, none⟩) hl0).trans C0)
  have G0 := Lib.hid ((World.frozen?_of_block (a := ⟨w.heap.size, 0, none⟩) (b12.block _ hl0)).trans F0)
  have r1 := (Below.heap_alloc (w1.alloc (.cells #[v] 26)) (.cells #[.int .i64 0] 3) w1.heap.size (by simp)).trans (heap_alloc_new w1 _)
  have r2 := heap_alloc_new (w1.alloc (.cells #[v] 26)) (.cells #[.int .i64 0] 3)
  rw [World.size_alloc] at r2
  rw [hW2] at r1 r2 HB2 ⊢
  have K1 := Lib.hid (show W2.cell? ⟨w1.heap.size, 0, none⟩ = some v by rw [cell_of_row _ _ _ _ _ _ r1]; rfl)
  have K2 := Lib.hid (show W2.cell? ⟨w1.heap.size + 1, 0, none⟩ = some (.int .i64 0) by rw [cell_of_row _ _ _ _ _ _ r2]; rfl)
  have HN2 := Lib.hid (HN1.out.below b12)
  clear r1 r2 C0 F0
  refine range_none rfl (by omega) (gf := 77) (lb := #[.pointer (some ⟨w1.heap.size, 0, none⟩), .pointer (some ⟨w1.heap.size + 1, 0, none⟩)]) rfl trivial (enters_of Try.func77 (by kernel_rfl) rfl) (fun l V hV => ?_) ?_
  · have l1 := World.block_lt_of_cell? W2 _ K1.out
    have l2 := World.block_lt_of_cell? W2 _ K2.out
    exact callsIn_wide.2 (runs1_no (HN2.out.below hV) _ 0 _ _ ((hV.cell (p := ⟨w1.heap.size, 0, none⟩) l1).trans K1.out) ((hV.cell (p := ⟨w1.heap.size + 1, 0, none⟩) l2).trans K2.out))
  · rintro D W hD hB hK
    have HNW := Lib.hid (HN2.out.below hB)
    have l0 := World.block_lt_of_cell? W2 _ D0.out
    have HG1 := Lib.hid ((hB.cell (p := ⟨w.heap.size, 0, none⟩) l0).trans D0.out)
    have HG2 := Lib.hid ((World.frozen?_of_block (a := ⟨w.heap.size, 0, none⟩) (hB.block _ l0)).trans G0.out)
    have HBW := Lib.hid (HB2.out.trans (hB.mono HB2.out.size))
    have HKW := Lib.hid hK
    have hsB := HBW.out.size
    have hDw : w.heap.size ≤ D := by have := HB2.out.size; omega
    clear hB hK
    gi_wp2_with (refine ⟨trivial, ?_⟩; first
      | (gi_at_call 16; refine (callsIn_wide.2 (num_any10 _ _)).mono ?_; rintro e w' ⟨rfl, rfl⟩)
      | (gi_at_call 23; refine (callsIn_wide.2 (xgive_no HNW.out 0 0 1)).mono ?_; rintro e w' ⟨rfl, rfl⟩)
      | (gi_at_call 27; refine (callsIn_wide.2 (sector_any10 0 _)).mono ?_; rintro e w6 ⟨g, k, rfl, hg6, hr6, hb6⟩; have HN6 := Lib.hid (HNW.out.below hb6); have HB6 := Lib.hid hb6; have g16 := hb6.cell (World.block_lt_of_cell? W _ HG1.out) |>.trans HG1.out; have g26 : w6.frozen? ⟨w.heap.size, 0, none⟩ = false := (World.frozen?_of_block (a := ⟨w.heap.size, 0, none⟩) (hb6.block _ (World.block_lt_of_cell? W _ HG1.out))).trans HG2.out; clear hg6 hr6 hb6)
      | (gi_at_call 26; refine (callsIn_wide.2 (xwrite_no HN6.out 0 0 _)).mono ?_; rintro e w' ⟨rfl, rfl⟩)
      | (gi_at_call 28; refine (callsIn_wide.2 (xflush_no HN6.out 0)).mono ?_; rintro e w' ⟨rfl, rfl⟩)
      | (gi_at_call 44; refine (callsIn_wide.2 (xquota_no HN6.out 0)).mono ?_; rintro e w' ⟨rfl, rfl⟩)
      | (gi_at_call 18; refine (callsIn_wide.2 (xtaken_no HN6.out 0)).mono ?_; rintro e w' ⟨rfl, rfl⟩)
      | (gi_at_call 48; refine (callsIn_wide.2 (xdisk_no HN6.out)).mono ?_; rintro e w' ⟨rfl, rfl⟩))
    have hHl : w.heap.size ≠ D := fun e => by have := HG1.out; rw [e] at this; simp [World.cell?, HKW.out] at this
    have hD6 := (HB6.out.block D (Array.getElem?_eq_some_iff.1 HKW.out).1).trans HKW.out
    have hKK : (w6.setCell ⟨w.heap.size, 0, none⟩ (.bool true)).heap[D]? = some (.deferred (some [])) := (Below.heap_setCell _ ⟨w.heap.size, 0, none⟩ _ D (Ne.symm hHl)).trans hD6
    have hc : (w6.setCell ⟨w.heap.size, 0, none⟩ (.bool true)).cell? ⟨w.heap.size, 0, none⟩ = some (.bool true) := World.cell?_setCell_same' _ _ _ (by rw [g16]; rfl)
    refine ⟨by simp, .inl ⟨_, _, rfl, run_takeDeferred hKK, ?_⟩⟩
    refine ⟨.bool true, ?_, rfl, ((HBW.out.trans (HB6.out.mono hsB)).setCell (by show w.heap.size ≤ w.heap.size; omega) _).trans (below_putObj9 _ hDw)⟩
    have hc2 : ((w6.setCell ⟨w.heap.size, 0, none⟩ (.bool true)).putObj D (.deferred none)).cell? ⟨w.heap.size, 0, none⟩ = some (.bool true) := (World.cell?_of_block (a := ⟨w.heap.size, 0, none⟩) (World.putObj_heap_other hHl)).trans hc
    simp [results, Try.f24, go_sem, hc2]
end Go.Proofs.Ytgpdkfmneoggkaa
