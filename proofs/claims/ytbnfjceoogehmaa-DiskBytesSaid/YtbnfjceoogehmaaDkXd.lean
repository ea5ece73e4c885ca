/- What is sorted of an empty map: nothing. -/
import Derived.Test.YtbnfjceoogehmaaDkXc
import Derived.Test.YtbnfjceoogehmaaDkQ
import Derived.Test.YtbnfjceoogehmaaDkL
import Derived.Sort.MapsRangeIn
namespace Go.Proofs.Ytbnfjceoogehmaa
open Go.RowKit Go.Shelf
open Go.Maps (Keyed)
attribute [local go_sem] Oper.semAt_some

theorem ins_none9 (w : World) : Calls Try.prog 61 #[.slice none 0 0, .int .i64 0, .int .i64 0] w fun e w' => (∃ v, e = .returned v) ∧ w = w' := by
  go_enter Try.func61, Try.ntmps61
  go_wp2
  refine wp_loop_rounds 1 ?_
  rw [rounds_succ]
  go_wp2
  go_end0
  exact ⟨⟨_, rfl⟩, rfl⟩
theorem pdq_none9 (n : Int) (w : World) : Calls Try.prog 59 #[.slice none 0 0, .int .i64 0, .int .i64 0, .int .i64 n] w fun e w' => (∃ v, e = .returned v) ∧ w = w' := by
  go_enter Try.func59, Try.ntmps59
  go_wp2
  refine wp_loop_rounds 1 ?_
  rw [rounds_succ]
  go_wp2_with (go_at_call 61; refine (ins_none9 _).mono ?_; rintro e w' ⟨⟨v, rfl⟩, rfl⟩)
  (try simp only [Exit.inBlock, Exit.then]); refine bodyPost_ret (results_none rfl _ _ _) rfl ?_
  exact ⟨⟨_, rfl⟩, rfl⟩
set_option maxRecDepth 100000 in
set_option maxHeartbeats 2000000 in
theorem len64_none9 (w : World) : Calls Try.prog 71 #[.int .u64 0] w fun e w' => (∃ m, e = .returned (.int .i64 m)) ∧ w = w' := by
  go_enter Try.func71, Try.ntmps71
  go_wp2
  go_ret
  exact ⟨⟨_, rfl⟩, rfl⟩
theorem len_none9 (w : World) : Calls Try.prog 60 #[.int .u64 0] w fun e w' => (∃ m, e = .returned (.int .i64 m)) ∧ w = w' := by
  go_enter Try.func60, Try.ntmps60
  go_wp2_with (go_at_call 71; refine (len64_none9 _).mono ?_; rintro e w' ⟨⟨m, rfl⟩, rfl⟩)
  go_ret
  exact ⟨⟨_, rfl⟩, rfl⟩
theorem sort_none9 (w : World) : Calls Try.prog 56 #[.slice none 0 0] w fun e w' => (∃ v, e = .returned v) ∧ w = w' := by
  go_enter Try.func56, Try.ntmps56
  go_wp2_with (first
    | (go_at_call 60; refine (len_none9 _).mono ?_; rintro e w' ⟨⟨m, rfl⟩, rfl⟩)
    | (go_at_call 59; refine (pdq_none9 _ _).mono ?_; rintro e w' ⟨⟨v, rfl⟩, rfl⟩))
  go_end0
  exact ⟨⟨_, rfl⟩, rfl⟩

/-- A range over a function that tells nothing. -/
theorem range_none {F : Fence} {n : Nat} {P : Program} {g : Operand} {ps : Array Tmp} {assign body : Code} {Q : Exit → Act → World → Prop} {a : Act} {w : World}
    (hro : F.round = none) (h1 : 1 ≤ n) {gf : Nat} {lb : Array Value} (hg : a.eval g = .func (.func gf) #[] lb) (hFg : F.fn gf) (eg : ∀ args w, (callFunc gf args).run P w = .ok (.enter gf args) w)
    (hcall : ∀ l V, Below w.heap.size w V → CallsIn F (n - 1) P gf (#[.func (.yield l) #[] #[]] ++ lb) V fun e W' => (∃ v, e = .returned v) ∧ Below V.heap.size V W')
    (hdone : ∀ (D : Nat) (W : World), w.heap.size ≤ D → Below w.heap.size w W → W.heap[D]? = some (.deferred (some [])) → Q .normal { a with defers := { target := .collected D, args := #[] } :: a.defers } W) :
    (Code.rangeFunc g ps assign body).wpIn F n P Q a w := by
  refine wpIn_rangeFunc fun fn hfn => ?_
  rw [hro]
  let R : LoopState → Option Code → Loop := fun st pe => { state := st, pending := pe, fn, tmps := a.tmps, params := ps, assign, body, defers := w.heap.size }
  have hR : R = fun st pe => { state := st, pending := pe, fn, tmps := a.tmps, params := ps, assign, body, defers := w.heap.size } := rfl
  clear_value R
  let V : World := (w.alloc (.deferred (some []))).alloc (.loop (R .ready none))
  have hL : V.heap[w.heap.size + 1]? = some (.loop (R .ready none)) := by
    have := World.alloc_heap_new (w.alloc (.deferred (some []))) (.loop (R .ready none)); rwa [World.size_alloc] at this
  have hD : V.heap[w.heap.size]? = some (.deferred (some [])) := (Below.heap_alloc _ _ _ (by simp)).trans (World.alloc_heap_new w _)
  have hV : Below w.heap.size w V := ((Below.refl _ w).alloc (Nat.le_refl _) _).alloc (by simp) _
  refine ⟨w.heap.size + 1, [{ target := .collected w.heap.size, args := #[] }], V, { target := .fn (.func gf) lb, args := #[.func (.yield (w.heap.size + 1)) #[] #[]] }, V, gf,
    #[.func (.yield (w.heap.size + 1)) #[] #[]] ++ lb, V, ?_, ?_, ?_, ?_, fun _ => h1, ?_⟩
  · show _ = Result.ok _ ((w.alloc (.deferred (some []))).alloc (.loop (R .ready none)))
    rw [hR]; exact run_enterLoop_outer _ _ _ _ _
  · simp only [resolve, hg]
    simp [go_sem]
  · intro f' hf'; simp [Target.leads] at hf'; subst hf'; exact hFg
  · simp [invoke, go_sem, eg]
  refine (hcall (w.heap.size + 1) V hV).mono ?_
  rintro e W2 ⟨⟨v, rfl⟩, hb⟩
  have hl := (hb.block _ (Array.getElem?_eq_some_iff.1 hL).1).trans hL
  have hd := (hb.block _ (Array.getElem?_eq_some_iff.1 hD).1).trans hD
  have hend := run_endLoop (P := P) hl (by rw [hR]; simp)
  rw [hR] at hend
  exact ⟨none, _, hend, hdone _ _ (Nat.le_refl _) ((hV.trans (hb.mono hV.size)).trans (below_putObj9 _ (by omega))) ((World.putObj_heap_other (by omega)).trans hd)⟩

set_option maxRecDepth 100000 in
theorem keys1_none9 {w : World} {L : Lay9} {s : Dk} {D : DataW Unit} {m : Nat} (p : PendIs w L s D m) (h : ∀ i, s.pd i = []) (F : Value) (bx : Nat) (hb : w.cell? ⟨bx, 0, none⟩ = some (.map (some L.b))) :
    Calls Try.prog 57 #[F, .pointer (some ⟨bx, 0, none⟩)] w fun e w' => (∃ v, e = .returned v) ∧ Below w.heap.size w w' := by
  have hno : ∀ k, Maps.has D k = false := fun k => by
    cases hh : Maps.has D k with
    | false => rfl
    | true =>
      obtain ⟨i, rfl⟩ := p.ints k hh
      rw [p.has, h] at hh
      cases hh
  have HO := Lib.hid p.own
  have HNO := Lib.hid hno
  clear p h hno
  go_enter Try.func57, Try.ntmps57
  go_wp2_with (at_range; refine wpList_range_own _ rfl _ 59 rfl 3 58 Try.kint Try.underlying59 slE L.b m D rfl HO.out ?_; intro w0 hrg0 hg0 hs0; have HRG := Lib.hid hrg0; have HG0 := Lib.hid hg0; clear hrg0 hg0 hs0)
  refine wp_loop_rounds 1 ?_
  rw [rounds_succ]
  go_wp2_with (at_next; refine next_none9 rfl _ rfl L.b w.heap.size m D _ _ rfl HRG.out HNO.out ?_)
  go_end0
  exact ⟨⟨_, rfl⟩, (Below.refl _ w).grown HG0.out (Nat.le_refl _) (fun k e => by cases e)⟩
theorem keys_any9 (b : Nat) (w : World) : Calls Try.prog 54 #[.map (some b)] w fun e w' => e = .returned (.func (.func 57) #[] #[.pointer (some ⟨w.heap.size, 0, none⟩)]) ∧ w' = w.alloc (.cells #[.map (some b)] 59) := by
  go_enter Try.func54, Try.ntmps54
  go_wp2
  go_ret
  exact ⟨rfl, rfl⟩
set_option maxRecDepth 100000 in
set_option maxHeartbeats 1000000 in
theorem append_none9 {w : World} {O : Nat → Prop} {d : Nat} {L : Lay9} {s : Dk} (p : DkAt w O d L s) (h : ∀ i, s.pd i = []) (bx : Nat) (hb : w.cell? ⟨bx, 0, none⟩ = some (.map (some L.b))) :
    Calls Try.prog 58 #[.slice none 0 0, .func (.func 57) #[] #[.pointer (some ⟨bx, 0, none⟩)]] w fun e w' => e = .returned (.slice none 0 0) ∧ Below w.heap.size w w' := by
  refine (callsIn_wide (n := 5)).1 ?_
  refine callsIn_of_wp_marks Try.func58 rfl trivial ?_ rfl
  simp only [Try.ntmps58, List.size_toArray, List.length_cons, List.length_nil, Nat.reduceAdd, Nat.reduceSub, Array.replicate_succ, Array.replicate_zero, List.push_toArray, List.append_toArray, List.nil_append, List.cons_append]
  have HP := Lib.hid p
  have HBX := Lib.hid hb
  clear p hb
  gi_wp2_with fail
  refine range_none rfl (by omega) (gf := 57) (lb := #[.pointer (some ⟨bx, 0, none⟩)]) rfl trivial (enters_of Try.func57 (by kernel_rfl) rfl) (fun l V hV => ?_) ?_
  · have hV0 := ((Below.refl _ w).alloc (Nat.le_refl _) (.cells #[.slice none 0 0] 71)).trans (hV.mono (by simp))
    obtain ⟨D, m, p⟩ := (HP.out.step hV0).pend
    have hl := World.block_lt_of_cell? w _ HBX.out
    exact callsIn_wide.2 (keys1_none9 p h _ bx ((hV0.cell (p := ⟨bx, 0, none⟩) hl).trans HBX.out))
  · rintro D W hD hB hK
    have hB0 := ((Below.refl _ w).alloc (Nat.le_refl _) (.cells #[.slice none 0 0] 71)).trans (hB.mono (by simp))
    have c2 : W.cell? ⟨w.heap.size, 0, none⟩ = some (.slice none 0 0) := (hB.cell (p := ⟨w.heap.size, 0, none⟩) (by simp)).trans (cell_of_row _ _ 0 _ _ _ (heap_alloc_new w _))
    have HB := Lib.hid hB0
    have HKW := Lib.hid hK
    have hDw : w.heap.size ≤ D := by simp at hD; omega
    clear hB hB0 hK hD
    gi_wp2_with fail
    refine ⟨by simp, .inl ⟨_, _, rfl, run_takeDeferred HKW.out, ?_⟩⟩
    refine ⟨.slice none 0 0, ?_, rfl, HB.out.trans (below_putObj9 _ hDw)⟩
    simp [results, Try.f58, go_sem]
theorem collect_none9 {w : World} {O : Nat → Prop} {d : Nat} {L : Lay9} {s : Dk} (p : DkAt w O d L s) (h : ∀ i, s.pd i = []) (bx : Nat) (hb : w.cell? ⟨bx, 0, none⟩ = some (.map (some L.b))) :
    Calls Try.prog 55 #[.func (.func 57) #[] #[.pointer (some ⟨bx, 0, none⟩)]] w fun e w' => e = .returned (.slice none 0 0) ∧ Below w.heap.size w w' := by
  have HA := Lib.hid (append_none9 p h bx hb)
  clear p hb
  go_enter Try.func55, Try.ntmps55
  go_wp2_with (go_at_call 58; refine HA.out.mono ?_; rintro e w1 ⟨rfl, hb1⟩; have HB1 := Lib.hid hb1; clear hb1)
  go_ret
  exact ⟨rfl, HB1.out⟩
theorem sorted_none9 {w : World} {O : Nat → Prop} {d : Nat} {L : Lay9} {s : Dk} (p : DkAt w O d L s) (h : ∀ i, s.pd i = []) (bx : Nat) (hb : w.cell? ⟨bx, 0, none⟩ = some (.map (some L.b))) :
    Calls Try.prog 53 #[.func (.func 57) #[] #[.pointer (some ⟨bx, 0, none⟩)]] w fun e w' => e = .returned (.slice none 0 0) ∧ Below w.heap.size w w' := by
  have HA := Lib.hid (collect_none9 p h bx hb)
  clear p hb
  go_enter Try.func53, Try.ntmps53
  go_wp2_with (first
    | (go_at_call 55; refine HA.out.mono ?_; rintro e w1 ⟨rfl, hb1⟩; have HB1 := Lib.hid hb1; clear hb1)
    | (go_at_call 56; refine (sort_none9 _).mono ?_; rintro e w2 ⟨⟨v, rfl⟩, rfl⟩))
  go_ret
  exact ⟨rfl, HB1.out⟩
theorem dirtyL_none9 {w : World} {O : Nat → Prop} {d : Nat} {L : Lay9} {s : Dk} (p : DkAt w O d L s) (h : ∀ i, s.pd i = []) :
    Calls Try.prog 50 #[.pointer (some ⟨d, 0, none⟩)] w fun e w' => e = .returned (.slice none 0 0) ∧ Below w.heap.size w w' := by
  have c1 := p.c1
  have HS := Lib.hid (sorted_none9 (p.step ((Below.refl _ w).alloc (Nat.le_refl _) (.cells #[.map (some L.b)] 59))) h w.heap.size (cell_of_row _ _ 0 _ _ _ (heap_alloc_new w _)))
  have HT := Lib.hid (there_any9 p)
  clear p
  go_enter Try.func50, Try.ntmps50
  go_wp2_with (first
    | (go_at_call 39; refine HT.out.mono ?_; rintro e w' ⟨rfl, rfl⟩)
    | (go_at_call 54; refine (keys_any9 L.b w).mono ?_; rintro e w' ⟨rfl, rfl⟩)
    | (go_at_call 53; refine HS.out.mono ?_; rintro e w2 ⟨rfl, hb2⟩; have HB2 := Lib.hid hb2; clear hb2))
  refine wp_loop_rounds 1 ?_
  rw [rounds_succ]
  go_wp2
  go_ret
  exact ⟨rfl, ((Below.refl _ w).alloc (Nat.le_refl _) _).trans (HB2.out.mono (by simp))⟩
end Go.Proofs.Ytbnfjceoogehmaa
