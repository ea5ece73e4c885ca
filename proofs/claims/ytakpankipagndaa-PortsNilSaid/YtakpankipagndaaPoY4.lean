/- The law's ring, Filter, Close and nothing: of ports that are not there. -/
import Derived.Test.YtakpankipagndaaPoY3
import Derived.RangeFuncNested
import Derived.RangeFuncBound
import Derived.RangeFuncCalls
import Derived.OwnWalkIn
import Derived.TacticsInMore
import Derived.LoopN
import Derived.LoopNIn
import Derived.LoopIn
import Derived.Shelf.Abstract
import Derived.Shelf.RegionOpen
namespace Go.Proofs.Ytakpankipagndaa
open Go.RowKit (wrap64)
open Go.RowKit
attribute [local go_sem] Oper.semAt_some

theorem below_putObj9 {B D : Nat} {w : World} (o : Obj) (h : B ≤ D) : Below B w (w.putObj D o) := ⟨rfl, rfl, rfl, by simp, fun k hk => World.putObj_heap_other (by omega)⟩
/-- A range over a function that tells nothing. -/
theorem range_none {F : Fence} {n : Nat} {P : Program} {g : Operand} {ps : Array Tmp} {assign body : Code} {Q : Exit → Act → World → Prop} {a : Act} {w : World}
    (hro : F.round = none) (h1 : 1 ≤ n) {gf : Nat} {lb : Array Value} (hg : a.eval g = .func (.func gf) #[] lb) (hFg : F.fn gf) (eg : ∀ args w, (callFunc gf args).run P w = .ok (.enter gf args) w)
    (hcall : ∀ l V, Below w.heap.size w V → CallsIn F (n - 1) P gf (#[.func (.yield l) #[] #[]] ++ lb) V fun e W' => (∃ v, e = .returned v) ∧ Below V.heap.size V W')
    (hdone : ∀ (D : Nat) (W : World), w.heap.size ≤ D → Below w.heap.size w W → W.heap[D]? = some (.deferred (some [])) → Q .normal { a with defers := { target := .collected D, args := #[] } :: a.defers } W) :
    (Code.rangeFunc g ps assign body).wpIn F n P Q a w := by
  refine wpIn_rangeFunc fun fn hfn => ?_
  rw [hro]
  let R : LoopState → Option Code → Loop := fun st pe => { state := st, pending := pe, fn, tmps := a.tmps, params := ps, assign, body, defers := w.heap.size }
  have hR : R = fun st pe => { state := st, pending := pe, fn, tmps := a.tmps, params := ps, assign, body, defers := w.heap.size } := rfl
  clear_value R
  let V : World := (w.alloc (.deferred (some []))).alloc (.loop (R .ready none))
  have hL : V.heap[w.heap.size + 1]? = some (.loop (R .ready none)) := by
    have := World.alloc_heap_new (w.alloc (.deferred (some []))) (.loop (R .ready none)); rwa [World.size_alloc] at this
  have hD : V.heap[w.heap.size]? = some (.deferred (some [])) := (Below.heap_alloc _ _ _ (by simp)).trans (World.alloc_heap_new w _)
  have hV : Below w.heap.size w V := ((Below.refl _ w).alloc (Nat.le_refl _) _).alloc (by simp) _
  refine ⟨w.heap.size + 1, [{ target := .collected w.heap.size, args := #[] }], V, { target := .fn (.func gf) lb, args := #[.func (.yield (w.heap.size + 1)) #[] #[]] }, V, gf,
    #[.func (.yield (w.heap.size + 1)) #[] #[]] ++ lb, V, ?_, ?_, ?_, ?_, fun _ => h1, ?_⟩
  · show _ = Result.ok _ ((w.alloc (.deferred (some []))).alloc (.loop (R .ready none)))
    rw [hR]; exact run_enterLoop_outer _ _ _ _ _
  · simp only [resolve, hg]
    simp [go_sem]
  · intro f' hf'; simp [Target.leads] at hf'; subst hf'; exact hFg
  · simp [invoke, go_sem, eg]
  refine (hcall (w.heap.size + 1) V hV).mono ?_
  rintro e W2 ⟨⟨v, rfl⟩, hb⟩
  have hl := (hb.block _ (Array.getElem?_eq_some_iff.1 hL).1).trans hL
  have hd := (hb.block _ (Array.getElem?_eq_some_iff.1 hD).1).trans hD
  have hend := run_endLoop (P := P) hl (by rw [hR]; simp)
  rw [hR] at hend
  exact ⟨none, _, hend, hdone _ _ (Nat.le_refl _) ((hV.trans (hb.mono hV.size)).trans (below_putObj9 _ (by omega))) ((World.putObj_heap_other (by omega)).trans hd)⟩
theorem NoPo.one {w : World} {v : Value} (h : NoPo w v) : v.oneCell' = true := by
  rcases h with rfl | ⟨d, rfl, -⟩ <;> rfl
theorem filter_none12 {w : World} {v : Value} (h : NoPo w v) (a n : Int) : Calls Try.prog 43 #[v, .int .i64 a, .int .i64 n] w fun e w' => e = .returned (.tuple #[.slice none 0 0, .bool false]) ∧ w = w' := by
  go_enter Try.func43, Try.ntmps43
  go_wp2_with (go_at_call 55; refine (of_no12 h a n).mono ?_; rintro e w' ⟨rfl, rfl⟩)
  go_ret2
  exact ⟨rfl, rfl⟩
theorem close_none12 {w : World} {v : Value} (h : NoPo w v) (a n : Int) : Calls Try.prog 22 #[v, .int .i64 a, .int .i64 n] w fun e w' => e = .returned (.tuple #[.int .i64 0, .int .i64 1]) ∧ w = w' := by
  go_enter Try.func22, Try.ntmps22
  go_wp2_with (go_at_call 55; refine (of_no12 h a n).mono ?_; rintro e w' ⟨rfl, rfl⟩)
  go_ret2
  exact ⟨rfl, rfl⟩
theorem ring1_no12 {w : World} {v : Value} (h : NoPo w v) (F : Value) (bx by' bz : Nat) (h1 : w.cell? ⟨bx, 0, none⟩ = some v) (h2 : w.cell? ⟨by', 0, none⟩ = some (.int .i64 0)) (h3 : w.cell? ⟨bz, 0, none⟩ = some (.int .i64 0)) :
    Calls Try.prog 71 #[F, .pointer (some ⟨bx, 0, none⟩), .pointer (some ⟨by', 0, none⟩), .pointer (some ⟨bz, 0, none⟩)] w fun e w' => (∃ v, e = .returned v) ∧ Below w.heap.size w w' := by
  go_enter Try.func71, Try.ntmps71
  go_wp2_with (go_at_call 55; refine (of_no12 h _ _).mono ?_; rintro e w' ⟨rfl, rfl⟩)
  (try simp only [Exit.inBlock, Exit.then]); refine bodyPost_ret (results_none rfl _ _ _) rfl ?_
  exact ⟨⟨_, rfl⟩, Below.refl _ _⟩
theorem ring_cells (v : Value) (w : World) (h1 : v.oneCell' = true) : Calls Try.prog 63 #[v, .int .i64 0, .int .i64 0] w fun e w' => ∃ bx by' bz : Nat, e = .returned (.func (.func 71) #[] #[.pointer (some ⟨bx, 0, none⟩), .pointer (some ⟨by', 0, none⟩), .pointer (some ⟨bz, 0, none⟩)]) ∧
    w'.cell? ⟨bx, 0, none⟩ = some v ∧ w'.cell? ⟨by', 0, none⟩ = some (.int .i64 0) ∧ w'.cell? ⟨bz, 0, none⟩ = some (.int .i64 0) ∧ Below w.heap.size w w' := by
  go_enter Try.func63, Try.ntmps63
  go_wp2
  go_ret
  obtain ⟨V1, hV1⟩ : ∃ V1, V1 = w.alloc (Obj.cells #[v] 26) := ⟨_, rfl⟩
  obtain ⟨V2, hV2⟩ : ∃ V2, V2 = V1.alloc (Obj.cells #[.int .i64 0] 3) := ⟨_, rfl⟩
  have s1 : V1.heap.size = w.heap.size + 1 := by rw [hV1]; simp
  have s2 : V2.heap.size = w.heap.size + 1 + 1 := by rw [hV2, World.size_alloc, s1]
  have a1 : V1.heap[w.heap.size]? = some (Obj.cells #[v] 26 (0, 0)) := by rw [hV1]; exact heap_alloc_new w _
  have a2 : V2.heap[w.heap.size + 1]? = some (Obj.cells #[.int .i64 0] 3 (0, 0)) := by rw [hV2, ← s1]; exact heap_alloc_new V1 _
  have a3 := heap_alloc_new V2 (Obj.cells #[.int .i64 0] 3)
  rw [s2] at a3
  have e2 : ∀ k, k < V1.heap.size → V2.heap[k]? = V1.heap[k]? := fun k hk => by rw [hV2]; exact Below.heap_alloc _ _ _ hk
  have e3 : ∀ k, k < V2.heap.size → (V2.alloc (Obj.cells #[.int .i64 0] 3)).heap[k]? = V2.heap[k]? := fun k hk => Below.heap_alloc _ _ _ hk
  have hb : Below w.heap.size w (V2.alloc (Obj.cells #[.int .i64 0] 3)) := by
    rw [hV2, hV1]
    exact (((Below.refl _ w).alloc (Nat.le_refl _) _).alloc (by simp) _).alloc (by simp; omega) _
  rw [← hV1, ← hV2]
  exact ⟨_, _, _, rfl, cell_of_row _ _ 0 _ _ _ ((e3 _ (by omega)).trans ((e2 _ (by omega)).trans a1)), cell_of_row _ _ 0 _ _ _ ((e3 _ (by omega)).trans a2), cell_of_row _ _ 0 _ _ _ a3, hb⟩
theorem eql_seqR12 (F G H : Nat) (w : World) : (binOp .eql 120 (.func (.func 71) #[] #[.pointer (some ⟨F, 0, none⟩), .pointer (some ⟨G, 0, none⟩), .pointer (some ⟨H, 0, none⟩)]) .nilFunc).run Try.prog w = .ok (.bool false) w := by kernel_rfl
/-- What ring looks at. -/
structure Gw12 (W : World) (v : Value) (h : Nat) (bx by' bz : Nat) : Prop where
  nt : NoPo W v
  e4 : W.cell? ⟨h, 0, none⟩ = some (.slice none 0 0)
  e5 : W.cell? ⟨h + 1, 0, none⟩ = some (.int .i64 0)
  e6 : W.cell? ⟨h + 1 + 1, 0, none⟩ = some (.bool false)
  f6 : W.frozen? ⟨h + 1 + 1, 0, none⟩ = false
  cx : W.cell? ⟨bx, 0, none⟩ = some v
  cy : W.cell? ⟨by', 0, none⟩ = some (.int .i64 0)
  cz : W.cell? ⟨bz, 0, none⟩ = some (.int .i64 0)
theorem cell_step12 {w w' : World} {p : Addr} {v : Value} (h : w.cell? p = some v) (hb : Below w.heap.size w w') : w'.cell? p = some v := (hb.cell (World.block_lt_of_cell? w _ h)).trans h
theorem Gw12.step {W W' : World} {v : Value} {h : Nat} {bx by' bz : Nat} (g : Gw12 W v h bx by' bz) (hb : Below W.heap.size W W') : Gw12 W' v h bx by' bz :=
  ⟨g.nt.below hb, cell_step12 g.e4 hb, cell_step12 g.e5 hb, cell_step12 g.e6 hb, (World.frozen?_of_block (a := ⟨h + 1 + 1, 0, none⟩) (hb.block _ (World.block_lt_of_cell? W _ g.e6))).trans g.f6, cell_step12 g.cx hb, cell_step12 g.cy hb, cell_step12 g.cz hb⟩
set_option maxHeartbeats 4000000 in
set_option maxRecDepth 100000 in
theorem ring_none12 {w : World} {v : Value} (h : NoPo w v) :
    Calls Try.prog 44 #[v, .int .i64 0, .int .i64 0, .slice none 0 0, .int .i64 0] w fun e w' => e = .returned (.bool true) ∧ Below w.heap.size w w' := by
  have HX := Lib.hid h
  have H1 := Lib.hid h.one
  clear h
  have q9 := eql_seqR12
  refine (callsIn_wide (n := 5)).1 ?_
  refine callsIn_of_wp_marks Try.func44 rfl trivial ?_ rfl
  simp only [Try.ntmps44, List.size_toArray, List.length_cons, List.length_nil, Nat.reduceAdd, Nat.reduceSub, Array.replicate_succ, Array.replicate_zero, List.push_toArray, List.append_toArray, List.nil_append, List.cons_append]
  refine wpIn_wide.2 ?_
  go_wp2_with (go_at_call 63; refine (ring_cells v _ H1.out).mono ?_; rintro e wc ⟨bx, by', bz, rfl, cx, cy, cz, hbc⟩)
  obtain ⟨V1, hV1⟩ : ∃ V1, V1 = w.alloc (Obj.cells #[.slice none 0 0] 42) := ⟨_, rfl⟩
  obtain ⟨V2, hV2⟩ : ∃ V2, V2 = V1.alloc (Obj.cells #[.int .i64 0] 3) := ⟨_, rfl⟩
  obtain ⟨V3, hV3⟩ : ∃ V3, V3 = V2.alloc (Obj.cells #[.bool false] 4) := ⟨_, rfl⟩
  rw [← hV1, ← hV2, ← hV3] at hbc
  have s1 : V1.heap.size = w.heap.size + 1 := by rw [hV1]; simp
  have s2 : V2.heap.size = w.heap.size + 1 + 1 := by rw [hV2, World.size_alloc, s1]
  have a1 : V1.heap[w.heap.size]? = some (Obj.cells #[.slice none 0 0] 42 (0, 0)) := by rw [hV1]; exact heap_alloc_new w _
  have a2 : V2.heap[w.heap.size + 1]? = some (Obj.cells #[.int .i64 0] 3 (0, 0)) := by rw [hV2, ← s1]; exact heap_alloc_new V1 _
  have a3 : V3.heap[w.heap.size + 1 + 1]? = some (Obj.cells #[.bool false] 4 (0, 0)) := by rw [hV3, ← s2]; exact heap_alloc_new V2 _
  have e2 : ∀ k, k < V1.heap.size → V2.heap[k]? = V1.heap[k]? := fun k hk => by rw [hV2]; exact Below.heap_alloc _ _ _ hk
  have e3 : ∀ k, k < V2.heap.size → V3.heap[k]? = V2.heap[k]? := fun k hk => by rw [hV3]; exact Below.heap_alloc _ _ _ hk
  have hb0 : Below w.heap.size w V3 := by
    rw [hV3, hV2, hV1]
    exact (((Below.refl _ w).alloc (Nat.le_refl _) _).alloc (by simp) _).alloc (by simp; omega) _
  have r1 := (e3 _ (by omega)).trans ((e2 _ (by omega)).trans a1)
  have r2 := (e3 _ (by omega)).trans a2
  have HBc := Lib.hid (hb0.trans (hbc.mono hb0.size))
  have HGc := Lib.hid (show Gw12 wc v w.heap.size bx by' bz from ⟨HX.out.below HBc.out, cell_step12 (cell_of_row _ _ 0 _ _ _ r1) hbc, cell_step12 (cell_of_row _ _ 0 _ _ _ r2) hbc, cell_step12 (cell_of_row _ _ 0 _ _ _ a3) hbc,
    (World.frozen?_of_block (a := ⟨w.heap.size + 1 + 1, 0, none⟩) (hbc.block _ (Array.getElem?_eq_some_iff.1 a3).1)).trans (frozen_of_row _ _ 0 _ _ a3), cx, cy, cz⟩)
  have HA := Lib.hid (show w.heap.size + 1 + 1 < wc.heap.size from World.block_lt_of_cell? wc _ HGc.out.e6)
  clear hbc cx cy cz hb0 r1 r2 e2 e3 a1 a2 a3 s1 s2 hV1 hV2 hV3 V1 V2 V3
  refine wp_loop_rounds 3 ?_
  rw [rounds_succ]
  go_wp2
  obtain ⟨W1, hW1⟩ : ∃ W, W = (wc.alloc (.cells #[.int .i64 0] 3)).alloc (.cells #[.int .i64 0] 3) := ⟨_, rfl⟩
  have hb1 : Below wc.heap.size wc W1 := by
    rw [hW1]; exact ((Below.refl _ wc).alloc (Nat.le_refl _) _).alloc (by simp) _
  have hrow : W1.cell? ⟨wc.heap.size, 0, none⟩ = some (.int .i64 0) ∧ W1.cell? ⟨wc.heap.size + 1, 0, none⟩ = some (.int .i64 0) ∧ wc.heap.size + 1 < W1.heap.size := by
    subst hW1
    have e3 := heap_alloc_new (wc.alloc (.cells #[.int .i64 0] 3)) (.cells #[.int .i64 0] 3)
    have e2 := (Below.heap_alloc (wc.alloc (.cells #[.int .i64 0] 3)) (.cells #[.int .i64 0] 3) wc.heap.size (by simp)).trans (heap_alloc_new wc _)
    simp only [World.size_alloc] at e3
    exact ⟨cell_of_row _ _ 0 _ _ _ e2, cell_of_row _ _ 0 _ _ _ e3, by simp⟩
  rw [← hW1]
  have HTW1 := Lib.hid (HGc.out.step hb1)
  have HROW := Lib.hid hrow
  have HBW1 := Lib.hid (HBc.out.trans (hb1.mono HBc.out.size))
  clear hW1 hb1 hrow q9
  refine (wpIn_wide (n := 5)).1 ?_
  refine range_none rfl (by omega) (gf := 71) (lb := #[.pointer (some ⟨bx, 0, none⟩), .pointer (some ⟨by', 0, none⟩), .pointer (some ⟨bz, 0, none⟩)]) rfl trivial (enters_of Try.func71 (by kernel_rfl) rfl) (fun l V hV => ?_) ?_
  · have hh := HTW1.out.step hV
    exact callsIn_wide.2 (ring1_no12 hh.nt _ bx by' bz hh.cx hh.cy hh.cz)
  · intro Da Wa hDa hBa hKa
    have HTA := Lib.hid (HTW1.out.step hBa)
    have HBA := Lib.hid (HBW1.out.trans (hBa.mono HBW1.out.size))
    have HKA := Lib.hid hKa
    have HDA := Lib.hid (show w.heap.size ≤ Da from Nat.le_trans HBW1.out.size hDa)
    have t16 : Wa.cell? ⟨wc.heap.size, 0, none⟩ = some (.int .i64 0) := cell_step12 HROW.out.1 hBa
    have t17 : Wa.cell? ⟨wc.heap.size + 1, 0, none⟩ = some (.int .i64 0) := cell_step12 HROW.out.2.1 hBa
    have t7 := HTA.out.e4
    have t5 := HTA.out.e5
    clear hBa hKa hDa
    go_wp2
    rw [rounds_succ]
    go_wp2
    obtain ⟨W2, hW2⟩ : ∃ W, W = (Wa.alloc (.cells #[.int .i64 1] 3)).alloc (.cells #[.int .i64 0] 3) := ⟨_, rfl⟩
    have hb2 : Below Wa.heap.size Wa W2 := by
      rw [hW2]; exact ((Below.refl _ Wa).alloc (Nat.le_refl _) _).alloc (by simp) _
    have hrow2 : W2.cell? ⟨Wa.heap.size, 0, none⟩ = some (.int .i64 1) ∧ W2.cell? ⟨Wa.heap.size + 1, 0, none⟩ = some (.int .i64 0) ∧ Wa.heap.size + 1 < W2.heap.size := by
      subst hW2
      have e3 := heap_alloc_new (Wa.alloc (.cells #[.int .i64 1] 3)) (.cells #[.int .i64 0] 3)
      have e2 := (Below.heap_alloc (Wa.alloc (.cells #[.int .i64 1] 3)) (.cells #[.int .i64 0] 3) Wa.heap.size (by simp)).trans (heap_alloc_new Wa _)
      simp only [World.size_alloc] at e3
      exact ⟨cell_of_row _ _ 0 _ _ _ e2, cell_of_row _ _ 0 _ _ _ e3, by simp⟩
    rw [← hW2]
    have HTW2 := Lib.hid (HTA.out.step hb2)
    have HROW2 := Lib.hid hrow2
    have HBW2 := Lib.hid (HBA.out.trans (hb2.mono HBA.out.size))
    have HKA2 := Lib.hid ((hb2.block Da (Array.getElem?_eq_some_iff.1 HKA.out).1).trans HKA.out)
    clear hW2 hb2 hrow2 t16 t17 t7 t5
    refine (wpIn_wide (n := 5)).1 ?_
    refine range_none rfl (by omega) (gf := 71) (lb := #[.pointer (some ⟨bx, 0, none⟩), .pointer (some ⟨by', 0, none⟩), .pointer (some ⟨bz, 0, none⟩)]) rfl trivial (enters_of Try.func71 (by kernel_rfl) rfl) (fun l V hV => ?_) ?_
    · have hh := HTW2.out.step hV
      exact callsIn_wide.2 (ring1_no12 hh.nt _ bx by' bz hh.cx hh.cy hh.cz)
    · intro Db Wb hDb hBb hKb
      have HTB := Lib.hid (HTW2.out.step hBb)
      have HBB := Lib.hid (HBW2.out.trans (hBb.mono HBW2.out.size))
      have HKB := Lib.hid hKb
      have HKAB := Lib.hid ((hBb.block Da (Array.getElem?_eq_some_iff.1 HKA2.out).1).trans HKA2.out)
      have HDB := Lib.hid (show w.heap.size ≤ Db from Nat.le_trans HBW2.out.size hDb)
      have hDab : Da ≠ Db := fun e => by have := (Array.getElem?_eq_some_iff.1 HKA2.out).1; omega
      have t16 : Wb.cell? ⟨Wa.heap.size, 0, none⟩ = some (.int .i64 1) := cell_step12 HROW2.out.1 hBb
      have t17 : Wb.cell? ⟨Wa.heap.size + 1, 0, none⟩ = some (.int .i64 0) := cell_step12 HROW2.out.2.1 hBb
      have t7 := HTB.out.e4
      have t5 := HTB.out.e5
      have t6 := HTB.out.e6
      have f6 := HTB.out.f6
      have l6 := World.block_lt_of_cell? Wb _ t6
      have t6a : ∀ o, (Wb.alloc o).cell? ⟨w.heap.size + 1 + 1, 0, none⟩ = some (.bool false) := fun o => (World.cell?_of_block (a := ⟨w.heap.size + 1 + 1, 0, none⟩) (Below.heap_alloc _ _ _ l6)).trans t6
      have f6a : ∀ o, (Wb.alloc o).frozen? ⟨w.heap.size + 1 + 1, 0, none⟩ = false := fun o => (World.frozen?_of_block (a := ⟨w.heap.size + 1 + 1, 0, none⟩) (Below.heap_alloc _ _ _ l6)).trans f6
      have nB : Db ≠ w.heap.size + 1 + 1 := fun e => by have h' := t6; rw [← e] at h'; simp [World.cell?, HKB.out] at h'
      have nA : Da ≠ w.heap.size + 1 + 1 := fun e => by have h' := t6; rw [← e] at h'; simp [World.cell?, HKAB.out] at h'
      have KB := Lib.hid (show ((Wb.setCell ⟨w.heap.size + 1 + 1, 0, none⟩ (.bool true)).alloc (.cells #[.int .i64 2] 3)).heap[Db]? = some (.deferred (some [])) from
        (Below.heap_alloc _ _ _ (by rw [show (Wb.setCell ⟨w.heap.size + 1 + 1, 0, none⟩ (.bool true)).heap.size = Wb.heap.size by simp]; exact (Array.getElem?_eq_some_iff.1 HKB.out).1)).trans ((heap_setCell_other _ _ _ _ nB).trans HKB.out))
      have KA := Lib.hid (show (((Wb.setCell ⟨w.heap.size + 1 + 1, 0, none⟩ (.bool true)).alloc (.cells #[.int .i64 2] 3)).putObj Db (.deferred none)).heap[Da]? = some (.deferred (some [])) from
        (World.putObj_heap_other hDab).trans ((Below.heap_alloc _ _ _ (by rw [show (Wb.setCell ⟨w.heap.size + 1 + 1, 0, none⟩ (.bool true)).heap.size = Wb.heap.size by simp]; exact (Array.getElem?_eq_some_iff.1 HKAB.out).1)).trans ((heap_setCell_other _ _ _ _ nA).trans HKAB.out)))
      have hres := Lib.hid (show ((((Wb.setCell ⟨w.heap.size + 1 + 1, 0, none⟩ (.bool true)).alloc (.cells #[.int .i64 2] 3)).putObj Db (.deferred none)).putObj Da (.deferred none)).cell? ⟨w.heap.size + 1 + 1, 0, none⟩ = some (.bool true) from
        (World.cell?_of_block (a := ⟨w.heap.size + 1 + 1, 0, none⟩) (World.putObj_heap_other (Ne.symm nA))).trans ((World.cell?_of_block (a := ⟨w.heap.size + 1 + 1, 0, none⟩) (World.putObj_heap_other (Ne.symm nB))).trans ((World.cell?_of_block (a := ⟨w.heap.size + 1 + 1, 0, none⟩) (Below.heap_alloc _ _ _ (by rw [show (Wb.setCell ⟨w.heap.size + 1 + 1, 0, none⟩ (.bool true)).heap.size = Wb.heap.size by simp]; exact l6))).trans (World.cell?_setCell_same' _ _ _ (by rw [t6]; rfl)))))
      have HFIN := Lib.hid (show Below w.heap.size w ((((Wb.setCell ⟨w.heap.size + 1 + 1, 0, none⟩ (.bool true)).alloc (.cells #[.int .i64 2] 3)).putObj Db (.deferred none)).putObj Da (.deferred none)) from
        (((HBB.out.setCell (by show w.heap.size ≤ w.heap.size + 1 + 1; omega) _).alloc (by simp; exact HBB.out.size) _).trans (below_putObj9 _ HDB.out)).trans (below_putObj9 _ HDA.out))
      clear hBb hKb hDb
      go_wp2
      rw [rounds_succ]
      go_wp2
      refine ⟨by simp, .inl ⟨_, _, rfl, run_takeDeferred KB.out, ?_⟩⟩
      refine ⟨by simp, .inl ⟨_, _, rfl, run_takeDeferred KA.out, ?_⟩⟩
      refine ⟨.bool true, ?_, rfl, HFIN.out⟩
      have hc2 := hres.out
      simp [results, Try.f44, go_sem, hc2]
end Go.Proofs.Ytakpankipagndaa
