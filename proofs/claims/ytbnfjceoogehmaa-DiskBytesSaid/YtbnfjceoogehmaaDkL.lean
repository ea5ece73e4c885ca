/- nothing: of a disk that is none. -/
import Derived.Test.YtbnfjceoogehmaaDkK
namespace Go.Proofs.Ytbnfjceoogehmaa
open Go.RowKit Go.Shelf
open Go.Maps (Keyed)
attribute [local go_sem] Oper.semAt_some

def noW9 (_ : Nat) (_ : World) : Prop := False
theorem own_no9 {B : Nat} : OwnFrom B noW9 := fun _ _ _ _ h _ _ => h.elim
theorem NoDk.below {w w' : World} {v : Value} (h : NoDk w v) (hb : Below w.heap.size w w') : NoDk w' v := by
  rcases h with h | ⟨d, h, hc⟩
  · exact .inl h
  · exact .inr ⟨d, h, (hb.cell (p := ⟨d, 0, none⟩) (World.block_lt_of_cell? w _ hc)).trans hc⟩
theorem NoDk.one {w : World} {v : Value} (h : NoDk w v) : v.oneCell' = true := by
  rcases h with rfl | ⟨d, rfl, -⟩ <;> rfl
theorem NoDk.at {w w' : World} {v : Value} (h : NoDk w v) (hb : Below w.heap.size w w') : Calls Try.prog 50 #[v] w' fun e w'' => e = .returned (.slice none 0 0) ∧ w' = w'' := dirtyL_no9 (h.below hb)
def ReadsNo9 (bx : Nat) (v : Value) (W : World) : Prop := W.cell? ⟨bx, 0, none⟩ = some v ∧ NoDk W v
set_option maxRecDepth 100000 in
set_option maxHeartbeats 1000000 in
theorem dirty_steps_no (m : Nat) (hm : 1 ≤ m) (bx : Nat) (v : Value) (encs : Nat → Array Value) (I : Nat → World → Prop) (hI : ∀ k W, I k W → ReadsNo9 bx v W) :
    StepsIx Fence.wide m Try.prog 49 #[.pointer (some ⟨bx, 0, none⟩)] encs 0 noW9 noW9 I := by
  intro l J W hJI hsk hY h0
  refine callsIn_of_wp Try.func49 rfl trivial ?_ rfl
  simp only [Try.ntmps49, List.size_toArray, List.length_cons, List.length_nil, Nat.reduceAdd, Nat.reduceSub, Array.replicate_succ, Array.replicate_zero, List.push_toArray, List.append_toArray, List.nil_append, List.cons_append]
  obtain ⟨hb0, hn⟩ := hI 0 W (hJI 0 W h0)
  have HN := Lib.hid hn
  have HJ0 := Lib.hid h0
  clear h0 hn
  gi_wp2_with (refine ⟨trivial, ?_⟩; gi_at_call 50; refine (callsIn_wide.2 (dirtyL_no9 HN.out)).mono ?_; rintro e w' ⟨rfl, rfl⟩)
  refine wpIn_loop_rounds 1 ?_
  rw [roundsIn_succ]
  gi_wp2_with fail
  go_end0
  exact ⟨⟨_, rfl⟩, HJ0.out⟩
theorem eql_seq9 (F : Nat) (w : World) : (binOp .eql 77 (.func (.func 49) #[] #[.pointer (some ⟨F, 0, none⟩)]) .nilFunc).run Try.prog w = .ok (.bool false) w := by kernel_rfl
/-- What is kept while no disk is gone over. -/
def StD (w : World) (B H : Nat) (v : Value) (_k : Nat) (W : World) : Prop :=
  (W.cell? ⟨B, 0, none⟩ = some v ∧ W.cell? ⟨H, 0, none⟩ = some (.bool false) ∧ W.frozen? ⟨H, 0, none⟩ = false) ∧ Below w.heap.size w W
theorem own_stD {w : World} {B H : Nat} {v : Value} (C : Nat) (hC : w.heap.size ≤ C) : OwnFrom C (StD w B H v) :=
  OwnFrom.and (Own.from (fun s A B row hs hg hr => ⟨cell_kept hs.1 hg hr, cell_kept hs.2.1 hg hr, (frozen_kept hs.2.1 hg hr).trans hs.2.2⟩) _) (ownFrom_below (Nat.le_refl _) hC)
theorem below_putObj9 {B D : Nat} {w : World} (o : Obj) (h : B ≤ D) : Below B w (w.putObj D o) := ⟨rfl, rfl, rfl, by simp, fun k hk => World.putObj_heap_other (by omega)⟩
set_option maxRecDepth 100000 in
set_option maxHeartbeats 4000000 in
theorem nothing_any9 {w : World} {v : Value} (h : NoDk w v) : Calls Try.prog 26 #[v] w fun e w' => e = .returned (.bool true) ∧ Below w.heap.size w w' := by
  have HP := Lib.hid h
  have H1 := Lib.hid h.one
  have HA := Lib.hid (h.below ((Below.refl _ w).alloc (Nat.le_refl _) (.cells #[.bool false] 4)))
  have q9 := eql_seq9
  refine (callsIn_wide (n := 5)).1 ?_
  clear h
  refine callsIn_of_wp_marks Try.func26 rfl trivial ?_ rfl
  simp only [Try.ntmps26, List.size_toArray, List.length_cons, List.length_nil, Nat.reduceAdd, Nat.reduceSub, Array.replicate_succ, Array.replicate_zero, List.push_toArray, List.append_toArray, List.nil_append, List.cons_append]
  gi_wp2_with (refine ⟨trivial, ?_⟩; first
    | (gi_at_call 31; refine (callsIn_wide.2 (read_no9 HA.out 0)).mono ?_; rintro e w' ⟨rfl, rfl⟩)
    | (gi_at_call 32; refine (callsIn_wide.2 (flushed_no9 HA.out 0)).mono ?_; rintro e w' ⟨rfl, rfl⟩)
    | (gi_at_call 22; refine (callsIn_wide.2 (crash_no9 HA.out _)).mono ?_; rintro e w' ⟨rfl, rfl⟩)
    | (gi_at_call 34; refine (callsIn_wide.2 (dirty_any9 v _ H1.out)).mono ?_; rintro e w' ⟨rfl, rfl⟩))
  have HB0 := Lib.hid (((Below.refl _ w).alloc (Nat.le_refl _) (.cells #[.bool false] 4)).alloc (by simp) (.cells #[v] 23))
  have r0 := (Below.heap_alloc (w.alloc (.cells #[.bool false] 4)) (.cells #[v] 23) w.heap.size (by simp)).trans (heap_alloc_new w _)
  have r1 := heap_alloc_new (w.alloc (.cells #[.bool false] 4)) (.cells #[v] 23)
  rw [World.size_alloc] at r1
  have C0 := Lib.hid (show ((w.alloc (.cells #[.bool false] 4)).alloc (.cells #[v] 23)).cell? ⟨w.heap.size, 0, none⟩ = some (.bool false) by rw [cell_of_row _ _ _ _ _ _ r0]; rfl)
  have F0 := Lib.hid (frozen_of_row _ _ 0 _ _ r0)
  have C1 := Lib.hid (show ((w.alloc (.cells #[.bool false] 4)).alloc (.cells #[v] 23)).cell? ⟨w.heap.size + 1, 0, none⟩ = some v by rw [cell_of_row _ _ _ _ _ _ r1]; rfl)
  clear r0 r1
  refine range_ix rfl (by omega) (gf := 49) (lb := #[.pointer (some ⟨w.heap.size + 1, 0, none⟩)]) rfl trivial (enters_of Try.func49 (by kernel_rfl) rfl)
    (dirty_steps_no 4 (by omega) (w.heap.size + 1) v (fun _ => #[undef, undef]) (StD w (w.heap.size + 1) w.heap.size v) (fun k W hI => ⟨hI.1.1, HP.out.below hI.2⟩)) (fun _ => rfl)
    (own_stD _ (by simp; omega)) own_no9
    ⟨⟨C1.out, C0.out, F0.out⟩, HB0.out⟩ (fun _ _ h => absurd h (Nat.not_lt_zero _)) ?a1 ?assign (fun _ _ _ h => absurd h (Nat.not_lt_zero _)) ?done
  case assign =>
    intro l k W K hK
    gi_wp2
    exact hK
  case done =>
    rintro D W hD ⟨⟨g0, g1, g2⟩, hB⟩ hK
    have HNW := Lib.hid (HP.out.below hB)
    have HBW := Lib.hid hB
    have HKW := Lib.hid hK
    have HG1 := Lib.hid g1
    have hsB := hB.size
    clear hB g0 hK
    gi_wp2_with (refine ⟨trivial, ?_⟩; first
      | (gi_at_call 10; refine (callsIn_wide.2 (num_any9 _ _)).mono ?_; rintro e w' ⟨rfl, rfl⟩)
      | (gi_at_call 19; refine (callsIn_wide.2 (sector_any9 1 _)).mono ?_; rintro e w6 ⟨g, k, rfl, hg6, hr6, hb6⟩; have HN6 := Lib.hid (HNW.out.below hb6); have HB6 := Lib.hid hb6; have g16 := hb6.cell (World.block_lt_of_cell? W _ HG1.out) |>.trans HG1.out; have g26 : w6.frozen? ⟨w.heap.size, 0, none⟩ = false := (World.frozen?_of_block (a := ⟨w.heap.size, 0, none⟩) (hb6.block _ (World.block_lt_of_cell? W _ HG1.out))).trans g2; clear hg6 hr6 hb6)
      | (gi_at_call 20; refine (callsIn_wide.2 (write_no9 HN6.out 0 _)).mono ?_; rintro e w' ⟨rfl, rfl⟩)
      | (gi_at_call 21; refine (callsIn_wide.2 (flush_no9 HN6.out 0 0)).mono ?_; rintro e w' ⟨rfl, rfl⟩)
      | (gi_at_call 25; refine (callsIn_wide.2 (size_no9 HN6.out)).mono ?_; rintro e w' ⟨rfl, rfl⟩)
      | (gi_at_call 28; refine (callsIn_wide.2 (pending_no9 HN6.out 0)).mono ?_; rintro e w' ⟨rfl, rfl⟩)
      | (gi_at_call 24; refine (callsIn_wide.2 (bytes_no9 HN6.out)).mono ?_; rintro e w' ⟨rfl, rfl⟩)
      | (gi_at_call 30; refine (callsIn_wide.2 (writes_no9 HN6.out)).mono ?_; rintro e w' ⟨rfl, rfl⟩)
      | (gi_at_call 38; refine (callsIn_wide.2 (copy_no9 HN6.out)).mono ?_; rintro e w' ⟨rfl, rfl⟩))
    have hHl : w.heap.size ≠ D := fun e => by have := HG1.out; rw [e] at this; simp [World.cell?, HKW.out] at this
    have hD6 := (HB6.out.block D (Array.getElem?_eq_some_iff.1 HKW.out).1).trans HKW.out
    have hKK : (w6.setCell ⟨w.heap.size, 0, none⟩ (.bool true)).heap[D]? = some (.deferred (some [])) := (Below.heap_setCell _ ⟨w.heap.size, 0, none⟩ _ D (Ne.symm hHl)).trans hD6
    have hc : (w6.setCell ⟨w.heap.size, 0, none⟩ (.bool true)).cell? ⟨w.heap.size, 0, none⟩ = some (.bool true) := World.cell?_setCell_same' _ _ _ (by rw [g16]; rfl)
    have hDw : w.heap.size ≤ D := by simp at hD; omega
    refine ⟨by simp, .inl ⟨_, _, rfl, run_takeDeferred hKK, ?_⟩⟩
    refine ⟨.bool true, ?_, rfl, ((HBW.out.trans (HB6.out.mono hsB)).setCell (by show w.heap.size ≤ w.heap.size; omega) _).trans (below_putObj9 _ hDw)⟩
    have hc2 : ((w6.setCell ⟨w.heap.size, 0, none⟩ (.bool true)).putObj D (.deferred none)).cell? ⟨w.heap.size, 0, none⟩ = some (.bool true) := (World.cell?_of_block (a := ⟨w.heap.size, 0, none⟩) (World.putObj_heap_other hHl)).trans hc
    simp [results, Try.f26, go_sem, hc2]
end Go.Proofs.Ytbnfjceoogehmaa
