/- FramesNil: the walk. -/
import Derived.Test.YtjbamldhoeblbaaFrmNoB
namespace Go.Proofs.Ytjbamldhoeblbaa
open Go.RowKit Go.Shelf
attribute [local go_sem] Oper.semAt_some

theorem one_below {W W1 : World} {b o : Nat} {v : Value} (hb : Below W.heap.size W W1) (h : W.cell? ⟨b, o, none⟩ = some v) : W1.cell? ⟨b, o, none⟩ = some v := (hb.cell (p := ⟨b, o, none⟩) (World.block_lt_of_cell? W _ h)).trans h
theorem one_frozen {W W1 : World} {b o : Nat} {v : Value} (hb : Below W.heap.size W W1) (h : W.cell? ⟨b, o, none⟩ = some v) (hz : W.frozen? ⟨b, o, none⟩ = false) : W1.frozen? ⟨b, o, none⟩ = false := (hb.frozen (p := ⟨b, o, none⟩) (World.block_lt_of_cell? W _ h)).trans hz

theorem seq_there (B : Nat) (w : World) : (binOp .eql 69 (.func (.func 59) #[] #[.pointer (some ⟨B, 0, none⟩)]) .nilFunc).run Try.prog w = .ok (.bool false) w := by kernel_rfl
/-- What is kept while no pool is gone over. -/
def StN (w : World) (B H : Nat) (_k : Nat) (W : World) : Prop :=
  (W.cell? ⟨B, 0, none⟩ = some (.slice none 0 0) ∧ W.cell? ⟨H, 0, none⟩ = some (.bool false) ∧ W.frozen? ⟨H, 0, none⟩ = false) ∧ Below w.heap.size w W
theorem own_stN {w : World} {B H : Nat} (C : Nat) (hC : w.heap.size ≤ C) : OwnFrom C (StN w B H) :=
  OwnFrom.and (Own.from (fun s A B row hs hg hr => ⟨cell_kept hs.1 hg hr, cell_kept hs.2.1 hg hr, (frozen_kept hs.2.1 hg hr).trans hs.2.2⟩) _) (ownFrom_below (Nat.le_refl _) hC)

set_option maxRecDepth 100000 in
set_option maxHeartbeats 4000000 in
theorem stands_x {w : World} {v : Value} (h : NoP w v) (h1 : v.oneCell' = true) (x : Int) : Calls Try.prog 12 #[v, .pointer none, .int .i64 x] w fun e w' => e = .returned (.bool true) ∧ Below w.heap.size w w' := by
  refine (callsIn_wide (n := 5)).1 ?_
  have HP := Lib.hid h
  have H1 := Lib.hid h1
  clear h h1
  refine callsIn_of_wp_marks Try.func12 rfl trivial ?_ rfl
  simp only [Try.ntmps12, List.size_toArray, List.length_cons, List.length_nil, Nat.reduceAdd, Nat.reduceSub, Array.replicate_succ, Array.replicate_zero, List.push_toArray, List.append_toArray, List.nil_append, List.cons_append]
  refine wpIn_wide.2 ?_
  go_wp2
  have c0 := cell_new_f w (.pointer none) 29
  have c2 := cell_new_f ((w.alloc (.cells #[.pointer none] 29)).alloc (.cells #[.int .i64 x] 3)) (.bool false) 4
  simp only [World.size_alloc] at c2
  have e0 : ((((w.alloc (.cells #[.pointer none] 29)).alloc (.cells #[.int .i64 x] 3)).alloc (.cells #[.bool false] 4))).cell? ⟨w.heap.size, 0, none⟩ = some (.pointer none) := cell_alloc_f _ (cell_alloc_f _ c0.1)
  have hB0 : Below w.heap.size w (((w.alloc (.cells #[.pointer none] 29)).alloc (.cells #[.int .i64 x] 3)).alloc (.cells #[.bool false] 4)) := (((Below.refl _ w).alloc (Nat.le_refl _) _).alloc (by simp) _).alloc (by simp; omega) _
  obtain ⟨e2, e3⟩ := c2
  clear c0
  generalize (((w.alloc (.cells #[.pointer none] 29)).alloc (.cells #[.int .i64 x] 3)).alloc (.cells #[.bool false] 4)) = w3 at e0 e2 e3 hB0 ⊢
  have E0 := Lib.hid e0
  have E2 := Lib.hid e2
  have E3 := Lib.hid e3
  have HB0 := Lib.hid hB0
  clear e0 e2 e3 hB0
  go_loopw [7] (fun i W => ∃ k : Nat, k ≤ 10 ∧ i = .int .i64 ((k : Int) - 1) ∧ Below w3.heap.size w3 W) (fun i _ => (9 - intOf i).toNat)
  case atStart => exact ⟨0, Nat.zero_le _, rfl, Below.refl _ _⟩
  case round =>
    obtain ⟨k, hk, rfl, hb⟩ := hrel
    have HB := Lib.hid hb
    have d0 := one_below hb E0.out
    have hnp := HP.out.below (HB0.out.trans (hb.mono HB0.out.size))
    have HN := Lib.hid hnp
    clear hb hnp
    by_cases hlt : k < 10
    · have hle : (k : Int) - 1 ≤ 8 := by omega
      have hkl : (k : Int) < 10 := by omega
      go_wp2_with fail
      go_region_held3 (fun W => W.cell? ⟨w.heap.size, 0, none⟩ = some (.pointer none))
        (first | exact one_below hB4 d0 | go_keep)
        (first
          | (go_at_call 16; refine (used_x (HN.out.below (by exact (Below.refl _ wr).drew)) H1.out _).mono ?_; rintro e w4 ⟨rfl, hb4⟩; have hB4 : Below wr.heap.size wr w4 := (Below.refl _ wr).drew.trans hb4; clear hb4)
          | (go_at_call 30; refine (rused_nil _ _).mono ?_; rintro e w' ⟨rfl, rfl⟩)
          | (go_at_call 22; refine (quota_x (HN.out.below hB4) _).mono ?_; rintro e w' ⟨rfl, rfl⟩)
          | (go_at_call 31; refine (rquota_nil _ _).mono ?_; rintro e w' ⟨rfl, rfl⟩))
      have HB5 := Lib.hid (HB.out.trans (hB4.mono HB.out.size))
      clear hB4
      go_wp2
      go_roundw
      case rel => exact ⟨k + 1, by omega, congrArg (Value.int .i64) (by omega), HB5.out⟩
      case measure => simp [intOf]; omega
    · obtain rfl : k = 10 := by omega
      go_wp2_with (first
        | (go_at_call 32; refine (all_x HN.out H1.out).mono ?_; rintro e w5 ⟨B, rfl, hc5, hb5⟩; have f0 := one_below hb5 d0; have HC5 := Lib.hid hc5; have HB5 := Lib.hid hb5; clear hc5 hb5))
      have hsq := fun w => seq_there B w
      have hnp5 := Lib.hid (HN.out.below HB5.out)
      go_region_held3 (fun W => W.cell? ⟨w.heap.size, 0, none⟩ = some (.pointer none))
        (first | go_keep)
        (first
          | (go_at_call 21; refine (free_x (hnp5.out.below (by exact (Below.refl _ w5).drew))).mono ?_; rintro e w' ⟨rfl, rfl⟩)
          | (go_at_call 33; refine (rfree_nil _).mono ?_; rintro e w' ⟨rfl, rfl⟩))
      have hbb : Below w3.heap.size w3 w5 := HB.out.trans (HB5.out.mono HB.out.size)
      have hI0 : StN w B (w.heap.size + 1 + 1) 0 w5.drew := ⟨⟨by rw [World.cell?_drew]; exact HC5.out, by rw [World.cell?_drew]; exact one_below hbb E2.out, by rw [World.frozen?_drew]; exact one_frozen hbb E2.out E3.out⟩, (HB0.out.trans (hbb.mono HB0.out.size)).drew⟩
      have HI0 := Lib.hid hI0
      have hsz : w.heap.size ≤ w5.heap.size := (HB0.out.trans (hbb.mono HB0.out.size)).size
      clear hbb hI0
      go_wp2
      refine (wpIn_wide (n := 5)).1 ?_
      refine range_ix rfl (by omega) (gf := 59) (lb := #[.pointer (some ⟨B, 0, none⟩)]) rfl trivial (enters_of Try.func59 (by kernel_rfl) rfl)
        (values_no 4 (by omega) B (fun _ => #[undef]) (StN w B (w.heap.size + 1 + 1)) (fun k W hI => hI.1.1)) (fun _ => rfl)
        (own_stN _ hsz) own_no HI0.out (fun _ _ h => absurd h (Nat.not_lt_zero _)) ?a1 ?assign (fun _ _ _ h => absurd h (Nat.not_lt_zero _)) ?done
      case assign =>
        intro l k W K hK
        gi_wp2
        exact hK
      case done =>
        rintro D W hD ⟨⟨g0, g1, g2⟩, hB⟩ hK
        have HNW := Lib.hid (HP.out.below hB)
        have HBW := Lib.hid hB
        clear hB
        have hHl : w.heap.size + 1 + 1 ≠ D := fun e => by rw [e] at g1; simp [World.cell?, hK] at g1
        have hKK := Lib.hid (show (W.setCell ⟨w.heap.size + 1 + 1, 0, none⟩ (.bool true)).heap[D]? = some (.deferred (some [])) from (Below.heap_setCell _ ⟨w.heap.size + 1 + 1, 0, none⟩ _ D (Ne.symm hHl)).trans hK)
        have hc : (W.setCell ⟨w.heap.size + 1 + 1, 0, none⟩ (.bool true)).cell? ⟨w.heap.size + 1 + 1, 0, none⟩ = some (.bool true) := World.cell?_setCell_same' _ _ _ (by rw [g1]; rfl)
        have HC := Lib.hid hc
        have hDw : w.heap.size ≤ D := by simp at hD; omega
        clear hc
        go_wp2_with (go_at_call 13; refine (clone_x HNW.out).mono ?_; rintro e w' ⟨rfl, rfl⟩)
        refine ⟨by simp, .inl ⟨_, _, rfl, run_takeDeferred hKK.out, ?_⟩⟩
        refine ⟨.bool true, ?_, rfl, (HBW.out.setCell (by show w.heap.size ≤ w.heap.size + 1 + 1; omega) _).trans (below_putObj_f _ hDw)⟩
        have hc2 : ((W.setCell ⟨w.heap.size + 1 + 1, 0, none⟩ (.bool true)).putObj D (.deferred none)).cell? ⟨w.heap.size + 1 + 1, 0, none⟩ = some (.bool true) := (World.cell?_of_block (a := ⟨w.heap.size + 1 + 1, 0, none⟩) (World.putObj_heap_other hHl)).trans HC.out
        simp [results, Try.f12, go_sem, hc2]


/-- One of the two pools that are none. -/
theorem pool_none {w W : World} (hb : Below w.heap.size w W) {g : Nat} (h : w.heap[g]? = some (.cells #[.slice none 0 0, .slice none 0 0] 61 (0, 0))) {b : Nat} (h2 : w.heap[b]? = some (.cells #[.pointer none, .pointer (some ⟨g, 0, none⟩)] 25 (0, 0))) (k : Nat) (hk : k < 2) :
    ∃ V : Value, W.cell? ⟨b, k, none⟩ = some V ∧ NoP W V ∧ V.oneCell' = true := by
  have hc : ∀ j, W.cell? ⟨b, j, none⟩ = (#[Value.pointer none, .pointer (some ⟨g, 0, none⟩)] : Array Value)[j]? := fun j => by
    have hl := (Array.getElem?_eq_some_iff.1 h2).1
    rw [hb.cell (p := ⟨b, j, none⟩) hl, cell_of_row _ _ _ _ _ _ h2]
  match k, hk with
  | 0, _ => exact ⟨.pointer none, by rw [hc]; rfl, nop_nil W, rfl⟩
  | 1, _ => exact ⟨.pointer (some ⟨g, 0, none⟩), by rw [hc]; rfl, (nop_zero (w := w) (by rw [cell_of_row _ _ _ _ _ _ h]; rfl)).below hb, rfl⟩

set_option maxRecDepth 100000 in
set_option maxHeartbeats 4000000 in
theorem nil_any (w : World) : Calls Try.prog 8 #[] w fun e w' => e = .returned (.bool true) ∧ Below w.heap.size w w' := by
  go_enter Try.func8, Try.ntmps8
  go_wp2
  have r0 : ((w.alloc (.cells #[.slice none 0 0, .slice none 0 0] 61)).alloc (.cells #[.pointer none, .pointer (some ⟨w.heap.size, 0, none⟩)] 25)).heap[w.heap.size]? = some (.cells #[.slice none 0 0, .slice none 0 0] 61 (0, 0)) := (Below.heap_alloc _ _ _ (by simp)).trans (heap_alloc_new w _)
  have r1 := alloc2 w (.cells #[.slice none 0 0, .slice none 0 0] 61) (.cells #[.pointer none, .pointer (some ⟨w.heap.size, 0, none⟩)] 25)
  have hB0 : Below w.heap.size w ((w.alloc (.cells #[.slice none 0 0, .slice none 0 0] 61)).alloc (.cells #[.pointer none, .pointer (some ⟨w.heap.size, 0, none⟩)] 25)) := ((Below.refl _ w).alloc (Nat.le_refl _) _).alloc (by simp) _
  generalize ((w.alloc (.cells #[.slice none 0 0, .slice none 0 0] 61)).alloc (.cells #[.pointer none, .pointer (some ⟨w.heap.size, 0, none⟩)] 25)) = w2 at r0 r1 hB0 ⊢
  have R0 := Lib.hid r0
  have R1 := Lib.hid r1
  have HB0 := Lib.hid hB0
  clear r0 r1 hB0
  go_loopw [2] (fun i W => ∃ k : Nat, k ≤ 2 ∧ i = .int .i64 k ∧ Below w2.heap.size w2 W) (fun i _ => 2 - (intOf i).toNat)
  case atStart => exact ⟨0, Nat.zero_le _, rfl, Below.refl _ _⟩
  case round =>
    obtain ⟨k, hk, rfl, hb⟩ := hrel
    have HB := Lib.hid hb
    clear hb
    by_cases hlt : k < 2
    · have hki : (k : Int) < 2 := by omega
      obtain ⟨V, hV, hN, h1⟩ := pool_none HB.out R0.out R1.out k hlt
      have HN := Lib.hid hN
      have H1 := Lib.hid h1
      clear hN h1
      go_wp2_with (first
        | (go_at_call 17; refine (grant_x HN.out 0).mono ?_; rintro e w' ⟨rfl, rfl⟩)
        | (go_at_call 19; refine (drop_x HN.out 0).mono ?_; rintro e w' ⟨rfl, rfl⟩)
        | (go_at_call 26; refine (byte_x HN.out 0 (-1)).mono ?_; rintro e w' ⟨rfl, rfl⟩)
        | (go_at_call 23; refine (page_x HN.out 0).mono ?_; rintro e w' ⟨rfl, rfl⟩)
        | (go_at_call 27; refine (of_x HN.out 0).mono ?_; rintro e w4 ⟨rfl, hb4⟩; have HN4 := fun o => Lib.hid ((HN.out.below hb4).below ((Below.refl _ w4).alloc (Nat.le_refl _) o)); have HB4 := fun o => Lib.hid (hb4.alloc hb4.size o); clear hb4)
        | (go_at_call 20; refine (drops_x (HN4 _).out 0).mono ?_; rintro e w5 ⟨rfl, hb5⟩; have HN5 := Lib.hid ((HN4 _).out.below hb5); have HB5 := Lib.hid ((HB4 _).out.trans (hb5.mono (HB4 _).out.size)); clear hb5)
        | (go_at_call 18; refine (hold_x HN5.out 0).mono ?_; rintro e w' ⟨rfl, rfl⟩)
        | (go_at_call 25; refine (put_x HN5.out 0 (-1)).mono ?_; rintro e w' ⟨rfl, rfl⟩)
        | (go_at_call 28; refine (copy_x HN5.out 0 0).mono ?_; rintro e w' ⟨rfl, rfl⟩)
        | (go_at_call 12; refine (stands_x HN5.out H1.out 0).mono ?_; rintro e w6 ⟨rfl, hb6⟩; have HB6 := Lib.hid (HB5.out.trans (hb6.mono HB5.out.size)); clear hb6))
      go_roundw
      case rel => exact ⟨k + 1, by omega, by go_num, HB.out.trans (HB6.out.mono HB.out.size)⟩
      case measure => simp [intOf]; omega
    · have hge : ¬ (k : Int) < 2 := by omega
      go_wp2_with (go_at_call 9; refine (known_any _).mono ?_; rintro e w6 ⟨rfl, hb6⟩; have HB6 := Lib.hid (HB.out.trans (hb6.mono HB.out.size)); clear hb6)
      go_ret
      exact ⟨rfl, HB0.out.trans (HB6.out.mono HB0.out.size)⟩

end Go.Proofs.Ytjbamldhoeblbaa
