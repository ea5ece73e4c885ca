/- The walk of IsaOps: the ops gone over twice, the bounds tried. -/
import Derived.Test.YtnkkomodpjgefabDoorIsaOps
import Derived.Test.YtnkkomodpjgefabDoorIsaKnown
namespace Go.Proofs.YtnkkomodpjgefabDoor
open Go.RowKit Go.Shelf
attribute [local go_sem] Oper.semAt_some

/-- Of the ops gone over, the last one's number is how many they are. -/
theorem ops_last {k : Nat} {pre : List OpNo} {x : OpNo} (hk : k ≤ 28) (h : opsUpto k = pre ++ [x]) : x.1 = (pre.length : Int) + 1 := by
  have hl := congrArg List.length h
  rw [opsUpto_length k hk, List.length_append] at hl
  simp at hl
  subst hl
  rw [opsUpto_succ _ (by omega)] at h
  have := List.append_inj' h rfl
  simp at this
  rw [← this.2]

theorem eql_fn (w : World) : (binOp .eql 23 (.func (.func 9) #[] #[]) .nilFunc).run Tryd.prog w = .ok (.bool false) w := by kernel_rfl

/-- What holds while a turn goes on: the turn, how many came, the result's cell, the marks of turns that are over. -/
def TurnI (w : World) (R T N : Nat) (t : Int) (Ds : List Nat) (pre : List OpNo) (W : World) : Prop :=
  ((t = 0 → pre.length < 5) ∧ W.cell? ⟨T, 0, none⟩ = some (.int .i64 t) ∧ W.cell? ⟨N, 0, none⟩ = some (.int .i64 (pre.length : Int)) ∧ W.frozen? ⟨N, 0, none⟩ = false ∧ W.cell? ⟨R, 0, none⟩ = some (.bool false) ∧ W.frozen? ⟨R, 0, none⟩ = false) ∧ (∀ D ∈ Ds, W.heap[D]? = some (.deferred (some []))) ∧ Below w.heap.size w W
/-- And where it is left: at the fifth, or by a return that never comes. -/
def TurnX (w : World) (R T : Nat) (t : Int) (Ds : List Nat) (c : Code) (pre : List OpNo) (W : World) : Prop :=
  ((c = .exit 2 ∧ t = 0 ∧ W.cell? ⟨T, 0, none⟩ = some (.int .i64 t) ∧ W.cell? ⟨R, 0, none⟩ = some (.bool false) ∧ W.frozen? ⟨R, 0, none⟩ = false ∧ ∀ D ∈ Ds, W.heap[D]? = some (.deferred (some []))) ∨ (c = .ret ∧ ¬ ∃ k, k ≤ 28 ∧ pre = opsUpto k)) ∧ Below w.heap.size w W

theorem turnI_own (w : World) (R T N : Nat) (t : Int) (Ds : List Nat) (B : Nat) (hB : w.heap.size ≤ B) (hD : ∀ D ∈ Ds, D < B) : OwnFrom B (TurnI w R T N t Ds) := by
  intro pre A A' row hs hg hr
  have hr' := fun r e => (hr r e).2
  obtain ⟨⟨h0, h1, h2, h3, h4, h5⟩, h6, h7⟩ := hs
  refine ⟨⟨h0, cell_kept h1 hg hr', cell_kept h2 hg hr', (frozen_kept h2 hg hr').trans h3, cell_kept h4 hg hr', (frozen_kept h4 hg hr').trans h5⟩, fun D hd => ?_, h7.grown hg h7.size (fun k e => Nat.le_trans hB (hr k e).1)⟩
  have h := h6 D hd
  rw [hg.block D (Array.getElem?_eq_some_iff.1 h).1 (fun e => by have := (hr D e.symm).1; have := hD D hd; omega)]; exact h
theorem turnX_own (w : World) (R T : Nat) (t : Int) (Ds : List Nat) (c : Code) (B : Nat) (hB : w.heap.size ≤ B) (hD : ∀ D ∈ Ds, D < B) : OwnFrom B (TurnX w R T t Ds c) := by
  intro pre A A' row hs hg hr
  have hr' := fun r e => (hr r e).2
  obtain ⟨h, h7⟩ := hs
  refine ⟨?_, h7.grown hg h7.size (fun k e => Nat.le_trans hB (hr k e).1)⟩
  rcases h with ⟨hc, ht, h1, h4, h5, h6⟩ | h
  · refine Or.inl ⟨hc, ht, cell_kept h1 hg hr', cell_kept h4 hg hr', (frozen_kept h4 hg hr').trans h5, fun D hd => ?_⟩
    have h := h6 D hd
    rw [hg.block D (Array.getElem?_eq_some_iff.1 h).1 (fun e => by have := (hr D e.symm).1; have := hD D hd; omega)]; exact h
  · exact Or.inr h

/-- One op more: the world behind it. -/
theorem turn_step {w W : World} {R T N : Nat} {t : Int} {Ds : List Nat} {pre : List OpNo} (x : OpNo) (h : TurnI w R T N t Ds pre W) (hTN : T ≠ N) (hRN : R ≠ N) (hwN : w.heap.size ≤ N) (ht : t = 0 → pre.length + 1 < 5) (hDN : ∀ D ∈ Ds, D ≠ N) (o : Obj) :
    TurnI w R T N t Ds (pre ++ [x]) ((W.setCell ⟨N, 0, none⟩ (.int .i64 ((pre.length : Int) + 1))).alloc o).drew := by
  obtain ⟨⟨h0, h1, h2, h3, h4, h5⟩, h6, h7⟩ := h
  have kc : ∀ {b : Nat} {v : Value}, b ≠ N → W.cell? ⟨b, 0, none⟩ = some v → (W.setCell ⟨N, 0, none⟩ (.int .i64 ((pre.length : Int) + 1))).cell? ⟨b, 0, none⟩ = some v := fun hb e => (World.cell?_of_block (w := W) (Below.heap_setCell W ⟨N, 0, none⟩ _ _ hb)).trans e
  have kf : ∀ {b : Nat} {f : Bool}, b ≠ N → W.frozen? ⟨b, 0, none⟩ = f → (W.setCell ⟨N, 0, none⟩ (.int .i64 ((pre.length : Int) + 1))).frozen? ⟨b, 0, none⟩ = f := fun hb e => (World.frozen?_of_block (w := W) (Below.heap_setCell W ⟨N, 0, none⟩ _ _ hb)).trans e
  have hN := World.cell?_setCell_same W ⟨N, 0, none⟩ (.int .i64 ((pre.length : Int) + 1)) h2
  have hNf : (W.setCell ⟨N, 0, none⟩ (.int .i64 ((pre.length : Int) + 1))).frozen? ⟨N, 0, none⟩ = false := by simpa using h3
  refine ⟨⟨fun e => by rw [List.length_append]; exact ht e, cell_alloc_l o (kc hTN h1), ?_, frozen_alloc_l o hN hNf, cell_alloc_l o (kc hRN h4), frozen_alloc_l o (kc hRN h4) (kf hRN h5)⟩, fun D hd => ?_, ((h7.setCell (p := ⟨N, 0, none⟩) hwN _).alloc (by have := h7.size; simpa using this) o).drew⟩
  · have := cell_alloc_l o hN
    rw [List.length_append]; simpa using this
  · have hd' := h6 D hd
    show ((W.setCell ⟨N, 0, none⟩ _).alloc o).heap[D]? = _
    rw [Below.heap_alloc _ _ _ (by have := (Array.getElem?_eq_some_iff.1 hd').1; simpa using this), Below.heap_setCell _ _ _ _ (hDN D hd)]; exact hd'
theorem turn_x {w W : World} {R T N : Nat} {t : Int} {Ds : List Nat} {pre : List OpNo} (h : TurnI w R T N t Ds pre W) (hTN : T ≠ N) (hRN : R ≠ N) (v : Value) (o : Obj) :
    ((W.setCell ⟨N, 0, none⟩ v).alloc o).drew.cell? ⟨T, 0, none⟩ = some (.int .i64 t) ∧ ((W.setCell ⟨N, 0, none⟩ v).alloc o).drew.cell? ⟨R, 0, none⟩ = some (.bool false) ∧ ((W.setCell ⟨N, 0, none⟩ v).alloc o).drew.frozen? ⟨R, 0, none⟩ = false := by
  obtain ⟨⟨h0, h1, h2, h3, h4, h5⟩, h6, h7⟩ := h
  have kc : ∀ {b : Nat} {u : Value}, b ≠ N → W.cell? ⟨b, 0, none⟩ = some u → (W.setCell ⟨N, 0, none⟩ v).cell? ⟨b, 0, none⟩ = some u := fun hb e => (World.cell?_of_block (w := W) (Below.heap_setCell W ⟨N, 0, none⟩ _ _ hb)).trans e
  have kf : ∀ {b : Nat} {f : Bool}, b ≠ N → W.frozen? ⟨b, 0, none⟩ = f → (W.setCell ⟨N, 0, none⟩ v).frozen? ⟨b, 0, none⟩ = f := fun hb e => (World.frozen?_of_block (w := W) (Below.heap_setCell W ⟨N, 0, none⟩ _ _ hb)).trans e
  exact ⟨cell_alloc_l o (kc hTN h1), cell_alloc_l o (kc hRN h4), frozen_alloc_l o (kc hRN h4) (kf hRN h5)⟩
theorem turn_b {w W : World} {R T N : Nat} {t : Int} {Ds : List Nat} {pre : List OpNo} (h : TurnI w R T N t Ds pre W) (hwN : w.heap.size ≤ N) (v : Value) (o : Obj) : Below w.heap.size w ((W.setCell ⟨N, 0, none⟩ v).alloc o).drew :=
  ((h.2.2.setCell (p := ⟨N, 0, none⟩) hwN _).alloc (by have := h.2.2.size; simpa using this) o).drew
theorem turn_keeps (W : World) (N n₀ : Nat) (v : Value) (o : Obj) (hN : N < n₀) : KeepsOthers W ((W.setCell ⟨N, 0, none⟩ v).alloc o).drew ∧ KeepsNew n₀ W ((W.setCell ⟨N, 0, none⟩ v).alloc o).drew :=
  ⟨((KeepsOthers.setCell _ _ _).trans (KeepsOthers.alloc _ _)).trans (KeepsOthers.drew _), ((KeepsNew.set W ⟨N, 0, none⟩ v hN).trans (KeepsNew.alloc _ o)).trans (fun _ _ _ _ _ h => h)⟩

set_option maxRecDepth 100000 in
set_option maxHeartbeats 8000000 in
theorem ops_law_in (w : World) (he : Env w) :
    CallsIn Fence.wide 5 Tryd.prog 3 #[] w fun e W' => e = .returned (.bool true) ∧ Below w.heap.size w W' := by
  refine callsIn_of_wp_marks Tryd.func3 rfl trivial ?_ rfl
  simp only [Tryd.ntmps3, List.size_toArray, List.length_cons, List.length_nil, Nat.reduceAdd, Nat.reduceSub, Array.replicate_succ, Array.replicate_zero, List.push_toArray, List.append_toArray, List.nil_append, List.cons_append]
  have hfn := eql_fn
  have hmx : Tryd.prog.follows .mixedOrders = true := by kernel_rfl
  have HE := Lib.hid he
  clear he
  gi_wp2_with (refine ⟨trivial, ?_⟩; gi_at_call 4; refine (callsIn_wide.2 (ops_any _)).mono ?_; rintro e w' ⟨rfl, rfl⟩)
  refine wpIn_loop_rounds 3 ?_
  rw [roundsIn_succ]
  gi_wp2
  have hR0 := cell_new_l w (.bool false) 4
  have hT0 := cell_new_l (w.alloc (.cells #[.bool false] 4)) (.int .i64 0) 3
  have hN0 := cell_new_l ((w.alloc (.cells #[.bool false] 4)).alloc (.cells #[.int .i64 0] 3)) (.int .i64 0) 3
  simp only [World.size_alloc] at hT0 hN0
  have hB0 : Below w.heap.size w (((w.alloc (.cells #[.bool false] 4)).alloc (.cells #[.int .i64 0] 3)).alloc (.cells #[.int .i64 0] 3)) := (((Below.refl _ w).alloc (Nat.le_refl _) _).alloc (by simp) _).alloc (by simp; omega) _
  refine wpIn_rangeFunc_ownF rfl (by omega) (gf := 9) (lb := #[]) rfl trivial (enters_of Tryd.func9 (by kernel_rfl) rfl)
    (ops_stops 4 (by omega) (w.heap.size + 1 + 1 + 1) _ (by simp)) KeepsNew.trans keepsNew_b (Below.refl _ _) (fun _ => rfl)
    (TurnI w (w.heap.size) (w.heap.size + 1) (w.heap.size + 1 + 1) 0 []) (TurnX w (w.heap.size) (w.heap.size + 1) 0 []) (turnI_own _ _ _ _ _ _ _ (by simp; omega) (fun D h => by cases h)) (fun c => turnX_own _ _ _ _ _ c _ (by simp; omega) (fun D h => by cases h)) ⟨⟨fun _ => by decide, cell_alloc_l _ hT0.1, hN0.1, hN0.2, cell_alloc_l _ (cell_alloc_l _ hR0.1), frozen_alloc_l _ (cell_alloc_l _ hR0.1) (frozen_alloc_l _ hR0.1 hR0.2)⟩, (fun D h => by cases h), hB0⟩
    (fun x => { tmps := #[.pointer (some ⟨w.heap.size, 0, none⟩), .func (.func 9) #[] #[], .pointer (some ⟨w.heap.size + 1, 0, none⟩), .pointer (some ⟨w.heap.size + 1 + 1, 0, none⟩), .int .i64 x.1, .string (nameOf x.1), undef, undef, undef, undef, undef, undef, undef, undef, .func (.func 9) #[] #[], .func (.func 9) #[] #[], .bool false, .int .i64 0, .bool true, undef, undef, .func (.func 9) #[] #[], .int .i64 x.1, .string (nameOf x.1), undef, undef, undef, undef, undef, undef, undef, undef, undef, undef, undef, undef, undef, undef, undef, undef, undef, undef, undef, undef, undef, undef, undef, undef, undef, undef, undef, undef, undef, undef, undef, undef, undef, undef, undef, undef, undef, undef, undef, undef, undef, undef, undef, undef, undef, undef, undef, undef, undef, undef, undef, undef, undef, undef, undef, undef, undef, undef, undef, undef, undef, undef, undef, undef, undef, undef, undef, undef, undef, undef, undef, undef, undef, undef, undef, undef, undef, undef, undef, undef, undef, undef], defers := [] }) ?assign ?body ?done ?stop
  case assign =>
    intro l x W K hK
    gi_wp2
    exact hK
  case body =>
    rintro l pre x W hI hp28
    have hI' := hI
    obtain ⟨⟨hlen, hT, hN, hfN, hR, hfR⟩, hDk, hB⟩ := hI'
    have hs := hB.size
    have hNW : w.heap.size + 1 + 1 < W.heap.size := World.block_lt_of_cell? W _ hN
    have hTW : w.heap.size + 1 < W.heap.size := World.block_lt_of_cell? W _ hT
    have hRW : w.heap.size < W.heap.size := World.block_lt_of_cell? W _ hR
    have hKK := turn_keeps W (w.heap.size + 1 + 1) (w.heap.size + 1 + 1 + 1) (.int .i64 ((pre.length : Int) + 1)) (.cells nameCells 9) (by omega)
    by_cases hx : x.1 = (pre.length : Int) + 1
    · have hST := fun ht => turn_step x hI (by omega) (by omega) (by omega) ht (fun D h => by cases h) (.cells nameCells 9)
      obtain ⟨v, hv0, hv28⟩ := x
      simp only at hx
      subst hx
      have hp0 : (0 : Int) ≤ (pre.length : Int) := by omega
      have hnc : nameCells[pre.length + 1]? = some (.string (nameOf ((pre.length : Int) + 1))) := name_cell _ (by omega)
      have hd28 : decide ((28 : Int) < (pre.length : Int) + 1) = false := by simp; omega
      have HST := Lib.hid hST
      have HI := Lib.hid hI
      have HK := Lib.hid hKK
      have hl5 := hlen rfl
      clear hST hI hKK hlen hDk
      by_cases h5 : pre.length = 4
      · have h5' : ((pre.length : Int) + 1 == 5) = true := by rw [beq_iff_eq]; omega
        have H5 := Lib.hid h5
        clear h5
        gi_wp2
        gi_region_with_o (refine ⟨trivial, ?_⟩; gi_at_call 5; refine ((callsIn_wide.2 (rNames_any _)).inRound l).mono ?_; rintro e w' ⟨rfl, rfl⟩)
        all_goals
          gi_wp2
          exact ⟨HK.out.1, Or.inl ⟨rfl, rfl, (turn_x HI.out (by omega) (by omega) _ _).1, (turn_x HI.out (by omega) (by omega) _ _).2.1, (turn_x HI.out (by omega) (by omega) _ _).2.2, fun D h => by cases h⟩, turn_b HI.out (by omega) _ _⟩
      · have h5' : ((pre.length : Int) + 1 == 5) = false := by rw [beq_eq_false_iff_ne]; omega
        have H5 := Lib.hid h5
        clear h5
        gi_wp2
        gi_region_with_o (refine ⟨trivial, ?_⟩; gi_at_call 5; refine ((callsIn_wide.2 (rNames_any _)).inRound l).mono ?_; rintro e w' ⟨rfl, rfl⟩)
        all_goals
          gi_wp2
          exact ⟨HK.out.1, HK.out.2, HST.out (fun _ => by have := H5.out; omega)⟩
    · have hnot : ¬ ∃ k, k ≤ 28 ∧ pre ++ [x] = opsUpto k := fun ⟨k, hk, e⟩ => hx (ops_last hk e.symm)
      have hxn : (x.1 == (pre.length : Int) + 1) = false := by rw [beq_eq_false_iff_ne]; exact hx
      have hxn2 : (x.1 != (pre.length : Int) + 1) = true := by rw [bne_iff_ne]; exact hx
      clear hx hI hKK hlen hDk
      have HN := Lib.hid hnot
      clear hnot
      have hS1 := (hB.setCell (p := ⟨w.heap.size + 1 + 1, 0, none⟩) (show w.heap.size ≤ w.heap.size + 1 + 1 by omega) (.int .i64 ((pre.length : Int) + 1))).setCell (p := ⟨w.heap.size, 0, none⟩) (Nat.le_refl _) (.bool false)
      have hS2 := ((hB.setCell (p := ⟨w.heap.size + 1 + 1, 0, none⟩) (show w.heap.size ≤ w.heap.size + 1 + 1 by omega) (.int .i64 ((pre.length : Int) + 1))).drew).setCell (p := ⟨w.heap.size, 0, none⟩) (Nat.le_refl _) (.bool false)
      have hS3 := hS1.drew
      gi_wp2
      gi_region_with_o (first | (refine ⟨trivial, ?_⟩; gi_at_call 5; refine ((callsIn_wide.2 (rNames_any _)).inRound l).mono ?_; rintro e w' ⟨rfl, rfl⟩) | (refine ⟨trivial, ?_⟩))
      all_goals
        gi_wp2
        exact ⟨(KeepsOthers.setCell _ _ _).trans (by first | exact KeepsOthers.refl _ | exact (KeepsOthers.drew _).trans (KeepsOthers.setCell _ _ _) | exact KeepsOthers.drew _), Or.inr ⟨rfl, HN.out⟩, by first | exact hS1 | exact hS2 | exact hS3⟩
  case done =>
    rintro D ys W hD rfl ⟨⟨h5, -⟩, -⟩ hK
    have := h5 rfl
    rw [opsUpto_length 28 (by omega)] at this; omega
  case stop =>
    rintro D1 c pre1 W1 hD1 hk1 ⟨⟨rfl, -, hT1, hR1, hfR1, -⟩ | ⟨rfl, hn1⟩, hB1⟩ hK1
    · simp at hD1
      have hDl : D1 < W1.heap.size := (Array.getElem?_eq_some_iff.1 hK1).1
      have hw1 := hB1.size
      clear hk1 hR0 hT0 hN0 hB0
      gi_wp2
      rw [roundsIn_succ]
      gi_wp2
      have hT2 := cell_new_l W1 (.int .i64 1) 3
      have hN2 := cell_new_l (W1.alloc (.cells #[.int .i64 1] 3)) (.int .i64 0) 3
      simp only [World.size_alloc] at hN2
      refine wpIn_rangeFunc_ownF rfl (by omega) (gf := 9) (lb := #[]) rfl trivial (enters_of Tryd.func9 (by kernel_rfl) rfl)
        (ops_stops 4 (by omega) (W1.heap.size + 1 + 1) _ (by simp)) KeepsNew.trans keepsNew_b (Below.refl _ _) (fun _ => rfl)
        (TurnI w (w.heap.size) (W1.heap.size) (W1.heap.size + 1) 1 [D1]) (TurnX w (w.heap.size) (W1.heap.size) 1 [D1]) (turnI_own _ _ _ _ _ _ _ (by simp; omega) (fun D h => by rw [List.mem_singleton.1 h]; simp; omega)) (fun c => turnX_own _ _ _ _ _ c _ (by simp; omega) (fun D h => by rw [List.mem_singleton.1 h]; simp; omega)) ⟨⟨(fun h => by cases h), cell_alloc_l _ hT2.1, hN2.1, hN2.2, cell_alloc_l _ (cell_alloc_l _ hR1), (frozen_alloc_l _ (cell_alloc_l _ hR1) (frozen_alloc_l _ hR1 hfR1))⟩, (fun D h => by rw [List.mem_singleton.1 h, Below.heap_alloc _ _ _ (by simp; omega), Below.heap_alloc _ _ _ hDl]; exact hK1), Bl.alloc (Bl.alloc hB1 _) _⟩
        (fun x => { tmps := #[.pointer (some ⟨w.heap.size, 0, none⟩), .func (.func 9) #[] #[], .pointer (some ⟨W1.heap.size, 0, none⟩), .pointer (some ⟨W1.heap.size + 1, 0, none⟩), .int .i64 x.1, .string (nameOf x.1), undef, undef, undef, undef, undef, undef, undef, undef, .func (.func 9) #[] #[], .func (.func 9) #[] #[], .bool false, .int .i64 1, .bool true, .int .i64 0, .int .i64 1, .func (.func 9) #[] #[], .int .i64 x.1, .string (nameOf x.1), undef, undef, undef, undef, undef, undef, undef, undef, undef, undef, undef, undef, undef, undef, undef, undef, undef, undef, undef, undef, undef, undef, undef, .int .i64 0, .bool false, .bool false, undef, undef, .bool false, .int .i64 0, undef, undef, undef, undef, undef, undef, undef, undef, undef, undef, undef, undef, undef, undef, undef, undef, undef, undef, undef, undef, undef, undef, undef, undef, undef, undef, undef, undef, undef, undef, undef, undef, undef, undef, undef, undef, undef, undef, undef, undef, undef, undef, undef, undef, undef, undef, undef, undef, undef, undef, undef, undef], defers := [] }) ?assign ?body ?done ?stop
      case assign =>
        intro l x W K hK
        gi_wp2
        exact hK
      case body =>
        rintro l pre x W hI hp28
        have hI' := hI
        obtain ⟨⟨hlen, hT, hN, hfN, hR, hfR⟩, hDk, hB⟩ := hI'
        have hs := hB.size
        have hNW : W1.heap.size + 1 < W.heap.size := World.block_lt_of_cell? W _ hN
        have hTW : W1.heap.size < W.heap.size := World.block_lt_of_cell? W _ hT
        have hRW : w.heap.size < W.heap.size := World.block_lt_of_cell? W _ hR
        have hKK := turn_keeps W (W1.heap.size + 1) (W1.heap.size + 1 + 1) (.int .i64 ((pre.length : Int) + 1)) (.cells nameCells 9) (by omega)
        by_cases hx : x.1 = (pre.length : Int) + 1
        · have hST := fun ht => turn_step x hI (by omega) (by omega) (by omega) ht (fun D h => by rw [List.mem_singleton.1 h]; omega) (.cells nameCells 9)
          obtain ⟨v, hv0, hv28⟩ := x
          simp only at hx
          subst hx
          have hp0 : (0 : Int) ≤ (pre.length : Int) := by omega
          have hnc : nameCells[pre.length + 1]? = some (.string (nameOf ((pre.length : Int) + 1))) := name_cell _ (by omega)
          have hd28 : decide ((28 : Int) < (pre.length : Int) + 1) = false := by simp; omega
          have HST := Lib.hid hST
          have HI := Lib.hid hI
          have HK := Lib.hid hKK
          have HL := Lib.hid hlen
          clear hST hI hKK hlen hDk
          gi_wp2
          gi_region_with_o (refine ⟨trivial, ?_⟩; gi_at_call 5; refine ((callsIn_wide.2 (rNames_any _)).inRound l).mono ?_; rintro e w' ⟨rfl, rfl⟩)
          all_goals
            gi_wp2
            exact ⟨HK.out.1, HK.out.2, HST.out (fun h => by cases h)⟩
        · have hnot : ¬ ∃ k, k ≤ 28 ∧ pre ++ [x] = opsUpto k := fun ⟨k, hk, e⟩ => hx (ops_last hk e.symm)
          have hxn : (x.1 == (pre.length : Int) + 1) = false := by rw [beq_eq_false_iff_ne]; exact hx
          have hxn2 : (x.1 != (pre.length : Int) + 1) = true := by rw [bne_iff_ne]; exact hx
          clear hx hI hKK hlen hDk
          have HN := Lib.hid hnot
          clear hnot
          have hS1 := (hB.setCell (p := ⟨W1.heap.size + 1, 0, none⟩) (show w.heap.size ≤ W1.heap.size + 1 by omega) (.int .i64 ((pre.length : Int) + 1))).setCell (p := ⟨w.heap.size, 0, none⟩) (Nat.le_refl _) (.bool false)
          have hS2 := ((hB.setCell (p := ⟨W1.heap.size + 1, 0, none⟩) (show w.heap.size ≤ W1.heap.size + 1 by omega) (.int .i64 ((pre.length : Int) + 1))).drew).setCell (p := ⟨w.heap.size, 0, none⟩) (Nat.le_refl _) (.bool false)
          have hS3 := hS1.drew
          gi_wp2
          gi_region_with_o (first | (refine ⟨trivial, ?_⟩; gi_at_call 5; refine ((callsIn_wide.2 (rNames_any _)).inRound l).mono ?_; rintro e w' ⟨rfl, rfl⟩) | (refine ⟨trivial, ?_⟩))
          all_goals
            gi_wp2
            exact ⟨(KeepsOthers.setCell _ _ _).trans (by first | exact KeepsOthers.refl _ | exact (KeepsOthers.drew _).trans (KeepsOthers.setCell _ _ _) | exact KeepsOthers.drew _), Or.inr ⟨rfl, HN.out⟩, by first | exact hS1 | exact hS2 | exact hS3⟩
      case done =>
        rintro D2 ys W2 hD2 rfl ⟨⟨-, hT3, hN3, hfN3, hR3, hfR3⟩, hM3, hB3⟩ hK2
        rw [opsUpto_length 28 (by omega)] at hN3
        simp at hD2
        have hM1 := hM3 D1 (List.mem_singleton.2 rfl)
        clear hM3
        gi_wp2
        rw [roundsIn_succ]
        gi_wp2
        have pH0 := Bl.alloc (Bl.alloc (Below.refl W2.heap.size W2) (.cells #[.int .i64 2] 3)) (.cells #[.int .i64 5, .int .i64 0, .int .i64 0, .int .i64 0, .int .i64 32768, .int .i64 5, .int .i64 0, .int .i64 0, .int .i64 0, .int .i64 (-32769), .int .i64 3, .int .i64 0, .int .i64 0, .int .i64 0, .int .i64 (-1), .int .i64 3, .int .i64 0, .int .i64 0, .int .i64 0, .int .i64 65536, .int .i64 8, .int .i64 16, .int .i64 0, .int .i64 0, .int .i64 0, .int .i64 8, .int .i64 0, .int .i64 0, .int .i64 (-1), .int .i64 0, .int .i64 1, .int .i64 1, .int .i64 0, .int .i64 0, .int .i64 0, .int .i64 7, .int .i64 0, .int .i64 0, .int .i64 1, .int .i64 0, .int .i64 29, .int .i64 0, .int .i64 0, .int .i64 0, .int .i64 0, .int .i64 0, .int .i64 0, .int .i64 0, .int .i64 0, .int .i64 0] 29)
        have prow0 := heap_alloc2_new W2 (.cells #[.int .i64 2] 3) (.cells #[.int .i64 5, .int .i64 0, .int .i64 0, .int .i64 0, .int .i64 32768, .int .i64 5, .int .i64 0, .int .i64 0, .int .i64 0, .int .i64 (-32769), .int .i64 3, .int .i64 0, .int .i64 0, .int .i64 0, .int .i64 (-1), .int .i64 3, .int .i64 0, .int .i64 0, .int .i64 0, .int .i64 65536, .int .i64 8, .int .i64 16, .int .i64 0, .int .i64 0, .int .i64 0, .int .i64 8, .int .i64 0, .int .i64 0, .int .i64 (-1), .int .i64 0, .int .i64 1, .int .i64 1, .int .i64 0, .int .i64 0, .int .i64 0, .int .i64 7, .int .i64 0, .int .i64 0, .int .i64 1, .int .i64 0, .int .i64 29, .int .i64 0, .int .i64 0, .int .i64 0, .int .i64 0, .int .i64 0, .int .i64 0, .int .i64 0, .int .i64 0, .int .i64 0] 29)
        clear hT3 hN3 hfN3
        refine wpIn_loop_rounds 11 ?_
        rw [roundsIn_succ]
        have pc0 := (cell_of_row _ (W2.heap.size + 1) 0 _ _ _ prow0).trans (show _ = some (.int .i64 5) from rfl)
        have pc1 := (cell_of_row _ (W2.heap.size + 1) 1 _ _ _ prow0).trans (show _ = some (.int .i64 0) from rfl)
        have pc2 := (cell_of_row _ (W2.heap.size + 1) 2 _ _ _ prow0).trans (show _ = some (.int .i64 0) from rfl)
        have pc3 := (cell_of_row _ (W2.heap.size + 1) 3 _ _ _ prow0).trans (show _ = some (.int .i64 0) from rfl)
        have pc4 := (cell_of_row _ (W2.heap.size + 1) 4 _ _ _ prow0).trans (show _ = some (.int .i64 32768) from rfl)
        gi_wp2_with (first | (refine ⟨trivial, ?_⟩; gi_at_call 6; refine (callsIn_wide.2 (word_no _ _ _ _ _ _ (by kernel_rfl))).mono ?_; rintro e pX1 ⟨rfl, phb1⟩) | (refine ⟨trivial, ?_⟩; gi_at_call 7; refine (callsIn_wide.2 (num_any _ _)).mono ?_; rintro e w' ⟨rfl, rfl⟩))
        clear pc0 pc1 pc2 pc3 pc4
        have pH1 := Bl.step pH0 phb1
        have prow1 := (phb1.block (W2.heap.size + 1) (Array.getElem?_eq_some_iff.1 prow0).1).trans prow0
        clear prow0
        rw [roundsIn_succ]
        have pc0 := (cell_of_row _ (W2.heap.size + 1) 5 _ _ _ prow1).trans (show _ = some (.int .i64 5) from rfl)
        have pc1 := (cell_of_row _ (W2.heap.size + 1) 6 _ _ _ prow1).trans (show _ = some (.int .i64 0) from rfl)
        have pc2 := (cell_of_row _ (W2.heap.size + 1) 7 _ _ _ prow1).trans (show _ = some (.int .i64 0) from rfl)
        have pc3 := (cell_of_row _ (W2.heap.size + 1) 8 _ _ _ prow1).trans (show _ = some (.int .i64 0) from rfl)
        have pc4 := (cell_of_row _ (W2.heap.size + 1) 9 _ _ _ prow1).trans (show _ = some (.int .i64 (-32769)) from rfl)
        gi_wp2_with (first | (refine ⟨trivial, ?_⟩; gi_at_call 6; refine (callsIn_wide.2 (word_no _ _ _ _ _ _ (by kernel_rfl))).mono ?_; rintro e pX2 ⟨rfl, phb2⟩) | (refine ⟨trivial, ?_⟩; gi_at_call 7; refine (callsIn_wide.2 (num_any _ _)).mono ?_; rintro e w' ⟨rfl, rfl⟩))
        clear pc0 pc1 pc2 pc3 pc4
        have pH2 := Bl.step pH1 phb2
        have prow2 := (phb2.block (W2.heap.size + 1) (Array.getElem?_eq_some_iff.1 prow1).1).trans prow1
        clear prow1
        rw [roundsIn_succ]
        have pc0 := (cell_of_row _ (W2.heap.size + 1) 10 _ _ _ prow2).trans (show _ = some (.int .i64 3) from rfl)
        have pc1 := (cell_of_row _ (W2.heap.size + 1) 11 _ _ _ prow2).trans (show _ = some (.int .i64 0) from rfl)
        have pc2 := (cell_of_row _ (W2.heap.size + 1) 12 _ _ _ prow2).trans (show _ = some (.int .i64 0) from rfl)
        have pc3 := (cell_of_row _ (W2.heap.size + 1) 13 _ _ _ prow2).trans (show _ = some (.int .i64 0) from rfl)
        have pc4 := (cell_of_row _ (W2.heap.size + 1) 14 _ _ _ prow2).trans (show _ = some (.int .i64 (-1)) from rfl)
        gi_wp2_with (first | (refine ⟨trivial, ?_⟩; gi_at_call 6; refine (callsIn_wide.2 (word_no _ _ _ _ _ _ (by kernel_rfl))).mono ?_; rintro e pX3 ⟨rfl, phb3⟩) | (refine ⟨trivial, ?_⟩; gi_at_call 7; refine (callsIn_wide.2 (num_any _ _)).mono ?_; rintro e w' ⟨rfl, rfl⟩))
        clear pc0 pc1 pc2 pc3 pc4
        have pH3 := Bl.step pH2 phb3
        have prow3 := (phb3.block (W2.heap.size + 1) (Array.getElem?_eq_some_iff.1 prow2).1).trans prow2
        clear prow2
        rw [roundsIn_succ]
        have pc0 := (cell_of_row _ (W2.heap.size + 1) 15 _ _ _ prow3).trans (show _ = some (.int .i64 3) from rfl)
        have pc1 := (cell_of_row _ (W2.heap.size + 1) 16 _ _ _ prow3).trans (show _ = some (.int .i64 0) from rfl)
        have pc2 := (cell_of_row _ (W2.heap.size + 1) 17 _ _ _ prow3).trans (show _ = some (.int .i64 0) from rfl)
        have pc3 := (cell_of_row _ (W2.heap.size + 1) 18 _ _ _ prow3).trans (show _ = some (.int .i64 0) from rfl)
        have pc4 := (cell_of_row _ (W2.heap.size + 1) 19 _ _ _ prow3).trans (show _ = some (.int .i64 65536) from rfl)
        gi_wp2_with (first | (refine ⟨trivial, ?_⟩; gi_at_call 6; refine (callsIn_wide.2 (word_no _ _ _ _ _ _ (by kernel_rfl))).mono ?_; rintro e pX4 ⟨rfl, phb4⟩) | (refine ⟨trivial, ?_⟩; gi_at_call 7; refine (callsIn_wide.2 (num_any _ _)).mono ?_; rintro e w' ⟨rfl, rfl⟩))
        clear pc0 pc1 pc2 pc3 pc4
        have pH4 := Bl.step pH3 phb4
        have prow4 := (phb4.block (W2.heap.size + 1) (Array.getElem?_eq_some_iff.1 prow3).1).trans prow3
        clear prow3
        rw [roundsIn_succ]
        have pc0 := (cell_of_row _ (W2.heap.size + 1) 20 _ _ _ prow4).trans (show _ = some (.int .i64 8) from rfl)
        have pc1 := (cell_of_row _ (W2.heap.size + 1) 21 _ _ _ prow4).trans (show _ = some (.int .i64 16) from rfl)
        have pc2 := (cell_of_row _ (W2.heap.size + 1) 22 _ _ _ prow4).trans (show _ = some (.int .i64 0) from rfl)
        have pc3 := (cell_of_row _ (W2.heap.size + 1) 23 _ _ _ prow4).trans (show _ = some (.int .i64 0) from rfl)
        have pc4 := (cell_of_row _ (W2.heap.size + 1) 24 _ _ _ prow4).trans (show _ = some (.int .i64 0) from rfl)
        gi_wp2_with (first | (refine ⟨trivial, ?_⟩; gi_at_call 6; refine (callsIn_wide.2 (word_no _ _ _ _ _ _ (by kernel_rfl))).mono ?_; rintro e pX5 ⟨rfl, phb5⟩) | (refine ⟨trivial, ?_⟩; gi_at_call 7; refine (callsIn_wide.2 (num_any _ _)).mono ?_; rintro e w' ⟨rfl, rfl⟩))
        clear pc0 pc1 pc2 pc3 pc4
        have pH5 := Bl.step pH4 phb5
        have prow5 := (phb5.block (W2.heap.size + 1) (Array.getElem?_eq_some_iff.1 prow4).1).trans prow4
        clear prow4
        rw [roundsIn_succ]
        have pc0 := (cell_of_row _ (W2.heap.size + 1) 25 _ _ _ prow5).trans (show _ = some (.int .i64 8) from rfl)
        have pc1 := (cell_of_row _ (W2.heap.size + 1) 26 _ _ _ prow5).trans (show _ = some (.int .i64 0) from rfl)
        have pc2 := (cell_of_row _ (W2.heap.size + 1) 27 _ _ _ prow5).trans (show _ = some (.int .i64 0) from rfl)
        have pc3 := (cell_of_row _ (W2.heap.size + 1) 28 _ _ _ prow5).trans (show _ = some (.int .i64 (-1)) from rfl)
        have pc4 := (cell_of_row _ (W2.heap.size + 1) 29 _ _ _ prow5).trans (show _ = some (.int .i64 0) from rfl)
        gi_wp2_with (first | (refine ⟨trivial, ?_⟩; gi_at_call 6; refine (callsIn_wide.2 (word_no _ _ _ _ _ _ (by kernel_rfl))).mono ?_; rintro e pX6 ⟨rfl, phb6⟩) | (refine ⟨trivial, ?_⟩; gi_at_call 7; refine (callsIn_wide.2 (num_any _ _)).mono ?_; rintro e w' ⟨rfl, rfl⟩))
        clear pc0 pc1 pc2 pc3 pc4
        have pH6 := Bl.step pH5 phb6
        have prow6 := (phb6.block (W2.heap.size + 1) (Array.getElem?_eq_some_iff.1 prow5).1).trans prow5
        clear prow5
        rw [roundsIn_succ]
        have pc0 := (cell_of_row _ (W2.heap.size + 1) 30 _ _ _ prow6).trans (show _ = some (.int .i64 1) from rfl)
        have pc1 := (cell_of_row _ (W2.heap.size + 1) 31 _ _ _ prow6).trans (show _ = some (.int .i64 1) from rfl)
        have pc2 := (cell_of_row _ (W2.heap.size + 1) 32 _ _ _ prow6).trans (show _ = some (.int .i64 0) from rfl)
        have pc3 := (cell_of_row _ (W2.heap.size + 1) 33 _ _ _ prow6).trans (show _ = some (.int .i64 0) from rfl)
        have pc4 := (cell_of_row _ (W2.heap.size + 1) 34 _ _ _ prow6).trans (show _ = some (.int .i64 0) from rfl)
        gi_wp2_with (first | (refine ⟨trivial, ?_⟩; gi_at_call 6; refine (callsIn_wide.2 (word_no _ _ _ _ _ _ (by kernel_rfl))).mono ?_; rintro e pX7 ⟨rfl, phb7⟩) | (refine ⟨trivial, ?_⟩; gi_at_call 7; refine (callsIn_wide.2 (num_any _ _)).mono ?_; rintro e w' ⟨rfl, rfl⟩))
        clear pc0 pc1 pc2 pc3 pc4
        have pH7 := Bl.step pH6 phb7
        have prow7 := (phb7.block (W2.heap.size + 1) (Array.getElem?_eq_some_iff.1 prow6).1).trans prow6
        clear prow6
        rw [roundsIn_succ]
        have pc0 := (cell_of_row _ (W2.heap.size + 1) 35 _ _ _ prow7).trans (show _ = some (.int .i64 7) from rfl)
        have pc1 := (cell_of_row _ (W2.heap.size + 1) 36 _ _ _ prow7).trans (show _ = some (.int .i64 0) from rfl)
        have pc2 := (cell_of_row _ (W2.heap.size + 1) 37 _ _ _ prow7).trans (show _ = some (.int .i64 0) from rfl)
        have pc3 := (cell_of_row _ (W2.heap.size + 1) 38 _ _ _ prow7).trans (show _ = some (.int .i64 1) from rfl)
        have pc4 := (cell_of_row _ (W2.heap.size + 1) 39 _ _ _ prow7).trans (show _ = some (.int .i64 0) from rfl)
        gi_wp2_with (first | (refine ⟨trivial, ?_⟩; gi_at_call 6; refine (callsIn_wide.2 (word_no _ _ _ _ _ _ (by kernel_rfl))).mono ?_; rintro e pX8 ⟨rfl, phb8⟩) | (refine ⟨trivial, ?_⟩; gi_at_call 7; refine (callsIn_wide.2 (num_any _ _)).mono ?_; rintro e w' ⟨rfl, rfl⟩))
        clear pc0 pc1 pc2 pc3 pc4
        have pH8 := Bl.step pH7 phb8
        have prow8 := (phb8.block (W2.heap.size + 1) (Array.getElem?_eq_some_iff.1 prow7).1).trans prow7
        clear prow7
        rw [roundsIn_succ]
        have pc0 := (cell_of_row _ (W2.heap.size + 1) 40 _ _ _ prow8).trans (show _ = some (.int .i64 29) from rfl)
        have pc1 := (cell_of_row _ (W2.heap.size + 1) 41 _ _ _ prow8).trans (show _ = some (.int .i64 0) from rfl)
        have pc2 := (cell_of_row _ (W2.heap.size + 1) 42 _ _ _ prow8).trans (show _ = some (.int .i64 0) from rfl)
        have pc3 := (cell_of_row _ (W2.heap.size + 1) 43 _ _ _ prow8).trans (show _ = some (.int .i64 0) from rfl)
        have pc4 := (cell_of_row _ (W2.heap.size + 1) 44 _ _ _ prow8).trans (show _ = some (.int .i64 0) from rfl)
        gi_wp2_with (first | (refine ⟨trivial, ?_⟩; gi_at_call 6; refine (callsIn_wide.2 (word_no _ _ _ _ _ _ (by kernel_rfl))).mono ?_; rintro e pX9 ⟨rfl, phb9⟩) | (refine ⟨trivial, ?_⟩; gi_at_call 7; refine (callsIn_wide.2 (num_any _ _)).mono ?_; rintro e w' ⟨rfl, rfl⟩))
        clear pc0 pc1 pc2 pc3 pc4
        have pH9 := Bl.step pH8 phb9
        have prow9 := (phb9.block (W2.heap.size + 1) (Array.getElem?_eq_some_iff.1 prow8).1).trans prow8
        clear prow8
        rw [roundsIn_succ]
        have pc0 := (cell_of_row _ (W2.heap.size + 1) 45 _ _ _ prow9).trans (show _ = some (.int .i64 0) from rfl)
        have pc1 := (cell_of_row _ (W2.heap.size + 1) 46 _ _ _ prow9).trans (show _ = some (.int .i64 0) from rfl)
        have pc2 := (cell_of_row _ (W2.heap.size + 1) 47 _ _ _ prow9).trans (show _ = some (.int .i64 0) from rfl)
        have pc3 := (cell_of_row _ (W2.heap.size + 1) 48 _ _ _ prow9).trans (show _ = some (.int .i64 0) from rfl)
        have pc4 := (cell_of_row _ (W2.heap.size + 1) 49 _ _ _ prow9).trans (show _ = some (.int .i64 0) from rfl)
        gi_wp2_with (first | (refine ⟨trivial, ?_⟩; gi_at_call 6; refine (callsIn_wide.2 (word_no _ _ _ _ _ _ (by kernel_rfl))).mono ?_; rintro e pX10 ⟨rfl, phb10⟩) | (refine ⟨trivial, ?_⟩; gi_at_call 7; refine (callsIn_wide.2 (num_any _ _)).mono ?_; rintro e w' ⟨rfl, rfl⟩))
        clear pc0 pc1 pc2 pc3 pc4
        have pH10 := Bl.step pH9 phb10
        have prow10 := (phb10.block (W2.heap.size + 1) (Array.getElem?_eq_some_iff.1 prow9).1).trans prow9
        clear prow9
        rw [roundsIn_succ]
        gi_wp2
        have qH0 := Bl.alloc pH10 (.cells #[.int .i64 5, .int .i64 0, .int .i64 0, .int .i64 0, .int .i64 32767, .int .i64 5, .int .i64 15, .int .i64 0, .int .i64 0, .int .i64 (-32768), .int .i64 3, .int .i64 0, .int .i64 0, .int .i64 0, .int .i64 65535, .int .i64 6, .int .i64 15, .int .i64 0, .int .i64 0, .int .i64 65535, .int .i64 8, .int .i64 15, .int .i64 15, .int .i64 15, .int .i64 0] 29)
        have qrow0 := World.alloc_heap_new pX10 (.cells #[.int .i64 5, .int .i64 0, .int .i64 0, .int .i64 0, .int .i64 32767, .int .i64 5, .int .i64 15, .int .i64 0, .int .i64 0, .int .i64 (-32768), .int .i64 3, .int .i64 0, .int .i64 0, .int .i64 0, .int .i64 65535, .int .i64 6, .int .i64 15, .int .i64 0, .int .i64 0, .int .i64 65535, .int .i64 8, .int .i64 15, .int .i64 15, .int .i64 15, .int .i64 0] 29)
        refine wpIn_loop_rounds 6 ?_
        rw [roundsIn_succ]
        have qc0 := (cell_of_row _ (pX10.heap.size) 0 _ _ _ qrow0).trans (show _ = some (.int .i64 5) from rfl)
        have qc1 := (cell_of_row _ (pX10.heap.size) 1 _ _ _ qrow0).trans (show _ = some (.int .i64 0) from rfl)
        have qc2 := (cell_of_row _ (pX10.heap.size) 2 _ _ _ qrow0).trans (show _ = some (.int .i64 0) from rfl)
        have qc3 := (cell_of_row _ (pX10.heap.size) 3 _ _ _ qrow0).trans (show _ = some (.int .i64 0) from rfl)
        have qc4 := (cell_of_row _ (pX10.heap.size) 4 _ _ _ qrow0).trans (show _ = some (.int .i64 32767) from rfl)
        gi_wp2_with (first | (refine ⟨trivial, ?_⟩; gi_at_call 6; refine (callsIn_wide.2 (word_yes _ _ _ _ _ _ (by kernel_rfl))).mono ?_; rintro e qX1 ⟨rfl, qhb1⟩) | (refine ⟨trivial, ?_⟩; gi_at_call 7; refine (callsIn_wide.2 (num_any _ _)).mono ?_; rintro e w' ⟨rfl, rfl⟩))
        clear qc0 qc1 qc2 qc3 qc4
        have qH1 := Bl.step qH0 qhb1
        have qrow1 := (qhb1.block (pX10.heap.size) (Array.getElem?_eq_some_iff.1 qrow0).1).trans qrow0
        clear qrow0
        rw [roundsIn_succ]
        have qc0 := (cell_of_row _ (pX10.heap.size) 5 _ _ _ qrow1).trans (show _ = some (.int .i64 5) from rfl)
        have qc1 := (cell_of_row _ (pX10.heap.size) 6 _ _ _ qrow1).trans (show _ = some (.int .i64 15) from rfl)
        have qc2 := (cell_of_row _ (pX10.heap.size) 7 _ _ _ qrow1).trans (show _ = some (.int .i64 0) from rfl)
        have qc3 := (cell_of_row _ (pX10.heap.size) 8 _ _ _ qrow1).trans (show _ = some (.int .i64 0) from rfl)
        have qc4 := (cell_of_row _ (pX10.heap.size) 9 _ _ _ qrow1).trans (show _ = some (.int .i64 (-32768)) from rfl)
        gi_wp2_with (first | (refine ⟨trivial, ?_⟩; gi_at_call 6; refine (callsIn_wide.2 (word_yes _ _ _ _ _ _ (by kernel_rfl))).mono ?_; rintro e qX2 ⟨rfl, qhb2⟩) | (refine ⟨trivial, ?_⟩; gi_at_call 7; refine (callsIn_wide.2 (num_any _ _)).mono ?_; rintro e w' ⟨rfl, rfl⟩))
        clear qc0 qc1 qc2 qc3 qc4
        have qH2 := Bl.step qH1 qhb2
        have qrow2 := (qhb2.block (pX10.heap.size) (Array.getElem?_eq_some_iff.1 qrow1).1).trans qrow1
        clear qrow1
        rw [roundsIn_succ]
        have qc0 := (cell_of_row _ (pX10.heap.size) 10 _ _ _ qrow2).trans (show _ = some (.int .i64 3) from rfl)
        have qc1 := (cell_of_row _ (pX10.heap.size) 11 _ _ _ qrow2).trans (show _ = some (.int .i64 0) from rfl)
        have qc2 := (cell_of_row _ (pX10.heap.size) 12 _ _ _ qrow2).trans (show _ = some (.int .i64 0) from rfl)
        have qc3 := (cell_of_row _ (pX10.heap.size) 13 _ _ _ qrow2).trans (show _ = some (.int .i64 0) from rfl)
        have qc4 := (cell_of_row _ (pX10.heap.size) 14 _ _ _ qrow2).trans (show _ = some (.int .i64 65535) from rfl)
        gi_wp2_with (first | (refine ⟨trivial, ?_⟩; gi_at_call 6; refine (callsIn_wide.2 (word_yes _ _ _ _ _ _ (by kernel_rfl))).mono ?_; rintro e qX3 ⟨rfl, qhb3⟩) | (refine ⟨trivial, ?_⟩; gi_at_call 7; refine (callsIn_wide.2 (num_any _ _)).mono ?_; rintro e w' ⟨rfl, rfl⟩))
        clear qc0 qc1 qc2 qc3 qc4
        have qH3 := Bl.step qH2 qhb3
        have qrow3 := (qhb3.block (pX10.heap.size) (Array.getElem?_eq_some_iff.1 qrow2).1).trans qrow2
        clear qrow2
        rw [roundsIn_succ]
        have qc0 := (cell_of_row _ (pX10.heap.size) 15 _ _ _ qrow3).trans (show _ = some (.int .i64 6) from rfl)
        have qc1 := (cell_of_row _ (pX10.heap.size) 16 _ _ _ qrow3).trans (show _ = some (.int .i64 15) from rfl)
        have qc2 := (cell_of_row _ (pX10.heap.size) 17 _ _ _ qrow3).trans (show _ = some (.int .i64 0) from rfl)
        have qc3 := (cell_of_row _ (pX10.heap.size) 18 _ _ _ qrow3).trans (show _ = some (.int .i64 0) from rfl)
        have qc4 := (cell_of_row _ (pX10.heap.size) 19 _ _ _ qrow3).trans (show _ = some (.int .i64 65535) from rfl)
        gi_wp2_with (first | (refine ⟨trivial, ?_⟩; gi_at_call 6; refine (callsIn_wide.2 (word_yes _ _ _ _ _ _ (by kernel_rfl))).mono ?_; rintro e qX4 ⟨rfl, qhb4⟩) | (refine ⟨trivial, ?_⟩; gi_at_call 7; refine (callsIn_wide.2 (num_any _ _)).mono ?_; rintro e w' ⟨rfl, rfl⟩))
        clear qc0 qc1 qc2 qc3 qc4
        have qH4 := Bl.step qH3 qhb4
        have qrow4 := (qhb4.block (pX10.heap.size) (Array.getElem?_eq_some_iff.1 qrow3).1).trans qrow3
        clear qrow3
        rw [roundsIn_succ]
        have qc0 := (cell_of_row _ (pX10.heap.size) 20 _ _ _ qrow4).trans (show _ = some (.int .i64 8) from rfl)
        have qc1 := (cell_of_row _ (pX10.heap.size) 21 _ _ _ qrow4).trans (show _ = some (.int .i64 15) from rfl)
        have qc2 := (cell_of_row _ (pX10.heap.size) 22 _ _ _ qrow4).trans (show _ = some (.int .i64 15) from rfl)
        have qc3 := (cell_of_row _ (pX10.heap.size) 23 _ _ _ qrow4).trans (show _ = some (.int .i64 15) from rfl)
        have qc4 := (cell_of_row _ (pX10.heap.size) 24 _ _ _ qrow4).trans (show _ = some (.int .i64 0) from rfl)
        gi_wp2_with (first | (refine ⟨trivial, ?_⟩; gi_at_call 6; refine (callsIn_wide.2 (word_yes _ _ _ _ _ _ (by kernel_rfl))).mono ?_; rintro e qX5 ⟨rfl, qhb5⟩) | (refine ⟨trivial, ?_⟩; gi_at_call 7; refine (callsIn_wide.2 (num_any _ _)).mono ?_; rintro e w' ⟨rfl, rfl⟩))
        clear qc0 qc1 qc2 qc3 qc4
        have qH5 := Bl.step qH4 qhb5
        have qrow5 := (qhb5.block (pX10.heap.size) (Array.getElem?_eq_some_iff.1 qrow4).1).trans qrow4
        clear qrow4
        rw [roundsIn_succ]
        gi_wp2
        clear qrow5
        have hRW : w.heap.size < W2.heap.size := World.block_lt_of_cell? W2 _ hR3
        have hDW : D2 < W2.heap.size := (Array.getElem?_eq_some_iff.1 hK2).1
        have hDV : D1 < W2.heap.size := (Array.getElem?_eq_some_iff.1 hM1).1
        gi_wp2_with (refine ⟨trivial, ?_⟩; gi_at_call 8; refine (callsIn_wide.2 (known_yes _ (HE.out.below (Bl.step hB3 qH5)))).mono ?_; rintro e X ⟨rfl, hbX⟩; have hBX := Bl.step qH5 hbX; have cR := (hBX.cell (p := ⟨w.heap.size, 0, none⟩) hRW).trans hR3; have fR := (hBX.frozen (p := ⟨w.heap.size, 0, none⟩) hRW).trans hfR3)
        have hE2 : (X.setCell ⟨w.heap.size, 0, none⟩ (.bool true)).heap[D2]? = some (.deferred (some [])) := by
          rw [Below.heap_setCell _ _ _ _ (show D2 ≠ w.heap.size by omega), hBX.block D2 hDW]; exact hK2
        have hE1 : ((X.setCell ⟨w.heap.size, 0, none⟩ (.bool true)).putObj D2 (.deferred none)).heap[D1]? = some (.deferred (some [])) := by
          rw [World.putObj_heap_other (show D1 ≠ D2 by omega), Below.heap_setCell _ _ _ _ (show D1 ≠ w.heap.size by omega), hBX.block D1 hDV]; exact hM1
        have cR2 := World.cell?_setCell_same X ⟨w.heap.size, 0, none⟩ (.bool true) cR
        have cR3 := cell_kept cR2 (grownBy_putObj' _ D2 (.deferred none)) (fun r e => by cases e; exact ⟨_, hE2, rfl⟩)
        have cR4 := cell_kept cR3 (grownBy_putObj' _ D1 (.deferred none)) (fun r e => by cases e; exact ⟨_, hE1, rfl⟩)
        refine ⟨by simp, .inl ⟨_, _, rfl, run_takeDeferred hE2, ?_⟩⟩
        refine ⟨by simp, .inl ⟨_, _, rfl, run_takeDeferred hE1, ?_⟩⟩
        refine ⟨.bool true, ?_, rfl, (((Bl.step hB3 hBX).setCell (p := ⟨w.heap.size, 0, none⟩) (Nat.le_refl _) _).trans (belowK_b (w := w) (Nat.le_refl _) _ D2 _ _ (by omega) hE2 rfl rfl)).trans (belowK_b (w := w) (Nat.le_refl _) _ D1 _ _ (by omega) hE1 rfl rfl)⟩
        simp [results, Tryd.f3, go_sem, cR4]
      case stop =>
        rintro D c pre W hD hk ⟨⟨rfl, h, -⟩ | ⟨rfl, hn⟩, hB⟩ hK
        · cases h
        · exact absurd hk hn
    · exact absurd hk1 hn1

theorem ops_law (w : World) (he : Env w) :
    Calls Tryd.prog 3 #[] w fun e W' => e = .returned (.bool true) ∧ Below w.heap.size w W' :=
  callsIn_wide.1 (ops_law_in w he)

end Go.Proofs.YtnkkomodpjgefabDoor
