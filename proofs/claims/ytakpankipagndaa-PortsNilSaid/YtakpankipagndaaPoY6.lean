/- Same: of ports that part in what one of them lost. -/
import Derived.Test.YtakpankipagndaaPoY5
import Derived.Maps.OwnSet
import Derived.BigQuiet
import Derived.LoopN
namespace Go.Proofs.Ytakpankipagndaa
open Go.RowKit (wrap64)
open Go.RowKit
open Go.Maps (Keyed)
attribute [local go_sem] Oper.semAt_some

/-- Numbers of quotas, somewhere. -/
def QuIn (w : World) (g n : Nat) (q : List Nat) : Prop := q.length = n ∧ ∀ (i x : Nat), q[i]? = some x → w.cell? ⟨g, i, none⟩ = some (.int .i64 (x : Int))
set_option maxHeartbeats 2000000 in
set_option maxRecDepth 100000 in
theorem eqints_any12 {w : World} {g g' n c c' : Nat} {q : List Nat} (h : QuIn w g n q) (h' : QuIn w g' n q) (hn2 : n ≤ 1000000) :
    Calls Try.prog 46 #[.slice (some ⟨g, 0, none⟩) n c, .slice (some ⟨g', 0, none⟩) n c'] w fun e w' => e = .returned (.bool true) ∧ Below w.heap.size w w' := by
  have H := Lib.hid h
  have H2 := Lib.hid h'
  clear h h'
  go_enter Try.func46, Try.ntmps46
  go_wp2
  go_loopg [13] n (fun g i W => ∃ k : Nat, k + g = n ∧ i = .int .i64 (k : Int) ∧ Below w.heap.size w W)
  case atStart => exact ⟨0, by omega, rfl, Below.refl _ w⟩
  case round =>
    obtain ⟨k, hk, rfl, hB⟩ := hrel
    have HW := Lib.hid hB
    clear hB
    by_cases hlt : k < n
    · have hlt2 : (k : Int) < n := by omega
      obtain ⟨x, hx⟩ : ∃ x, q[k]? = some x := ⟨_, List.getElem?_eq_getElem (by rw [H.out.1]; exact hlt)⟩
      have c0 := H.out.2 k x hx
      have d0 := H2.out.2 k x hx
      have c0 := (HW.out.cell (World.block_lt_of_cell? w _ c0)).trans c0
      have d0 := (HW.out.cell (World.block_lt_of_cell? w _ d0)).trans d0
      clear hx
      go_wp2
      go_quiet (fail)
      all_goals
        go_wp2
        go_roundg (n - (k + 1))
        case measure => omega
        case rel => exact ⟨k + 1, by omega, by go_num, below_drewN HW.out _⟩
    · obtain rfl : k = n := by omega
      have hlt2 : ¬ (k : Int) < (k : Int) := by omega
      go_wp2
      go_ret
      exact ⟨rfl, HW.out⟩
set_option maxHeartbeats 2000000 in
set_option maxRecDepth 100000 in
theorem same_lost12 {w : World} {R R' : Nat → Prop} {c c' : Nat} {X X' : Cl} (h : ClIs w R c X) (h' : ClIs w R' c' X') (hl : X.lo ≠ X'.lo) :
    Calls Try.prog 48 #[.pointer (some ⟨c, 0, none⟩), .pointer (some ⟨c', 0, none⟩)] w fun e w' => e = .returned (.bool false) ∧ Below w.heap.size w w' := by
  obtain ⟨FA, FC, V, h⟩ := h
  obtain ⟨FA', FC', V', h'⟩ := h'
  have c11 := h.c11
  have d11 := h'.c11
  generalize X.lo = x at *
  generalize X'.lo = y at *
  have hd : (x == y) = false := beq_eq_false_iff_ne.2 hl
  clear h h' hl
  go_enter Try.func48, Try.ntmps48
  go_wp2
  go_quiet (fail)
  all_goals
    go_wp2
    go_ret
    exact ⟨rfl, below_drewN (Below.refl _ w) _⟩
theorem PoAt.look_ok {w : World} {O R : Nat → Prop} {p : Nat} {L : Lay12} {s : Ps} (h : PoAt w O R p L s) {a n : Int} (ha : wf12 a) (hn : wf12 n) {X : Cl} (hc : s.c a n = some X) :
    (Instr.lookup 66 (.map (some L.b)) (.agg #[.int .i64 a, .int .i64 n]) true).run Try.prog w = .ok (.tuple #[.pointer (some ⟨L.C a n, 0, none⟩), .bool true]) w := by
  obtain ⟨D, hm, hD⟩ := h.mp
  obtain ⟨v, ps, hrun, hv⟩ := hm.look_ok Try.kSpot Try.underlying66 (Try.zPt w) (zd := .nil) (zp := []) (ptE_mk none) (key_of12 a n ha hn)
  rw [hD.at_ a n ha hn, hc] at hv
  have hh := hD.has a n ha hn
  rw [hc] at hh
  have hrun : (Instr.lookup 66 (.map (some L.b)) (.agg #[.int .i64 a, .int .i64 n]) true).run Try.prog w = .ok (.tuple #[v, .bool (Maps.has D (keyP a n))]) w := hrun
  rw [hrun, ptE_is (g := some (L.C a n)) hv, hh]
  rfl
set_option maxHeartbeats 4000000 in
set_option maxRecDepth 100000 in
theorem mapseq_lost12 {w : World} {O R O' R' : Nat → Prop} {p p' : Nat} {L L' : Lay12} {s s' : Ps} (h : PoAt w O R p L s) (h' : PoAt w O' R' p' L' s') {a0 n0 : Int} {X0 Y0 : Cl} (hX : s.c a0 n0 = some X0) (honly : ∀ a n X, s.c a n = some X → a = a0 ∧ n = n0) (hY : s'.c a0 n0 = some Y0) (hl : X0.lo ≠ Y0.lo) :
    Calls Try.prog 47 #[.map (some L.b), .map (some L'.b), .func (.func 48) #[] #[]] w fun e w' => e = .returned (.bool false) ∧ Below w.heap.size w w' := by
  obtain ⟨D, hm, hD⟩ := h.mp
  obtain ⟨D', hm', hD'⟩ := h'.mp
  have H := Lib.hid h
  have H' := Lib.hid h'
  have HO := Lib.hid hm
  have HO' := Lib.hid hm'
  have HD := Lib.hid hD
  have hwf := h.dom_wf hX
  have hhas : Maps.has D (keyP a0 n0) = true := by rw [hD.has a0 n0 hwf.1 hwf.2, hX]; rfl
  have HH := Lib.hid hhas
  have HWF := Lib.hid hwf
  have HX := Lib.hid hX
  have HY := Lib.hid hY
  have HON := Lib.hid honly
  have HL := Lib.hid hl
  by_cases hz : Maps.size D = Maps.size D'
  · obtain ⟨z, hz1⟩ : ∃ z, Maps.size D = z := ⟨_, rfl⟩
    have hz2 : Maps.size D' = z := by rw [← hz]; exact hz1
    clear h h' hm hm' hD hD' hwf hhas hX hY honly hl hz
    go_enter Try.func47, Try.ntmps47
    go_wp2_with (first
      | (at_len; refine wpList_len_own _ rfl _ _ rfl _ _ Try.underlying66 _ _ _ _ rfl HO.out ?_; rw [hz1])
      | (at_len; refine wpList_len_own _ rfl _ _ rfl _ _ Try.underlying66 _ _ _ _ rfl HO'.out ?_; rw [hz2])
      | (at_range; refine wpList_range_own _ rfl _ 66 rfl 95 96 Try.kSpot Try.underlying66 ptE L.b s.m D rfl HO.out ?_; intro w0 hrg0 hg0 hs0; have HRG := Lib.hid hrg0; have HG0 := Lib.hid hg0; have HS0 := Lib.hid hs0; clear hrg0 hg0 hs0))
    refine wp_loop_rounds 1 ?_
    rw [rounds_succ]
    go_wp2_with (at_next; refine wpList_next_spots _ rfl _ rfl L.b w.heap.size s.m D L.C s.c _ _ rfl HRG.out HD.out ?_ ?_)
    · intro hl0
      have := hl0 (keyP a0 n0)
      rw [HH.out] at this
      cases this
    · intro x y X w2 cnt1 hX hlx hwx hwy hrg1 hlt hg1 hs1 hen
      obtain ⟨rfl, rfl⟩ := HON.out x y X hX
      have hb2 : Below w.heap.size w w2 := ((Below.refl _ w).grown HG0.out (Nat.le_refl _) (fun k e => by cases e)).grown hg1 (by have := HS0.out; omega) (by rintro k hk; cases hk; exact Nat.le_refl _)
      have HB2 := Lib.hid hb2
      have HB3 := Lib.hid (hb2.alloc hb2.size (.cells #[.int .i64 x, .int .i64 y] 95))
      have hlk := (H'.out.step HB3.out).look_ok hwx hwy HY.out
      have hls := same_lost12 ((H.out.step HB3.out).cl _ _ _ HX.out) ((H'.out.step HB3.out).cl _ _ _ HY.out) HL.out
      have HLS := Lib.hid hls
      clear hX hlx hwx hwy hrg1 hlt hg1 hs1 hb2 hls
      go_wp2_with (go_at_call 48; refine HLS.out.mono ?_; rintro e w3 ⟨rfl, hb3⟩; have HB4 := Lib.hid (HB3.out.trans (hb3.mono HB3.out.size)); clear hb3)
      go_ret
      exact ⟨rfl, HB4.out⟩
  · have hz' : ¬ ((Maps.size D : Nat) : Int) = ((Maps.size D' : Nat) : Int) := by omega
    clear h h' hm hm' hD hD' hwf hhas hX hY honly hl
    obtain ⟨z1, hz1⟩ : ∃ z, Maps.size D = z := ⟨_, rfl⟩
    obtain ⟨z2, hz2⟩ : ∃ z, Maps.size D' = z := ⟨_, rfl⟩
    rw [hz1, hz2] at hz' hz
    go_enter Try.func47, Try.ntmps47
    go_wp2_with (first
      | (at_len; refine wpList_len_own _ rfl _ _ rfl _ _ Try.underlying66 _ _ _ _ rfl HO.out ?_; rw [hz1])
      | (at_len; refine wpList_len_own _ rfl _ _ rfl _ _ Try.underlying66 _ _ _ _ rfl HO'.out ?_; rw [hz2]))
    go_ret
    exact ⟨rfl, Below.refl _ _⟩
section
variable {w : World} {O R O' R' : Nat → Prop} {p p' : Nat} {L L' : Lay12} {s s' : Ps}
set_option maxHeartbeats 4000000 in
set_option maxRecDepth 100000 in
theorem same_no12 (h : PoAt w O R p L s) (h' : PoAt w O' R' p' L' s') (he : s.q = s'.q) {a0 n0 : Int} {X0 Y0 : Cl} (hX : s.c a0 n0 = some X0) (honly : ∀ a n X, s.c a n = some X → a = a0 ∧ n = n0) (hY : s'.c a0 n0 = some Y0) (hl : X0.lo ≠ Y0.lo) :
    Calls Try.prog 15 #[.pointer (some ⟨p, 0, none⟩), .pointer (some ⟨p', 0, none⟩)] w fun e w' => e = .returned (.bool false) ∧ Below w.heap.size w w' := by
  obtain ⟨n, hn⟩ : ∃ n, s.q.length = n := ⟨_, rfl⟩
  have hn' : s'.q.length = n := by rw [← he]; exact hn
  have hn2 := h.ok.q2
  rw [hn] at hn2
  have H := Lib.hid (there_yes12 h)
  have H' := Lib.hid (there_yes12 h')
  have HSK : ∀ W : World, Below w.heap.size w W → W.cell? ⟨p, 0, none⟩ = some (.slice (some ⟨L.qb, 0, none⟩) n L.qc) ∧ W.cell? ⟨p', 0, none⟩ = some (.slice (some ⟨L'.qb, 0, none⟩) n L'.qc) ∧ W.cell? ⟨p, 1, none⟩ = some (.map (some L.b)) ∧ W.cell? ⟨p', 1, none⟩ = some (.map (some L'.b)) := fun W hb => by
    have e1 := (h.step hb).c0
    have e2 := (h'.step hb).c0
    rw [hn] at e1
    rw [hn'] at e2
    exact ⟨e1, e2, (h.step hb).c1, (h'.step hb).c1⟩
  have HEQ : ∀ W : World, Below w.heap.size w W → Hid (Calls Try.prog 46 #[.slice (some ⟨L.qb, 0, none⟩) n L.qc, .slice (some ⟨L'.qb, 0, none⟩) n L'.qc] W fun e w' => e = .returned (.bool true) ∧ Below W.heap.size W w') := fun W hb => Lib.hid
    (eqints_any12 (q := s.q) ⟨hn, (h.step hb).qs⟩ ⟨hn, fun i x hx => (h'.step hb).qs i x (he ▸ hx)⟩ (by omega))
  have HEF : ∀ W : World, Below w.heap.size w W → Hid (Calls Try.prog 47 #[.map (some L.b), .map (some L'.b), .func (.func 48) #[] #[]] W fun e w' => e = .returned (.bool false) ∧ Below W.heap.size W w') := fun W hb => Lib.hid
    (mapseq_lost12 (h.step hb) (h'.step hb) hX honly hY hl)
  have HS0 := Lib.hid (HSK w.drew ((Below.refl _ w).drew))
  clear h h' he hn hn' hX honly hY hl
  go_enter Try.func15, Try.ntmps15
  go_wp2_with (first
    | (with_reducible (go_at_call 45; refine H.out.mono ?_); rintro e w' ⟨rfl, rfl⟩)
    | (with_reducible (go_at_call 45; refine H'.out.mono ?_); rintro e w' ⟨rfl, rfl⟩))
  refine wp_region_noPanic ?_
  refine wp_region_held_drew (S := fun W => W.cell? ⟨p, 0, none⟩ = some (.slice (some ⟨L.qb, 0, none⟩) n L.qc) ∧ W.cell? ⟨p', 0, none⟩ = some (.slice (some ⟨L'.qb, 0, none⟩) n L'.qc) ∧ W.cell? ⟨p, 1, none⟩ = some (.map (some L.b)) ∧ W.cell? ⟨p', 1, none⟩ = some (.map (some L'.b))) (by kernel_rfl) ?_ (fun hHeld => ?_)
  · exact HS0.out
  refine wpAnyH_take (i := 0) (v := ?_) rfl (by kernel_rfl) (by kernel_rfl) (by kernel_rfl) (fun _ _ _ h => h) (Or.inl ⟨by rfl, ?_⟩) (by assumption) ?_
  rotate_left
  · (intro w hSw; obtain ⟨hS1, hS2, hS3, hS4⟩ := hSw; (try simp only [List.getElem_toArray, List.getElem_cons_zero]); go_simp; try (with_reducible rfl))
  try simp only [Act.put, List.getElem_toArray, List.getElem_cons_zero, List.setIfInBounds_toArray, List.set_cons_zero, List.set_cons_succ]
  refine wpAnyH_take (i := 1) (v := ?_) rfl (by kernel_rfl) (by kernel_rfl) (by kernel_rfl) (fun _ _ _ h => h) (Or.inl ⟨by rfl, ?_⟩) (by assumption) ?_
  rotate_left
  · (intro w hSw; obtain ⟨hS1, hS2, hS3, hS4⟩ := hSw; (try simp only [List.getElem_toArray, List.getElem_cons_zero, List.getElem_cons_succ]); go_simp; try (with_reducible rfl))
  try simp only [Act.put, List.getElem_toArray, List.getElem_cons_zero, List.getElem_cons_succ, List.setIfInBounds_toArray, List.set_cons_zero, List.set_cons_succ]
  refine wpAnyH_take (i := 2) (v := ?_) rfl (by kernel_rfl) (by kernel_rfl) (by kernel_rfl) (fun _ _ _ h => h) (Or.inl ⟨by rfl, ?_⟩) (by assumption) ?_
  rotate_left
  · (intro w hSw; obtain ⟨hS1, hS2, hS3, hS4⟩ := hSw; (try simp only [List.getElem_toArray, List.getElem_cons_zero, List.getElem_cons_succ]); go_simp; try (with_reducible rfl))
  try simp only [Act.put, List.getElem_toArray, List.getElem_cons_zero, List.getElem_cons_succ, List.setIfInBounds_toArray, List.set_cons_zero, List.set_cons_succ]
  refine wpAnyH_take (i := 3) (v := ?_) rfl (by kernel_rfl) (by kernel_rfl) (by kernel_rfl) (fun _ _ _ h => h) (Or.inl ⟨by rfl, ?_⟩) (by assumption) ?_
  rotate_left
  · (intro w hSw; obtain ⟨hS1, hS2, hS3, hS4⟩ := hSw; (try simp only [List.getElem_toArray, List.getElem_cons_zero, List.getElem_cons_succ]); go_simp; try (with_reducible rfl))
  try simp only [Act.put, List.getElem_toArray, List.getElem_cons_zero, List.getElem_cons_succ, List.setIfInBounds_toArray, List.set_cons_zero, List.set_cons_succ]
  refine wpAnyH_take (i := 4) (v := ?_) rfl (by kernel_rfl) (by kernel_rfl) (by kernel_rfl) (fun _ _ _ h => h) (Or.inl ⟨by rfl, ?_⟩) (by assumption) ?_
  rotate_left
  · (intro w hSw; obtain ⟨hS1, hS2, hS3, hS4⟩ := hSw; (try simp only [List.getElem_toArray, List.getElem_cons_zero, List.getElem_cons_succ]); go_simp; try (with_reducible rfl))
  try simp only [Act.put, List.getElem_toArray, List.getElem_cons_zero, List.getElem_cons_succ, List.setIfInBounds_toArray, List.set_cons_zero, List.set_cons_succ]
  refine wpAnyH_take (i := 5) (v := ?_) rfl (by kernel_rfl) (by kernel_rfl) (by kernel_rfl) (fun _ _ _ h => h) (Or.inl ⟨by rfl, ?_⟩) (by assumption) ?_
  rotate_left
  · (intro w hSw; obtain ⟨hS1, hS2, hS3, hS4⟩ := hSw; (try simp only [List.getElem_toArray, List.getElem_cons_zero, List.getElem_cons_succ]); go_simp; try (with_reducible rfl))
  try simp only [Act.put, List.getElem_toArray, List.getElem_cons_zero, List.getElem_cons_succ, List.setIfInBounds_toArray, List.set_cons_zero, List.set_cons_succ]
  refine wpAnyH_take (i := 6) (v := ?_) rfl (by kernel_rfl) (by kernel_rfl) (by kernel_rfl) (fun _ _ _ h => h) (Or.inl ⟨by rfl, ?_⟩) (by assumption) ?_
  rotate_left
  · (intro w hSw; obtain ⟨hS1, hS2, hS3, hS4⟩ := hSw; (try simp only [List.getElem_toArray, List.getElem_cons_zero, List.getElem_cons_succ]); go_simp; try (with_reducible rfl))
  try simp only [Act.put, List.getElem_toArray, List.getElem_cons_zero, List.getElem_cons_succ, List.setIfInBounds_toArray, List.set_cons_zero, List.set_cons_succ]
  refine wpAnyH_take (i := 7) (v := ?_) rfl (by kernel_rfl) (by kernel_rfl) (by kernel_rfl) (fun _ _ _ h => h) (Or.inl ⟨by rfl, ?_⟩) (by assumption) ?_
  rotate_left
  · (intro w hSw; obtain ⟨hS1, hS2, hS3, hS4⟩ := hSw; (try simp only [List.getElem_toArray, List.getElem_cons_zero, List.getElem_cons_succ]); go_simp; try (with_reducible rfl))
  try simp only [Act.put, List.getElem_toArray, List.getElem_cons_zero, List.getElem_cons_succ, List.setIfInBounds_toArray, List.set_cons_zero, List.set_cons_succ]
  refine wpAnyH_ready (rs := [8]) (by kernel_rfl) (by simp) ?_
  refine AllReadyH.cons rfl (fun K hK => ?_) AllReadyH.nil
  (try simp only [List.getElem_toArray, List.getElem_cons_zero, List.getElem_cons_succ]); go_simp
  go_at_call 46; refine (HEQ _ (Below.drew (Below.refl _ w))).out.mono ?_; rintro e w1 ⟨rfl, hb1⟩
  have HB1 := Lib.hid ((Below.refl _ w).drew.trans hb1)
  clear hb1
  try (go_wp2_with fail)
  refine hK.out _ _ (HSK w1 HB1.out) (fun hHeld => ?_)
  clear hK K
  try simp only [Act.put, List.getElem_toArray, List.getElem_cons_zero, List.getElem_cons_succ, List.setIfInBounds_toArray, List.set_cons_zero, List.set_cons_succ]
  refine wpAnyH_take (i := 9) (v := ?_) rfl (by kernel_rfl) (by kernel_rfl) (by kernel_rfl) (fun _ _ _ h => h) (Or.inl ⟨by rfl, ?_⟩) (by assumption) ?_
  rotate_left
  · (intro w hSw; obtain ⟨hS1, hS2, hS3, hS4⟩ := hSw; (try simp only [List.getElem_toArray, List.getElem_cons_zero, List.getElem_cons_succ]); go_simp; try (with_reducible rfl))
  try simp only [Act.put, List.getElem_toArray, List.getElem_cons_zero, List.getElem_cons_succ, List.setIfInBounds_toArray, List.set_cons_zero, List.set_cons_succ]
  refine wpAnyH_take (i := 10) (v := ?_) rfl (by kernel_rfl) (by kernel_rfl) (by kernel_rfl) (fun _ _ _ h => h) (Or.inl ⟨by rfl, ?_⟩) (by assumption) ?_
  rotate_left
  · (intro w hSw; obtain ⟨hS1, hS2, hS3, hS4⟩ := hSw; (try simp only [List.getElem_toArray, List.getElem_cons_zero, List.getElem_cons_succ]); go_simp; try (with_reducible rfl))
  try simp only [Act.put, List.getElem_toArray, List.getElem_cons_zero, List.getElem_cons_succ, List.setIfInBounds_toArray, List.set_cons_zero, List.set_cons_succ]
  refine wpAnyH_take (i := 11) (v := ?_) rfl (by kernel_rfl) (by kernel_rfl) (by kernel_rfl) (fun _ _ _ h => h) (Or.inl ⟨by rfl, ?_⟩) (by assumption) ?_
  rotate_left
  · (intro w hSw; obtain ⟨hS1, hS2, hS3, hS4⟩ := hSw; (try simp only [List.getElem_toArray, List.getElem_cons_zero, List.getElem_cons_succ]); go_simp; try (with_reducible rfl))
  try simp only [Act.put, List.getElem_toArray, List.getElem_cons_zero, List.getElem_cons_succ, List.setIfInBounds_toArray, List.set_cons_zero, List.set_cons_succ]
  refine wpAnyH_take (i := 12) (v := ?_) rfl (by kernel_rfl) (by kernel_rfl) (by kernel_rfl) (fun _ _ _ h => h) (Or.inl ⟨by rfl, ?_⟩) (by assumption) ?_
  rotate_left
  · (intro w hSw; obtain ⟨hS1, hS2, hS3, hS4⟩ := hSw; (try simp only [List.getElem_toArray, List.getElem_cons_zero, List.getElem_cons_succ]); go_simp; try (with_reducible rfl))
  try simp only [Act.put, List.getElem_toArray, List.getElem_cons_zero, List.getElem_cons_succ, List.setIfInBounds_toArray, List.set_cons_zero, List.set_cons_succ]
  refine wpAnyH_take (i := 13) (v := ?_) rfl (by kernel_rfl) (by kernel_rfl) (by kernel_rfl) (fun _ _ _ h => h) (Or.inl ⟨by rfl, ?_⟩) (by assumption) ?_
  rotate_left
  · (intro w hSw; obtain ⟨hS1, hS2, hS3, hS4⟩ := hSw; (try simp only [List.getElem_toArray, List.getElem_cons_zero, List.getElem_cons_succ]); go_simp; try (with_reducible rfl))
  try simp only [Act.put, List.getElem_toArray, List.getElem_cons_zero, List.getElem_cons_succ, List.setIfInBounds_toArray, List.set_cons_zero, List.set_cons_succ]
  refine wpAnyH_take (i := 14) (v := ?_) rfl (by kernel_rfl) (by kernel_rfl) (by kernel_rfl) (fun _ _ _ h => h) (Or.inl ⟨by rfl, ?_⟩) (by assumption) ?_
  rotate_left
  · (intro w hSw; obtain ⟨hS1, hS2, hS3, hS4⟩ := hSw; (try simp only [List.getElem_toArray, List.getElem_cons_zero, List.getElem_cons_succ]); go_simp; try (with_reducible rfl))
  try simp only [Act.put, List.getElem_toArray, List.getElem_cons_zero, List.getElem_cons_succ, List.setIfInBounds_toArray, List.set_cons_zero, List.set_cons_succ]
  refine wpAnyH_take (i := 15) (v := ?_) rfl (by kernel_rfl) (by kernel_rfl) (by kernel_rfl) (fun _ _ _ h => h) (Or.inl ⟨by rfl, ?_⟩) (by assumption) ?_
  rotate_left
  · (intro w hSw; obtain ⟨hS1, hS2, hS3, hS4⟩ := hSw; (try simp only [List.getElem_toArray, List.getElem_cons_zero, List.getElem_cons_succ]); go_simp; try (with_reducible rfl))
  try simp only [Act.put, List.getElem_toArray, List.getElem_cons_zero, List.getElem_cons_succ, List.setIfInBounds_toArray, List.set_cons_zero, List.set_cons_succ]
  refine wpAnyH_take (i := 16) (v := ?_) rfl (by kernel_rfl) (by kernel_rfl) (by kernel_rfl) (fun _ _ _ h => h) (Or.inl ⟨by rfl, ?_⟩) (by assumption) ?_
  rotate_left
  · (intro w hSw; obtain ⟨hS1, hS2, hS3, hS4⟩ := hSw; (try simp only [List.getElem_toArray, List.getElem_cons_zero, List.getElem_cons_succ]); go_simp; try (with_reducible rfl))
  try simp only [Act.put, List.getElem_toArray, List.getElem_cons_zero, List.getElem_cons_succ, List.setIfInBounds_toArray, List.set_cons_zero, List.set_cons_succ]
  refine wpAnyH_take (i := 17) (v := ?_) rfl (by kernel_rfl) (by kernel_rfl) (by kernel_rfl) (fun _ _ _ h => h) (Or.inl ⟨by rfl, ?_⟩) (by assumption) ?_
  rotate_left
  · (intro w hSw; obtain ⟨hS1, hS2, hS3, hS4⟩ := hSw; (try simp only [List.getElem_toArray, List.getElem_cons_zero, List.getElem_cons_succ]); go_simp; try (with_reducible rfl))
  try simp only [Act.put, List.getElem_toArray, List.getElem_cons_zero, List.getElem_cons_succ, List.setIfInBounds_toArray, List.set_cons_zero, List.set_cons_succ]
  refine wpAnyH_ready (rs := [18]) (by kernel_rfl) (by simp) ?_
  refine AllReadyH.cons rfl (fun K hK => ?_) AllReadyH.nil
  (try simp only [List.getElem_toArray, List.getElem_cons_zero, List.getElem_cons_succ]); go_simp
  go_at_call 47; refine (HEF w1 HB1.out).out.mono ?_; rintro e w2 ⟨rfl, hb2⟩
  have HB2 := Lib.hid (HB1.out.trans (hb2.mono HB1.out.size))
  clear hb2
  try (go_wp2_with fail)
  refine hK.out _ _ (HSK w2 HB2.out) (fun hHeld => ?_)
  clear hK K
  try simp only [Act.put, List.getElem_toArray, List.getElem_cons_zero, List.getElem_cons_succ, List.setIfInBounds_toArray, List.set_cons_zero, List.set_cons_succ]
  refine wpAnyH_take (i := 19) (v := ?_) rfl (by kernel_rfl) (by kernel_rfl) (by kernel_rfl) (fun _ _ _ h => h) (Or.inl ⟨by rfl, ?_⟩) (by assumption) ?_
  rotate_left
  · (intro w hSw; obtain ⟨hS1, hS2, hS3, hS4⟩ := hSw; (try simp only [List.getElem_toArray, List.getElem_cons_zero, List.getElem_cons_succ]); go_simp; try (with_reducible rfl))
  try simp only [Act.put, List.getElem_toArray, List.getElem_cons_zero, List.getElem_cons_succ, List.setIfInBounds_toArray, List.set_cons_zero, List.set_cons_succ]
  refine wpAnyH_take (i := 20) (v := ?_) rfl (by kernel_rfl) (by kernel_rfl) (by kernel_rfl) (fun _ _ _ h => h) (Or.inl ⟨by rfl, ?_⟩) (by assumption) ?_
  rotate_left
  · (intro w hSw; obtain ⟨hS1, hS2, hS3, hS4⟩ := hSw; (try simp only [List.getElem_toArray, List.getElem_cons_zero, List.getElem_cons_succ]); go_simp; try (with_reducible rfl))
  try simp only [Act.put, List.getElem_toArray, List.getElem_cons_zero, List.getElem_cons_succ, List.setIfInBounds_toArray, List.set_cons_zero, List.set_cons_succ]
  refine wpAnyH_done (by kernel_rfl) ?_ _
  refine NoPanic.normal ?_
  go_wp2
  go_ret
  exact ⟨rfl, HB2.out⟩
end
end Go.Proofs.Ytakpankipagndaa
