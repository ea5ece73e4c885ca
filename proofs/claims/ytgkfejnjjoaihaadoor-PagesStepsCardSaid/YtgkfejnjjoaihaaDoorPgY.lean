/- A region that draws its order, within a round of a range over a function: walked as outside. For every program, of a region without a defer statement. -/
import Derived.Test.YtgkfejnjjoaihaaDoorPgX
import Derived.Test.YtgkfejnjjoaihaaDoorIsaRound
import Derived.Deep.RegionHeld3
namespace Go.Proofs.YtgkfejnjjoaihaaDoor
open Go.RowKit
attribute [local go_sem] Oper.semAt_some

section
variable {n : Nat} {P : Program} {ops : Array Oper} {Q : Exit → Act → World → Prop}
theorem rowsIn_wide {row : String} {args : Array Value} {w : World} {R : Value → World → Prop} (h : Rows P row args w R) : RowsIn Fence.wide n P row args w R :=
  fun c cs _ => let ⟨v, w', r, s⟩ := h c cs; ⟨v, w', r, stepsIn_wide.2 s⟩
theorem upon_in (o : Oper) (a : Act) (K : Act → World → Prop) (r : Result Next) (h : o.upon P a K Q r) : o.uponIn Fence.wide n P a K Q r := by
  cases r with
  | ok x w =>
    cases x with
    | value v => exact h
    | skip => exact h
    | defer d => exact h
    | enter f args =>
      refine ⟨fun hd => by simp [Fence.wide] at hd, callsIn_wide.2 ?_⟩
      refine Calls.mono (show Calls P f args w _ from h) ?_
      intro e w' hr
      cases e <;> exact hr
    | row r args => exact ⟨fun hd => by simp [Fence.wide] at hd, rowsIn_wide h⟩
    | _ => exact False.elim h
  | halt hl w =>
    cases hl <;> exact h
theorem op_in (hL : ¬ LetsOut Q) {i : Nat} {K : Act → World → Prop} {a : Act} {w : World} (hd : ∀ (i : Nat) o, ops[i]? = some o → ∀ c, o.op ≠ .defer c) (h : wpOp P ops Q i K a w) : wpOpIn Fence.wide n P ops Q i K a w := by
  unfold wpOp at h
  unfold wpOpIn
  cases ho : ops[i]? with
  | none => rw [ho] at h; exact h
  | some o =>
    rw [ho] at h
    simp only at h ⊢
    split
    · rename_i hw
      rw [if_pos hw] at h
      rcases h with h | ⟨-, h⟩
      · refine ⟨fun _ _ => trivial, ?_⟩
        rw [Oper.semAt_eq _ _ o (hd i o ho)]
        exact upon_in o a K _ h
      · exact absurd h hL
    · rename_i hw
      rw [if_neg hw] at h
      exact ⟨fun _ _ => trivial, h⟩
theorem orders_in (hL : ¬ LetsOut Q) (hd : ∀ (i : Nat) o, ops[i]? = some o → ∀ c, o.op ≠ .defer c) {md : Region.Mode} : ∀ (fuel : Nat) (listed : Array Bool) (a : Act) (w : World), wpAny P md ops Q fuel listed a w → wpAnyIn Fence.wide n P md ops Q fuel listed a w
  | 0, _, _, _, h => h
  | fuel + 1, listed, a, w, h => ⟨h.1, fun i hi => wpOpIn_mono (fun a' w' h' => orders_in hL hd fuel _ a' w' h') (op_in hL hd (h.2 i hi))⟩
/-- A region that draws its order, in a round: from the world behind the draw, under a condition that every operation keeps. -/
theorem region_held_round {id l : Nat} {a : Act} {w : World} {os : List Oper} {S : World → Prop} (hm : P.follows .mixedOrders = true) (hd : noDefer os = true) (hL : ¬ LetsOut Q) (hS : S w.drew)
    (h : S w.drew → wpAnyH P .any os.toArray Q S os.toArray.size (Array.replicate os.toArray.size false) a w.drew) : (Code.region id os.toArray true).wpIn (Fence.wide.inRound l) n P Q a w :=
  wpIn_region_any hm (any_round l rfl (noDefer_spec hd) _ _ _ _ (orders_in hL (noDefer_spec hd) _ _ _ _ (wpAny_of_held _ _ _ _ (h hS))))
end
theorem mixed_p : Tryd.prog.follows .mixedOrders = true := by kernel_rfl
theorem mask_pop (T : Tb) (f : Int) (s : Nat) : Lib.popAux 32 (mask T f s) = ((List.range 32).filter (hitB T f s)).length := by
  rw [pop_filter]
  congr 1
  apply List.filter_congr
  intro i hi
  rw [mask_bit]
  simp [List.mem_range.1 hi]

/-! ### Count -/
def countTo (T : Tb) (f : Int) : Nat → Nat
  | 0 => 0
  | k + 1 => countTo T f k + ((List.range 32).filter (hitB T f k)).length
theorem countTo_le (T : Tb) (f : Int) : ∀ k, countTo T f k ≤ 32 * k
  | 0 => Nat.le_refl _
  | k + 1 => by
    have h1 := countTo_le T f k
    have h2 := List.length_filter_le (hitB T f k) (List.range 32)
    rw [List.length_range] at h2
    unfold countTo
    omega
def CountI (w0 : World) (T : Tb) (f : Int) (m k : Nat) (W : World) : Prop := Turned w0 W [m] ∧ W.heap[m]? = some (.cells #[.int .i64 (countTo T f k : Nat)] 3 (0, 0))
theorem hitE_no {T : Tb} {f : Int} {k : Nat} (h : hitE T f k = false) : ((List.range 32).filter (hitB T f k)).length = 0 := by
  rw [← mask_pop]
  have : mask T f k = 0 := by unfold hitE at h; simpa using h
  rw [this, pop_zero]
set_option maxRecDepth 100000 in
set_option maxHeartbeats 2000000 in
theorem count_in {w : World} {t b N : Nat} {T : Tb} (h : PT w t b N T) (f : Int) (hf : (Lit.int .i64 f).wf = true) :
    CallsIn Fence.wide 5 Tryd.prog 22 #[.pointer (some ⟨t, 0, none⟩), .int .i64 f] w fun e w' => e = .returned (.int .i64 (countTo T f 16 : Nat)) ∧ Below w.heap.size w w' := by
  obtain ⟨r0, r1, r2, hsz, hB0⟩ := three_boxes w (.int .i64 0) (.pointer (some ⟨t, 0, none⟩)) (.int .i64 f) 3 23 3
  have hP := h.step hB0
  have tlt := h.ht
  have blt := h.hb
  have HP := Lib.hid hP
  clear h hP
  refine callsIn_of_wp_marks Tryd.func22 rfl trivial ?_ rfl
  simp only [Tryd.ntmps22, List.size_toArray, List.length_cons, List.length_nil, Nat.reduceAdd, Nat.reduceSub, Array.replicate_succ, Array.replicate_zero, List.push_toArray, List.append_toArray, List.nil_append, List.cons_append]
  gi_wp2_with fail
  refine ⟨trivial, ?_⟩
  gi_at_call 47
  refine (callsIn_wide.2 (each_any _ _)).mono ?_
  rintro e w' ⟨rfl, rfl⟩
  rw [show (w.alloc (.cells #[.int .i64 0] 3)).heap.size = w.heap.size + 1 by simp]
  gi_wp2_with fail
  generalize hW0 : ((w.alloc (.cells #[.int .i64 0] 3)).alloc (.cells #[.pointer (some ⟨t, 0, none⟩)] 23)).alloc (.cells #[.int .i64 f] 3) = w0 at r0 r1 r2 hsz hB0 HP ⊢
  clear hW0
  have hn : w.heap.size ≤ w0.heap.size := hB0.size
  have HB0 := Lib.hid hB0
  have R0 := Lib.hid r0
  have HS := Lib.hid hsz
  have hbox : ∀ W : World, Turned w0 W [w.heap.size] → BoxesAt W (w.heap.size + 1) (w.heap.size + 1 + 1) t f ∧ PT W t b N T := fun W hb =>
    ⟨boxes_of ((hb.block _ (by omega) (by simp)).trans r1) ((hb.block _ (by omega) (by simp; omega)).trans r2), HP.out.other hb (by simp; omega) (by simp; omega)⟩
  have HBX := Lib.hid hbox
  clear r0 r1 r2 hsz hbox hB0
  refine range_b (encs := encE T f) (N := 16) (hit := hitE T f) (I := CountI w0 T f w.heap.size) (Ix := fun _ _ => False) rfl (by omega) (gf := 60) (lb := #[.pointer (some ⟨w.heap.size + 1, 0, none⟩), .pointer (some ⟨w.heap.size + 1 + 1, 0, none⟩)]) rfl trivial (enters_of Tryd.func60 (by kernel_rfl) rfl)
    (each_steps 4 (by omega) _ _ t b N T f hf _ (fun k W hI => HBX.out W hI.1)) (fun _ => rfl)
    (OwnFrom.and (turned_own w0 _ _ (Nat.le_refl _)) (block_own _ _ (by have := HS.out; omega) _)) (fun k W h => ⟨h.1.trans (Turned.of_below _ ((Below.refl _ W).drew)), h.2⟩) (fun c => fun _ _ _ _ h _ _ => h.elim) ⟨Turned.refl _ _, by simpa [countTo] using R0.out⟩
    (fun k W _ hh h => ⟨h.1, by rw [show countTo T f (k + 1) = countTo T f k + ((List.range 32).filter (hitB T f k)).length from rfl, hitE_no hh]; exact h.2⟩) (fun _ => none)
    (fun k B => { tmps := #[.pointer (some ⟨t, 0, none⟩), .int .i64 f, undef, undef, .int .i64 0, .pointer (some ⟨w.heap.size, 0, none⟩), undef, .int .u32 (mask T f k : Nat), .pointer (some ⟨t, 0, none⟩), .int .i64 f, .func (.func 60) #[] #[.pointer (some ⟨w.heap.size + 1, 0, none⟩), .pointer (some ⟨w.heap.size + 1 + 1, 0, none⟩)], .int .i64 k, .int .u32 (mask T f k : Nat), undef, undef, undef, undef, undef], defers := [] }) ?assign ?body ?done ?stop
  case assign =>
    intro l k W K hK
    unfold encE
    gi_wp2
    exact hK
  case body =>
    rintro l k B W hk hh hB - ⟨htu, hcnt⟩
    have hml : w.heap.size < W.heap.size := (Array.getElem?_eq_some_iff.1 hcnt).1
    have hmk := mask_lt T f k
    have hpk := mask_pop T f k
    have hle := countTo_le T f k
    have hll := List.length_filter_le (hitB T f k) (List.range 32)
    have hcs : countTo T f (k + 1) = countTo T f k + ((List.range 32).filter (hitB T f k)).length := rfl
    obtain ⟨mk, hmm⟩ : ∃ mk, mask T f k = mk := ⟨_, rfl⟩
    rw [hmm] at hmk hpk ⊢
    obtain ⟨x, hx⟩ : ∃ x, Lib.popAux 32 mk = x := ⟨_, rfl⟩
    rw [← hpk, hx] at hll hcs
    rw [List.length_range] at hll
    obtain ⟨c, hc⟩ : ∃ c, countTo T f k = c := ⟨_, rfl⟩
    rw [hc] at hcnt hle hcs
    have hones := fun W' => Lib.hid (ones_any mk hmk W')
    rw [hx] at hones
    have HFIN := Lib.hid (show ∀ (W2 : World) (y : Int), Below W.heap.size W W2 → W2.heap[w.heap.size]? = some (.cells #[.int .i64 (c : Nat)] 3 (0, 0)) → ∀ z : Int, z = (c : Int) + x → KeepsFrom w0.heap.size W (W2.setCell ⟨w.heap.size, 0, none⟩ (.int .i64 z)) ∧ CountI w0 T f w.heap.size (k + 1) (W2.setCell ⟨w.heap.size, 0, none⟩ (.int .i64 z)) from fun W2 _ hb hc2 z hz => by
      have h1 : Turned W (W2.setCell ⟨w.heap.size, 0, none⟩ (.int .i64 z)) [w.heap.size] := (Turned.of_below _ hb).trans (Turned.of_set (by simp) _)
      refine ⟨keeps_turned h1 (fun g hg => by simp at hg; subst hg; have := HS.out; omega), htu.trans h1, ?_⟩
      rw [heap_setCell_same W2 w.heap.size 0 _ _ (.int .i64 z) hc2, hcs, hz]
      simp)
    obtain ⟨d0, df, -⟩ := one_of hcnt
    have HT := Lib.hid htu
    clear htu hc hmm hpk
    gi_wp2
    refine region_held_round (S := fun _ => True) mixed_p (by kernel_rfl) (by rintro ⟨a, w, h⟩; exact h) trivial (fun _ => ?_)
    refine wpAnyH_take (i := 1) (v := ?_) rfl (by kernel_rfl) (by kernel_rfl) (by kernel_rfl) (fun _ _ _ h => h) (Or.inl ⟨by rfl, ?_⟩) trivial ?_
    rotate_left
    · (intro w hSw; (try simp only [List.getElem_toArray, List.getElem_cons_zero, List.getElem_cons_succ]); go_simp; try (with_reducible rfl))
    try simp only [Act.put, List.getElem_toArray, List.getElem_cons_zero, List.getElem_cons_succ, List.setIfInBounds_toArray, List.set_cons_zero, List.set_cons_succ]
    refine wpAnyH_ready (rs := [0, 2]) (by kernel_rfl) (by simp) ?_
    refine (AllReadyH.cons rfl (fun K hK => ?_) (AllReadyH.cons rfl (fun K hK => ?_) AllReadyH.nil))
    · (try simp only [List.getElem_toArray, List.getElem_cons_zero]); go_simp
      try (go_wp2_with fail)
      refine hK.out _ _ trivial (fun _ => ?_)
      clear hK K
      try simp only [Act.put, List.getElem_toArray, List.getElem_cons_zero, List.setIfInBounds_toArray, List.set_cons_zero, List.set_cons_succ]
      refine wpAnyH_ready (rs := [2]) (by kernel_rfl) (by simp) ?_
      refine AllReadyH.cons rfl (fun K hK => ?_) AllReadyH.nil
      (try simp only [List.getElem_toArray, List.getElem_cons_zero, List.getElem_cons_succ]); go_simp
      go_at_call 49; refine (hones _).out.mono ?_; rintro e w2 ⟨rfl, hb2⟩; have q2 := (hb2.block w.heap.size hml).trans hcnt; obtain ⟨d0, df, dl⟩ := one_of q2; have R2 := Lib.hid q2; have B2 := Lib.hid hb2; clear hb2 q2
      try (go_wp2_with fail)
      refine hK.out _ _ trivial (fun _ => ?_)
      clear hK K
      try simp only [Act.put, List.getElem_toArray, List.getElem_cons_zero, List.getElem_cons_succ, List.setIfInBounds_toArray, List.set_cons_zero, List.set_cons_succ]
      refine wpAnyH_take (i := 3) (v := ?_) rfl (by kernel_rfl) (by kernel_rfl) (by kernel_rfl) (fun _ _ _ h => h) (Or.inl ⟨by rfl, ?_⟩) trivial ?_
      rotate_left
      · (intro w hSw; (try simp only [List.getElem_toArray, List.getElem_cons_zero, List.getElem_cons_succ]); go_simp; try (with_reducible rfl))
      try simp only [Act.put, List.getElem_toArray, List.getElem_cons_zero, List.getElem_cons_succ, List.setIfInBounds_toArray, List.set_cons_zero, List.set_cons_succ]
      refine wpAnyH_ready (rs := [4]) (by kernel_rfl) (by simp) ?_
      refine AllReadyH.cons rfl (fun K hK => ?_) AllReadyH.nil
      (try simp only [List.getElem_toArray, List.getElem_cons_zero, List.getElem_cons_succ]); go_simp
      try (go_wp2_with fail)
      refine hK.out _ _ trivial (fun _ => ?_)
      clear hK K
      try simp only [Act.put, List.getElem_toArray, List.getElem_cons_zero, List.getElem_cons_succ, List.setIfInBounds_toArray, List.set_cons_zero, List.set_cons_succ]
      refine wpAnyH_done (by kernel_rfl) ?_ _
      exact HFIN.out w2 0 ((Below.refl _ W).drew.trans B2.out) R2.out _ (by rw [IntKind.wrap_i64]; omega)
    · (try simp only [List.getElem_toArray, List.getElem_cons_zero, List.getElem_cons_succ]); go_simp
      go_at_call 49; refine (hones _).out.mono ?_; rintro e w2 ⟨rfl, hb2⟩; have q2 := (hb2.block w.heap.size hml).trans hcnt; obtain ⟨d0, df, dl⟩ := one_of q2; have R2 := Lib.hid q2; have B2 := Lib.hid hb2; clear hb2 q2
      try (go_wp2_with fail)
      refine hK.out _ _ trivial (fun _ => ?_)
      clear hK K
      try simp only [Act.put, List.getElem_toArray, List.getElem_cons_zero, List.getElem_cons_succ, List.setIfInBounds_toArray, List.set_cons_zero, List.set_cons_succ]
      refine wpAnyH_ready (rs := [0]) (by kernel_rfl) (by simp) ?_
      refine AllReadyH.cons rfl (fun K hK => ?_) AllReadyH.nil
      (try simp only [List.getElem_toArray, List.getElem_cons_zero]); go_simp
      try (go_wp2_with fail)
      refine hK.out _ _ trivial (fun _ => ?_)
      clear hK K
      try simp only [Act.put, List.getElem_toArray, List.getElem_cons_zero, List.setIfInBounds_toArray, List.set_cons_zero, List.set_cons_succ]
      refine wpAnyH_take (i := 3) (v := ?_) rfl (by kernel_rfl) (by kernel_rfl) (by kernel_rfl) (fun _ _ _ h => h) (Or.inl ⟨by rfl, ?_⟩) trivial ?_
      rotate_left
      · (intro w hSw; (try simp only [List.getElem_toArray, List.getElem_cons_zero, List.getElem_cons_succ]); go_simp; try (with_reducible rfl))
      try simp only [Act.put, List.getElem_toArray, List.getElem_cons_zero, List.getElem_cons_succ, List.setIfInBounds_toArray, List.set_cons_zero, List.set_cons_succ]
      refine wpAnyH_ready (rs := [4]) (by kernel_rfl) (by simp) ?_
      refine AllReadyH.cons rfl (fun K hK => ?_) AllReadyH.nil
      (try simp only [List.getElem_toArray, List.getElem_cons_zero, List.getElem_cons_succ]); go_simp
      try (go_wp2_with fail)
      refine hK.out _ _ trivial (fun _ => ?_)
      clear hK K
      try simp only [Act.put, List.getElem_toArray, List.getElem_cons_zero, List.getElem_cons_succ, List.setIfInBounds_toArray, List.set_cons_zero, List.set_cons_succ]
      refine wpAnyH_done (by kernel_rfl) ?_ _
      exact HFIN.out w2 0 ((Below.refl _ W).drew.trans B2.out) R2.out _ (by rw [IntKind.wrap_i64]; omega)
  case done =>
    rintro D W hD ⟨htu, hcnt⟩ hK
    obtain ⟨d0, df, dl⟩ := one_of hcnt
    have hm := HS.out
    have hx0 := HB0.out
    have hb : Below w.heap.size w W := ⟨htu.os.trans hx0.os, htu.tape.trans hx0.tape, htu.output.trans hx0.output, Nat.le_trans hx0.size htu.size, fun j hj => (htu.block j (by omega) (by simp; omega)).trans (hx0.block j hj)⟩
    have HT := Lib.hid hb
    clear htu hb hx0
    gi_wp2
    refine ⟨by simp, .inl ⟨_, _, rfl, run_takeDeferred hK, ?_⟩⟩
    exact ⟨.int .i64 (countTo T f 16 : Nat), by simp [results, Tryd.f22, go_sem], rfl, below_putC HT.out _ _ (by omega)⟩
  case stop => rintro D c W hD h; exact h.elim
theorem count_any {w : World} {t b N : Nat} {T : Tb} (h : PT w t b N T) (f : Int) (hf : (Lit.int .i64 f).wf = true) :
    Calls Tryd.prog 22 #[.pointer (some ⟨t, 0, none⟩), .int .i64 f] w fun e w' => e = .returned (.int .i64 (countTo T f 16 : Nat)) ∧ Below w.heap.size w w' := callsIn_wide.1 (count_in h f hf)
end Go.Proofs.YtgkfejnjjoaihaaDoor
