/- CapsWithin: the walk. -/
import Derived.Test.YtgpmkllhljngfaaCapR
namespace Go.Proofs.Ytgpmkllhljngfaa
open Go.RowKit
attribute [local go_sem] Oper.semAt_some

/-- The marks that loops over functions leave. -/
def marks (Ds : List Nat) : List Deferred := Ds.map fun D => { target := .collected D, args := #[] }
theorem leaves_marks {F : Fence} {n : Nat} {P : Program} {fn : Func} {tmps : Array Value} {R : Ending → World → Prop} {B : Nat} {Pw : World → Prop} (hP : OwnFrom B (fun (_ : Unit) W => Pw W)) :
    ∀ (Ds : List Nat) (W : World), Pw W → Ds.Nodup → (∀ D ∈ Ds, B ≤ D ∧ W.heap[D]? = some (.deferred (some []))) → (∀ W', Pw W' → LeavesInM F n P fn tmps R [] .returning W') → LeavesInM F n P fn tmps R (marks Ds) .returning W
  | [], W, h, _, _, hK => hK W h
  | D :: Ds, W, h, hn, hD, hK => by
    obtain ⟨n1, n2⟩ := List.nodup_cons.1 hn
    obtain ⟨d1, d2⟩ := hD D (List.mem_cons_self ..)
    refine ⟨by simp, .inl ⟨D, W.putObj D (.deferred none), rfl, run_takeDeferred d2, ?_⟩⟩
    refine leaves_marks hP Ds _ (hP.putObj (s := ()) _ h d1 d2 rfl) n2 (fun D' hD' => ?_) hK
    obtain ⟨e1, e2⟩ := hD D' (List.mem_cons_of_mem _ hD')
    exact ⟨e1, (World.putObj_heap_other (fun e => n1 (by rw [← e]; exact hD'))).trans e2⟩

/-- What stands at a round's head. -/
def WRel (w : World) (V t b : Nat) (k : Nat) (Ds : List Nat) (W : World) : Prop :=
  ∃ T, TabOwn w W t b T ∧ T.last ≤ k ∧ W.heap[w.heap.size]? = some (.cells #[.bool false] 4 (0, 0)) ∧ W.heap[V]? = some (.cells #[.pointer (some ⟨t, 0, none⟩)] 24 (0, 0)) ∧ Ds.Nodup ∧ ∀ D ∈ Ds, w.heap.size ≤ D ∧ W.heap[D]? = some (.deferred (some []))
theorem one_step_in {w W w2 : World} {V t b k : Nat} {Ds : List Nat} {T T2 : Tab} (h : TabOwn w W t b T) (h1 : TabAt w2 t b T2) (hb : Turned t b W w2)
    (hr : W.heap[w.heap.size]? = some (.cells #[.bool false] 4 (0, 0))) (hv : W.heap[V]? = some (.cells #[.pointer (some ⟨t, 0, none⟩)] 24 (0, 0))) (hn : Ds.Nodup) (hd : ∀ D ∈ Ds, w.heap.size ≤ D ∧ W.heap[D]? = some (.deferred (some [])))
    (hwt : w.heap.size < t) (hwb : w.heap.size < b) (htV : t < V) (hbV : b < V) (hl : T2.last ≤ k) : WRel w V t b k Ds w2 := by
  refine ⟨T2, h.one h1 hb, hl, (hb.block _ (Array.getElem?_eq_some_iff.1 hr).1 (by omega) (by omega)).trans hr, (hb.block _ (Array.getElem?_eq_some_iff.1 hv).1 (by omega) (by omega)).trans hv, hn, fun D hD => ?_⟩
  obtain ⟨d1, d2⟩ := hd D hD
  refine ⟨d1, (hb.block _ (Array.getElem?_eq_some_iff.1 d2).1 (fun e => ?_) (fun e => ?_)).trans d2⟩
  · subst e; have := h.tab.tab; rw [d2] at this; cases this
  · subst e; obtain ⟨D', ⟨es, clock, e1, -⟩, -⟩ := h.tab.map; rw [d2] at e1; cases e1
theorem WRel.below {w W W' : World} {V t b k : Nat} {Ds : List Nat} (h : WRel w V t b k Ds W) (hb : Below W.heap.size W W') : WRel w V t b k Ds W' := by
  obtain ⟨T, h1, h2, h3, h4, h5, h6⟩ := h
  exact ⟨T, h1.step hb, h2, (hb.block _ (Array.getElem?_eq_some_iff.1 h3).1).trans h3, (hb.block _ (Array.getElem?_eq_some_iff.1 h4).1).trans h4, h5, fun D hD => ⟨(h6 D hD).1, (hb.block _ (Array.getElem?_eq_some_iff.1 (h6 D hD).2).1).trans (h6 D hD).2⟩⟩
theorem WRel.more {w W : World} {V t b k D : Nat} {Ds : List Nat} (h : WRel w V t b k Ds W) (hD : w.heap.size ≤ D) (hd : W.heap[D]? = some (.deferred (some []))) (hn : D ∉ Ds) : WRel w V t b k (D :: Ds) W := by
  obtain ⟨T, h1, h2, h3, h4, h5, h6⟩ := h
  refine ⟨T, h1, h2, h3, h4, List.nodup_cons.2 ⟨hn, h5⟩, fun D' hD' => ?_⟩
  rcases List.mem_cons.1 hD' with rfl | h'
  · exact ⟨hD, hd⟩
  · exact h6 D' h'
theorem WRel.later {w W : World} {V t b k k' : Nat} {Ds : List Nat} (h : WRel w V t b k Ds W) (hk : k ≤ k') : WRel w V t b k' Ds W := by
  obtain ⟨T, h1, h2, h3⟩ := h
  exact ⟨T, h1, Nat.le_trans h2 hk, h3⟩
/-- The frame at a round's head. -/
def wF (A : Option Addr) (n c H V t : Nat) (u : Nat → Value) (k : Nat) (Ds : List Nat) : Act := { tmps := #[.slice A n c, undef, .pointer (some ⟨H, 0, none⟩), .pointer (some ⟨V, 0, none⟩), .int .i64 k, u 5, u 6, u 7, u 8, .slice A n c, .int .i64 n, .bool false, undef, .pointer (some ⟨t, 0, none⟩), u 14, u 15, u 16, u 17, u 18, u 19, u 20, u 21, u 22, u 23, u 24, u 25, u 26, u 27, u 28, u 29, u 30, u 31, u 32, u 33, u 34, u 35, u 36, u 37, u 38, u 39, u 40, u 41, u 42, u 43, u 44, u 45, u 46, u 47, u 48, u 49, u 50, u 51, u 52, u 53, u 54, u 55, u 56, u 57, u 58, u 59, u 60, u 61, u 62, u 63, u 64, u 65, u 66, u 67, u 68, u 69, u 70, u 71, u 72, u 73, u 74, u 75], defers := marks Ds }
theorem below_own (w0 : World) : OwnFrom w0.heap.size (fun (_ : Nat) W => Below w0.heap.size w0 W) := ownFrom_below (Nat.le_refl _) (Nat.le_refl _)
theorem pw_own (w : World) : OwnFrom (w.heap.size + 1) (fun (_ : Unit) W => W.heap[w.heap.size]? = some (.cells #[.bool true] 4 (0, 0)) ∧ Below w.heap.size w W) :=
  OwnFrom.and (fun _ W W' row hs hg hr => (hg.block _ (Array.getElem?_eq_some_iff.1 hs).1 (fun e => by have := (hr _ e.symm).1; omega)).trans hs) (ownFrom_below (Nat.le_refl _) (Nat.le_succ _))
theorem all_minus (S : List Cap) : allC S (-1) = S := by unfold allC; rw [List.filter_eq_self]; intro c _; rfl
theorem steps_cell {w W : World} {A : Option Addr} {n : Nat} {R : Nat → StepS} (hA : StepsOf w A n R) (hb : Below w.heap.size w W) {k : Nat} (hk : k < n) : ∃ ba oa, A = some ⟨ba, oa, none⟩ ∧ W.cell? ⟨ba, oa + k * 7, none⟩ = some (.int .i64 (R k).kd) ∧ W.cell? ⟨ba, oa + k * 7 + 1, none⟩ = some (.int .i64 (R k).a) ∧
    W.cell? ⟨ba, oa + k * 7 + 2, none⟩ = some (.int .i64 (R k).dst) ∧ W.cell? ⟨ba, oa + k * 7 + 3, none⟩ = some (.int .i64 (R k).th) ∧ W.cell? ⟨ba, oa + k * 7 + 4, none⟩ = some (.int .i64 (R k).ob) ∧ W.cell? ⟨ba, oa + k * 7 + 5, none⟩ = some (.int .i64 (R k).ri) ∧ W.cell? ⟨ba, oa + k * 7 + 6, none⟩ = some (.int .i64 (R k).id) := by
  obtain ⟨ba, oa, rfl, hc⟩ := hA (by omega)
  have one : ∀ j, j < 7 → W.cell? ⟨ba, oa + k * 7 + j, none⟩ = (stepL (R k))[j]? := fun j hj => by
    have h1 := hc k hk j hj
    have hlt : ba < w.heap.size := by
      have h2 : (stepL (R k))[j]? = some ((stepL (R k))[j]'(by show j < 7; exact hj)) := List.getElem?_eq_getElem _
      rw [h2] at h1
      exact World.block_lt_of_cell? w _ h1
    exact (hb.cell (p := ⟨ba, oa + k * 7 + j, none⟩) hlt).trans h1
  exact ⟨ba, oa, rfl, one 0 (by omega), one 1 (by omega), one 2 (by omega), one 3 (by omega), one 4 (by omega), one 5 (by omega), one 6 (by omega)⟩

theorem wF_of {A : Option Addr} {n c H V t k : Nat} {Ds : List Nat} (a : Act) (h : a = wF A n c H V t (fun i => a.tmps.getD i undef) k Ds) : ∃ u, a = wF A n c H V t u k Ds := ⟨_, h⟩
theorem inv_of (A : Option Addr) (n c H V t : Nat) {Rel : Nat → List Nat → Prop} (a : Act) (k : Nat) (Ds : List Nat) (hr : Rel k Ds) (h : a = wF A n c H V t (fun i => a.tmps.getD i undef) k Ds) : ∃ u k Ds, Rel k Ds ∧ a = wF A n c H V t u k Ds := ⟨_, k, Ds, hr, h⟩
theorem wpIn_meet {F : Fence} {n : Nat} {P : Program} {c : Code} {K M : Act → World → Prop} {Q : Exit → Act → World → Prop} {a : Act} {w : World} (h : c.wpIn F n P (Exit.then M (fun _ _ _ => False)) a w) (hK : ∀ a w, M a w → K a w) : c.wpIn F n P (Exit.then K Q) a w :=
  wpIn_mono h (fun e a w hh => by cases e; exact hK _ _ hh; all_goals exact hh.elim)
theorem wpIn_only {F : Fence} {n : Nat} {P : Program} {c : Code} {K : Act → World → Prop} {Q : Exit → Act → World → Prop} {a : Act} {w : World} (h : c.wpIn F n P (Exit.then K (fun _ _ _ => False)) a w) : c.wpIn F n P (Exit.then K Q) a w :=
  wpIn_mono h (fun e a w hh => by cases e; exact hh; all_goals exact hh.elim)
theorem new_two (w : World) : Calls Try.prog 10 #[] w fun e w' => ∃ t b, e = .returned (.pointer (some ⟨t, 0, none⟩)) ∧ TabAt w' t b ⟨[], 0⟩ ∧ Below w.heap.size w w' ∧ w.heap.size ≤ t ∧ w.heap.size ≤ b := by
  refine (new_any w).mono ?_
  rintro e w' ⟨rfl, h1, h2⟩
  exact ⟨_, _, rfl, h1, h2, Nat.le_succ _, Nat.le_refl _⟩
set_option maxRecDepth 100000 in
set_option maxHeartbeats 4000000 in
theorem within_in {w : World} (A : Option Addr) (n c : Nat) (R : Nat → StepS) (hA : StepsOf w A n R) (hR : ∀ i, i < n → (R i).fits) (hn : n ≤ 60) :
    CallsIn Fence.wide 8 Try.prog 5 #[.slice A n c] w fun e w' => e = .returned (.bool true) ∧ Below w.heap.size w w' := by
  have hn' : (n : Int) ≤ 60 := by omega
  have hn2 : ¬ (60 : Int) < n := by omega
  have HA := Lib.hid hA
  have HR := Lib.hid hR
  have HN := Lib.hid hn
  clear hA hR hn
  refine callsIn_of_wp_marks Try.func5 rfl trivial ?_ rfl
  simp only [Try.ntmps5, List.size_toArray, List.length_cons, List.length_nil, Nat.reduceAdd, Nat.reduceSub, Array.replicate_succ, Array.replicate_zero, List.push_toArray, List.append_toArray, List.nil_append, List.cons_append]
  gi_wp2_with fail
  refine ⟨trivial, ?_⟩
  gi_at_call 10
  refine (callsIn_wide.2 (new_two _)).mono ?_
  rintro e w0 ⟨t, b, rfl, h0, hbl, ht, hb⟩
  have hwt : w.heap.size < t := by simp at ht; omega
  have hwb : w.heap.size < b := by simp at hb; omega
  have htV := h0.ht
  have hbV := h0.hb
  have REL := Lib.hid (show WRel w w0.heap.size t b 0 [] (w0.alloc (.cells #[.pointer (some ⟨t, 0, none⟩)] 24)) from
    ⟨_, ⟨h0.step ((Below.refl _ _).alloc (Nat.le_refl _) _), (((Below.refl _ w).alloc (Nat.le_refl _) _).trans (hbl.mono (by simp))).alloc (by have := hbl.size; simp at this; omega) _, Nat.le_of_lt hwt, Nat.le_of_lt hwb⟩, Nat.le_refl _,
      (Below.heap_alloc _ _ _ (Nat.lt_of_lt_of_le (by simp) hbl.size)).trans ((hbl.block w.heap.size (by simp)).trans (heap_alloc_new w _)), heap_alloc_new w0 _, List.nodup_nil, fun D hD => by simp at hD⟩)
  clear h0 hbl ht hb
  gi_wp2_with fail
  generalize hV : w0.heap.size = V at *
  generalize hW0 : w0.alloc (.cells #[.pointer (some ⟨t, 0, none⟩)] 24) = W0 at *
  clear hV hW0
  refine wpIn_loop (fun a' W => ∃ u k Ds, (k ≤ n ∧ WRel w V t b k Ds W) ∧ a' = wF A n c w.heap.size V t u k Ds) (fun a' _ => n - (intOf (a'.tmps.getD 4 undef)).toNat) ?_ ?_
  · exact ⟨fun _ => undef, 0, [], ⟨Nat.zero_le _, REL.out⟩, rfl⟩
  clear REL
  rintro a' W ⟨u, k, Ds, ⟨hk, hrel⟩, rfl⟩
  unfold wF
  have HREL := Lib.hid hrel
  obtain ⟨T, hT, hTk, hres, hvar, hnd, hds⟩ := hrel
  have HT := Lib.hid hT
  by_cases hlt : k < n
  · have hlt' : (k : Int) < n := by omega
    obtain ⟨ba, oa, rfl, s0, s1, s2, s3, s4, s5, s6⟩ := steps_cell HA.out HT.out.below hlt
    have cV : W.cell? ⟨V, 0, none⟩ = some (.pointer (some ⟨t, 0, none⟩)) := by rw [cell_of_row _ _ _ _ _ _ hvar]; rfl
    have ONE := Lib.hid (one_any (HT.out.tab.step (Below.refl _ W).drew) (by have := HN.out; omega) (R k) (HR.out k hlt))
    have LAST := Lib.hid (oneO_last HT.out.tab.ok (R k) (HR.out k hlt))
    have NEXT := Lib.hid (fun w2 T2 h1 hb hl => one_step_in (w2 := w2) (T2 := T2) (k := k + 1) hT h1 hb hres hvar hnd hds hwt hwb htV hbV hl)
    have HD := Lib.hid hds
    have HTK := Lib.hid hTk
    clear hT hres hvar hnd hds hTk
    obtain ⟨s, hs⟩ : ∃ s, s = R k := ⟨_, rfl⟩
    rw [← hs] at ONE LAST s0 s1 s2 s3 s4 s5 s6
    clear hs
    unfold stepV at ONE
    gi_wp2_with fail
    refine wpIn_meet (M := fun a' W2 => (∃ u, a' = wF (some ⟨ba, oa, none⟩) n c w.heap.size V t u k Ds) ∧ WRel w V t b (k + 1) Ds W2) ?_ ?_
    · gi_region_with (refine ⟨trivial, ?_⟩; gi_at_call 17; refine (callsIn_wide.2 ONE.out).mono ?_; rintro e w2 ⟨rfl, h1, hb1⟩; have R2 := Lib.hid (NEXT.out w2 _ h1 ((Turned.of_below (Below.refl _ W).drew).trans hb1) (by have := LAST.out; have := HTK.out; omega)); clear h1 hb1)
      all_goals exact ⟨wF_of _ rfl, R2.out⟩
    clear ONE LAST NEXT HD HTK HT HREL cV s0 s1 s2 s3 s4 s5 s6
    rintro a' W2 ⟨⟨u2, rfl⟩, hrel⟩
    have HREL := Lib.hid hrel
    obtain ⟨T2, hT, hTk, hres, hvar, hnd, hds⟩ := hrel
    have HT := Lib.hid hT
    have HALL := Lib.hid (all_any hT.tab (by have := HN.out; omega) (-1))
    have cV : W2.cell? ⟨V, 0, none⟩ = some (.pointer (some ⟨t, 0, none⟩)) := by rw [cell_of_row _ _ _ _ _ _ hvar]; rfl
    have HTK2 := Lib.hid hTk
    have HLEN := Lib.hid (show T2.caps.length ≤ 1000 by have := hT.tab.ok.len; have := HN.out; omega)
    clear hT hTk hres hvar hnd hds
    unfold wF
    have q := eql_seq
    gi_wp2_with fail
    refine ⟨trivial, ?_⟩
    refine (callsIn_wide.2 HALL.out).mono ?_
    rintro e w3 ⟨F, rfl, hseq, hb3, -⟩
    rw [all_minus] at hseq
    obtain ⟨A3, cap, hs⟩ := hseq.is
    have HS := Lib.hid hs
    have REL3 := Lib.hid (HREL.out.below hb3)
    have T3 := Lib.hid (HT.out.step hb3)
    have cV3 : w3.cell? ⟨V, 0, none⟩ = some (.pointer (some ⟨t, 0, none⟩)) := (hb3.cell (p := ⟨V, 0, none⟩) (World.block_lt_of_cell? W2 _ cV)).trans cV
    have ltV : V < w3.heap.size := World.block_lt_of_cell? w3 _ cV3
    have CV3 := Lib.hid cV3
    clear hseq hs hb3 HALL cV HREL HT cV3
    unfold seqV
    gi_wp2_with fail
    refine range_cap rfl (by omega) (gf := 58) (lb := #[.pointer (some ⟨F, 0, none⟩)]) (S := T2.caps) (I := fun _ W => Below w3.heap.size w3 W) (Ix := fun _ _ => False) rfl trivial (enters_of Try.func58 (by kernel_rfl) rfl)
      (values_steps 7 (by omega) F A3 cap T2.caps HLEN.out _ (fun k W hI => HS.out.below hI (Nat.le_refl _))) rfl (below_own w3) (fun c => fun _ _ _ _ h _ _ => h) (Below.refl _ _)
      (fun j B => { tmps := #[.slice (some ⟨ba, oa, none⟩) n c, undef, .pointer (some ⟨w.heap.size, 0, none⟩), .pointer (some ⟨V, 0, none⟩), .int .i64 k, .func (.func 58) #[] #[.pointer (some ⟨F, 0, none⟩)], .pointer (some ⟨B, 0, none⟩), u2 7, u2 8, .slice (some ⟨ba, oa, none⟩) n c, .int .i64 n, .bool false, undef, .pointer (some ⟨t, 0, none⟩), u2 14, u2 15, u2 16, u2 17, u2 18, u2 19, u2 20, u2 21, u2 22, u2 23, u2 24, u2 25, .pointer (some ⟨t, 0, none⟩), .func (.func 58) #[] #[.pointer (some ⟨F, 0, none⟩)], .func (.func 58) #[] #[.pointer (some ⟨F, 0, none⟩)], .bool false, .func (.func 58) #[] #[.pointer (some ⟨F, 0, none⟩)], capV (atC T2.caps j), u2 32, u2 33, u2 34, u2 35, u2 36, u2 37, u2 38, u2 39, u2 40, u2 41, u2 42, u2 43, u2 44, u2 45, u2 46, u2 47, u2 48, u2 49, u2 50, u2 51, u2 52, u2 53, u2 54, u2 55, u2 56, u2 57, u2 58, u2 59, u2 60, u2 61, u2 62, u2 63, u2 64, u2 65, u2 66, u2 67, u2 68, u2 69, u2 70, u2 71, u2 72, u2 73, u2 74, u2 75], defers := [] }) ?assign ?body ?done ?stop
    case assign =>
      intro l j W K hK
      unfold boxC capV at *
      gi_wp2
      exact hK
    case body =>
      rintro l j B W hj hB hbox hbl
      have BL := Lib.hid hbl
      have HM := Lib.hid (atC_mem hj)
      obtain ⟨⟨c0, c1, c2, c3, c4, c5, c6⟩, -, hltB⟩ := seven_of hbox
      have cV : W.cell? ⟨V, 0, none⟩ = some (.pointer (some ⟨t, 0, none⟩)) := (hbl.cell (p := ⟨V, 0, none⟩) ltV).trans CV3.out
      clear hbl hbox
      unfold capV
      generalize hcj : atC T2.caps j = cj at *
      cases hp : cj.parent == 0
      · have hp' : cj.parent ≠ 0 := by simpa using hp
        obtain ⟨p, hpm, hpi, e1, e2, e3⟩ := (T3.out.tab.ok.within cj HM.out).resolve_left hp'
        have hok := T3.out.tab.ok.ok cj HM.out
        have hlt3 := hok.p1
        have hwf : (Lit.int .i64 cj.parent).wf = true := by
          have := hok.p0
          have := hok.i2
          have := HLEN.out
          have := HN.out
          have := HTK2.out
          exact wf_small (by omega) (by omega)
        have hf : findC T2.caps cj.parent = some p := by rw [← hpi]; exact find_self T3.out.tab.ok.up hpm
        have HOF := Lib.hid (of_any (T3.out.tab.step BL.out) cj.parent hwf p true (get_mem hf) (by rw [hf]; rfl) (fun e => by cases e))
        have g1 : (bits .and .i64 cj.rights p.rights != cj.rights) = false := by rw [e1]; simp
        have g2 : (cj.kind != p.kind) = false := by rw [e2]; simp
        have g3 : (cj.object != p.object) = false := by rw [e3]; simp
        have g4 : decide (cj.id ≤ p.id) = false := by simp; omega
        clear hp' hpm hpi e1 e2 e3 hok hlt3 hwf hf
        gi_wp2_with fail
        refine ⟨trivial, ?_⟩
        refine (CallsIn.inRound l (callsIn_wide.2 HOF.out)).mono ?_
        rintro e w4 ⟨rfl, hb4⟩
        have b4 := Lib.hid hb4
        have k0 := (hb4.cell (p := ⟨B, 0, none⟩) hltB).trans c0
        have k4 := (hb4.cell (p := ⟨B, 4, none⟩) hltB).trans c4
        have k5 := (hb4.cell (p := ⟨B, 5, none⟩) hltB).trans c5
        have k6 := (hb4.cell (p := ⟨B, 6, none⟩) hltB).trans c6
        have hlt4 : B < w4.heap.size := Nat.lt_of_lt_of_le hltB hb4.size
        clear hb4 c0 c1 c2 c3 c4 c5 c6 HOF hltB cV
        unfold capV
        gi_wp2_with fail
        have hb5 := b4.out.alloc b4.out.size (boxC p)
        exact ⟨keeps_below hb5, BL.out.trans (hb5.mono BL.out.size)⟩
      · gi_wp2
        exact ⟨KeepsOthers.refl _, BL.out⟩
    case done =>
      rintro D W hD hbl hK
      have RN := Lib.hid (show WRel w V t b (k + 1) (D :: Ds) W from (REL3.out.below hbl).more (Nat.le_trans T3.out.below.size hD) hK (fun hm => by
        obtain ⟨_, _, _, _, _, _, h6⟩ := REL3.out
        have := (Array.getElem?_eq_some_iff.1 (h6 D hm).2).1
        omega))
      clear hbl hK
      gi_wp2
      refine ⟨inv_of (some ⟨ba, oa, none⟩) n c w.heap.size V t _ (k + 1) (D :: Ds) ⟨hlt, RN.out⟩ rfl, ?_⟩
      simp [intOf]; omega
    case stop =>
      rintro D c W hD h _
      exact h.elim
  · have hge : ¬ (k : Int) < n := by omega
    clear hT hTk hvar
    have cR : W.cell? ⟨w.heap.size, 0, none⟩ = some (.bool false) := by rw [cell_of_row _ _ _ _ _ _ hres]; rfl
    have HRES := Lib.hid hres
    have HDS := Lib.hid hds
    have HND := Lib.hid hnd
    have hlt0 := (Array.getElem?_eq_some_iff.1 hres).1
    clear hres hds hnd
    gi_wp2_with fail
    refine ⟨trivial, ?_⟩
    refine (callsIn_wide.2 (known_any _)).mono ?_
    rintro e w5 ⟨rfl, hb5⟩
    have B5 := Lib.hid (HT.out.below.trans (hb5.mono HT.out.below.size))
    have r5 := (hb5.block _ hlt0).trans HRES.out
    have R5 := Lib.hid r5
    have c5 : w5.cell? ⟨w.heap.size, 0, none⟩ = some (.bool false) := by rw [cell_of_row _ _ _ _ _ _ r5]; rfl
    have f5 : w5.frozen? ⟨w.heap.size, 0, none⟩ = false := by simp [World.frozen?, r5]
    have D5 := Lib.hid (show ∀ D ∈ Ds, w.heap.size ≤ D ∧ w5.heap[D]? = some (.deferred (some [])) from fun D hD => ⟨(HDS.out D hD).1, (hb5.block _ (Array.getElem?_eq_some_iff.1 (HDS.out D hD).2).1).trans (HDS.out D hD).2⟩)
    clear hb5 r5 cR
    gi_wp2_with fail
    refine leaves_marks (B := w.heap.size + 1) (Pw := fun W => W.heap[w.heap.size]? = some (.cells #[.bool true] 4 (0, 0)) ∧ Below w.heap.size w W) ?_ Ds _ ⟨one_setCell R5.out, B5.out.setCell (Nat.le_refl _) _⟩ HND.out ?_ ?_
    · exact pw_own w
    · intro D hD
      have h1 := D5.out D hD
      have hne : D ≠ w.heap.size := fun e => by rw [e, R5.out] at h1; cases h1.2
      exact ⟨by omega, (heap_setCell_other w5 ⟨w.heap.size, 0, none⟩ D _ hne).trans h1.2⟩
    · rintro W' ⟨hr, hb⟩
      refine ⟨.bool true, ?_, rfl, hb⟩
      have hc : W'.cell? ⟨w.heap.size, 0, none⟩ = some (.bool true) := by rw [cell_of_row _ _ _ _ _ _ hr]; rfl
      simp [results, Try.f5, go_sem, hc]
theorem within_any (w : World) (A : Option Addr) (n c : Nat) (R : Nat → StepS) (hA : StepsOf w A n R) (hR : ∀ i, i < n → (R i).fits) (hn : n ≤ 60) :
    Calls Try.prog 5 #[.slice A n c] w fun e w' => e = .returned (.bool true) ∧ Below w.heap.size w w' := callsIn_wide.1 (within_in A n c R hA hR hn)
theorem within_long (w : World) (A : Option Addr) (n c : Nat) (hn : 60 < n) (hn2 : (n : Int) ≤ 9223372036854775807) :
    Calls Try.prog 5 #[.slice A n c] w fun e w' => e = .returned (.bool true) ∧ Below w.heap.size w w' := by
  have h60 : (60 : Int) < n := by omega
  clear hn
  go_enter Try.func5, Try.ntmps5
  go_wp2_with fail
  refine (known_any _).mono ?_
  rintro e w5 ⟨rfl, hb5⟩
  have B5 := Lib.hid (((Below.refl _ w).alloc (Nat.le_refl _) _).trans (hb5.mono (by simp)))
  have r5 := (hb5.block w.heap.size (by simp)).trans (heap_alloc_new w _)
  have R5 := Lib.hid r5
  have c5 : w5.cell? ⟨w.heap.size, 0, none⟩ = some (.bool false) := by rw [cell_of_row _ _ _ _ _ _ r5]; rfl
  have f5 : w5.frozen? ⟨w.heap.size, 0, none⟩ = false := by simp [World.frozen?, r5]
  clear hb5 r5
  go_wp2_with fail
  have hc : (w5.setCell ⟨w.heap.size, 0, none⟩ (.bool true)).cell? ⟨w.heap.size, 0, none⟩ = some (.bool true) := by rw [cell_of_row _ _ _ _ _ _ (one_setCell R5.out)]; rfl
  exact bodyPost_ret (v := .bool true) (by simp [results, Try.results5, go_sem, hc]) rfl ⟨rfl, B5.out.setCell (Nat.le_refl _) _⟩
theorem within_law (w : World) (A : Option Addr) (n c : Nat) (R : Nat → StepS) (hA : StepsOf w A n R) (hR : ∀ i, i < n → (R i).fits) (hn : (n : Int) ≤ 9223372036854775807) :
    Calls Try.prog 5 #[.slice A n c] w fun e w' => e = .returned (.bool true) ∧ Below w.heap.size w w' := by
  by_cases h : n ≤ 60
  · exact within_any w A n c R hA hR h
  · exact within_long w A n c (by omega) hn

end Go.Proofs.Ytgpmkllhljngfaa
