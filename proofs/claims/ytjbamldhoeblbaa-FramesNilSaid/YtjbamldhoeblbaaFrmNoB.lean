/- Going over no pool: no rounds. -/
import Derived.Test.YtjbamldhoeblbaaFrmNo
namespace Go.Proofs.Ytjbamldhoeblbaa
open Go.RowKit Go.Shelf
attribute [local go_sem] Oper.semAt_some

/-- What the iterator over no pool reads. -/
def ReadsNo (bx : Nat) (v : Value) (W : World) : Prop := W.cell? ⟨bx, 0, none⟩ = some v ∧ NoP W v
def noW (_ : Nat) (_ : World) : Prop := False
theorem own_no {B : Nat} : OwnFrom B noW := fun _ _ _ _ h _ _ => h.elim
theorem own_nop {B bx : Nat} {v : Value} : True := trivial

set_option maxRecDepth 100000 in
set_option maxHeartbeats 1000000 in
theorem each_steps_no (m : Nat) (hm : 1 ≤ m) (bx : Nat) (v : Value) (encs : Nat → Array Value) (I : Nat → World → Prop) (hI : ∀ k W, I k W → ReadsNo bx v W) :
    StepsIx Fence.wide m Try.prog 58 #[.pointer (some ⟨bx, 0, none⟩)] encs 0 noW noW I := by
  intro l J W hJI hsk hY h0
  refine callsIn_of_wp Try.func58 rfl trivial ?_ rfl
  simp only [Try.ntmps58, List.size_toArray, List.length_cons, List.length_nil, Nat.reduceAdd, Nat.reduceSub, Array.replicate_succ, Array.replicate_zero, List.push_toArray, List.append_toArray, List.nil_append, List.cons_append]
  obtain ⟨hb0, hn⟩ := hI 0 W (hJI 0 W h0)
  have HN := Lib.hid hn
  have HJ0 := Lib.hid h0
  clear h0 hn
  gi_wp2_with (refine ⟨trivial, ?_⟩; gi_at_call 38; refine (callsIn_wide.2 HN.out.at).mono ?_; rintro e w' ⟨rfl, rfl⟩)
  exact bodyPost_ret (v := .tuple #[]) (by simp [results, Try.f58, go_sem]) rfl ⟨⟨_, rfl⟩, HJ0.out⟩

/-- What Used's rounds keep, of no pool. -/
def UsedN (w : World) (H : Nat) (v : Value) (_k : Nat) (W : World) : Prop :=
  (W.cell? ⟨H + 1, 0, none⟩ = some (.int .i64 0) ∧ W.cell? ⟨H + 1 + 1, 0, none⟩ = some v) ∧ Below H w W
theorem own_usedN {w : World} {v : Value} (B : Nat) (hB : w.heap.size ≤ B) : OwnFrom B (UsedN w w.heap.size v) :=
  OwnFrom.and (Own.from (fun s A B row hs hg hr => ⟨cell_kept hs.1 hg hr, cell_kept hs.2 hg hr⟩) _) (ownFrom_below (Nat.le_refl _) hB)

set_option maxRecDepth 100000 in
set_option maxHeartbeats 2000000 in
theorem used_x {w : World} {v : Value} (h : NoP w v) (h1 : v.oneCell' = true) (a : Int) : Calls Try.prog 16 #[v, .int .i64 a] w fun e w' => e = .returned (.int .i64 0) ∧ Below w.heap.size w w' := by
  refine (callsIn_wide (n := 5)).1 ?_
  have HP := Lib.hid h
  have H1 := Lib.hid h1
  clear h h1
  refine callsIn_of_wp_marks Try.func16 rfl trivial ?_ rfl
  simp only [Try.ntmps16, List.size_toArray, List.length_cons, List.length_nil, Nat.reduceAdd, Nat.reduceSub, Array.replicate_succ, Array.replicate_zero, List.push_toArray, List.append_toArray, List.nil_append, List.cons_append]
  gi_wp2_with (refine ⟨trivial, ?_⟩; gi_at_call 49; refine (callsIn_wide.2 (each_v v _ H1.out)).mono ?_; rintro e w' ⟨rfl, rfl⟩)
  have c1 := cell_new_f (w.alloc (.cells #[.int .i64 a] 3)) (.int .i64 0) 3
  have c2 := cell_new_f ((w.alloc (.cells #[.int .i64 a] 3)).alloc (.cells #[.int .i64 0] 3)) v 25
  simp only [World.size_alloc] at c1 c2
  have hB0 : Below w.heap.size w (((w.alloc (.cells #[.int .i64 a] 3)).alloc (.cells #[.int .i64 0] 3)).alloc (.cells #[v] 25)) := (((Below.refl _ w).alloc (Nat.le_refl _) _).alloc (by simp) _).alloc (by simp; omega) _
  refine range_ix rfl (by omega) (gf := 58) (lb := #[.pointer (some ⟨w.heap.size + 1 + 1, 0, none⟩)]) rfl trivial (enters_of Try.func58 (by kernel_rfl) rfl)
    (each_steps_no 4 (by omega) (w.heap.size + 1 + 1) v (fun _ => #[undef, undef]) (UsedN w w.heap.size v) (fun k W hI => ⟨hI.1.2, HP.out.below hI.2⟩)) (fun _ => rfl)
    (own_usedN _ (by simp; omega)) own_no
    ⟨⟨cell_alloc_f _ c1.1, c2.1⟩, hB0⟩ (fun _ _ h => absurd h (Nat.not_lt_zero _))
    (fun k => { tmps := #[v, .int .i64 a, undef, .pointer (some ⟨w.heap.size, 0, none⟩), .int .i64 0, .pointer (some ⟨w.heap.size + 1, 0, none⟩), undef, undef, v, .func (.func 58) #[] #[.pointer (some ⟨w.heap.size + 1 + 1, 0, none⟩)], undef, undef, undef, undef, undef, undef, undef, undef, undef, undef, undef], defers := [] }) ?assign (fun _ _ _ h => absurd h (Nat.not_lt_zero _)) ?done
  case assign =>
    intro l k W K hK
    gi_wp2
    exact hK
  case done =>
    rintro D W hD ⟨⟨h1, h2⟩, hB⟩ hK
    gi_wp2
    refine ⟨by simp, .inl ⟨_, _, rfl, run_takeDeferred hK, ?_⟩⟩
    refine ⟨.int .i64 0, ?_, rfl, hB.trans (below_putObj_f _ (by simp at hD; omega))⟩
    simp [results, Try.f16, go_sem]

/-! ### All, of no pool -/
theorem values_any (A : Option Addr) (n c : Nat) (w : World) : Calls Try.prog 57 #[.slice A n c] w fun e w' => e = .returned (.func (.func 59) #[] #[.pointer (some ⟨w.heap.size, 0, none⟩)]) ∧ w' = w.alloc (.cells #[.slice A n c] 96) := by
  go_enter Try.func57, Try.ntmps57
  go_wp2
  go_ret
  exact ⟨rfl, rfl⟩
def AllNo (w : World) (e : Ending) (w' : World) : Prop := ∃ B, e = .returned (.func (.func 59) #[] #[.pointer (some ⟨B, 0, none⟩)]) ∧ w'.cell? ⟨B, 0, none⟩ = some (.slice none 0 0) ∧ Below w.heap.size w w'
/-- What All's rounds keep, of no pool. -/
def AllN (w : World) (H : Nat) (v : Value) (_k : Nat) (W : World) : Prop :=
  (W.cell? ⟨H, 0, none⟩ = some (.slice none 0 0) ∧ W.cell? ⟨H + 1, 0, none⟩ = some v) ∧ Below H w W
theorem own_allN {w : World} {v : Value} (B : Nat) (hB : w.heap.size ≤ B) : OwnFrom B (AllN w w.heap.size v) :=
  OwnFrom.and (Own.from (fun s A B row hs hg hr => ⟨cell_kept hs.1 hg hr, cell_kept hs.2 hg hr⟩) _) (ownFrom_below (Nat.le_refl _) hB)
set_option maxRecDepth 100000 in
set_option maxHeartbeats 2000000 in
theorem all_x {w : World} {v : Value} (h : NoP w v) (h1 : v.oneCell' = true) : Calls Try.prog 32 #[v] w (AllNo w) := by
  refine (callsIn_wide (n := 5)).1 ?_
  have HP := Lib.hid h
  have H1 := Lib.hid h1
  clear h h1
  refine callsIn_of_wp_marks Try.func32 rfl trivial ?_ rfl
  simp only [Try.ntmps32, List.size_toArray, List.length_cons, List.length_nil, Nat.reduceAdd, Nat.reduceSub, Array.replicate_succ, Array.replicate_zero, List.push_toArray, List.append_toArray, List.nil_append, List.cons_append]
  gi_wp2_with (refine ⟨trivial, ?_⟩; gi_at_call 49; refine (callsIn_wide.2 (each_v v _ H1.out)).mono ?_; rintro e w' ⟨rfl, rfl⟩)
  have c1 := cell_new_f w (.slice none 0 0) 96
  have c2 := cell_new_f (w.alloc (.cells #[.slice none 0 0] 96)) v 25
  simp only [World.size_alloc] at c1 c2
  have hB0 : Below w.heap.size w ((w.alloc (.cells #[.slice none 0 0] 96)).alloc (.cells #[v] 25)) := ((Below.refl _ w).alloc (Nat.le_refl _) _).alloc (by simp) _
  refine range_ix rfl (by omega) (gf := 58) (lb := #[.pointer (some ⟨w.heap.size + 1, 0, none⟩)]) rfl trivial (enters_of Try.func58 (by kernel_rfl) rfl)
    (each_steps_no 4 (by omega) (w.heap.size + 1) v (fun _ => #[undef, undef]) (AllN w w.heap.size v) (fun k W hI => ⟨hI.1.2, HP.out.below hI.2⟩)) (fun _ => rfl)
    (own_allN _ (by simp; omega)) own_no
    ⟨⟨cell_alloc_f _ c1.1, c2.1⟩, hB0⟩ (fun _ _ h => absurd h (Nat.not_lt_zero _))
    (fun k => { tmps := #[v, undef, .nilFunc, .pointer (some ⟨w.heap.size, 0, none⟩), undef, undef, v, .func (.func 58) #[] #[.pointer (some ⟨w.heap.size + 1, 0, none⟩)], undef, undef, undef, undef, undef, undef, undef, undef, undef, undef], defers := [] }) ?assign (fun _ _ _ h => absurd h (Nat.not_lt_zero _)) ?done
  case assign =>
    intro l k W K hK
    gi_wp2
    exact hK
  case done =>
    rintro D W hD ⟨⟨h1, h2⟩, hB⟩ hK
    have hDl : D < W.heap.size := (Array.getElem?_eq_some_iff.1 hK).1
    have hKK := Lib.hid (show (W.alloc (.cells #[.slice none 0 0] 96)).heap[D]? = some (.deferred (some [])) from (Below.heap_alloc _ _ _ (by omega)).trans hK)
    gi_wp2_with (refine ⟨trivial, ?_⟩; gi_at_call 57; refine (callsIn_wide.2 (values_any none 0 0 _)).mono ?_; rintro e w' ⟨rfl, rfl⟩)
    refine ⟨by simp, .inl ⟨_, _, rfl, run_takeDeferred hKK.out, ?_⟩⟩
    refine ⟨.func (.func 59) #[] #[.pointer (some ⟨W.heap.size, 0, none⟩)], ?_, W.heap.size, rfl, ?_, ?_⟩
    · simp [results, Try.f32, go_sem]
    · exact (World.cell?_of_block (a := ⟨W.heap.size, 0, none⟩) (World.putObj_heap_other (by show W.heap.size ≠ D; omega))).trans (cell_new_f W (.slice none 0 0) 96).1
    · exact (hB.alloc (by have := hB.size; omega) _).trans (below_putObj_f _ (by simp at hD; omega))

set_option maxRecDepth 100000 in
theorem values_no (m : Nat) (hm : 1 ≤ m) (bx : Nat) (encs : Nat → Array Value) (I : Nat → World → Prop) (hI : ∀ k W, I k W → W.cell? ⟨bx, 0, none⟩ = some (.slice none 0 0)) :
    StepsIx Fence.wide m Try.prog 59 #[.pointer (some ⟨bx, 0, none⟩)] encs 0 noW noW I := by
  intro l J W hJI hsk hY h0
  refine callsIn_of_wp Try.func59 rfl trivial ?_ rfl
  simp only [Try.ntmps59, List.size_toArray, List.length_cons, List.length_nil, Nat.reduceAdd, Nat.reduceSub, Array.replicate_succ, Array.replicate_zero, List.push_toArray, List.append_toArray, List.nil_append, List.cons_append]
  have hb0 := hI 0 W (hJI 0 W h0)
  have HJ0 := Lib.hid h0
  clear h0
  gi_wp2
  gi_loopw [7] (fun i wr => i = .int .i64 0 ∧ wr = W) (fun i _ => 0)
  case atStart => exact ⟨rfl, rfl⟩
  case round =>
    obtain ⟨rfl, rfl⟩ := hrel
    gi_wp2
    go_end0
    exact ⟨⟨_, rfl⟩, HJ0.out⟩

/-! ### The document's answers of no pool -/
theorem raccount_nil (a : Int) (w : World) : Calls Try.prog 56 #[.pointer none, .int .i64 a] w fun e w' => e = .returned (.bool false) ∧ w = w' := by
  go_enter Try.func56, Try.ntmps56
  go_wp2
  go_ret
  exact ⟨rfl, rfl⟩
theorem rused_nil (a : Int) (w : World) : Calls Try.prog 30 #[.pointer none, .int .i64 a] w fun e w' => e = .returned (.int .i64 0) ∧ w = w' := by
  go_enter Try.func30, Try.ntmps30
  go_wp2
  go_loop [5, 6] (fun n i => n = .int .i64 0 ∧ i = .int .i64 0) (fun _ _ => 0)
  case atStart => exact ⟨rfl, rfl⟩
  case round =>
    obtain ⟨rfl, rfl⟩ := hrel
    go_wp2_with (go_at_call 56; refine (raccount_nil a _).mono ?_; rintro e w' ⟨rfl, rfl⟩)
    go_ret
    exact ⟨rfl, rfl⟩
theorem rquota_nil (a : Int) (w : World) : Calls Try.prog 31 #[.pointer none, .int .i64 a] w fun e w' => e = .returned (.int .i64 0) ∧ w = w' := by
  go_enter Try.func31, Try.ntmps31
  go_wp2_with (go_at_call 56; refine (raccount_nil a _).mono ?_; rintro e w' ⟨rfl, rfl⟩)
  go_ret
  exact ⟨rfl, rfl⟩
theorem rfree_nil (w : World) : Calls Try.prog 33 #[.pointer none] w fun e w' => e = .returned (.int .i64 0) ∧ w = w' := by
  go_enter Try.func33, Try.ntmps33
  go_wp2
  go_ret
  exact ⟨rfl, rfl⟩

end Go.Proofs.Ytjbamldhoeblbaa
