/- goes over a table that is none. -/
import Derived.Test.YtgpmkllhljngfaaCapV1
import Derived.Test.YtgpmkllhljngfaaCapS
import Derived.LoopNIn
namespace Go.Proofs.Ytgpmkllhljngfaa
open Go.RowKit
attribute [local go_sem] Oper.semAt_some

theorem range_none {F : Fence} {n : Nat} {P : Program} {g : Operand} {ps : Array Tmp} {assign body : Code} {Q : Exit → Act → World → Prop} {a : Act} {w : World} (p slot : Tmp) (hps : ps = #[p])
    (hro : F.round = none) (h1 : 1 ≤ n) {gf : Nat} {lb : Array Value} (hg : a.eval g = .func (.func gf) #[] lb) (hFg : F.fn gf) (eg : ∀ args w, (callFunc gf args).run P w = .ok (.enter gf args) w)
    (hseq : StepsCap F (n - 1) P gf lb [] (fun _ W => Below w.heap.size w W))
    (hassign : ∀ (l : Nat) (c : Cap) (W : World) (K : Act → World → Prop), K { tmps := (a.tmps.setIfInBounds p (capV c)).setIfInBounds slot (.pointer (some ⟨W.heap.size, 0, none⟩)), defers := [] } (W.alloc (boxC c)) →
      assign.wpIn (F.inRound l) (n - 1 - 1) P (Exit.then K (fun _ _ _ => False)) { tmps := a.tmps.setIfInBounds p (capV c), defers := [] } W)
    (hdone : ∀ (D : Nat) (W : World), w.heap.size ≤ D → Below w.heap.size w W → W.heap[D]? = some (.deferred (some [])) → Q .normal { a with defers := { target := .collected D, args := #[] } :: a.defers } W) :
    (Code.rangeFunc g ps assign body).wpIn F n P Q a w := by
  subst hps
  exact range_cap hro h1 hg hFg eg hseq rfl (below_own w) (Ix := fun _ _ => False) (fun _ _ _ _ _ h _ _ => h) (Below.refl _ _) (fun k B => { tmps := (a.tmps.setIfInBounds p (capV (atC [] k))).setIfInBounds slot (.pointer (some ⟨B, 0, none⟩)), defers := [] })
    (fun l k W K hK => by have h := hassign l (atC [] k) W K hK; simpa using h) (fun l k B W hk => by simp at hk) hdone (fun D c W _ h _ => h.elim)
theorem pwg_own (w : World) : OwnFrom (w.heap.size + 2) (fun (_ : Unit) W => W.heap[w.heap.size + 1]? = some (.cells #[.bool true] 4 (0, 0)) ∧ Below w.heap.size w W) :=
  OwnFrom.and (fun _ W W' row hs hg hr => (hg.block _ (Array.getElem?_eq_some_iff.1 hs).1 (fun e => by have := (hr _ e.symm).1; omega)).trans hs) (ownFrom_below (Nat.le_refl _) (by omega))
set_option maxRecDepth 100000 in
set_option maxHeartbeats 4000000 in
theorem goes_in {w : World} {p : Option Addr} (h : NoTab w p) (rb : Nat) (hr : w.heap[rb]? = some (.cells #[.slice none 0 0, .int .i64 0] 29 (0, 0))) :
    CallsIn Fence.wide 5 Try.prog 29 #[.pointer p, .pointer (some ⟨rb, 0, none⟩), .int .i64 (-1), .int .i64 0] w fun e w' => e = .returned (.bool true) ∧ Below w.heap.size w w' := by
  have H := fun w' (hb : Below w.heap.size w w') => Lib.hid (all_nt (h.below hb) (-1))
  have c0 : w.cell? ⟨rb, 0, none⟩ = some (.slice none 0 0) := by rw [cell_of_row _ _ _ _ _ _ hr]; rfl
  have hlt := (Array.getElem?_eq_some_iff.1 hr).1
  have c3 : ∀ o1 o2 o3 : Obj, (((w.alloc o1).alloc o2).alloc o3).cell? ⟨rb, 0, none⟩ = some (.slice none 0 0) := fun o1 o2 o3 => ((((Below.refl _ w).alloc (Nat.le_refl _) o1).alloc (by simp) o2).alloc (by simp; omega) o3).cell (p := ⟨rb, 0, none⟩) hlt |>.trans c0
  clear h hr c0
  refine callsIn_of_wp_marks Try.func29 rfl trivial ?_ rfl
  simp only [Try.ntmps29, List.size_toArray, List.length_cons, List.length_nil, Nat.reduceAdd, Nat.reduceSub, Array.replicate_succ, Array.replicate_zero, List.push_toArray, List.append_toArray, List.nil_append, List.cons_append]
  gi_wp2_with fail
  refine wpIn_loop_rounds 1 ?_
  rw [roundsIn_succ]
  gi_wp2_with fail
  refine ⟨trivial, ?_⟩
  refine (callsIn_wide.2 (H _ ((((Below.refl _ w).alloc (Nat.le_refl _) _).alloc (by simp) _).alloc (by simp; omega) _)).out).mono ?_
  rintro e w1 ⟨F, rfl, hs, hb1, -⟩
  obtain ⟨A1, cap1, his⟩ := hs.is
  have HS := Lib.hid his
  have B1 := Lib.hid (((((Below.refl _ w).alloc (Nat.le_refl _) (.cells #[.int .i64 0] 3)).alloc (by simp) (.cells #[.bool false] 4)).alloc (by simp; omega) (.cells #[.slice none 0 0] 27)).trans (hb1.mono (by simp; omega)))
  have rL := (hb1.block w.heap.size (by simp; omega)).trans ((Below.heap_alloc _ _ _ (by simp; omega)).trans ((Below.heap_alloc _ _ _ (by simp)).trans (heap_alloc_new w _)))
  have rB := (hb1.block (w.heap.size + 1) (by simp)).trans ((Below.heap_alloc _ _ _ (by simp)).trans (heap_at _ _ _ (by simp)))
  have rW := (hb1.block (w.heap.size + 1 + 1) (by simp)).trans (heap_at _ _ _ (by simp))
  have q := eql_seq
  have RL := Lib.hid rL
  have RB := Lib.hid rB
  have RW := Lib.hid rW
  have cW1 : w1.cell? ⟨w.heap.size + 1 + 1, 0, none⟩ = some (.slice none 0 0) := by rw [cell_of_row _ _ _ _ _ _ rW]; rfl
  have lW1 : w.heap.size + 1 + 1 < w1.heap.size := World.block_lt_of_cell? w1 _ cW1
  clear hs his hb1 H rL rB rW c3
  unfold seqV
  gi_wp2_with fail
  refine wpIn_loop_rounds 3 ?_
  rw [roundsIn_succ]
  gi_wp2_with fail
  have b2 := Lib.hid (((Below.refl _ w1).alloc (Nat.le_refl _) (.cells #[.int .i64 0] 3)).alloc (by simp) (.cells #[.int .i64 0] 3))
  have t2 := Lib.hid ((Below.heap_alloc (w1.alloc (.cells #[.int .i64 0] 3)) (.cells #[.int .i64 0] 3) w1.heap.size (by simp)).trans (heap_alloc_new w1 (.cells #[.int .i64 0] 3)))
  have n2 := Lib.hid (heap_at (w1.alloc (.cells #[.int .i64 0] 3)) (.cells #[.int .i64 0] 3) (w1.heap.size + 1) (by simp))
  refine range_none 58 14 rfl rfl (by omega) (gf := 58) (lb := #[.pointer (some ⟨F, 0, none⟩)]) rfl trivial (enters_of Try.func58 (by kernel_rfl) rfl)
    (values_steps 4 (by omega) F A1 cap1 [] (by simp) _ (fun k W hI => HS.out.below (b2.out.trans (hI.mono b2.out.size)) (Nat.le_refl _))) ?assign1 ?done1
  case assign1 =>
    intro l c W K hK
    unfold boxC capV at *
    dsimp only at hK ⊢
    go_frame
    gi_wp2
    exact hK
  case done1 =>
    rintro D1 W1 hD1 hb hK1
    have c1 : W1.cell? ⟨w1.heap.size, 0, none⟩ = some (.int .i64 0) := by rw [cell_of_row _ _ _ _ _ _ ((hb.block w1.heap.size (by simp; omega)).trans t2.out)]; rfl
    have c2 : W1.cell? ⟨w1.heap.size + 1, 0, none⟩ = some (.int .i64 0) := by rw [cell_of_row _ _ _ _ _ _ ((hb.block (w1.heap.size + 1) (by simp)).trans n2.out)]; rfl
    have B2 := Lib.hid (b2.out.trans (hb.mono b2.out.size))
    have c3 : W1.cell? ⟨w.heap.size + 1 + 1, 0, none⟩ = some (.slice none 0 0) := (B2.out.cell (p := ⟨w.heap.size + 1 + 1, 0, none⟩) lW1).trans cW1
    have K1 := Lib.hid hK1
    have hD1' := Lib.hid hD1
    clear hb hK1 hD1 cW1
    gi_wp2_with fail
    rw [roundsIn_succ]
    gi_wp2_with fail
    have lW1' : w.heap.size + 1 + 1 < W1.heap.size := World.block_lt_of_cell? W1 _ c3
    have b4 := Lib.hid (((Below.refl _ W1).alloc (Nat.le_refl _) (.cells #[.int .i64 1] 3)).alloc (by simp) (.cells #[.int .i64 0] 3))
    have t4 := Lib.hid ((Below.heap_alloc (W1.alloc (.cells #[.int .i64 1] 3)) (.cells #[.int .i64 0] 3) W1.heap.size (by simp)).trans (heap_alloc_new W1 (.cells #[.int .i64 1] 3)))
    have n4 := Lib.hid (heap_at (W1.alloc (.cells #[.int .i64 1] 3)) (.cells #[.int .i64 0] 3) (W1.heap.size + 1) (by simp))
    have B4 := Lib.hid (B2.out.trans (b4.out.mono B2.out.size))
    refine range_none 58 14 rfl rfl (by omega) (gf := 58) (lb := #[.pointer (some ⟨F, 0, none⟩)]) rfl trivial (enters_of Try.func58 (by kernel_rfl) rfl)
      (values_steps 4 (by omega) F A1 cap1 [] (by simp) _ (fun k W hI => HS.out.below (B4.out.trans (hI.mono B4.out.size)) (Nat.le_refl _))) ?assign2 ?done2
    case assign2 =>
      intro l c W K hK
      unfold boxC capV at *
      dsimp only at hK ⊢
      go_frame
      gi_wp2
      exact hK
    case done2 =>
      rintro D2 W2 hD2 hb hK2
      have e1 : W2.cell? ⟨W1.heap.size, 0, none⟩ = some (.int .i64 1) := by rw [cell_of_row _ _ _ _ _ _ ((hb.block W1.heap.size (by simp; omega)).trans t4.out)]; rfl
      have e2 : W2.cell? ⟨W1.heap.size + 1, 0, none⟩ = some (.int .i64 0) := by rw [cell_of_row _ _ _ _ _ _ ((hb.block (W1.heap.size + 1) (by simp)).trans n4.out)]; rfl
      have B5 := Lib.hid (B4.out.trans (hb.mono B4.out.size))
      have e3 : W2.cell? ⟨w.heap.size + 1 + 1, 0, none⟩ = some (.slice none 0 0) := (hb.cell (p := ⟨w.heap.size + 1 + 1, 0, none⟩) (show w.heap.size + 1 + 1 < _ by simp; omega)).trans ((b4.out.cell (p := ⟨w.heap.size + 1 + 1, 0, none⟩) lW1').trans c3)
      have r5 := (B5.out.block _ (Array.getElem?_eq_some_iff.1 RB.out).1).trans RB.out
      have R5 := Lib.hid r5
      have e4 : W2.cell? ⟨w.heap.size + 1, 0, none⟩ = some (.bool false) := by rw [cell_of_row _ _ _ _ _ _ r5]; rfl
      have e5 : W2.frozen? ⟨w.heap.size + 1, 0, none⟩ = false := by simp [World.frozen?, r5]
      have lR : w.heap.size + 1 < W2.heap.size := World.block_lt_of_cell? W2 _ e4
      have k1 := (hb.block D1 (by have := (Array.getElem?_eq_some_iff.1 K1.out).1; simp; omega)).trans ((b4.out.block D1 (Array.getElem?_eq_some_iff.1 K1.out).1).trans K1.out)
      have lD1 := (Array.getElem?_eq_some_iff.1 K1.out).1
      have hB5 := Lib.hid (B1.out.trans (B5.out.mono B1.out.size))
      have K2 := Lib.hid hK2
      have KK1 := Lib.hid k1
      have hD2' := Lib.hid hD2
      have LD1 := Lib.hid lD1
      clear hb hK2 k1 hD2 lD1 r5 c1 c2 c3
      gi_wp2_with fail
      rw [roundsIn_succ]
      gi_wp2_with fail
      have hd1 : w.heap.size + 2 ≤ D1 := by have := hD1'.out; simp at this; omega
      have hd2 : W1.heap.size ≤ D2 := by have := hD2'.out; simp at this; omega
      have ld1 := LD1.out
      have x2 : ∀ D, D ≠ w.heap.size + 1 → W2.heap[D]? = some (.deferred (some [])) → ((W2.setCell ⟨w.heap.size + 1, 0, none⟩ (.bool true)).alloc (.cells #[.int .i64 2] 3)).heap[D]? = some (.deferred (some [])) := fun D hne hD =>
        (Below.heap_alloc _ _ _ (by simp [World.setCell]; exact (Array.getElem?_eq_some_iff.1 hD).1)).trans ((heap_setCell_other W2 ⟨w.heap.size + 1, 0, none⟩ D _ hne).trans hD)
      refine leaves_marks (B := w.heap.size + 2) (Pw := fun W => W.heap[w.heap.size + 1]? = some (.cells #[.bool true] 4 (0, 0)) ∧ Below w.heap.size w W) (pwg_own w) [D2, D1] _ ⟨?_, ?_⟩ ?_ ?_ ?_
      · exact (Below.heap_alloc _ _ _ (by simp [World.setCell]; exact lR)).trans (one_setCell R5.out)
      · exact (hB5.out.setCell (Nat.le_succ _) _).alloc (by simp [World.setCell]; omega) _
      · simp; omega
      · intro D hD
        rcases List.mem_cons.1 hD with rfl | hD
        · exact ⟨by omega, x2 _ (by omega) K2.out⟩
        · obtain rfl := List.mem_singleton.1 hD
          exact ⟨hd1, x2 _ (by omega) KK1.out⟩
      · rintro W' ⟨hr, hb⟩
        refine ⟨.bool true, ?_, rfl, hb⟩
        have hc : W'.cell? ⟨w.heap.size + 1, 0, none⟩ = some (.bool true) := by rw [cell_of_row _ _ _ _ _ _ hr]; rfl
        simp [results, Try.f29, go_sem, hc]
theorem goes_nt {w : World} {p : Option Addr} (h : NoTab w p) (rb : Nat) (hr : w.heap[rb]? = some (.cells #[.slice none 0 0, .int .i64 0] 29 (0, 0))) :
    Calls Try.prog 29 #[.pointer p, .pointer (some ⟨rb, 0, none⟩), .int .i64 (-1), .int .i64 0] w fun e w' => e = .returned (.bool true) ∧ Below w.heap.size w w' := callsIn_wide.1 (goes_in h rb hr)
end Go.Proofs.Ytgpmkllhljngfaa
