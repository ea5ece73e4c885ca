/- Tables that are not there, and zero ones. -/
import Derived.Test.YtgpmkllhljngfaaCapR
namespace Go.Proofs.Ytgpmkllhljngfaa
open Go.RowKit

def NoTab (w : World) (p : Option Addr) : Prop := p = none ∨ ∃ t, p = some ⟨t, 0, none⟩ ∧ w.cell? ⟨t, 0, none⟩ = some (.map none)
theorem NoTab.below {w w' : World} {p : Option Addr} (h : NoTab w p) (hb : Below w.heap.size w w') : NoTab w' p := by
  rcases h with h | ⟨t, h, hc⟩
  · exact .inl h
  · exact .inr ⟨t, h, (hb.cell (p := ⟨t, 0, none⟩) (World.block_lt_of_cell? w _ hc)).trans hc⟩
theorem there_nt {w : World} {p : Option Addr} (h : NoTab w p) : Calls Try.prog 30 #[.pointer p] w fun e w' => e = .returned (.map none) ∧ w = w' := by
  rcases h with rfl | ⟨t, rfl, hc⟩
  · exact there_no w
  · exact there_zero hc
theorem look_nt (id : Int) (w : World) : (Instr.lookup 59 (.map none) (.int .i64 id) true).run Try.prog w = .ok (.tuple #[capV nilC, .bool false]) w := by kernel_rfl
theorem root_nt {w : World} {p : Option Addr} (h : NoTab w p) (a k o r : Int) : Calls Try.prog 23 #[.pointer p, .int .i64 a, .int .i64 k, .int .i64 o, .int .i64 r] w fun e w' => e = .returned (.tuple #[.int .i64 0, .int .i64 1]) ∧ w = w' := by
  have H := Lib.hid h
  clear h
  have q := Try.qmap
  go_enter Try.func23, Try.ntmps23
  go_wp2_with (go_at_call 30; refine (there_nt H.out).mono ?_; rintro e w' ⟨rfl, rfl⟩)
  go_ret2
  exact ⟨rfl, rfl⟩
theorem derive_nt {w : World} {p : Option Addr} (h : NoTab w p) (a id d r m : Int) : Calls Try.prog 49 #[.pointer p, .int .i64 a, .int .i64 id, .int .i64 d, .int .i64 r, .int .i64 m] w fun e w' => e = .returned (.tuple #[.int .i64 0, .int .i64 1]) ∧ w = w' := by
  have H := Lib.hid h
  clear h
  have q := Try.qmap
  go_enter Try.func49, Try.ntmps49
  go_wp2_with (go_at_call 30; refine (there_nt H.out).mono ?_; rintro e w' ⟨rfl, rfl⟩)
  go_ret2
  exact ⟨rfl, rfl⟩
theorem Derive_nt {w : World} {p : Option Addr} (h : NoTab w p) (a id r : Int) : Calls Try.prog 24 #[.pointer p, .int .i64 a, .int .i64 id, .int .i64 r] w fun e w' => e = .returned (.tuple #[.int .i64 0, .int .i64 1]) ∧ w = w' := by
  have H := Lib.hid h
  clear h
  go_enter Try.func24, Try.ntmps24
  go_wp2_with (go_at_call 49; refine (derive_nt H.out _ _ _ _ _).mono ?_; rintro e w' ⟨rfl, rfl⟩)
  go_ret2
  exact ⟨rfl, rfl⟩
theorem Grant_nt {w : World} {p : Option Addr} (h : NoTab w p) (a id d r : Int) : Calls Try.prog 26 #[.pointer p, .int .i64 a, .int .i64 id, .int .i64 d, .int .i64 r] w fun e w' => e = .returned (.tuple #[.int .i64 0, .int .i64 1]) ∧ w = w' := by
  have H := Lib.hid h
  clear h
  go_enter Try.func26, Try.ntmps26
  go_wp2_with (go_at_call 49; refine (derive_nt H.out _ _ _ _ _).mono ?_; rintro e w' ⟨rfl, rfl⟩)
  go_ret2
  exact ⟨rfl, rfl⟩
set_option maxRecDepth 100000 in
theorem own_nt {w : World} {p : Option Addr} (h : NoTab w p) (a id : Int) : Calls Try.prog 45 #[.pointer p, .int .i64 a, .int .i64 id] w fun e w' => e = .returned (.tuple #[capV nilC, .int .i64 1]) ∧ Below w.heap.size w w' := by
  have H := fun o => Lib.hid (h.below (w' := w.alloc o) ((Below.refl _ w).alloc (Nat.le_refl _) _))
  clear h
  have q := Try.qmap
  go_enter Try.func45, Try.ntmps45
  go_wp2_with (go_at_call 30; refine (there_nt (H _).out).mono ?_; rintro e w' ⟨rfl, rfl⟩)
  refine bodyPost_ret (v := .tuple #[capV nilC, .int .i64 1]) (by simp [results, Try.results45, go_sem, capV, nilC]) rfl ⟨rfl, ?_⟩
  exact (Below.refl _ w).alloc (Nat.le_refl _) _
set_option maxRecDepth 100000 in
theorem Revoke_nt {w : World} {p : Option Addr} (h : NoTab w p) (a id : Int) : Calls Try.prog 21 #[.pointer p, .int .i64 a, .int .i64 id] w fun e w' => e = .returned (.tuple #[.int .i64 0, .int .i64 1]) ∧ Below w.heap.size w w' := by
  have H := Lib.hid (own_nt h a id)
  unfold capV nilC at H
  clear h
  go_enter Try.func21, Try.ntmps21
  go_wp2_with (go_at_call 45; refine H.out.mono ?_; rintro e w1 ⟨rfl, hb⟩; have B := Lib.hid hb; clear hb)
  go_ret2
  exact ⟨rfl, B.out.alloc B.out.size _⟩
theorem Drop_nt {w : World} {p : Option Addr} (h : NoTab w p) (a id : Int) : Calls Try.prog 22 #[.pointer p, .int .i64 a, .int .i64 id] w fun e w' => e = .returned (.tuple #[.int .i64 0, .int .i64 1]) ∧ Below w.heap.size w w' := by
  have H := Lib.hid (Revoke_nt h a id)
  clear h
  go_enter Try.func22, Try.ntmps22
  go_wp2_with (go_at_call 21; refine H.out.mono ?_; rintro e w1 ⟨rfl, hb⟩; have B := Lib.hid hb; clear hb)
  go_ret2
  exact ⟨rfl, B.out⟩
set_option maxRecDepth 100000 in
theorem of_nt {w : World} {p : Option Addr} (h : NoTab w p) (id : Int) : Calls Try.prog 19 #[.pointer p, .int .i64 id] w fun e w' => e = .returned (.tuple #[capV nilC, .int .i64 1]) ∧ Below w.heap.size w w' := by
  have H := fun w' (hb : Below w.heap.size w w') => Lib.hid (h.below hb)
  have hl := look_nt id
  unfold capV nilC at hl
  clear h
  have q := Try.qmap
  go_enter Try.func19, Try.ntmps19
  go_wp2_with fail
  refine (there_nt (H _ ((Below.refl _ w).alloc (Nat.le_refl _) _)).out).mono ?_
  rintro e w' ⟨rfl, rfl⟩
  go_wp2_with fail
  refine (there_nt (H _ (((Below.refl _ w).alloc (Nat.le_refl _) _).alloc (by simp) _)).out).mono ?_
  rintro e w' ⟨rfl, rfl⟩
  go_wp2_with fail
  refine bodyPost_ret (v := .tuple #[capV nilC, .int .i64 1]) (by simp [results, Try.results19, go_sem, capV, nilC]) rfl ⟨rfl, ?_⟩
  exact ((Below.refl _ w).alloc (Nat.le_refl _) _).alloc (by simp) _
set_option maxRecDepth 100000 in
theorem over_nt {w : World} {p : Option Addr} (h : NoTab w p) (x y : Int) : Calls Try.prog 20 #[.pointer p, .int .i64 x, .int .i64 y] w fun e w' => e = .returned (.tuple #[.bool false, .int .i64 1]) ∧ Below w.heap.size w w' := by
  have H := Lib.hid (of_nt h x)
  unfold capV nilC at H
  clear h
  go_enter Try.func20, Try.ntmps20
  go_wp2_with (go_at_call 19; refine H.out.mono ?_; rintro e w1 ⟨rfl, hb⟩; have B := Lib.hid hb; clear hb)
  go_ret2
  exact ⟨rfl, B.out.alloc B.out.size _⟩
theorem clone_nt {w : World} {p : Option Addr} (h : NoTab w p) : Calls Try.prog 11 #[.pointer p] w fun e w' => e = .returned (.pointer none) ∧ w = w' := by
  have H := Lib.hid h
  clear h
  have q := Try.qmap
  go_enter Try.func11, Try.ntmps11
  go_wp2_with (go_at_call 30; refine (there_nt H.out).mono ?_; rintro e w' ⟨rfl, rfl⟩)
  go_ret
  exact ⟨rfl, rfl⟩
theorem len_nt {w : World} {p : Option Addr} (h : NoTab w p) : Calls Try.prog 28 #[.pointer p] w fun e w' => e = .returned (.int .i64 0) ∧ w = w' := len_none (there_nt h)
theorem made_nt {w : World} {p : Option Addr} (h : NoTab w p) (a : Int) : Calls Try.prog 27 #[.pointer p, .int .i64 a] w fun e w' => e = .returned (.int .i64 0) ∧ Below w.heap.size w w' := by
  have H := Lib.hid h
  clear h
  have hrg := run_range_nilMap (P := Try.prog) w 59 2 43 Try.underlying59
  have hnx : ∀ ty, (Instr.next (.pointer (some ⟨w.heap.size, 0, none⟩)) false ty).run Try.prog (w.alloc (.mapIter none 0 #[] 0)) = _ := fun ty => run_next_nilMap w ty 0 0 #[]
  go_enter Try.func27, Try.ntmps27
  go_wp2_with (go_at_call 30; refine (there_nt H.out).mono ?_; rintro e w' ⟨rfl, rfl⟩)
  refine wp_loop_rounds 1 ?_
  rw [rounds_succ]
  go_wp2
  go_ret
  exact ⟨rfl, (Below.refl _ w).alloc (Nat.le_refl _) _⟩
theorem may_nt {w : World} {p : Option Addr} (h : NoTab w p) (a k o : Int) : Calls Try.prog 15 #[.pointer p, .int .i64 a, .int .i64 k, .int .i64 o, .int .i64 1] w fun e w' => e = .returned (.bool false) ∧ Below w.heap.size w w' := by
  have H := Lib.hid h
  clear h
  have hrg := run_range_nilMap (P := Try.prog) w 59 2 43 Try.underlying59
  have hnx : ∀ ty, (Instr.next (.pointer (some ⟨w.heap.size, 0, none⟩)) false ty).run Try.prog (w.alloc (.mapIter none 0 #[] 0)) = _ := fun ty => run_next_nilMap w ty 0 0 #[]
  have e1 : rightsB 1 = true := rfl
  go_enter Try.func15, Try.ntmps15
  go_wp2_with (first
    | (go_at_call 37; refine (areRights_any 1 _).mono ?_; rintro e w' ⟨rfl, rfl⟩)
    | (go_at_call 30; refine (there_nt H.out).mono ?_; rintro e w' ⟨rfl, rfl⟩))
  refine wp_loop_rounds 1 ?_
  rw [rounds_succ]
  go_wp2
  go_ret
  exact ⟨rfl, (Below.refl _ w).alloc (Nat.le_refl _) _⟩
set_option maxRecDepth 100000 in
theorem all_nt {w : World} {p : Option Addr} (h : NoTab w p) (a : Int) : Calls Try.prog 18 #[.pointer p, .int .i64 a] w fun e w' => ∃ F, e = .returned (seqV F) ∧ SeqAt w' F [] ∧ Below w.heap.size w w' ∧ w.heap.size ≤ F := by
  have H := Lib.hid h
  clear h
  have hrg := run_range_nilMap (P := Try.prog) w 59 2 43 Try.underlying59
  have hnx : ∀ ty, (Instr.next (.pointer (some ⟨w.heap.size, 0, none⟩)) false ty).run Try.prog (w.alloc (.mapIter none 0 #[] 0)) = _ := fun ty => run_next_nilMap w ty 0 0 #[]
  go_enter Try.func18, Try.ntmps18
  go_wp2_with (go_at_call 30; refine (there_nt H.out).mono ?_; rintro e w' ⟨rfl, rfl⟩)
  refine wp_loop_rounds 1 ?_
  rw [rounds_succ]
  go_wp2_with fail
  refine (sort_none _ _ _ _).mono ?_
  rintro e w3 ⟨rfl, rfl⟩
  clear hrg hnx
  go_wp2_with fail
  refine (values_any _ _ _ _).mono ?_
  rintro e w4 ⟨F, rfl, hF, rfl⟩
  have HF := Lib.hid hF
  clear hF
  go_wp2_with fail
  go_ret
  refine ⟨F, rfl, ?_, ((Below.refl _ w).alloc (Nat.le_refl _) _).alloc (by simp) _, by rw [HF.out]; simp⟩
  rw [HF.out]
  exact seq_new _ none 0 [] (fun h => absurd rfl h)
end Go.Proofs.Ytgpmkllhljngfaa
