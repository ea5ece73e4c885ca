/- ExtentsNil. -/
import Derived.Test.YtgpdkfmneoggkaaExM
namespace Go.Proofs.Ytgpdkfmneoggkaa
open Go.RowKit
open Go.Maps (Keyed)
attribute [local go_sem] Oper.semAt_some

theorem zx_0 : (Try.zeroCells70)[0]? = some (.pointer none) := by kernel_rfl
def xn0 : Xt := newXt [2, 2, 2, 2, 2, 2, 2, 2] 8
theorem xn_len (n : Nat) : (newD (List.replicate n zeroS) 0).fl.length = n := List.length_replicate
theorem xn_p0 : (xn0.pt 0).ct = 2 ∧ (xn0.pt 0).bit 1 = false := by decide +kernel
theorem xn_fit (a : Nat) : (xn0.pt a).fi + (xn0.pt a).ct ≤ 16 := by
  by_cases h : a < 8
  · rcases (show a = 0 ∨ a = 1 ∨ a = 2 ∨ a = 3 ∨ a = 4 ∨ a = 5 ∨ a = 6 ∨ a = 7 by omega) with rfl | rfl | rfl | rfl | rfl | rfl | rfl | rfl <;> decide +kernel
  · have : xn0.pt a = zeroP := by unfold xn0 newXt; dsimp only; rw [if_neg h]
    rw [this]; exact Nat.zero_le _
set_option maxHeartbeats 16000000 in
set_option maxRecDepth 100000 in
theorem extents_nil_law (w : World) : Calls Try.prog 7 #[] w fun e w' => e = .returned (.bool true) ∧ Below w.heap.size w w' := by
  go_enter Try.func7, Try.ntmps7
  go_wp2_with fail
  go_at_call 19
  refine Calls.mono (new_yes9 16 (by omega) (by omega) _) ?_
  rintro e w1 ⟨d, O1, L1, rfl, hd1, hO1, hb1⟩
  have HD1 := Lib.hid hd1
  have HO1 := Lib.hid hO1
  have HB1 := Lib.hid hb1
  clear hd1 hO1 hb1
  go_wp2_with fail
  go_at_call 19
  refine Calls.mono (new_yes9 17 (by omega) (by omega) _) ?_
  rintro e w2 ⟨c, O2, L2, rfl, hd2, hO2, hb2⟩
  have HC2 := Lib.hid hd2
  have HD2 := Lib.hid (HD1.out.step hb2)
  have HB2 := Lib.hid (HB1.out.trans (hb2.mono HB1.out.size))
  clear hd2 hO2 hb2 HD1 HB1
  go_wp2_with fail
  go_at_call 20
  have b1 : Below w2.heap.size w2 (w2.alloc (.cells #[.int .i64 1] 3)) := (Below.refl _ w2).alloc (Nat.le_refl _) _
  refine Calls.mono (xnew_no (.inl rfl) _ _ _) ?_
  rintro e w3 ⟨rfl, rfl⟩
  have HC3 := Lib.hid (HC2.out.step b1)
  have HD3 := Lib.hid (HD2.out.step b1)
  have HB3 := Lib.hid (HB2.out.trans (b1.mono HB2.out.size))
  clear b1 HC2 HD2 HB2
  generalize w2.alloc (.cells #[.int .i64 1] 3) = w3 at HC3 HD3 HB3 ⊢
  go_wp2_with fail
  go_at_call 20
  have r1 := heap_alloc_new w3 (.cells #[.int .i64 2, .int .i64 2, .int .i64 2, .int .i64 2, .int .i64 2, .int .i64 2, .int .i64 2, .int .i64 2] 3)
  have b1 : Below w3.heap.size w3 (w3.alloc (.cells #[.int .i64 2, .int .i64 2, .int .i64 2, .int .i64 2, .int .i64 2, .int .i64 2, .int .i64 2, .int .i64 2] 3)) := (Below.refl _ w3).alloc (Nat.le_refl _) _
  refine Calls.mono (xnew_ok (HD3.out.step b1) (some ⟨w3.heap.size, 0, none⟩) [2, 2, 2, 2, 2, 2, 2, 2] 8 8 rfl (by omega) (ints_row (qs := [2, 2, 2, 2, 2, 2, 2, 2]) r1 (by decide)) (by decide) (by decide) (by decide) (by rw [xn_len]; decide)) ?_
  rintro e w4 ⟨x, rfl, hE, hx, hb4⟩
  have b14 := b1.trans (hb4.mono b1.size)
  have K4 := Lib.hid (show Kn w w4 O1 x d L1 xn0 (newD (List.replicate 16 zeroS) 0) from ⟨⟨hE, HD3.out.step b14, fun h => by have := HD3.out.lt x h; have := b1.size; omega, fun a => by rw [xn_len]; exact xn_fit a⟩, HO1.out, by have := HB3.out.size; have := b1.size; omega, HB3.out.trans (b14.mono HB3.out.size)⟩)
  have HC4 := Lib.hid (HC3.out.step b14)
  clear r1 b1 hb4 b14 HD3 HB3 HC3 hE hx HO1
  go_wp2_with fail
  go_at_call 20
  have r1 := heap_alloc_new w4 (.cells #[.int .i64 1, .int .i64 1, .int .i64 1, .int .i64 1, .int .i64 1, .int .i64 1, .int .i64 1, .int .i64 1, .int .i64 1] 3)
  have b1 : Below w4.heap.size w4 (w4.alloc (.cells #[.int .i64 1, .int .i64 1, .int .i64 1, .int .i64 1, .int .i64 1, .int .i64 1, .int .i64 1, .int .i64 1, .int .i64 1] 3)) := (Below.refl _ w4).alloc (Nat.le_refl _) _
  refine Calls.mono (xnew_arg (K4.out.step b1).ed.dk (some ⟨w4.heap.size, 0, none⟩) [1, 1, 1, 1, 1, 1, 1, 1, 1] 9 9 rfl (by omega) (ints_row (qs := [1, 1, 1, 1, 1, 1, 1, 1, 1]) r1 (by decide)) (.inr (.inl (by decide)))) ?_
  rintro e w5 ⟨rfl, hb5⟩
  have b15 := b1.trans (hb5.mono b1.size)
  have K5 := Lib.hid (K4.out.step b15)
  have HC5 := Lib.hid (HC4.out.step b15)
  clear r1 b1 hb5 b15 K4 HC4
  go_wp2_with fail
  go_at_call 20
  have r1 := heap_alloc_new w5 (.cells #[.int .i64 4611686018427387904, .int .i64 4611686018427387904, .int .i64 4611686018427387904, .int .i64 4611686018427387904] 3)
  have b1 : Below w5.heap.size w5 (w5.alloc (.cells #[.int .i64 4611686018427387904, .int .i64 4611686018427387904, .int .i64 4611686018427387904, .int .i64 4611686018427387904] 3)) := (Below.refl _ w5).alloc (Nat.le_refl _) _
  refine Calls.mono (xnew_full (K5.out.step b1).ed.dk (some ⟨w5.heap.size, 0, none⟩) [4611686018427387904, 4611686018427387904, 4611686018427387904, 4611686018427387904] 4 4 rfl (by omega) (ints_row (qs := [4611686018427387904, 4611686018427387904, 4611686018427387904, 4611686018427387904]) r1 (by decide)) (by decide) (by decide) (by decide) (by rw [xn_len]; decide)) ?_
  rintro e w6 ⟨rfl, hb6⟩
  have b16 := b1.trans (hb6.mono b1.size)
  have K6 := Lib.hid (K5.out.step b16)
  have HC6 := Lib.hid (HC5.out.step b16)
  clear r1 b1 hb6 b16 K5 HC5
  go_wp2_with fail
  go_at_call 14
  refine Calls.mono (xover_size K6.out.ed HC6.out (by rw [xn_len, xn_len]; decide)) ?_
  rintro e w7 ⟨rfl, hb7⟩
  have K7 := Lib.hid (K6.out.step hb7)
  clear hb7 K6 HC6
  go_wp2_with fail
  go_at_call 14
  refine Calls.mono (xover_nil K7.out.ed.ex (.inl rfl)) ?_
  rintro e w8 ⟨rfl, rfl⟩
  go_wp2_with fail
  go_at_call 17
  refine Calls.mono (kn_take_full K7.out 0 (by decide) 9223372036854775807 (by omega) (by omega) (Pt.room_big (by rw [xn_p0.1]; omega))) ?_
  rintro e w8 ⟨rfl, rfl⟩
  go_wp2_with (go_at_call 16; refine (num_any10 _ _).mono ?_; rintro e w' ⟨rfl, rfl⟩)
  go_at_call 23
  refine Calls.mono (kn_give_not K7.out 0 (by decide) 1 9223372036854775807 (by omega) (by omega) (fun h => by have := h 1 (Nat.le_refl _) (by omega); rw [xn_p0.2] at this; cases this)) ?_
  rintro e w8 ⟨rfl, rfl⟩
  go_wp2_with (go_at_call 16; refine (num_any10 _ _).mono ?_; rintro e w' ⟨rfl, rfl⟩)
  go_at_call 24
  refine Calls.mono (xnothing_any (.inl rfl)) ?_
  rintro e w8 ⟨rfl, hb8⟩
  have HB8 := Lib.hid (K7.out.bl.trans (hb8.mono K7.out.bl.size))
  clear hb8 K7
  go_wp2_with fail
  go_at_call 24
  have r8 := heap_alloc_new w8 (.cells Try.zeroCells70 70)
  have b8 : Below w8.heap.size w8 (w8.alloc (.cells Try.zeroCells70 70)) := (Below.refl _ w8).alloc (Nat.le_refl _) _
  refine Calls.mono (xnothing_any (.inr ⟨w8.heap.size, rfl, by rw [cell_of_row _ _ _ _ _ _ r8]; exact zx_0⟩)) ?_
  rintro e w9 ⟨rfl, hb9⟩
  have HB9 := Lib.hid (HB8.out.trans ((b8.trans (hb9.mono b8.size)).mono HB8.out.size))
  clear hb9 b8 r8 HB8
  go_wp2_with fail
  go_at_call 9
  refine Calls.mono (xknown_any w9) ?_
  rintro e w10 ⟨rfl, hb10⟩
  have HB10 := Lib.hid (HB9.out.trans (hb10.mono HB9.out.size))
  clear hb10 HB9
  go_wp2_with fail
  go_ret
  exact ⟨rfl, HB10.out⟩
end Go.Proofs.Ytgpdkfmneoggkaa
