/- known: the chapter's rows. -/
import Derived.Test.YtgpdkfmneoggkaaExL
namespace Go.Proofs.Ytgpdkfmneoggkaa
open Go.RowKit
open Go.Maps (Keyed)
attribute [local go_sem] Oper.semAt_some

def xk0 : Xt := newXt [4, 3] 2
def xt0 (s : Xt) (a f n : Nat) : Xt := s.set a ((s.pt a).turn f n)
def xk1 : Xt := xt0 xk0 0 0 2
def xk2 : Xt := xt0 xk1 0 2 1
def xk3 : Xt := xt0 xk2 0 0 2
def xk4 : Xt := xt0 xk3 0 0 1
def xk5 : Xt := xt0 xk4 1 0 3
theorem xk_r0 : (xk0.pt 0).room 2 = some 0 := by rw [Pt.room_eq]; decide +kernel
theorem xk_r1 : (xk1.pt 0).room 1 = some 2 := by rw [Pt.room_eq]; decide +kernel
theorem xk_r2 : (xk2.pt 0).full 0 2 := (Pt.fullB_iff _ _ _).1 (by decide +kernel)
theorem xk_r3 : (xk3.pt 0).room 1 = some 0 := by rw [Pt.room_eq]; decide +kernel
theorem xk_r4 : (xk4.pt 0).room 2 = none := by rw [Pt.room_eq]; decide +kernel
theorem xk_r5 : (xk4.pt 1).room 3 = some 0 := by rw [Pt.room_eq]; decide +kernel
theorem xk_r6 : ¬ (xk5.pt 0).full 1 1 := fun h => by have := (Pt.fullB_iff _ _ _).2 h; revert this; decide +kernel
theorem xk_r7 : (xk5.pt 0).has 1 = false := by decide +kernel
theorem xk_r8 : (xk5.pt 1).bit 2 = true ∧ 2 < (xk5.pt 1).ct ∧ (xk5.pt 1).fi = 4 ∧ (xk5.pt 0).fi = 0 ∧ (xk5.pt 0).ct = 4 := by decide +kernel
theorem xk_p1 : (xk0.pt 1).fi = 4 ∧ (xk0.pt 1).ct = 3 ∧ (xk0.pt 0).fi = 0 ∧ (xk0.pt 0).ct = 4 := by decide +kernel
def kd0 : Dk := newD (List.replicate 10 zeroS) 0
theorem kd0_len : kd0.fl.length = 10 := List.length_replicate
def kd1 : Dk := kd0.push ((4 + 2 : Nat) : Int) (fullS 1)
def kd2 : Dk := kd1.flushed 0 4
theorem kd2_pd : (kd2.pd 6).length = 1 := by decide +kernel
theorem xk_owner5 {v : Value} (h : OwnerOut xk0 5 v) : v = .tuple #[.int .i64 1, .int .i64 1, .bool true] := by
  have p1 := xk_p1
  rcases h with ⟨a, ha, h1, h2, -, rfl⟩ | ⟨h, -⟩
  · have : a < 2 := ha
    rcases (show a = 0 ∨ a = 1 by omega) with rfl | rfl
    · rw [p1.2.2.1, p1.2.2.2] at h2; omega
    · rw [p1.1]; rfl
  · have := h 1 (by decide)
    rw [p1.1, p1.2.1] at this
    omega
theorem xk_owner8 {v : Value} (h : OwnerOut xk0 8 v) : v = .tuple #[.int .i64 0, .int .i64 0, .bool false] := by
  have p1 := xk_p1
  rcases h with ⟨a, ha, h1, h2, -, rfl⟩ | ⟨-, h⟩
  · have : a < 2 := ha
    rcases (show a = 0 ∨ a = 1 by omega) with rfl | rfl
    · rw [p1.2.2.1, p1.2.2.2] at h2; omega
    · rw [p1.1, p1.2.1] at h2; omega
  · exact h
theorem xk_fit (k : Dk) (h : 7 ≤ k.fl.length) (a : Nat) : (xk0.pt a).fi + (xk0.pt a).ct ≤ k.fl.length := by
  have p1 := xk_p1
  by_cases h0 : a = 0
  · subst h0; rw [p1.2.2.1, p1.2.2.2]; omega
  by_cases h1 : a = 1
  · subst h1; rw [p1.1, p1.2.1]; omega
  · have : xk0.pt a = zeroP := by unfold xk0 newXt; dsimp only; rw [if_neg (by omega)]
    rw [this]; exact Nat.zero_le _
set_option maxHeartbeats 16000000 in
set_option maxRecDepth 100000 in
theorem xknown_any (w : World) : Calls Try.prog 9 #[] w fun e w' => e = .returned (.bool true) ∧ Below w.heap.size w w' := by
  go_enter Try.func9, Try.ntmps9
  go_wp2_with (go_at_call 19; refine (new_yes9 10 (by omega) (by omega) _).mono ?_; rintro e w1 ⟨d, O1, L1, rfl, hd1, hO1, hb1⟩; have HD1 := Lib.hid (show DkAt w1 O1 d L1 kd0 from hd1); have HO1 := Lib.hid hO1; have HB1 := Lib.hid hb1; clear hd1 hO1 hb1)
  go_at_call 20
  have r1 := heap_alloc_new w1 (.cells #[.int .i64 8, .int .i64 3] 3)
  have b1 : Below w1.heap.size w1 (w1.alloc (.cells #[.int .i64 8, .int .i64 3] 3)) := (Below.refl _ w1).alloc (Nat.le_refl _) _
  refine Calls.mono (xnew_full (HD1.out.step b1) (some ⟨w1.heap.size, 0, none⟩) [8, 3] 2 2 rfl (by omega) (ints_row (qs := [8, 3]) r1 (by decide)) (by decide) (by decide) (by decide) (by rw [kd0_len]; decide)) ?_
  rintro e w2 ⟨rfl, hb2⟩
  have b12 := b1.trans (hb2.mono b1.size)
  have HD2 := Lib.hid (HD1.out.step b12)
  have HB2 := Lib.hid (HB1.out.trans (b12.mono HB1.out.size))
  clear r1 b1 hb2 b12 HD1 HB1
  go_wp2_with fail
  go_at_call 20
  refine Calls.mono (xnew_arg HD2.out none [] 0 0 rfl (by omega) (ints_nil _ _) (.inl (by decide))) ?_
  rintro e w3 ⟨rfl, hb3⟩
  have HD3 := Lib.hid (HD2.out.step hb3)
  have HB3 := Lib.hid (HB2.out.trans (hb3.mono HB2.out.size))
  clear hb3 HD2 HB2
  go_wp2_with fail
  go_at_call 20
  have r1 := heap_alloc_new w3 (.cells #[.int .i64 4, .int .i64 3] 3)
  have b1 : Below w3.heap.size w3 (w3.alloc (.cells #[.int .i64 4, .int .i64 3] 3)) := (Below.refl _ w3).alloc (Nat.le_refl _) _
  refine Calls.mono (xnew_ok (HD3.out.step b1) (some ⟨w3.heap.size, 0, none⟩) [4, 3] 2 2 rfl (by omega) (ints_row (qs := [4, 3]) r1 (by decide)) (by decide) (by decide) (by decide) (by rw [kd0_len]; decide)) ?_
  rintro e w4 ⟨x, rfl, hE, hx, hb4⟩
  have b14 := b1.trans (hb4.mono b1.size)
  have K4 := Lib.hid (show Kn w w4 O1 x d L1 xk0 kd0 from ⟨⟨hE, HD3.out.step b14, fun h => by have := HD3.out.lt x h; have := b1.size; omega, xk_fit kd0 (by rw [kd0_len]; omega)⟩, HO1.out, by have := HB3.out.size; have := b1.size; omega, HB3.out.trans (b14.mono HB3.out.size)⟩)
  clear r1 b1 hb4 b14 HD3 HB3 hE hx HO1
  go_wp2_with fail
  go_at_call 13
  refine Calls.mono (xpart_yes K4.out.ed.ex 1 (by decide)) ?_
  rw [xk_p1.1, xk_p1.2.1]
  rintro e w5 ⟨rfl, hb⟩
  have K5 := Lib.hid (K4.out.step hb)
  clear hb K4
  go_wp2_with fail
  go_at_call 25
  refine Calls.mono (xowner_any K5.out.ed.ex 5) ?_
  rintro e w6 ⟨v, rfl, ho, hb⟩
  obtain rfl := xk_owner5 ho
  have K6 := Lib.hid (K5.out.step hb)
  clear hb ho K5
  go_wp2_with fail
  go_at_call 25
  refine Calls.mono (xowner_any K6.out.ed.ex 8) ?_
  rintro e w7 ⟨v, rfl, ho, hb⟩
  obtain rfl := xk_owner8 ho
  have K7 := Lib.hid (K6.out.step hb)
  clear hb ho K6
  go_wp2_with fail
  go_at_call 17
  refine Calls.mono (kn_take K7.out 0 (by decide) 2 (by omega) (by omega) 0 xk_r0) ?_
  rintro e w8 ⟨rfl, h8⟩
  have K8 := Lib.hid (show Kn w w8 O1 x d L1 xk1 kd0 from h8)
  clear h8 K7
  go_wp2_with fail
  go_at_call 17
  refine Calls.mono (kn_take K8.out 0 (by decide) 1 (by omega) (by omega) 2 xk_r1) ?_
  rintro e w9 ⟨rfl, h9⟩
  have K9 := Lib.hid (show Kn w w9 O1 x d L1 xk2 kd0 from h9)
  clear h9 K8
  go_wp2_with fail
  go_at_call 23
  refine Calls.mono (kn_give K9.out 0 (by decide) 0 2 (by omega) (by omega) xk_r2) ?_
  rintro e w10 ⟨rfl, h9⟩
  have K10 := Lib.hid (show Kn w w10 O1 x d L1 xk3 kd0 from h9)
  clear h9 K9
  go_wp2_with fail
  go_at_call 17
  refine Calls.mono (kn_take K10.out 0 (by decide) 1 (by omega) (by omega) 0 xk_r3) ?_
  rintro e w11 ⟨rfl, h9⟩
  have K11 := Lib.hid (show Kn w w11 O1 x d L1 xk4 kd0 from h9)
  clear h9 K10
  go_wp2_with fail
  go_at_call 17
  refine Calls.mono (kn_take_full K11.out 0 (by decide) 2 (by omega) (by omega) xk_r4) ?_
  rintro e w12 ⟨rfl, rfl⟩
  go_wp2_with fail
  go_at_call 17
  refine Calls.mono (kn_take K11.out 1 (by decide) 3 (by omega) (by omega) 0 xk_r5) ?_
  rintro e w13 ⟨rfl, h9⟩
  have K13 := Lib.hid (show Kn w w13 O1 x d L1 xk5 kd0 from h9)
  clear h9 K11
  go_wp2_with fail
  go_at_call 17
  refine Calls.mono (xtake_out K13.out.ed.ex 2 1 (.inr (by decide))) ?_
  rintro e w14 ⟨rfl, rfl⟩
  go_wp2_with (go_at_call 16; refine (num_any10 _ _).mono ?_; rintro e w' ⟨rfl, rfl⟩)
  go_at_call 23
  refine Calls.mono (kn_give_not K13.out 0 (by decide) 1 1 (by omega) (by omega) xk_r6) ?_
  rintro e w14 ⟨rfl, rfl⟩
  go_wp2_with (go_at_call 16; refine (num_any10 _ _).mono ?_; rintro e w' ⟨rfl, rfl⟩)
  go_at_call 27
  refine Calls.mono (sector_any10 1 _) ?_
  rintro e w14 ⟨g, c, rfl, hg, hr, hb⟩
  have K14 := Lib.hid (K13.out.step hb)
  clear hg hr hb K13
  go_wp2_with fail
  go_at_call 26
  refine Calls.mono (xwrite_none K14.out.ed.ex 0 (by decide) 1 _ xk_r7) ?_
  rintro e w15 ⟨rfl, rfl⟩
  go_wp2_with (go_at_call 16; refine (num_any10 _ _).mono ?_; rintro e w' ⟨rfl, rfl⟩)
  go_at_call 27
  refine Calls.mono (sector_any10 1 _) ?_
  rintro e w15 ⟨g, c, rfl, hg, hr, hb⟩
  have hgO : ¬ O1 g := fun h => by have := K14.out.ed.dk.lt g h; omega
  have K15 := Lib.hid (K14.out.step hb)
  have HR := Lib.hid hr
  have HGO := Lib.hid hgO
  clear hg hr hb hgO K14
  go_wp2_with fail
  go_at_call 26
  refine Calls.mono (kn_write K15.out 1 (by decide) 2 xk_r8.2.1 xk_r8.1 g 0 c (fullS 1) (fullS_ok (by decide) (by decide)) HR.out HGO.out (by decide)) ?_
  rw [xk_r8.2.2.1]
  rintro e w16 ⟨rfl, O2, L2, h9⟩
  have K16 := Lib.hid (show Kn w w16 O2 x d L2 xk5 kd1 from h9)
  clear h9 K15 HR HGO
  go_wp2_with (go_at_call 16; refine (num_any10 _ _).mono ?_; rintro e w' ⟨rfl, rfl⟩)
  go_at_call 28
  refine Calls.mono (kn_flush K16.out 0 (by decide)) ?_
  rw [xk_r8.2.2.2.1, xk_r8.2.2.2.2]
  rintro e w17 ⟨rfl, L3, h9⟩
  have K17 := Lib.hid (show Kn w w17 O2 x d L3 xk5 kd2 from h9)
  clear h9 K16
  go_wp2_with (go_at_call 16; refine (num_any10 _ _).mono ?_; rintro e w' ⟨rfl, rfl⟩)
  go_at_call 29
  refine Calls.mono (pending_any9 K17.out.ed.dk 6 (by decide)) ?_
  rw [kd2_pd]
  rintro e w18 ⟨rfl, rfl⟩
  go_wp2_with fail
  go_ret
  exact ⟨rfl, K17.out.bl⟩
end Go.Proofs.Ytgpdkfmneoggkaa
