/- The walk of IsaTouches. -/
import Derived.Test.YtnkkomodpjgefaaDoorIsaBack
namespace Go.Proofs.YtnkkomodpjgefaaDoor
open Go.RowKit Go.Sort

theorem name_inj : ∀ i : Nat, i < 29 → ∀ j : Nat, j < 29 → (nameOf (i : Int)).data.toList = (nameOf (j : Int)).data.toList → i = j := by decide +kernel
theorem mem_opsUpto {k : Nat} {x : OpNo} (h : x ∈ opsUpto k) : x.1 ≤ k := by
  unfold opsUpto at h
  obtain ⟨j, hj, e⟩ := List.mem_filterMap.1 h
  have hj := List.mem_range.1 hj
  split at e
  · cases e; show (j : Int) + 1 ≤ k; omega
  · cases e
/-- Of names that differ, at most one is met. -/
theorem find_none {nm : ByteArray} {k : Nat} (hk : k < 28) (hx : ((nameOf ((k : Int) + 1)).toList == nm.toList) = true) : findN nm (opsUpto k) = none := by
  unfold findN
  rw [List.find?_eq_none]
  intro x hm hp
  have h1 := mem_opsUpto hm
  obtain ⟨v, h0, h28⟩ := x
  obtain ⟨n, rfl⟩ := Int.eq_ofNat_of_zero_le (show 0 ≤ v by omega)
  simp only [beq_iff_eq] at hx hp h1
  have e := name_inj n (by omega) (k + 1) (by omega) (by rw [← ByteArray.toList_eq, ← ByteArray.toList_eq, hp, ← hx]; rfl)
  omega
/-- The op of that name among the first k. -/
def wantV (nm : ByteArray) (k : Nat) : Int := ((findN nm (opsUpto k)).map (·.1)).getD 0
def wantB (nm : ByteArray) (k : Nat) : Bool := (findN nm (opsUpto k)).isSome
theorem want_hit {nm : ByteArray} {k : Nat} (hk : k < 28) (hx : ((nameOf ((k : Int) + 1)).toList == nm.toList) = true) : wantV nm (k + 1) = (k : Int) + 1 ∧ wantB nm (k + 1) = true := by
  unfold wantV wantB
  rw [opsUpto_succ k hk, find_hit (find_none hk hx) hx]; exact ⟨rfl, rfl⟩
theorem want_miss {nm : ByteArray} {k : Nat} (hk : k < 28) (hx : ((nameOf ((k : Int) + 1)).toList == nm.toList) = false) : wantV nm (k + 1) = wantV nm k ∧ wantB nm (k + 1) = wantB nm k := by
  unfold wantV wantB
  rw [opsUpto_succ k hk]
  have : findN nm (opsUpto k ++ [⟨(k : Int) + 1, by omega⟩]) = findN nm (opsUpto k) := by
    unfold findN; rw [List.find?_append]; simp only [List.find?_cons, hx]; cases List.find? _ (opsUpto k) <;> rfl
  rw [this]; exact ⟨rfl, rfl⟩
theorem want_zero (nm : ByteArray) : wantV nm 0 = 0 ∧ wantB nm 0 = false := ⟨rfl, rfl⟩
theorem want_all (nm : ByteArray) : wantV nm 28 = namedV nm ∧ wantB nm 28 = namedB nm := ⟨rfl, rfl⟩

theorem want_hit' {nm : ByteArray} {j : Nat} (h1 : 1 ≤ j) (h2 : j < 29) (hx : ((nameOf (j : Int)).toList == nm.toList) = true) : wantV nm j = j ∧ wantB nm j = true := by
  obtain ⟨k, rfl⟩ : ∃ k, j = k + 1 := ⟨j - 1, by omega⟩
  exact want_hit (by omega) hx
theorem want_miss' {nm : ByteArray} {j : Nat} (h1 : 1 ≤ j) (h2 : j < 29) (hx : ((nameOf (j : Int)).toList == nm.toList) = false) : wantV nm j = wantV nm (j - 1) ∧ wantB nm j = wantB nm (j - 1) := by
  obtain ⟨k, rfl⟩ : ∃ k, j = k + 1 := ⟨j - 1, by omega⟩
  exact want_miss (by omega) hx

theorem rdL_len (op d a b : Int) : (rdL op d a b).length ≤ 1000 := by
  unfold rdL
  refine Nat.le_trans (compact_len _) ?_
  rw [List.length_mergeSort]
  unfold rdRaw
  split <;> split <;> split <;> simp

set_option maxHeartbeats 1600000 in
set_option maxRecDepth 100000 in
theorem touches_yy (op d a b m at' : Int) (x : Nat) (nm : ByteArray) (w : World) (he : Env w) (h0 : 0 ≤ at') (h1 : at' < 4294967296) (hs : (nm.size : Int) ≤ 4000) (hm : mayB op d a b m = true) (hx0 : (1 : Int) ≤ x) (hx1 : (x : Int) ≤ 28) :
    Calls Tryd.prog 6 #[.agg #[.int .i64 op, .int .i64 d, .int .i64 a, .int .i64 b, .int .i64 m], .int .u32 at', .agg #[.int .i64 x, .string nm]] w fun e w' => e = .returned (.bool true) ∧ Below w.heap.size w w' := by
  have HM := Lib.hid hm
  have HP := (may_parts hm).2.2.2.2.1
  have hnx := name_cell x (by omega)
  have hxx : isOp (x : Int) = true := by simp [isOp]; omega
  have hwV := (want_all nm).1
  have hwB := (want_all nm).2
  clear hm
  go_enter Tryd.func6, Tryd.ntmps6
  go_wp2
  go_quiet (fail)
  go_wp2_with (first
    | (go_at_call 23; refine (reads_may _ _ _ _ _ _ HM.out).mono ?_; rintro e w1 ⟨v1, rfl, r1, hb1⟩; have he1 := (((he.alloc _).alloc _).drewN _).below hb1
       obtain ⟨c1, f1, z1, y1, x1⟩ := keep2 (n := w.heap.size) hb1 (by first | assumption | (simp; omega) | simp))
    | (go_at_call 24; refine (writes_may _ _ _ _ _ _ HM.out).mono ?_; rintro e w2 ⟨rfl, hb2⟩; have he2 := he1.below hb2; have r2 := r1.below hb2
       obtain ⟨c2, f2, z2, y2, x2⟩ := keep2 (n := w.heap.size) hb2 (by first | assumption | (simp; omega) | simp))
    | (go_at_call 25; refine (leads_yes _ _ _ _ _ _ _ HM.out h0 h1).mono ?_; rintro e w3 ⟨rfl, hb3⟩; have he3 := he2.below hb3; have r3 := r2.below hb3
       obtain ⟨c3, f3, z3, y3, x3⟩ := keep2 (n := w.heap.size) hb3 (by first | assumption | (simp; omega) | simp))
    | (go_at_call 26; refine (named_any nm _).mono ?_; rintro e w4 ⟨rfl, hb4⟩; have he4 := he3.below hb4; have r4 := r3.below hb4
       obtain ⟨c4, f4, z4, y4, x4⟩ := keep2 (n := w.heap.size) hb4 (by first | assumption | (simp; omega) | simp)))
  go_loopw [16, 18, 19] (fun v hv i wr => ∃ j : Nat, 1 ≤ j ∧ j ≤ 29 ∧ i = .int .i64 j ∧ v = .int .i64 (wantV nm (j - 1)) ∧ hv = .bool (wantB nm (j - 1)) ∧ Below w4.heap.size w4 wr)
    (fun _ _ i _ => 29 - (intOf i).toNat)
  case atStart => exact ⟨1, by omega, by omega, rfl, rfl, rfl, Below.refl _ _⟩
  case round =>
    obtain ⟨j, hj1, hj2, rfl, rfl, rfl, hbw⟩ := hrel
    by_cases hlt : j < 29
    · have hnc := name_cell j hlt
      have hj0 : (0 : Int) ≤ (j : Int) := by omega
      have hj28 : (j : Int) ≤ 28 := by omega
      cases hq : ((nameOf (j : Int)).toList == nm.toList)
      · have HQ := Lib.hid (want_miss' hj1 hlt hq)
        go_wp2_with (go_at_call 27; refine (rNames_any _).mono ?_; rintro e w5 ⟨rfl, rfl⟩)
        go_roundw
        case rel => exact ⟨j + 1, by omega, by omega, by go_num, by rw [Nat.add_sub_cancel, HQ.out.1], by rw [Nat.add_sub_cancel, HQ.out.2], Bl.alloc hbw _⟩
        case measure => simp [intOf]; omega
      · have HQ := Lib.hid (want_hit' hj1 hlt hq)
        go_wp2_with (go_at_call 27; refine (rNames_any _).mono ?_; rintro e w5 ⟨rfl, rfl⟩)
        go_roundw
        case rel => exact ⟨j + 1, by omega, by omega, by go_num, by rw [Nat.add_sub_cancel, HQ.out.1], by rw [Nat.add_sub_cancel, HQ.out.2], Bl.alloc hbw _⟩
        case measure => simp [intOf]; omega
    · obtain rfl : j = 29 := by omega
      have he5 := he4.below hbw
      have r5 := r4.below hbw
      obtain ⟨c5, f5, z5, y5, x5⟩ := keep2 (n := w.heap.size) hbw (by first | assumption | (simp; omega) | simp)
      go_wp2_with (first
        | (go_at_call 27; refine (rNames_any _).mono ?_; rintro e w6 ⟨rfl, rfl⟩)
        | (go_at_call 28; refine (name_any _ _).mono ?_; rintro e w7 ⟨rfl, hb7⟩; have he7 := (he5.alloc _).below hb7; have r7 := (r5.below (Bl.alloc (Below.refl _ _) _)).below hb7
           obtain ⟨c7, f7, z7, y7, x7⟩ := keep2 (n := w.heap.size) hb7 (by first | assumption | (simp; omega) | simp))
        | (go_at_call 29; refine (form_any _ _).mono ?_; rintro e w8 ⟨rfl, rfl⟩)
        | (go_at_call 30; refine (rform_any _ _).mono ?_; rintro e w8 ⟨rfl, rfl⟩)
        | (go_at_call 12; refine (rmay_any _ _ _ _ _ _).mono ?_; rw [HM.out]; rintro e w8 ⟨rfl, hb8⟩; have he8 := he7.below hb8; have r8 := r7.below hb8
           obtain ⟨c8, f8, z8, y8, x8⟩ := keep2 (n := w.heap.size) hb8 (by first | assumption | (simp; omega) | simp))
        | (go_at_call 31; refine (rwrites_may _ _ _ _ _ _ HM.out).mono ?_; rintro e w9 ⟨rfl, hb9⟩; have he9 := he8.below hb9; have r9 := r8.below hb9
           obtain ⟨c9, f9, z9, y9, x9⟩ := keep2 (n := w.heap.size) hb9 (by first | assumption | (simp; omega) | simp))
        | (go_at_call 32; refine (rleads_any _ _ _ _ _ _ _ HP.1 HP.2 h0 h1).mono ?_; rintro e w10 ⟨rfl, hb10⟩; have he10 := he9.below hb10; have r10 := r9.below hb10
           obtain ⟨c10, f10, z10, y10, x10⟩ := keep2 (n := w.heap.size) hb10 (by first | assumption | (simp; omega) | simp))
        | (go_at_call 34; refine (rreads_may _ _ _ _ _ _ HM.out).mono ?_; rintro e w11 ⟨v11, rfl, r11, hb11⟩; have he11 := he10.below hb11; have r12 := r10.below hb11
           obtain ⟨c11, f11, z11, y11, x11⟩ := keep2 (n := w.heap.size) hb11 (by first | assumption | (simp; omega) | simp))
        | (go_at_call 33; refine (same_any r12 r11 (rdL_len ..) (rdL_len ..)).mono ?_; rw [beq_self_eq_true]; rintro e w13 ⟨rfl, q13, rfl⟩; have he13 := he11.drewN q13)
        | (go_at_call 8; refine (known_yes _ he13).mono ?_; rintro e w14 ⟨rfl, hb14⟩))
      all_goals
        go_ret
        refine ⟨rfl, ?_⟩
        repeat (first | exact Below.refl _ _ | refine Bl.drew ?_ | refine Bl.drewN ?_ _ | refine Bl.alloc ?_ _ | refine Bl.step ?_ (by assumption))

set_option maxHeartbeats 1600000 in
set_option maxRecDepth 100000 in
theorem touches_yn (op d a b m at' : Int) (x : Int) (nm : ByteArray) (w : World) (he : Env w) (h0 : 0 ≤ at') (h1 : at' < 4294967296) (hs : (nm.size : Int) ≤ 4000) (hm : mayB op d a b m = true) (hx : isOp x = false) :
    Calls Tryd.prog 6 #[.agg #[.int .i64 op, .int .i64 d, .int .i64 a, .int .i64 b, .int .i64 m], .int .u32 at', .agg #[.int .i64 x, .string nm]] w fun e w' => e = .returned (.bool true) ∧ Below w.heap.size w w' := by
  have HM := Lib.hid hm
  have HP := (may_parts hm).2.2.2.2.1
  have hnx := name_none hx
  have hx' : x < 1 ∨ 28 < x := by simp [isOp] at hx; omega
  have HX := Lib.hid hx
  clear hx
  have hwV := (want_all nm).1
  have hwB := (want_all nm).2
  clear hm
  go_enter Tryd.func6, Tryd.ntmps6
  go_wp2
  go_quiet (fail)
  go_wp2_with (first
    | (go_at_call 23; refine (reads_may _ _ _ _ _ _ HM.out).mono ?_; rintro e w1 ⟨v1, rfl, r1, hb1⟩; have he1 := (((he.alloc _).alloc _).drewN _).below hb1
       obtain ⟨c1, f1, z1, y1, x1⟩ := keep2 (n := w.heap.size) hb1 (by first | assumption | (simp; omega) | simp))
    | (go_at_call 24; refine (writes_may _ _ _ _ _ _ HM.out).mono ?_; rintro e w2 ⟨rfl, hb2⟩; have he2 := he1.below hb2; have r2 := r1.below hb2
       obtain ⟨c2, f2, z2, y2, x2⟩ := keep2 (n := w.heap.size) hb2 (by first | assumption | (simp; omega) | simp))
    | (go_at_call 25; refine (leads_yes _ _ _ _ _ _ _ HM.out h0 h1).mono ?_; rintro e w3 ⟨rfl, hb3⟩; have he3 := he2.below hb3; have r3 := r2.below hb3
       obtain ⟨c3, f3, z3, y3, x3⟩ := keep2 (n := w.heap.size) hb3 (by first | assumption | (simp; omega) | simp))
    | (go_at_call 26; refine (named_any nm _).mono ?_; rintro e w4 ⟨rfl, hb4⟩; have he4 := he3.below hb4; have r4 := r3.below hb4
       obtain ⟨c4, f4, z4, y4, x4⟩ := keep2 (n := w.heap.size) hb4 (by first | assumption | (simp; omega) | simp)))
  go_loopw [16, 18, 19] (fun v hv i wr => ∃ j : Nat, 1 ≤ j ∧ j ≤ 29 ∧ i = .int .i64 j ∧ v = .int .i64 (wantV nm (j - 1)) ∧ hv = .bool (wantB nm (j - 1)) ∧ Below w4.heap.size w4 wr)
    (fun _ _ i _ => 29 - (intOf i).toNat)
  case atStart => exact ⟨1, by omega, by omega, rfl, rfl, rfl, Below.refl _ _⟩
  case round =>
    obtain ⟨j, hj1, hj2, rfl, rfl, rfl, hbw⟩ := hrel
    by_cases hlt : j < 29
    · have hnc := name_cell j hlt
      have hj0 : (0 : Int) ≤ (j : Int) := by omega
      have hj28 : (j : Int) ≤ 28 := by omega
      cases hq : ((nameOf (j : Int)).toList == nm.toList)
      · have HQ := Lib.hid (want_miss' hj1 hlt hq)
        go_wp2_with (go_at_call 27; refine (rNames_any _).mono ?_; rintro e w5 ⟨rfl, rfl⟩)
        go_roundw
        case rel => exact ⟨j + 1, by omega, by omega, by go_num, by rw [Nat.add_sub_cancel, HQ.out.1], by rw [Nat.add_sub_cancel, HQ.out.2], Bl.alloc hbw _⟩
        case measure => simp [intOf]; omega
      · have HQ := Lib.hid (want_hit' hj1 hlt hq)
        go_wp2_with (go_at_call 27; refine (rNames_any _).mono ?_; rintro e w5 ⟨rfl, rfl⟩)
        go_roundw
        case rel => exact ⟨j + 1, by omega, by omega, by go_num, by rw [Nat.add_sub_cancel, HQ.out.1], by rw [Nat.add_sub_cancel, HQ.out.2], Bl.alloc hbw _⟩
        case measure => simp [intOf]; omega
    · obtain rfl : j = 29 := by omega
      have he5 := he4.below hbw
      have r5 := r4.below hbw
      obtain ⟨c5, f5, z5, y5, x5⟩ := keep2 (n := w.heap.size) hbw (by first | assumption | (simp; omega) | simp)
      go_wp2_with (first
        | (go_at_call 28; refine (name_any _ _).mono ?_; rw [hnx]; rintro e w7 ⟨rfl, hb7⟩; have he7 := he5.below hb7; have r7 := r5.below hb7
           obtain ⟨c7, f7, z7, y7, x7⟩ := keep2 (n := w.heap.size) hb7 (by first | assumption | (simp; omega) | simp))
        | (go_at_call 29; refine (form_any _ _).mono ?_; rintro e w8 ⟨rfl, rfl⟩)
        | (go_at_call 30; refine (rform_any _ _).mono ?_; rintro e w8 ⟨rfl, rfl⟩)
        | (go_at_call 12; refine (rmay_any _ _ _ _ _ _).mono ?_; rw [HM.out]; rintro e w8 ⟨rfl, hb8⟩; have he8 := he7.below hb8; have r8 := r7.below hb8
           obtain ⟨c8, f8, z8, y8, x8⟩ := keep2 (n := w.heap.size) hb8 (by first | assumption | (simp; omega) | simp))
        | (go_at_call 31; refine (rwrites_may _ _ _ _ _ _ HM.out).mono ?_; rintro e w9 ⟨rfl, hb9⟩; have he9 := he8.below hb9; have r9 := r8.below hb9
           obtain ⟨c9, f9, z9, y9, x9⟩ := keep2 (n := w.heap.size) hb9 (by first | assumption | (simp; omega) | simp))
        | (go_at_call 32; refine (rleads_any _ _ _ _ _ _ _ HP.1 HP.2 h0 h1).mono ?_; rintro e w10 ⟨rfl, hb10⟩; have he10 := he9.below hb10; have r10 := r9.below hb10
           obtain ⟨c10, f10, z10, y10, x10⟩ := keep2 (n := w.heap.size) hb10 (by first | assumption | (simp; omega) | simp))
        | (go_at_call 34; refine (rreads_may _ _ _ _ _ _ HM.out).mono ?_; rintro e w11 ⟨v11, rfl, r11, hb11⟩; have he11 := he10.below hb11; have r12 := r10.below hb11
           obtain ⟨c11, f11, z11, y11, x11⟩ := keep2 (n := w.heap.size) hb11 (by first | assumption | (simp; omega) | simp))
        | (go_at_call 33; refine (same_any r12 r11 (rdL_len ..) (rdL_len ..)).mono ?_; rw [beq_self_eq_true]; rintro e w13 ⟨rfl, q13, rfl⟩; have he13 := he11.drewN q13)
        | (go_at_call 8; refine (known_yes _ he13).mono ?_; rintro e w14 ⟨rfl, hb14⟩))
      all_goals
        go_ret
        refine ⟨rfl, ?_⟩
        repeat (first | exact Below.refl _ _ | refine Bl.drew ?_ | refine Bl.drewN ?_ _ | refine Bl.alloc ?_ _ | refine Bl.step ?_ (by assumption))

set_option maxHeartbeats 1600000 in
set_option maxRecDepth 100000 in
theorem touches_ny (op d a b m at' : Int) (x : Nat) (nm : ByteArray) (w : World) (he : Env w) (h0 : 0 ≤ at') (h1 : at' < 4294967296) (hs : (nm.size : Int) ≤ 4000) (hm : mayB op d a b m = false) (hx0 : (1 : Int) ≤ x) (hx1 : (x : Int) ≤ 28) :
    Calls Tryd.prog 6 #[.agg #[.int .i64 op, .int .i64 d, .int .i64 a, .int .i64 b, .int .i64 m], .int .u32 at', .agg #[.int .i64 x, .string nm]] w fun e w' => e = .returned (.bool true) ∧ Below w.heap.size w w' := by
  have HM := Lib.hid hm
  have hnx := name_cell x (by omega)
  have hxx : isOp (x : Int) = true := by simp [isOp]; omega
  have hwV := (want_all nm).1
  have hwB := (want_all nm).2
  clear hm
  go_enter Tryd.func6, Tryd.ntmps6
  go_wp2
  go_quiet (fail)
  go_wp2_with (first
    | (go_at_call 23; refine (reads_no _ _ _ _ _ _ HM.out).mono ?_; rintro e w1 ⟨rfl, hb1⟩; have he1 := (((he.alloc _).alloc _).drewN _).below hb1
       obtain ⟨c1, f1, z1, y1, x1⟩ := keep2 (n := w.heap.size) hb1 (by first | assumption | (simp; omega) | simp))
    | (go_at_call 24; refine (writes_no _ _ _ _ _ _ HM.out).mono ?_; rintro e w2 ⟨rfl, hb2⟩; have he2 := he1.below hb2
       obtain ⟨c2, f2, z2, y2, x2⟩ := keep2 (n := w.heap.size) hb2 (by first | assumption | (simp; omega) | simp))
    | (go_at_call 25; refine (leads_no _ _ _ _ _ _ _ HM.out).mono ?_; rintro e w3 ⟨rfl, hb3⟩; have he3 := he2.below hb3
       obtain ⟨c3, f3, z3, y3, x3⟩ := keep2 (n := w.heap.size) hb3 (by first | assumption | (simp; omega) | simp))
    | (go_at_call 26; refine (named_any nm _).mono ?_; rintro e w4 ⟨rfl, hb4⟩; have he4 := he3.below hb4
       obtain ⟨c4, f4, z4, y4, x4⟩ := keep2 (n := w.heap.size) hb4 (by first | assumption | (simp; omega) | simp)))
  go_loopw [16, 18, 19] (fun v hv i wr => ∃ j : Nat, 1 ≤ j ∧ j ≤ 29 ∧ i = .int .i64 j ∧ v = .int .i64 (wantV nm (j - 1)) ∧ hv = .bool (wantB nm (j - 1)) ∧ Below w4.heap.size w4 wr)
    (fun _ _ i _ => 29 - (intOf i).toNat)
  case atStart => exact ⟨1, by omega, by omega, rfl, rfl, rfl, Below.refl _ _⟩
  case round =>
    obtain ⟨j, hj1, hj2, rfl, rfl, rfl, hbw⟩ := hrel
    by_cases hlt : j < 29
    · have hnc := name_cell j hlt
      have hj0 : (0 : Int) ≤ (j : Int) := by omega
      have hj28 : (j : Int) ≤ 28 := by omega
      cases hq : ((nameOf (j : Int)).toList == nm.toList)
      · have HQ := Lib.hid (want_miss' hj1 hlt hq)
        go_wp2_with (go_at_call 27; refine (rNames_any _).mono ?_; rintro e w5 ⟨rfl, rfl⟩)
        go_roundw
        case rel => exact ⟨j + 1, by omega, by omega, by go_num, by rw [Nat.add_sub_cancel, HQ.out.1], by rw [Nat.add_sub_cancel, HQ.out.2], Bl.alloc hbw _⟩
        case measure => simp [intOf]; omega
      · have HQ := Lib.hid (want_hit' hj1 hlt hq)
        go_wp2_with (go_at_call 27; refine (rNames_any _).mono ?_; rintro e w5 ⟨rfl, rfl⟩)
        go_roundw
        case rel => exact ⟨j + 1, by omega, by omega, by go_num, by rw [Nat.add_sub_cancel, HQ.out.1], by rw [Nat.add_sub_cancel, HQ.out.2], Bl.alloc hbw _⟩
        case measure => simp [intOf]; omega
    · obtain rfl : j = 29 := by omega
      have he5 := he4.below hbw
      obtain ⟨c5, f5, z5, y5, x5⟩ := keep2 (n := w.heap.size) hbw (by first | assumption | (simp; omega) | simp)
      go_wp2_with (first
        | (go_at_call 27; refine (rNames_any _).mono ?_; rintro e w6 ⟨rfl, rfl⟩)
        | (go_at_call 28; refine (name_any _ _).mono ?_; rintro e w7 ⟨rfl, hb7⟩; have he7 := (he5.alloc _).below hb7
           obtain ⟨c7, f7, z7, y7, x7⟩ := keep2 (n := w.heap.size) hb7 (by first | assumption | (simp; omega) | simp))
        | (go_at_call 29; refine (form_any _ _).mono ?_; rintro e w8 ⟨rfl, rfl⟩)
        | (go_at_call 30; refine (rform_any _ _).mono ?_; rintro e w8 ⟨rfl, rfl⟩)
        | (go_at_call 12; refine (rmay_any _ _ _ _ _ _).mono ?_; rw [HM.out]; rintro e w8 ⟨rfl, hb8⟩; have he8 := he7.below hb8
           obtain ⟨c8, f8, z8, y8, x8⟩ := keep2 (n := w.heap.size) hb8 (by first | assumption | (simp; omega) | simp))
        | (go_at_call 8; refine (known_yes _ he8).mono ?_; rintro e w14 ⟨rfl, hb14⟩))
      all_goals
        go_ret
        refine ⟨rfl, ?_⟩
        repeat (first | exact Below.refl _ _ | refine Bl.drew ?_ | refine Bl.drewN ?_ _ | refine Bl.alloc ?_ _ | refine Bl.step ?_ (by assumption))

set_option maxHeartbeats 1600000 in
set_option maxRecDepth 100000 in
theorem touches_nn (op d a b m at' : Int) (x : Int) (nm : ByteArray) (w : World) (he : Env w) (h0 : 0 ≤ at') (h1 : at' < 4294967296) (hs : (nm.size : Int) ≤ 4000) (hm : mayB op d a b m = false) (hx : isOp x = false) :
    Calls Tryd.prog 6 #[.agg #[.int .i64 op, .int .i64 d, .int .i64 a, .int .i64 b, .int .i64 m], .int .u32 at', .agg #[.int .i64 x, .string nm]] w fun e w' => e = .returned (.bool true) ∧ Below w.heap.size w w' := by
  have HM := Lib.hid hm
  have hnx := name_none hx
  have hx' : x < 1 ∨ 28 < x := by simp [isOp] at hx; omega
  have HX := Lib.hid hx
  clear hx
  have hwV := (want_all nm).1
  have hwB := (want_all nm).2
  clear hm
  go_enter Tryd.func6, Tryd.ntmps6
  go_wp2
  go_quiet (fail)
  go_wp2_with (first
    | (go_at_call 23; refine (reads_no _ _ _ _ _ _ HM.out).mono ?_; rintro e w1 ⟨rfl, hb1⟩; have he1 := (((he.alloc _).alloc _).drewN _).below hb1
       obtain ⟨c1, f1, z1, y1, x1⟩ := keep2 (n := w.heap.size) hb1 (by first | assumption | (simp; omega) | simp))
    | (go_at_call 24; refine (writes_no _ _ _ _ _ _ HM.out).mono ?_; rintro e w2 ⟨rfl, hb2⟩; have he2 := he1.below hb2
       obtain ⟨c2, f2, z2, y2, x2⟩ := keep2 (n := w.heap.size) hb2 (by first | assumption | (simp; omega) | simp))
    | (go_at_call 25; refine (leads_no _ _ _ _ _ _ _ HM.out).mono ?_; rintro e w3 ⟨rfl, hb3⟩; have he3 := he2.below hb3
       obtain ⟨c3, f3, z3, y3, x3⟩ := keep2 (n := w.heap.size) hb3 (by first | assumption | (simp; omega) | simp))
    | (go_at_call 26; refine (named_any nm _).mono ?_; rintro e w4 ⟨rfl, hb4⟩; have he4 := he3.below hb4
       obtain ⟨c4, f4, z4, y4, x4⟩ := keep2 (n := w.heap.size) hb4 (by first | assumption | (simp; omega) | simp)))
  go_loopw [16, 18, 19] (fun v hv i wr => ∃ j : Nat, 1 ≤ j ∧ j ≤ 29 ∧ i = .int .i64 j ∧ v = .int .i64 (wantV nm (j - 1)) ∧ hv = .bool (wantB nm (j - 1)) ∧ Below w4.heap.size w4 wr)
    (fun _ _ i _ => 29 - (intOf i).toNat)
  case atStart => exact ⟨1, by omega, by omega, rfl, rfl, rfl, Below.refl _ _⟩
  case round =>
    obtain ⟨j, hj1, hj2, rfl, rfl, rfl, hbw⟩ := hrel
    by_cases hlt : j < 29
    · have hnc := name_cell j hlt
      have hj0 : (0 : Int) ≤ (j : Int) := by omega
      have hj28 : (j : Int) ≤ 28 := by omega
      cases hq : ((nameOf (j : Int)).toList == nm.toList)
      · have HQ := Lib.hid (want_miss' hj1 hlt hq)
        go_wp2_with (go_at_call 27; refine (rNames_any _).mono ?_; rintro e w5 ⟨rfl, rfl⟩)
        go_roundw
        case rel => exact ⟨j + 1, by omega, by omega, by go_num, by rw [Nat.add_sub_cancel, HQ.out.1], by rw [Nat.add_sub_cancel, HQ.out.2], Bl.alloc hbw _⟩
        case measure => simp [intOf]; omega
      · have HQ := Lib.hid (want_hit' hj1 hlt hq)
        go_wp2_with (go_at_call 27; refine (rNames_any _).mono ?_; rintro e w5 ⟨rfl, rfl⟩)
        go_roundw
        case rel => exact ⟨j + 1, by omega, by omega, by go_num, by rw [Nat.add_sub_cancel, HQ.out.1], by rw [Nat.add_sub_cancel, HQ.out.2], Bl.alloc hbw _⟩
        case measure => simp [intOf]; omega
    · obtain rfl : j = 29 := by omega
      have he5 := he4.below hbw
      obtain ⟨c5, f5, z5, y5, x5⟩ := keep2 (n := w.heap.size) hbw (by first | assumption | (simp; omega) | simp)
      go_wp2_with (first
        | (go_at_call 28; refine (name_any _ _).mono ?_; rw [hnx]; rintro e w7 ⟨rfl, hb7⟩; have he7 := he5.below hb7
           obtain ⟨c7, f7, z7, y7, x7⟩ := keep2 (n := w.heap.size) hb7 (by first | assumption | (simp; omega) | simp))
        | (go_at_call 29; refine (form_any _ _).mono ?_; rintro e w8 ⟨rfl, rfl⟩)
        | (go_at_call 30; refine (rform_any _ _).mono ?_; rintro e w8 ⟨rfl, rfl⟩)
        | (go_at_call 12; refine (rmay_any _ _ _ _ _ _).mono ?_; rw [HM.out]; rintro e w8 ⟨rfl, hb8⟩; have he8 := he7.below hb8
           obtain ⟨c8, f8, z8, y8, x8⟩ := keep2 (n := w.heap.size) hb8 (by first | assumption | (simp; omega) | simp))
        | (go_at_call 8; refine (known_yes _ he8).mono ?_; rintro e w14 ⟨rfl, hb14⟩))
      all_goals
        go_ret
        refine ⟨rfl, ?_⟩
        repeat (first | exact Below.refl _ _ | refine Bl.drew ?_ | refine Bl.drewN ?_ _ | refine Bl.alloc ?_ _ | refine Bl.step ?_ (by assumption))

set_option maxHeartbeats 800000 in
set_option maxRecDepth 100000 in
theorem touches_big (op d a b m at' x : Int) (nm : ByteArray) (w : World) (he : Env w) (hs : 4000 < (nm.size : Int)) :
    Calls Tryd.prog 6 #[.agg #[.int .i64 op, .int .i64 d, .int .i64 a, .int .i64 b, .int .i64 m], .int .u32 at', .agg #[.int .i64 x, .string nm]] w fun e w' => e = .returned (.bool true) ∧ Below w.heap.size w w' := by
  go_enter Tryd.func6, Tryd.ntmps6
  go_wp2
  go_quiet (fail)
  go_wp2_with (go_at_call 8; refine (known_yes _ (((he.alloc _).alloc _).drewN _)).mono ?_; rintro e w1 ⟨rfl, hb1⟩)
  go_ret
  refine ⟨rfl, ?_⟩
  repeat (first | exact Below.refl _ _ | refine Bl.drew ?_ | refine Bl.drewN ?_ _ | refine Bl.alloc ?_ _ | refine Bl.step ?_ (by assumption))

theorem touches_any (op d a b m at' x : Int) (nm : ByteArray) (w : World) (he : Env w) (h0 : 0 ≤ at') (h1 : at' < 4294967296) :
    Calls Tryd.prog 6 #[.agg #[.int .i64 op, .int .i64 d, .int .i64 a, .int .i64 b, .int .i64 m], .int .u32 at', .agg #[.int .i64 x, .string nm]] w fun e w' => e = .returned (.bool true) ∧ Below w.heap.size w w' := by
  by_cases hs : (nm.size : Int) ≤ 4000
  · cases hx : isOp x
    · cases hm : mayB op d a b m
      · exact touches_nn op d a b m at' x nm w he h0 h1 hs hm hx
      · exact touches_yn op d a b m at' x nm w he h0 h1 hs hm hx
    · have hx' : 1 ≤ x ∧ x ≤ 28 := by simpa [isOp] using hx
      obtain ⟨n, rfl⟩ := Int.eq_ofNat_of_zero_le (show 0 ≤ x by omega)
      cases hm : mayB op d a b m
      · exact touches_ny op d a b m at' n nm w he h0 h1 hs hm hx'.1 hx'.2
      · exact touches_yy op d a b m at' n nm w he h0 h1 hs hm hx'.1 hx'.2
  · exact touches_big op d a b m at' x nm w he (by omega)

end Go.Proofs.YtnkkomodpjgefaaDoor
