/- The walk of IsaBack. -/
import Derived.Test.YtnkkomodpjgefaaDoorIsaKnown
namespace Go.Proofs.YtnkkomodpjgefaaDoor
open Go.RowKit Go.Sort

theorem of_is {v : Int} (h0 : 0 ≤ v) (h1 : v < 4294967296) (h : isWord v = true) (w : World) :
    Calls Tryd.prog 15 #[.int .u32 v] w fun e w' => e = .returned (.tuple #[.agg #[.int .i64 (v % 256), .int .i64 (cD v), .int .i64 (cA v), .int .i64 (cB v), .int .i64 (cM v)], .int .i64 0]) ∧ Below w.heap.size w w' := by
  have := of_any v w h0 h1
  simpa [oOp, oD, oA, oB, oM, oE, h] using this
theorem of_not {v : Int} (h0 : 0 ≤ v) (h1 : v < 4294967296) (h : isWord v = false) (w : World) :
    Calls Tryd.prog 15 #[.int .u32 v] w fun e w' => e = .returned (.tuple #[.agg #[.int .i64 0, .int .i64 0, .int .i64 0, .int .i64 0, .int .i64 0], .int .i64 4]) ∧ Below w.heap.size w w' := by
  have := of_any v w h0 h1
  simpa [oOp, oD, oA, oB, oM, oE, h] using this
theorem isWord_parts {v : Int} (h : isWord v = true) : mayB (v % 256) (cD v) (cA v) (cB v) (cM v) = true ∧ wordOf (v % 256) (cD v) (cA v) (cB v) (cM v) = v := by
  unfold isWord at h; simpa using h
/-- A word of an instruction that may be is read as it. -/
theorem of_word {op d a b m : Int} (h : mayB op d a b m = true) (w : World) :
    Calls Tryd.prog 15 #[.int .u32 (wordOf op d a b m)] w fun e w' => e = .returned (.tuple #[.agg #[.int .i64 op, .int .i64 d, .int .i64 a, .int .i64 b, .int .i64 m], .int .i64 0]) ∧ Below w.heap.size w w' := by
  have := of_is (word_range h).1 (word_range h).2 (word_is h) w
  obtain ⟨e0, e1, e2, e3, e4⟩ := word_back h
  rw [e0, e1, e2, e3, e4] at this; exact this
theorem name_size (op : Int) : (nameOf op).data.toList.length ≤ 6 := by
  cases h : isOp op
  · rw [name_none h]; decide
  · have h' : 1 ≤ op ∧ op ≤ 28 := by simpa [isOp] using h
    obtain ⟨n, rfl⟩ := Int.eq_ofNat_of_zero_le (show 0 ≤ op by omega)
    have hn : n < 29 := by omega
    clear h h'; revert n; decide
theorem text_size {op d a b m : Int} (h : mayB op d a b m = true) : (textOf op d a b m).size ≤ 4000 := by
  obtain ⟨-, ⟨hd, hd'⟩, ⟨ha, ha'⟩, ⟨hb, hb'⟩, ⟨hm, hm'⟩, -, -⟩ := may_parts h
  have e : (textOf op d a b m).size = (textL op d a b m).length := by show (textL op d a b m).toArray.size = _; simp
  have l1 := Lib.itoa_length_le d (by omega) (by omega)
  have l2 := Lib.itoa_length_le a (by omega) (by omega)
  have l3 := Lib.itoa_length_le b (by omega) (by omega)
  have l4 := Lib.itoa_length_le m (by omega) (by omega)
  have r : ∀ c n, (Lib.itoa n).length ≤ 21 → (regT c n).length ≤ 23 := fun c n hn => by unfold regT; cases c <;> simp; omega
  have i : ∀ c n, (Lib.itoa n).length ≤ 21 → (immT c n).length ≤ 23 := fun c n hn => by unfold immT; cases c <;> simp; omega
  have r1 := r (nmD (formOf op)) d l1
  have r2 := r (nmA (formOf op)) a l2
  have r3 := r (nmB (formOf op)) b l3
  have r4 := i (nmM (formOf op)) m l4
  have n := name_size op
  rw [e]; unfold textL; simp only [List.length_append]; omega
theorem parse_of_text {op d a b m : Int} (h : mayB op d a b m = true) (w : World) (he : Env w) :
    Calls Tryd.prog 20 #[.string (textOf op d a b m)] w fun e w' => e = .returned (.tuple #[.agg #[.int .i64 op, .int .i64 d, .int .i64 a, .int .i64 b, .int .i64 m], .int .i64 0]) ∧ Below w.heap.size w w' := by
  have := parse_any (textOf op d a b m) (text_size h) w he
  obtain ⟨e0, e1, e2, e3, e4⟩ := parse_back h
  simpa [qOp, qD, qA, qB, qM, qE, parse_text h, e0, e1, e2, e3, e4] using this

theorem insEq_refl (op d a b m : Int) : insEq op d a b m op d a b m = true := by simp [insEq]
theorem words_eq {op d a b m op' d' a' b' m' : Int} (h : mayB op d a b m = true) (h' : mayB op' d' a' b' m' = true) : (wordOf op d a b m == wordOf op' d' a' b' m') = insEq op d a b m op' d' a' b' m' := by
  rw [Bool.eq_iff_iff]; unfold insEq; simp only [beq_iff_eq, Bool.and_eq_true]
  constructor
  · intro e
    obtain ⟨e0, e1, e2, e3, e4⟩ := word_back h
    obtain ⟨f0, f1, f2, f3, f4⟩ := word_back h'
    rw [e] at e0 e1 e2 e3 e4
    exact ⟨e0.symm.trans f0, e1.symm.trans f1, e2.symm.trans f2, e3.symm.trans f3, e4.symm.trans f4⟩
  · rintro ⟨rfl, rfl, rfl, rfl, rfl⟩; rfl
theorem texts_eq {op d a b m op' d' a' b' m' : Int} (h : mayB op d a b m = true) (h' : mayB op' d' a' b' m' = true) : ((textOf op d a b m).toList = (textOf op' d' a' b' m').toList) ↔ insEq op d a b m op' d' a' b' m' = true := by
  unfold insEq; simp only [beq_iff_eq, Bool.and_eq_true]
  constructor
  · intro e
    have e := ba_eq (show (textOf op d a b m).data.toList = (textOf op' d' a' b' m').data.toList by rw [← ByteArray.toList_eq, ← ByteArray.toList_eq, e])
    obtain ⟨e0, e1, e2, e3, e4⟩ := parse_back h
    obtain ⟨f0, f1, f2, f3, f4⟩ := parse_back h'
    rw [e] at e0 e1 e2 e3 e4
    exact ⟨e0.symm.trans f0, e1.symm.trans f1, e2.symm.trans f2, e3.symm.trans f3, e4.symm.trans f4⟩
  · rintro ⟨rfl, rfl, rfl, rfl, rfl⟩; rfl

theorem keep2 {n : Nat} {W w1 : World} (hb : Below W.heap.size W w1) (hn : n + 2 ≤ W.heap.size) :
    (∀ b o, b < n + 2 → w1.cell? ⟨b, o, none⟩ = W.cell? ⟨b, o, none⟩) ∧ (∀ b o, b < n + 2 → w1.frozen? ⟨b, o, none⟩ = W.frozen? ⟨b, o, none⟩) ∧ n + 2 ≤ w1.heap.size ∧ n < w1.heap.size ∧ n + 1 < w1.heap.size := by
  have := hb.size
  exact ⟨fun b o h => hb.cell (p := ⟨b, o, none⟩) (Nat.lt_of_lt_of_le h hn), fun b o h => hb.frozen (p := ⟨b, o, none⟩) (Nat.lt_of_lt_of_le h hn), Nat.le_trans hn hb.size, by omega, by omega⟩

set_option maxHeartbeats 1600000 in
set_option maxRecDepth 100000 in
theorem back_nnn (op d a b m op' d' a' b' m' v : Int) (w : World) (he : Env w) (h0 : 0 ≤ v) (h1 : v < 4294967296) (hv : isWord v = false) (ha : mayB op d a b m = false) (hb : mayB op' d' a' b' m' = false) :
    Calls Tryd.prog 7 #[.agg #[.int .i64 op, .int .i64 d, .int .i64 a, .int .i64 b, .int .i64 m], .agg #[.int .i64 op', .int .i64 d', .int .i64 a', .int .i64 b', .int .i64 m'], .int .u32 v] w fun e w' => e = .returned (.bool true) ∧ Below w.heap.size w w' := by
  have HV := Lib.hid hv
  have HA := Lib.hid ha
  have HB := Lib.hid hb
  clear hv ha hb
  have hne := neq_ins
  have heq := eql_ins
  have heg := Tryd.eqg
  have tok1 : True := trivial
  have tok2 : True := trivial
  have tok3 : True := trivial
  have tok4 : True := trivial
  go_enter Tryd.func7, Tryd.ntmps7
  go_wp2_with (first
    | (go_at_call 8; refine (known_yes _ ((he.alloc _).alloc _)).mono ?_; rintro e w1 ⟨rfl, hb1⟩; have he1 := ((he.alloc _).alloc _).below hb1; obtain ⟨c1, f1, z1, y1, x1⟩ := keep2 (n := w.heap.size) hb1 (by first | assumption | (simp; omega) | simp))
    | (go_at_call 15; have tik := tok1; clear tik tok1; refine (of_not h0 h1 HV.out _).mono ?_; rintro e w2 ⟨rfl, hb2⟩; have he2 := he1.below hb2; obtain ⟨c2, f2, z2, y2, x2⟩ := keep2 (n := w.heap.size) hb2 (by first | assumption | (simp; omega) | simp))
    | (go_at_call 11; refine (num_any _ _).mono ?_; rintro e w8 ⟨rfl, rfl⟩)
    | (go_at_call 10; have tik := tok3; clear tik tok3; refine (word_no op d a b m _ HA.out).mono ?_; rintro e w4 ⟨rfl, hb4⟩; have he4 := (he2.alloc _).below hb4; obtain ⟨c4, f4, z4, y4, x4⟩ := keep2 (n := w.heap.size) hb4 (by first | assumption | (simp; omega) | simp))
    | (go_at_call 10; refine (word_no op' d' a' b' m' _ HB.out).mono ?_; rintro e w5 ⟨rfl, hb5⟩; have he5 := he4.below hb5; obtain ⟨c5, f5, z5, y5, x5⟩ := keep2 (n := w.heap.size) hb5 (by first | assumption | (simp; omega) | simp)))
  go_ret
  refine ⟨rfl, ?_⟩
  repeat (first | exact Below.refl _ _ | refine Bl.drew ?_ | refine Bl.drewN ?_ _ | refine Bl.alloc ?_ _ | refine Bl.step ?_ (by assumption))

set_option maxHeartbeats 1600000 in
set_option maxRecDepth 100000 in
theorem back_nny (op d a b m op' d' a' b' m' v : Int) (w : World) (he : Env w) (h0 : 0 ≤ v) (h1 : v < 4294967296) (hv : isWord v = false) (ha : mayB op d a b m = false) (hb : mayB op' d' a' b' m' = true) :
    Calls Tryd.prog 7 #[.agg #[.int .i64 op, .int .i64 d, .int .i64 a, .int .i64 b, .int .i64 m], .agg #[.int .i64 op', .int .i64 d', .int .i64 a', .int .i64 b', .int .i64 m'], .int .u32 v] w fun e w' => e = .returned (.bool true) ∧ Below w.heap.size w w' := by
  have HV := Lib.hid hv
  have HA := Lib.hid ha
  have HB := Lib.hid hb
  clear hv ha hb
  have hne := neq_ins
  have heq := eql_ins
  have heg := Tryd.eqg
  have tok1 : True := trivial
  have tok2 : True := trivial
  have tok3 : True := trivial
  have tok4 : True := trivial
  go_enter Tryd.func7, Tryd.ntmps7
  go_wp2_with (first
    | (go_at_call 8; refine (known_yes _ ((he.alloc _).alloc _)).mono ?_; rintro e w1 ⟨rfl, hb1⟩; have he1 := ((he.alloc _).alloc _).below hb1; obtain ⟨c1, f1, z1, y1, x1⟩ := keep2 (n := w.heap.size) hb1 (by first | assumption | (simp; omega) | simp))
    | (go_at_call 15; have tik := tok1; clear tik tok1; refine (of_not h0 h1 HV.out _).mono ?_; rintro e w2 ⟨rfl, hb2⟩; have he2 := he1.below hb2; obtain ⟨c2, f2, z2, y2, x2⟩ := keep2 (n := w.heap.size) hb2 (by first | assumption | (simp; omega) | simp))
    | (go_at_call 11; refine (num_any _ _).mono ?_; rintro e w8 ⟨rfl, rfl⟩)
    | (go_at_call 10; have tik := tok3; clear tik tok3; refine (word_no op d a b m _ HA.out).mono ?_; rintro e w4 ⟨rfl, hb4⟩; have he4 := (he2.alloc _).below hb4; obtain ⟨c4, f4, z4, y4, x4⟩ := keep2 (n := w.heap.size) hb4 (by first | assumption | (simp; omega) | simp))
    | (go_at_call 10; refine (word_yes op' d' a' b' m' _ HB.out).mono ?_; rintro e w5 ⟨rfl, hb5⟩; have he5 := he4.below hb5; obtain ⟨c5, f5, z5, y5, x5⟩ := keep2 (n := w.heap.size) hb5 (by first | assumption | (simp; omega) | simp)))
  go_ret
  refine ⟨rfl, ?_⟩
  repeat (first | exact Below.refl _ _ | refine Bl.drew ?_ | refine Bl.drewN ?_ _ | refine Bl.alloc ?_ _ | refine Bl.step ?_ (by assumption))

set_option maxHeartbeats 1600000 in
set_option maxRecDepth 100000 in
theorem back_nyn (op d a b m op' d' a' b' m' v : Int) (w : World) (he : Env w) (h0 : 0 ≤ v) (h1 : v < 4294967296) (hv : isWord v = false) (ha : mayB op d a b m = true) (hb : mayB op' d' a' b' m' = false) :
    Calls Tryd.prog 7 #[.agg #[.int .i64 op, .int .i64 d, .int .i64 a, .int .i64 b, .int .i64 m], .agg #[.int .i64 op', .int .i64 d', .int .i64 a', .int .i64 b', .int .i64 m'], .int .u32 v] w fun e w' => e = .returned (.bool true) ∧ Below w.heap.size w w' := by
  have HV := Lib.hid hv
  have HA := Lib.hid ha
  have HB := Lib.hid hb
  clear hv ha hb
  have hne := neq_ins
  have heq := eql_ins
  have heg := Tryd.eqg
  have tok1 : True := trivial
  have tok2 : True := trivial
  have tok3 : True := trivial
  have tok4 : True := trivial
  go_enter Tryd.func7, Tryd.ntmps7
  go_wp2_with (first
    | (go_at_call 8; refine (known_yes _ ((he.alloc _).alloc _)).mono ?_; rintro e w1 ⟨rfl, hb1⟩; have he1 := ((he.alloc _).alloc _).below hb1; obtain ⟨c1, f1, z1, y1, x1⟩ := keep2 (n := w.heap.size) hb1 (by first | assumption | (simp; omega) | simp))
    | (go_at_call 15; have tik := tok1; clear tik tok1; refine (of_not h0 h1 HV.out _).mono ?_; rintro e w2 ⟨rfl, hb2⟩; have he2 := he1.below hb2; obtain ⟨c2, f2, z2, y2, x2⟩ := keep2 (n := w.heap.size) hb2 (by first | assumption | (simp; omega) | simp))
    | (go_at_call 11; refine (num_any _ _).mono ?_; rintro e w8 ⟨rfl, rfl⟩)
    | (go_at_call 10; have tik := tok3; clear tik tok3; refine (word_yes op d a b m _ HA.out).mono ?_; rintro e w4 ⟨rfl, hb4⟩; have he4 := (he2.alloc _).below hb4; obtain ⟨c4, f4, z4, y4, x4⟩ := keep2 (n := w.heap.size) hb4 (by first | assumption | (simp; omega) | simp))
    | (go_at_call 10; refine (word_no op' d' a' b' m' _ HB.out).mono ?_; rintro e w5 ⟨rfl, hb5⟩; have he5 := he4.below hb5; obtain ⟨c5, f5, z5, y5, x5⟩ := keep2 (n := w.heap.size) hb5 (by first | assumption | (simp; omega) | simp)))
  go_ret
  refine ⟨rfl, ?_⟩
  repeat (first | exact Below.refl _ _ | refine Bl.drew ?_ | refine Bl.drewN ?_ _ | refine Bl.alloc ?_ _ | refine Bl.step ?_ (by assumption))

set_option maxHeartbeats 1600000 in
set_option maxRecDepth 100000 in
theorem back_nyy (op d a b m op' d' a' b' m' v : Int) (w : World) (he : Env w) (h0 : 0 ≤ v) (h1 : v < 4294967296) (hv : isWord v = false) (ha : mayB op d a b m = true) (hb : mayB op' d' a' b' m' = true) :
    Calls Tryd.prog 7 #[.agg #[.int .i64 op, .int .i64 d, .int .i64 a, .int .i64 b, .int .i64 m], .agg #[.int .i64 op', .int .i64 d', .int .i64 a', .int .i64 b', .int .i64 m'], .int .u32 v] w fun e w' => e = .returned (.bool true) ∧ Below w.heap.size w w' := by
  have HV := Lib.hid hv
  have HA := Lib.hid ha
  have HB := Lib.hid hb
  have hr := insEq_refl op d a b m
  have hwe := words_eq ha hb
  have HT := Lib.hid (texts_eq ha hb)
  clear hv ha hb
  have hne := neq_ins
  have heq := eql_ins
  have heg := Tryd.eqg
  have tok1 : True := trivial
  have tok2 : True := trivial
  have tok3 : True := trivial
  have tok4 : True := trivial
  go_enter Tryd.func7, Tryd.ntmps7
  go_wp2_with (first
    | (go_at_call 8; refine (known_yes _ ((he.alloc _).alloc _)).mono ?_; rintro e w1 ⟨rfl, hb1⟩; have he1 := ((he.alloc _).alloc _).below hb1; obtain ⟨c1, f1, z1, y1, x1⟩ := keep2 (n := w.heap.size) hb1 (by first | assumption | (simp; omega) | simp))
    | (go_at_call 15; have tik := tok1; clear tik tok1; refine (of_not h0 h1 HV.out _).mono ?_; rintro e w2 ⟨rfl, hb2⟩; have he2 := he1.below hb2; obtain ⟨c2, f2, z2, y2, x2⟩ := keep2 (n := w.heap.size) hb2 (by first | assumption | (simp; omega) | simp))
    | (go_at_call 11; refine (num_any _ _).mono ?_; rintro e w8 ⟨rfl, rfl⟩)
    | (go_at_call 10; have tik := tok3; clear tik tok3; refine (word_yes op d a b m _ HA.out).mono ?_; rintro e w4 ⟨rfl, hb4⟩; have he4 := (he2.alloc _).below hb4; obtain ⟨c4, f4, z4, y4, x4⟩ := keep2 (n := w.heap.size) hb4 (by first | assumption | (simp; omega) | simp))
    | (go_at_call 10; refine (word_yes op' d' a' b' m' _ HB.out).mono ?_; rintro e w5 ⟨rfl, hb5⟩; have he5 := he4.below hb5; obtain ⟨c5, f5, z5, y5, x5⟩ := keep2 (n := w.heap.size) hb5 (by first | assumption | (simp; omega) | simp))
    | (go_at_call 19; have tik := tok4; clear tik tok4; refine (text_yes op d a b m _ he5 HA.out).mono ?_; rintro e w6 ⟨rfl, hb6⟩; have he6 := he5.below hb6; obtain ⟨c6, f6, z6, y6, x6⟩ := keep2 (n := w.heap.size) hb6 (by first | assumption | (simp; omega) | simp))
    | (go_at_call 19; refine (text_yes op' d' a' b' m' _ he6 HB.out).mono ?_; rintro e w7 ⟨rfl, hb7⟩; have he7 := he6.below hb7; obtain ⟨c7, f7, z7, y7, x7⟩ := keep2 (n := w.heap.size) hb7 (by first | assumption | (simp; omega) | simp))
    | (go_at_call 15; refine (of_word HA.out _).mono ?_; rintro e w8 ⟨rfl, hb8⟩; have he8 := he7.below hb8; obtain ⟨c8, f8, z8, y8, x8⟩ := keep2 (n := w.heap.size) hb8 (by first | assumption | (simp; omega) | simp))
    | (go_at_call 20; refine (parse_of_text HA.out _ (he8.alloc _)).mono ?_; rintro e w9 ⟨rfl, hb9⟩; have he9 := (he8.alloc _).below hb9; obtain ⟨c9, f9, z9, y9, x9⟩ := keep2 (n := w.heap.size) hb9 (by first | assumption | (simp; omega) | simp); obtain ⟨c9', f9'⟩ := bcell hb9; have y9' : w8.heap.size < w9.heap.size := by have := hb9.size; simp at this; omega))
  go_ret
  refine ⟨ret_bool ?_, ?_⟩
  · have h := HT.out
    cases hq : insEq op d a b m op' d' a' b' m'
    · rw [hq] at h
      simpa using h
    · rw [hq] at h
      simpa using h
  · repeat (first | exact Below.refl _ _ | refine Bl.drew ?_ | refine Bl.drewN ?_ _ | refine Bl.alloc ?_ _ | refine Bl.step ?_ (by assumption))

set_option maxHeartbeats 1600000 in
set_option maxRecDepth 100000 in
theorem back_ynn (op d a b m op' d' a' b' m' v : Int) (w : World) (he : Env w) (h0 : 0 ≤ v) (h1 : v < 4294967296) (hv : isWord v = true) (ha : mayB op d a b m = false) (hb : mayB op' d' a' b' m' = false) :
    Calls Tryd.prog 7 #[.agg #[.int .i64 op, .int .i64 d, .int .i64 a, .int .i64 b, .int .i64 m], .agg #[.int .i64 op', .int .i64 d', .int .i64 a', .int .i64 b', .int .i64 m'], .int .u32 v] w fun e w' => e = .returned (.bool true) ∧ Below w.heap.size w w' := by
  have HV := Lib.hid hv
  have HA := Lib.hid ha
  have HB := Lib.hid hb
  have HVW := Lib.hid (isWord_parts hv)
  clear hv ha hb
  have hne := neq_ins
  have heq := eql_ins
  have heg := Tryd.eqg
  have tok1 : True := trivial
  have tok2 : True := trivial
  have tok3 : True := trivial
  have tok4 : True := trivial
  go_enter Tryd.func7, Tryd.ntmps7
  go_wp2_with (first
    | (go_at_call 8; refine (known_yes _ ((he.alloc _).alloc _)).mono ?_; rintro e w1 ⟨rfl, hb1⟩; have he1 := ((he.alloc _).alloc _).below hb1; obtain ⟨c1, f1, z1, y1, x1⟩ := keep2 (n := w.heap.size) hb1 (by first | assumption | (simp; omega) | simp))
    | (go_at_call 15; have tik := tok1; clear tik tok1; refine (of_is h0 h1 HV.out _).mono ?_; rintro e w2 ⟨rfl, hb2⟩; have he2 := he1.below hb2; obtain ⟨c2, f2, z2, y2, x2⟩ := keep2 (n := w.heap.size) hb2 (by first | assumption | (simp; omega) | simp))
    | (go_at_call 11; refine (num_any _ _).mono ?_; rintro e w8 ⟨rfl, rfl⟩)
    | (go_at_call 10; have tik := tok2; clear tik tok2; refine (word_at HVW.out _).mono ?_; rintro e w3 ⟨rfl, hb3⟩; have he3 := (he2.alloc _).below hb3; obtain ⟨c3, f3, z3, y3, x3⟩ := keep2 (n := w.heap.size) hb3 (by first | assumption | (simp; omega) | simp))
    | (go_at_call 10; have tik := tok3; clear tik tok3; refine (word_no op d a b m _ HA.out).mono ?_; rintro e w4 ⟨rfl, hb4⟩; have he4 := he3.below hb4; obtain ⟨c4, f4, z4, y4, x4⟩ := keep2 (n := w.heap.size) hb4 (by first | assumption | (simp; omega) | simp))
    | (go_at_call 10; refine (word_no op' d' a' b' m' _ HB.out).mono ?_; rintro e w5 ⟨rfl, hb5⟩; have he5 := he4.below hb5; obtain ⟨c5, f5, z5, y5, x5⟩ := keep2 (n := w.heap.size) hb5 (by first | assumption | (simp; omega) | simp)))
  go_ret
  refine ⟨rfl, ?_⟩
  repeat (first | exact Below.refl _ _ | refine Bl.drew ?_ | refine Bl.drewN ?_ _ | refine Bl.alloc ?_ _ | refine Bl.step ?_ (by assumption))

set_option maxHeartbeats 1600000 in
set_option maxRecDepth 100000 in
theorem back_yny (op d a b m op' d' a' b' m' v : Int) (w : World) (he : Env w) (h0 : 0 ≤ v) (h1 : v < 4294967296) (hv : isWord v = true) (ha : mayB op d a b m = false) (hb : mayB op' d' a' b' m' = true) :
    Calls Tryd.prog 7 #[.agg #[.int .i64 op, .int .i64 d, .int .i64 a, .int .i64 b, .int .i64 m], .agg #[.int .i64 op', .int .i64 d', .int .i64 a', .int .i64 b', .int .i64 m'], .int .u32 v] w fun e w' => e = .returned (.bool true) ∧ Below w.heap.size w w' := by
  have HV := Lib.hid hv
  have HA := Lib.hid ha
  have HB := Lib.hid hb
  have HVW := Lib.hid (isWord_parts hv)
  clear hv ha hb
  have hne := neq_ins
  have heq := eql_ins
  have heg := Tryd.eqg
  have tok1 : True := trivial
  have tok2 : True := trivial
  have tok3 : True := trivial
  have tok4 : True := trivial
  go_enter Tryd.func7, Tryd.ntmps7
  go_wp2_with (first
    | (go_at_call 8; refine (known_yes _ ((he.alloc _).alloc _)).mono ?_; rintro e w1 ⟨rfl, hb1⟩; have he1 := ((he.alloc _).alloc _).below hb1; obtain ⟨c1, f1, z1, y1, x1⟩ := keep2 (n := w.heap.size) hb1 (by first | assumption | (simp; omega) | simp))
    | (go_at_call 15; have tik := tok1; clear tik tok1; refine (of_is h0 h1 HV.out _).mono ?_; rintro e w2 ⟨rfl, hb2⟩; have he2 := he1.below hb2; obtain ⟨c2, f2, z2, y2, x2⟩ := keep2 (n := w.heap.size) hb2 (by first | assumption | (simp; omega) | simp))
    | (go_at_call 11; refine (num_any _ _).mono ?_; rintro e w8 ⟨rfl, rfl⟩)
    | (go_at_call 10; have tik := tok2; clear tik tok2; refine (word_at HVW.out _).mono ?_; rintro e w3 ⟨rfl, hb3⟩; have he3 := (he2.alloc _).below hb3; obtain ⟨c3, f3, z3, y3, x3⟩ := keep2 (n := w.heap.size) hb3 (by first | assumption | (simp; omega) | simp))
    | (go_at_call 10; have tik := tok3; clear tik tok3; refine (word_no op d a b m _ HA.out).mono ?_; rintro e w4 ⟨rfl, hb4⟩; have he4 := he3.below hb4; obtain ⟨c4, f4, z4, y4, x4⟩ := keep2 (n := w.heap.size) hb4 (by first | assumption | (simp; omega) | simp))
    | (go_at_call 10; refine (word_yes op' d' a' b' m' _ HB.out).mono ?_; rintro e w5 ⟨rfl, hb5⟩; have he5 := he4.below hb5; obtain ⟨c5, f5, z5, y5, x5⟩ := keep2 (n := w.heap.size) hb5 (by first | assumption | (simp; omega) | simp)))
  go_ret
  refine ⟨rfl, ?_⟩
  repeat (first | exact Below.refl _ _ | refine Bl.drew ?_ | refine Bl.drewN ?_ _ | refine Bl.alloc ?_ _ | refine Bl.step ?_ (by assumption))

set_option maxHeartbeats 1600000 in
set_option maxRecDepth 100000 in
theorem back_yyn (op d a b m op' d' a' b' m' v : Int) (w : World) (he : Env w) (h0 : 0 ≤ v) (h1 : v < 4294967296) (hv : isWord v = true) (ha : mayB op d a b m = true) (hb : mayB op' d' a' b' m' = false) :
    Calls Tryd.prog 7 #[.agg #[.int .i64 op, .int .i64 d, .int .i64 a, .int .i64 b, .int .i64 m], .agg #[.int .i64 op', .int .i64 d', .int .i64 a', .int .i64 b', .int .i64 m'], .int .u32 v] w fun e w' => e = .returned (.bool true) ∧ Below w.heap.size w w' := by
  have HV := Lib.hid hv
  have HA := Lib.hid ha
  have HB := Lib.hid hb
  have HVW := Lib.hid (isWord_parts hv)
  clear hv ha hb
  have hne := neq_ins
  have heq := eql_ins
  have heg := Tryd.eqg
  have tok1 : True := trivial
  have tok2 : True := trivial
  have tok3 : True := trivial
  have tok4 : True := trivial
  go_enter Tryd.func7, Tryd.ntmps7
  go_wp2_with (first
    | (go_at_call 8; refine (known_yes _ ((he.alloc _).alloc _)).mono ?_; rintro e w1 ⟨rfl, hb1⟩; have he1 := ((he.alloc _).alloc _).below hb1; obtain ⟨c1, f1, z1, y1, x1⟩ := keep2 (n := w.heap.size) hb1 (by first | assumption | (simp; omega) | simp))
    | (go_at_call 15; have tik := tok1; clear tik tok1; refine (of_is h0 h1 HV.out _).mono ?_; rintro e w2 ⟨rfl, hb2⟩; have he2 := he1.below hb2; obtain ⟨c2, f2, z2, y2, x2⟩ := keep2 (n := w.heap.size) hb2 (by first | assumption | (simp; omega) | simp))
    | (go_at_call 11; refine (num_any _ _).mono ?_; rintro e w8 ⟨rfl, rfl⟩)
    | (go_at_call 10; have tik := tok2; clear tik tok2; refine (word_at HVW.out _).mono ?_; rintro e w3 ⟨rfl, hb3⟩; have he3 := (he2.alloc _).below hb3; obtain ⟨c3, f3, z3, y3, x3⟩ := keep2 (n := w.heap.size) hb3 (by first | assumption | (simp; omega) | simp))
    | (go_at_call 10; have tik := tok3; clear tik tok3; refine (word_yes op d a b m _ HA.out).mono ?_; rintro e w4 ⟨rfl, hb4⟩; have he4 := he3.below hb4; obtain ⟨c4, f4, z4, y4, x4⟩ := keep2 (n := w.heap.size) hb4 (by first | assumption | (simp; omega) | simp))
    | (go_at_call 10; refine (word_no op' d' a' b' m' _ HB.out).mono ?_; rintro e w5 ⟨rfl, hb5⟩; have he5 := he4.below hb5; obtain ⟨c5, f5, z5, y5, x5⟩ := keep2 (n := w.heap.size) hb5 (by first | assumption | (simp; omega) | simp)))
  go_ret
  refine ⟨rfl, ?_⟩
  repeat (first | exact Below.refl _ _ | refine Bl.drew ?_ | refine Bl.drewN ?_ _ | refine Bl.alloc ?_ _ | refine Bl.step ?_ (by assumption))

set_option maxHeartbeats 1600000 in
set_option maxRecDepth 100000 in
theorem back_yyy (op d a b m op' d' a' b' m' v : Int) (w : World) (he : Env w) (h0 : 0 ≤ v) (h1 : v < 4294967296) (hv : isWord v = true) (ha : mayB op d a b m = true) (hb : mayB op' d' a' b' m' = true) :
    Calls Tryd.prog 7 #[.agg #[.int .i64 op, .int .i64 d, .int .i64 a, .int .i64 b, .int .i64 m], .agg #[.int .i64 op', .int .i64 d', .int .i64 a', .int .i64 b', .int .i64 m'], .int .u32 v] w fun e w' => e = .returned (.bool true) ∧ Below w.heap.size w w' := by
  have HV := Lib.hid hv
  have HA := Lib.hid ha
  have HB := Lib.hid hb
  have HVW := Lib.hid (isWord_parts hv)
  have hr := insEq_refl op d a b m
  have hwe := words_eq ha hb
  have HT := Lib.hid (texts_eq ha hb)
  clear hv ha hb
  have hne := neq_ins
  have heq := eql_ins
  have heg := Tryd.eqg
  have tok1 : True := trivial
  have tok2 : True := trivial
  have tok3 : True := trivial
  have tok4 : True := trivial
  go_enter Tryd.func7, Tryd.ntmps7
  go_wp2_with (first
    | (go_at_call 8; refine (known_yes _ ((he.alloc _).alloc _)).mono ?_; rintro e w1 ⟨rfl, hb1⟩; have he1 := ((he.alloc _).alloc _).below hb1; obtain ⟨c1, f1, z1, y1, x1⟩ := keep2 (n := w.heap.size) hb1 (by first | assumption | (simp; omega) | simp))
    | (go_at_call 15; have tik := tok1; clear tik tok1; refine (of_is h0 h1 HV.out _).mono ?_; rintro e w2 ⟨rfl, hb2⟩; have he2 := he1.below hb2; obtain ⟨c2, f2, z2, y2, x2⟩ := keep2 (n := w.heap.size) hb2 (by first | assumption | (simp; omega) | simp))
    | (go_at_call 11; refine (num_any _ _).mono ?_; rintro e w8 ⟨rfl, rfl⟩)
    | (go_at_call 10; have tik := tok2; clear tik tok2; refine (word_at HVW.out _).mono ?_; rintro e w3 ⟨rfl, hb3⟩; have he3 := (he2.alloc _).below hb3; obtain ⟨c3, f3, z3, y3, x3⟩ := keep2 (n := w.heap.size) hb3 (by first | assumption | (simp; omega) | simp))
    | (go_at_call 10; have tik := tok3; clear tik tok3; refine (word_yes op d a b m _ HA.out).mono ?_; rintro e w4 ⟨rfl, hb4⟩; have he4 := he3.below hb4; obtain ⟨c4, f4, z4, y4, x4⟩ := keep2 (n := w.heap.size) hb4 (by first | assumption | (simp; omega) | simp))
    | (go_at_call 10; refine (word_yes op' d' a' b' m' _ HB.out).mono ?_; rintro e w5 ⟨rfl, hb5⟩; have he5 := he4.below hb5; obtain ⟨c5, f5, z5, y5, x5⟩ := keep2 (n := w.heap.size) hb5 (by first | assumption | (simp; omega) | simp))
    | (go_at_call 19; have tik := tok4; clear tik tok4; refine (text_yes op d a b m _ he5 HA.out).mono ?_; rintro e w6 ⟨rfl, hb6⟩; have he6 := he5.below hb6; obtain ⟨c6, f6, z6, y6, x6⟩ := keep2 (n := w.heap.size) hb6 (by first | assumption | (simp; omega) | simp))
    | (go_at_call 19; refine (text_yes op' d' a' b' m' _ he6 HB.out).mono ?_; rintro e w7 ⟨rfl, hb7⟩; have he7 := he6.below hb7; obtain ⟨c7, f7, z7, y7, x7⟩ := keep2 (n := w.heap.size) hb7 (by first | assumption | (simp; omega) | simp))
    | (go_at_call 15; refine (of_word HA.out _).mono ?_; rintro e w8 ⟨rfl, hb8⟩; have he8 := he7.below hb8; obtain ⟨c8, f8, z8, y8, x8⟩ := keep2 (n := w.heap.size) hb8 (by first | assumption | (simp; omega) | simp))
    | (go_at_call 20; refine (parse_of_text HA.out _ (he8.alloc _)).mono ?_; rintro e w9 ⟨rfl, hb9⟩; have he9 := (he8.alloc _).below hb9; obtain ⟨c9, f9, z9, y9, x9⟩ := keep2 (n := w.heap.size) hb9 (by first | assumption | (simp; omega) | simp); obtain ⟨c9', f9'⟩ := bcell hb9; have y9' : w8.heap.size < w9.heap.size := by have := hb9.size; simp at this; omega))
  go_ret
  refine ⟨ret_bool ?_, ?_⟩
  · have h := HT.out
    cases hq : insEq op d a b m op' d' a' b' m'
    · rw [hq] at h
      simpa using h
    · rw [hq] at h
      simpa using h
  · repeat (first | exact Below.refl _ _ | refine Bl.drew ?_ | refine Bl.drewN ?_ _ | refine Bl.alloc ?_ _ | refine Bl.step ?_ (by assumption))

theorem back_any (op d a b m op' d' a' b' m' v : Int) (w : World) (he : Env w) (h0 : 0 ≤ v) (h1 : v < 4294967296) :
    Calls Tryd.prog 7 #[.agg #[.int .i64 op, .int .i64 d, .int .i64 a, .int .i64 b, .int .i64 m], .agg #[.int .i64 op', .int .i64 d', .int .i64 a', .int .i64 b', .int .i64 m'], .int .u32 v] w fun e w' => e = .returned (.bool true) ∧ Below w.heap.size w w' := by
  cases hv : isWord v <;> cases ha : mayB op d a b m <;> cases hb : mayB op' d' a' b' m'
  · exact back_nnn _ _ _ _ _ _ _ _ _ _ v w he h0 h1 hv ha hb
  · exact back_nny _ _ _ _ _ _ _ _ _ _ v w he h0 h1 hv ha hb
  · exact back_nyn _ _ _ _ _ _ _ _ _ _ v w he h0 h1 hv ha hb
  · exact back_nyy _ _ _ _ _ _ _ _ _ _ v w he h0 h1 hv ha hb
  · exact back_ynn _ _ _ _ _ _ _ _ _ _ v w he h0 h1 hv ha hb
  · exact back_yny _ _ _ _ _ _ _ _ _ _ v w he h0 h1 hv ha hb
  · exact back_yyn _ _ _ _ _ _ _ _ _ _ v w he h0 h1 hv ha hb
  · exact back_yyy _ _ _ _ _ _ _ _ _ _ v w he h0 h1 hv ha hb

end Go.Proofs.YtnkkomodpjgefaaDoor
