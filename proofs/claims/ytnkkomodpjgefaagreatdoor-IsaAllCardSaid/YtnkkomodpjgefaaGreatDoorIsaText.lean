/- Contracts of isa.Text and of the document's Text: each hands back the one text of an instruction that may be. -/
import Derived.Test.YtnkkomodpjgefaaGreatDoorIsaEnv
import Derived.Test.YtnkkomodpjgefaaGreatDoorIsaN
import Derived.Lib.ItoaLen
namespace Go.Proofs.YtnkkomodpjgefaaGreatDoor
open Go.RowKit

theorem nameOf_size (op : Int) : (nameOf op).size ≤ 6 := by
  have : ∀ k : Nat, (nameTab.getD k ⟨#[]⟩).size ≤ 6 := by
    intro k
    by_cases h : k < 29
    · have : ∀ k : Fin 29, (nameTab.getD k.val ⟨#[]⟩).size ≤ 6 := by decide
      exact this ⟨k, h⟩
    · have hl : nameTab.length = 29 := rfl
      simp [List.getD_eq_getElem?_getD, List.getElem?_eq_none (show nameTab.length ≤ k by omega)]
      show (0 : Nat) ≤ 6
      omega
  exact this _

/-- A register's part of a text; a number's. -/
def regT (c : Bool) (n : Int) : List UInt8 := if c then 32 :: 114 :: Lib.itoa n else []
def immT (c : Bool) (n : Int) : List UInt8 := if c then 32 :: Lib.itoa n else []
/-- The text of an instruction. -/
def textL (op d a b m : Int) : List UInt8 :=
  (nameOf op).data.toList ++ (regT (nmD (formOf op)) d ++ (regT (nmA (formOf op)) a ++ (regT (nmB (formOf op)) b ++ immT (nmM (formOf op)) m)))
def textOf (op d a b m : Int) : ByteArray := ⟨(textL op d a b m).toArray⟩

theorem ba_eq {x y : ByteArray} (h : x.data.toList = y.data.toList) : x = y := by
  cases x; cases y; congr 1; simpa using congrArg List.toArray h
theorem ret_text {x y : ByteArray} {n : Int} (h : x = y) : Ending.returned (.tuple #[.string x, .int .i64 n]) = .returned (.tuple #[.string y, .int .i64 n]) := by rw [h]
theorem ret_str {x y : ByteArray} (h : x = y) : Ending.returned (.string x) = .returned (.string y) := by rw [h]

set_option maxHeartbeats 400000 in
set_option maxRecDepth 100000 in
theorem text_no (op d a b m : Int) (w : World) (h : mayB op d a b m = false) :
    Calls Tryz.prog 8 #[.agg #[.int .i64 op, .int .i64 d, .int .i64 a, .int .i64 b, .int .i64 m]] w fun e w' => e = .returned (.tuple #[.string ⟨#[]⟩, .int .i64 2]) ∧ Below w.heap.size w w' := by
  have H := Lib.hid h
  clear h
  go_enter Tryz.func8, Tryz.ntmps8
  go_wp2_with (go_at_call 21; refine (may_not H.out _).mono ?_; rintro e w1 ⟨rfl, hb1⟩)
  go_ret2
  exact ⟨rfl, Bl.step (Bl.alloc (Below.refl _ _) _) hb1⟩

set_option maxHeartbeats 800000 in
set_option maxRecDepth 100000 in
theorem text_0 (op d a b m : Int) (w : World) (he : Env w) (h : mayB op d a b m = true) (hf : formOf op = 0) :
    Calls Tryz.prog 8 #[.agg #[.int .i64 op, .int .i64 d, .int .i64 a, .int .i64 b, .int .i64 m]] w fun e w' => e = .returned (.tuple #[.string (textOf op d a b m), .int .i64 0]) ∧ Below w.heap.size w w' := by
  obtain ⟨⟨ho, ho'⟩, ⟨hd, hd'⟩, ⟨ha, ha'⟩, ⟨hb, hb'⟩, ⟨hm, hm'⟩, -, -⟩ := may_parts h
  have H := Lib.hid h
  have HF := Lib.hid hf
  have HE := Lib.hid he
  clear h hf he
  have hns := nameOf_size op
  have e0 : hasOf (setOf 0) 0 = false := rfl
  have e1 : hasOf (setOf 0) 1 = false := rfl
  have e2 : hasOf (setOf 0) 2 = false := rfl
  have e3 : hasOf (setOf 0) 3 = false := rfl
  have ld := Lib.itoa_length_le d (by omega) (by omega)
  have la := Lib.itoa_length_le a (by omega) (by omega)
  have lb := Lib.itoa_length_le b (by omega) (by omega)
  have lm := Lib.itoa_length_le m (by omega) (by omega)
  have i0 := idx4_0 (.pointer (some ⟨w.heap.size, 1, none⟩)) (.pointer (some ⟨w.heap.size, 2, none⟩)) (.pointer (some ⟨w.heap.size, 3, none⟩)) (.pointer (some ⟨w.heap.size, 4, none⟩))
  have i1 := idx4_1 (.pointer (some ⟨w.heap.size, 1, none⟩)) (.pointer (some ⟨w.heap.size, 2, none⟩)) (.pointer (some ⟨w.heap.size, 3, none⟩)) (.pointer (some ⟨w.heap.size, 4, none⟩))
  have i2 := idx4_2 (.pointer (some ⟨w.heap.size, 1, none⟩)) (.pointer (some ⟨w.heap.size, 2, none⟩)) (.pointer (some ⟨w.heap.size, 3, none⟩)) (.pointer (some ⟨w.heap.size, 4, none⟩))
  have i3 := idx4_3 (.pointer (some ⟨w.heap.size, 1, none⟩)) (.pointer (some ⟨w.heap.size, 2, none⟩)) (.pointer (some ⟨w.heap.size, 3, none⟩)) (.pointer (some ⟨w.heap.size, 4, none⟩))
  go_enter Tryz.func8, Tryz.ntmps8
  go_wp2_with (first
    | (go_at_call 21; refine (may_is H.out _).mono ?_; rintro e w1 ⟨rfl, hb1⟩; obtain ⟨hc1, hf1⟩ := bcell hb1; have hz1 : w.heap.size < w1.heap.size := by have := hb1.size; simp at this; omega)
    | (go_at_call 22; refine (name_any _ _).mono ?_; rintro e w2 ⟨rfl, hb2⟩; obtain ⟨hc2, hf2⟩ := bcell hb2; have hz2 : w.heap.size < w2.heap.size := by have := hb2.size; omega)
    | (go_at_call 24; refine (form_any _ _).mono ?_; rw [HF.out]; rintro e w3 ⟨rfl, rfl⟩)
    | (go_at_call 23; refine (names_any _ _).mono ?_; rintro e w3 ⟨rfl, rfl⟩)
    | (go_at_call 25; refine (numbers_any _ _).mono ?_; rintro e w3 ⟨rfl, rfl⟩))
  refine wp_loop_rounds 5 ?_
  have E3 := Lib.hid ((HE.out.alloc _).below (Bl.step (Below.refl _ _) hb1) |>.below hb2 |>.alloc (.cells #[.pointer (some ⟨w.heap.size, 1, none⟩), .pointer (some ⟨w.heap.size, 2, none⟩), .pointer (some ⟨w.heap.size, 3, none⟩), .pointer (some ⟨w.heap.size, 4, none⟩)] 65) |>.drew)
  rw [rounds_succ]
  go_wp2_with (go_at_call 26; refine (has_any _ _ _ (by omega) (by omega)).mono ?_; rintro e w' ⟨rfl, rfl⟩)
  rw [rounds_succ]
  go_wp2_with (go_at_call 26; refine (has_any _ _ _ (by omega) (by omega)).mono ?_; rintro e w' ⟨rfl, rfl⟩)
  rw [rounds_succ]
  go_wp2_with (go_at_call 26; refine (has_any _ _ _ (by omega) (by omega)).mono ?_; rintro e w' ⟨rfl, rfl⟩)
  rw [rounds_succ]
  go_wp2_with (go_at_call 26; refine (has_any _ _ _ (by omega) (by omega)).mono ?_; rintro e w' ⟨rfl, rfl⟩)
  rw [rounds_succ]
  go_wp2
  go_ret2
  refine ⟨ret_text (ba_eq ?_), ?_⟩
  · unfold textOf textL; rw [HF.out]; simp [regT, immT, nmD, nmA, nmB, nmM]
  · repeat (first | exact Below.refl _ _ | refine Bl.drew ?_ | refine Bl.drewN ?_ _ | refine Bl.alloc ?_ _ | refine Bl.step ?_ (by assumption))

set_option maxHeartbeats 800000 in
set_option maxRecDepth 100000 in
theorem text_1 (op d a b m : Int) (w : World) (he : Env w) (h : mayB op d a b m = true) (hf : formOf op = 1) :
    Calls Tryz.prog 8 #[.agg #[.int .i64 op, .int .i64 d, .int .i64 a, .int .i64 b, .int .i64 m]] w fun e w' => e = .returned (.tuple #[.string (textOf op d a b m), .int .i64 0]) ∧ Below w.heap.size w w' := by
  obtain ⟨⟨ho, ho'⟩, ⟨hd, hd'⟩, ⟨ha, ha'⟩, ⟨hb, hb'⟩, ⟨hm, hm'⟩, -, -⟩ := may_parts h
  have H := Lib.hid h
  have HF := Lib.hid hf
  have HE := Lib.hid he
  clear h hf he
  have hns := nameOf_size op
  have e0 : hasOf (setOf 1) 0 = false := rfl
  have e1 : hasOf (setOf 1) 1 = false := rfl
  have e2 : hasOf (setOf 1) 2 = false := rfl
  have e3 : hasOf (setOf 1) 3 = true := rfl
  have ld := Lib.itoa_length_le d (by omega) (by omega)
  have la := Lib.itoa_length_le a (by omega) (by omega)
  have lb := Lib.itoa_length_le b (by omega) (by omega)
  have lm := Lib.itoa_length_le m (by omega) (by omega)
  have i0 := idx4_0 (.pointer (some ⟨w.heap.size, 1, none⟩)) (.pointer (some ⟨w.heap.size, 2, none⟩)) (.pointer (some ⟨w.heap.size, 3, none⟩)) (.pointer (some ⟨w.heap.size, 4, none⟩))
  have i1 := idx4_1 (.pointer (some ⟨w.heap.size, 1, none⟩)) (.pointer (some ⟨w.heap.size, 2, none⟩)) (.pointer (some ⟨w.heap.size, 3, none⟩)) (.pointer (some ⟨w.heap.size, 4, none⟩))
  have i2 := idx4_2 (.pointer (some ⟨w.heap.size, 1, none⟩)) (.pointer (some ⟨w.heap.size, 2, none⟩)) (.pointer (some ⟨w.heap.size, 3, none⟩)) (.pointer (some ⟨w.heap.size, 4, none⟩))
  have i3 := idx4_3 (.pointer (some ⟨w.heap.size, 1, none⟩)) (.pointer (some ⟨w.heap.size, 2, none⟩)) (.pointer (some ⟨w.heap.size, 3, none⟩)) (.pointer (some ⟨w.heap.size, 4, none⟩))
  go_enter Tryz.func8, Tryz.ntmps8
  go_wp2_with (first
    | (go_at_call 21; refine (may_is H.out _).mono ?_; rintro e w1 ⟨rfl, hb1⟩; obtain ⟨hc1, hf1⟩ := bcell hb1; have hz1 : w.heap.size < w1.heap.size := by have := hb1.size; simp at this; omega)
    | (go_at_call 22; refine (name_any _ _).mono ?_; rintro e w2 ⟨rfl, hb2⟩; obtain ⟨hc2, hf2⟩ := bcell hb2; have hz2 : w.heap.size < w2.heap.size := by have := hb2.size; omega)
    | (go_at_call 24; refine (form_any _ _).mono ?_; rw [HF.out]; rintro e w3 ⟨rfl, rfl⟩)
    | (go_at_call 23; refine (names_any _ _).mono ?_; rintro e w3 ⟨rfl, rfl⟩)
    | (go_at_call 25; refine (numbers_any _ _).mono ?_; rintro e w3 ⟨rfl, rfl⟩))
  refine wp_loop_rounds 5 ?_
  have E3 := Lib.hid ((HE.out.alloc _).below (Bl.step (Below.refl _ _) hb1) |>.below hb2 |>.alloc (.cells #[.pointer (some ⟨w.heap.size, 1, none⟩), .pointer (some ⟨w.heap.size, 2, none⟩), .pointer (some ⟨w.heap.size, 3, none⟩), .pointer (some ⟨w.heap.size, 4, none⟩)] 65) |>.drew)
  rw [rounds_succ]
  go_wp2_with (go_at_call 26; refine (has_any _ _ _ (by omega) (by omega)).mono ?_; rintro e w' ⟨rfl, rfl⟩)
  rw [rounds_succ]
  go_wp2_with (go_at_call 26; refine (has_any _ _ _ (by omega) (by omega)).mono ?_; rintro e w' ⟨rfl, rfl⟩)
  rw [rounds_succ]
  go_wp2_with (go_at_call 26; refine (has_any _ _ _ (by omega) (by omega)).mono ?_; rintro e w' ⟨rfl, rfl⟩)
  rw [rounds_succ]
  go_wp2_with (first | (go_at_call 26; refine (has_any _ _ _ (by omega) (by omega)).mono ?_; rintro e w' ⟨rfl, rfl⟩) | (go_at_call 27; refine (itoa_any _ (by omega) (by omega) _ E3.out).mono ?_; rintro e w4 ⟨rfl, hb4⟩; obtain ⟨hc4, hf4⟩ := bcell hb4; have hz4 : w.heap.size < w4.heap.size := by have := hb4.size; first | omega | (simp at this; omega)))
  have E4 := Lib.hid (E3.out.below hb4)
  rw [rounds_succ]
  go_wp2
  go_ret2
  refine ⟨ret_text (ba_eq ?_), ?_⟩
  · unfold textOf textL; rw [HF.out]; simp [regT, immT, nmD, nmA, nmB, nmM]
  · repeat (first | exact Below.refl _ _ | refine Bl.drew ?_ | refine Bl.drewN ?_ _ | refine Bl.alloc ?_ _ | refine Bl.step ?_ (by assumption))

set_option maxHeartbeats 800000 in
set_option maxRecDepth 100000 in
theorem text_2 (op d a b m : Int) (w : World) (he : Env w) (h : mayB op d a b m = true) (hf : formOf op = 2) :
    Calls Tryz.prog 8 #[.agg #[.int .i64 op, .int .i64 d, .int .i64 a, .int .i64 b, .int .i64 m]] w fun e w' => e = .returned (.tuple #[.string (textOf op d a b m), .int .i64 0]) ∧ Below w.heap.size w w' := by
  obtain ⟨⟨ho, ho'⟩, ⟨hd, hd'⟩, ⟨ha, ha'⟩, ⟨hb, hb'⟩, ⟨hm, hm'⟩, -, -⟩ := may_parts h
  have H := Lib.hid h
  have HF := Lib.hid hf
  have HE := Lib.hid he
  clear h hf he
  have hns := nameOf_size op
  have e0 : hasOf (setOf 2) 0 = false := rfl
  have e1 : hasOf (setOf 2) 1 = true := rfl
  have e2 : hasOf (setOf 2) 2 = false := rfl
  have e3 : hasOf (setOf 2) 3 = false := rfl
  have ld := Lib.itoa_length_le d (by omega) (by omega)
  have la := Lib.itoa_length_le a (by omega) (by omega)
  have lb := Lib.itoa_length_le b (by omega) (by omega)
  have lm := Lib.itoa_length_le m (by omega) (by omega)
  have i0 := idx4_0 (.pointer (some ⟨w.heap.size, 1, none⟩)) (.pointer (some ⟨w.heap.size, 2, none⟩)) (.pointer (some ⟨w.heap.size, 3, none⟩)) (.pointer (some ⟨w.heap.size, 4, none⟩))
  have i1 := idx4_1 (.pointer (some ⟨w.heap.size, 1, none⟩)) (.pointer (some ⟨w.heap.size, 2, none⟩)) (.pointer (some ⟨w.heap.size, 3, none⟩)) (.pointer (some ⟨w.heap.size, 4, none⟩))
  have i2 := idx4_2 (.pointer (some ⟨w.heap.size, 1, none⟩)) (.pointer (some ⟨w.heap.size, 2, none⟩)) (.pointer (some ⟨w.heap.size, 3, none⟩)) (.pointer (some ⟨w.heap.size, 4, none⟩))
  have i3 := idx4_3 (.pointer (some ⟨w.heap.size, 1, none⟩)) (.pointer (some ⟨w.heap.size, 2, none⟩)) (.pointer (some ⟨w.heap.size, 3, none⟩)) (.pointer (some ⟨w.heap.size, 4, none⟩))
  go_enter Tryz.func8, Tryz.ntmps8
  go_wp2_with (first
    | (go_at_call 21; refine (may_is H.out _).mono ?_; rintro e w1 ⟨rfl, hb1⟩; obtain ⟨hc1, hf1⟩ := bcell hb1; have hz1 : w.heap.size < w1.heap.size := by have := hb1.size; simp at this; omega)
    | (go_at_call 22; refine (name_any _ _).mono ?_; rintro e w2 ⟨rfl, hb2⟩; obtain ⟨hc2, hf2⟩ := bcell hb2; have hz2 : w.heap.size < w2.heap.size := by have := hb2.size; omega)
    | (go_at_call 24; refine (form_any _ _).mono ?_; rw [HF.out]; rintro e w3 ⟨rfl, rfl⟩)
    | (go_at_call 23; refine (names_any _ _).mono ?_; rintro e w3 ⟨rfl, rfl⟩)
    | (go_at_call 25; refine (numbers_any _ _).mono ?_; rintro e w3 ⟨rfl, rfl⟩))
  refine wp_loop_rounds 5 ?_
  have E3 := Lib.hid ((HE.out.alloc _).below (Bl.step (Below.refl _ _) hb1) |>.below hb2 |>.alloc (.cells #[.pointer (some ⟨w.heap.size, 1, none⟩), .pointer (some ⟨w.heap.size, 2, none⟩), .pointer (some ⟨w.heap.size, 3, none⟩), .pointer (some ⟨w.heap.size, 4, none⟩)] 65) |>.drew)
  rw [rounds_succ]
  go_wp2_with (go_at_call 26; refine (has_any _ _ _ (by omega) (by omega)).mono ?_; rintro e w' ⟨rfl, rfl⟩)
  rw [rounds_succ]
  go_wp2_with (first | (go_at_call 26; refine (has_any _ _ _ (by omega) (by omega)).mono ?_; rintro e w' ⟨rfl, rfl⟩) | (go_at_call 27; refine (itoa_any _ (by omega) (by omega) _ E3.out).mono ?_; rintro e w4 ⟨rfl, hb4⟩; obtain ⟨hc4, hf4⟩ := bcell hb4; have hz4 : w.heap.size < w4.heap.size := by have := hb4.size; first | omega | (simp at this; omega)))
  have E4 := Lib.hid (E3.out.below hb4)
  rw [rounds_succ]
  go_wp2_with (go_at_call 26; refine (has_any _ _ _ (by omega) (by omega)).mono ?_; rintro e w' ⟨rfl, rfl⟩)
  rw [rounds_succ]
  go_wp2_with (go_at_call 26; refine (has_any _ _ _ (by omega) (by omega)).mono ?_; rintro e w' ⟨rfl, rfl⟩)
  rw [rounds_succ]
  go_wp2
  go_ret2
  refine ⟨ret_text (ba_eq ?_), ?_⟩
  · unfold textOf textL; rw [HF.out]; simp [regT, immT, nmD, nmA, nmB, nmM]
  · repeat (first | exact Below.refl _ _ | refine Bl.drew ?_ | refine Bl.drewN ?_ _ | refine Bl.alloc ?_ _ | refine Bl.step ?_ (by assumption))

set_option maxHeartbeats 800000 in
set_option maxRecDepth 100000 in
theorem text_3 (op d a b m : Int) (w : World) (he : Env w) (h : mayB op d a b m = true) (hf : formOf op = 3) :
    Calls Tryz.prog 8 #[.agg #[.int .i64 op, .int .i64 d, .int .i64 a, .int .i64 b, .int .i64 m]] w fun e w' => e = .returned (.tuple #[.string (textOf op d a b m), .int .i64 0]) ∧ Below w.heap.size w w' := by
  obtain ⟨⟨ho, ho'⟩, ⟨hd, hd'⟩, ⟨ha, ha'⟩, ⟨hb, hb'⟩, ⟨hm, hm'⟩, -, -⟩ := may_parts h
  have H := Lib.hid h
  have HF := Lib.hid hf
  have HE := Lib.hid he
  clear h hf he
  have hns := nameOf_size op
  have e0 : hasOf (setOf 3) 0 = true := rfl
  have e1 : hasOf (setOf 3) 1 = false := rfl
  have e2 : hasOf (setOf 3) 2 = false := rfl
  have e3 : hasOf (setOf 3) 3 = true := rfl
  have ld := Lib.itoa_length_le d (by omega) (by omega)
  have la := Lib.itoa_length_le a (by omega) (by omega)
  have lb := Lib.itoa_length_le b (by omega) (by omega)
  have lm := Lib.itoa_length_le m (by omega) (by omega)
  have i0 := idx4_0 (.pointer (some ⟨w.heap.size, 1, none⟩)) (.pointer (some ⟨w.heap.size, 2, none⟩)) (.pointer (some ⟨w.heap.size, 3, none⟩)) (.pointer (some ⟨w.heap.size, 4, none⟩))
  have i1 := idx4_1 (.pointer (some ⟨w.heap.size, 1, none⟩)) (.pointer (some ⟨w.heap.size, 2, none⟩)) (.pointer (some ⟨w.heap.size, 3, none⟩)) (.pointer (some ⟨w.heap.size, 4, none⟩))
  have i2 := idx4_2 (.pointer (some ⟨w.heap.size, 1, none⟩)) (.pointer (some ⟨w.heap.size, 2, none⟩)) (.pointer (some ⟨w.heap.size, 3, none⟩)) (.pointer (some ⟨w.heap.size, 4, none⟩))
  have i3 := idx4_3 (.pointer (some ⟨w.heap.size, 1, none⟩)) (.pointer (some ⟨w.heap.size, 2, none⟩)) (.pointer (some ⟨w.heap.size, 3, none⟩)) (.pointer (some ⟨w.heap.size, 4, none⟩))
  go_enter Tryz.func8, Tryz.ntmps8
  go_wp2_with (first
    | (go_at_call 21; refine (may_is H.out _).mono ?_; rintro e w1 ⟨rfl, hb1⟩; obtain ⟨hc1, hf1⟩ := bcell hb1; have hz1 : w.heap.size < w1.heap.size := by have := hb1.size; simp at this; omega)
    | (go_at_call 22; refine (name_any _ _).mono ?_; rintro e w2 ⟨rfl, hb2⟩; obtain ⟨hc2, hf2⟩ := bcell hb2; have hz2 : w.heap.size < w2.heap.size := by have := hb2.size; omega)
    | (go_at_call 24; refine (form_any _ _).mono ?_; rw [HF.out]; rintro e w3 ⟨rfl, rfl⟩)
    | (go_at_call 23; refine (names_any _ _).mono ?_; rintro e w3 ⟨rfl, rfl⟩)
    | (go_at_call 25; refine (numbers_any _ _).mono ?_; rintro e w3 ⟨rfl, rfl⟩))
  refine wp_loop_rounds 5 ?_
  have E3 := Lib.hid ((HE.out.alloc _).below (Bl.step (Below.refl _ _) hb1) |>.below hb2 |>.alloc (.cells #[.pointer (some ⟨w.heap.size, 1, none⟩), .pointer (some ⟨w.heap.size, 2, none⟩), .pointer (some ⟨w.heap.size, 3, none⟩), .pointer (some ⟨w.heap.size, 4, none⟩)] 65) |>.drew)
  rw [rounds_succ]
  go_wp2_with (first | (go_at_call 26; refine (has_any _ _ _ (by omega) (by omega)).mono ?_; rintro e w' ⟨rfl, rfl⟩) | (go_at_call 27; refine (itoa_any _ (by omega) (by omega) _ E3.out).mono ?_; rintro e w4 ⟨rfl, hb4⟩; obtain ⟨hc4, hf4⟩ := bcell hb4; have hz4 : w.heap.size < w4.heap.size := by have := hb4.size; first | omega | (simp at this; omega)))
  have E4 := Lib.hid (E3.out.below hb4)
  rw [rounds_succ]
  go_wp2_with (go_at_call 26; refine (has_any _ _ _ (by omega) (by omega)).mono ?_; rintro e w' ⟨rfl, rfl⟩)
  rw [rounds_succ]
  go_wp2_with (go_at_call 26; refine (has_any _ _ _ (by omega) (by omega)).mono ?_; rintro e w' ⟨rfl, rfl⟩)
  rw [rounds_succ]
  go_wp2_with (first | (go_at_call 26; refine (has_any _ _ _ (by omega) (by omega)).mono ?_; rintro e w' ⟨rfl, rfl⟩) | (go_at_call 27; refine (itoa_any _ (by omega) (by omega) _ E4.out).mono ?_; rintro e w5 ⟨rfl, hb5⟩; obtain ⟨hc5, hf5⟩ := bcell hb5; have hz5 : w.heap.size < w5.heap.size := by have := hb5.size; first | omega | (simp at this; omega)))
  have E5 := Lib.hid (E4.out.below hb5)
  rw [rounds_succ]
  go_wp2
  go_ret2
  refine ⟨ret_text (ba_eq ?_), ?_⟩
  · unfold textOf textL; rw [HF.out]; simp [regT, immT, nmD, nmA, nmB, nmM]
  · repeat (first | exact Below.refl _ _ | refine Bl.drew ?_ | refine Bl.drewN ?_ _ | refine Bl.alloc ?_ _ | refine Bl.step ?_ (by assumption))

set_option maxHeartbeats 800000 in
set_option maxRecDepth 100000 in
theorem text_4 (op d a b m : Int) (w : World) (he : Env w) (h : mayB op d a b m = true) (hf : formOf op = 4) :
    Calls Tryz.prog 8 #[.agg #[.int .i64 op, .int .i64 d, .int .i64 a, .int .i64 b, .int .i64 m]] w fun e w' => e = .returned (.tuple #[.string (textOf op d a b m), .int .i64 0]) ∧ Below w.heap.size w w' := by
  obtain ⟨⟨ho, ho'⟩, ⟨hd, hd'⟩, ⟨ha, ha'⟩, ⟨hb, hb'⟩, ⟨hm, hm'⟩, -, -⟩ := may_parts h
  have H := Lib.hid h
  have HF := Lib.hid hf
  have HE := Lib.hid he
  clear h hf he
  have hns := nameOf_size op
  have e0 : hasOf (setOf 4) 0 = true := rfl
  have e1 : hasOf (setOf 4) 1 = true := rfl
  have e2 : hasOf (setOf 4) 2 = false := rfl
  have e3 : hasOf (setOf 4) 3 = false := rfl
  have ld := Lib.itoa_length_le d (by omega) (by omega)
  have la := Lib.itoa_length_le a (by omega) (by omega)
  have lb := Lib.itoa_length_le b (by omega) (by omega)
  have lm := Lib.itoa_length_le m (by omega) (by omega)
  have i0 := idx4_0 (.pointer (some ⟨w.heap.size, 1, none⟩)) (.pointer (some ⟨w.heap.size, 2, none⟩)) (.pointer (some ⟨w.heap.size, 3, none⟩)) (.pointer (some ⟨w.heap.size, 4, none⟩))
  have i1 := idx4_1 (.pointer (some ⟨w.heap.size, 1, none⟩)) (.pointer (some ⟨w.heap.size, 2, none⟩)) (.pointer (some ⟨w.heap.size, 3, none⟩)) (.pointer (some ⟨w.heap.size, 4, none⟩))
  have i2 := idx4_2 (.pointer (some ⟨w.heap.size, 1, none⟩)) (.pointer (some ⟨w.heap.size, 2, none⟩)) (.pointer (some ⟨w.heap.size, 3, none⟩)) (.pointer (some ⟨w.heap.size, 4, none⟩))
  have i3 := idx4_3 (.pointer (some ⟨w.heap.size, 1, none⟩)) (.pointer (some ⟨w.heap.size, 2, none⟩)) (.pointer (some ⟨w.heap.size, 3, none⟩)) (.pointer (some ⟨w.heap.size, 4, none⟩))
  go_enter Tryz.func8, Tryz.ntmps8
  go_wp2_with (first
    | (go_at_call 21; refine (may_is H.out _).mono ?_; rintro e w1 ⟨rfl, hb1⟩; obtain ⟨hc1, hf1⟩ := bcell hb1; have hz1 : w.heap.size < w1.heap.size := by have := hb1.size; simp at this; omega)
    | (go_at_call 22; refine (name_any _ _).mono ?_; rintro e w2 ⟨rfl, hb2⟩; obtain ⟨hc2, hf2⟩ := bcell hb2; have hz2 : w.heap.size < w2.heap.size := by have := hb2.size; omega)
    | (go_at_call 24; refine (form_any _ _).mono ?_; rw [HF.out]; rintro e w3 ⟨rfl, rfl⟩)
    | (go_at_call 23; refine (names_any _ _).mono ?_; rintro e w3 ⟨rfl, rfl⟩)
    | (go_at_call 25; refine (numbers_any _ _).mono ?_; rintro e w3 ⟨rfl, rfl⟩))
  refine wp_loop_rounds 5 ?_
  have E3 := Lib.hid ((HE.out.alloc _).below (Bl.step (Below.refl _ _) hb1) |>.below hb2 |>.alloc (.cells #[.pointer (some ⟨w.heap.size, 1, none⟩), .pointer (some ⟨w.heap.size, 2, none⟩), .pointer (some ⟨w.heap.size, 3, none⟩), .pointer (some ⟨w.heap.size, 4, none⟩)] 65) |>.drew)
  rw [rounds_succ]
  go_wp2_with (first | (go_at_call 26; refine (has_any _ _ _ (by omega) (by omega)).mono ?_; rintro e w' ⟨rfl, rfl⟩) | (go_at_call 27; refine (itoa_any _ (by omega) (by omega) _ E3.out).mono ?_; rintro e w4 ⟨rfl, hb4⟩; obtain ⟨hc4, hf4⟩ := bcell hb4; have hz4 : w.heap.size < w4.heap.size := by have := hb4.size; first | omega | (simp at this; omega)))
  have E4 := Lib.hid (E3.out.below hb4)
  rw [rounds_succ]
  go_wp2_with (first | (go_at_call 26; refine (has_any _ _ _ (by omega) (by omega)).mono ?_; rintro e w' ⟨rfl, rfl⟩) | (go_at_call 27; refine (itoa_any _ (by omega) (by omega) _ E4.out).mono ?_; rintro e w5 ⟨rfl, hb5⟩; obtain ⟨hc5, hf5⟩ := bcell hb5; have hz5 : w.heap.size < w5.heap.size := by have := hb5.size; first | omega | (simp at this; omega)))
  have E5 := Lib.hid (E4.out.below hb5)
  rw [rounds_succ]
  go_wp2_with (go_at_call 26; refine (has_any _ _ _ (by omega) (by omega)).mono ?_; rintro e w' ⟨rfl, rfl⟩)
  rw [rounds_succ]
  go_wp2_with (go_at_call 26; refine (has_any _ _ _ (by omega) (by omega)).mono ?_; rintro e w' ⟨rfl, rfl⟩)
  rw [rounds_succ]
  go_wp2
  go_ret2
  refine ⟨ret_text (ba_eq ?_), ?_⟩
  · unfold textOf textL; rw [HF.out]; simp [regT, immT, nmD, nmA, nmB, nmM]
  · repeat (first | exact Below.refl _ _ | refine Bl.drew ?_ | refine Bl.drewN ?_ _ | refine Bl.alloc ?_ _ | refine Bl.step ?_ (by assumption))

set_option maxHeartbeats 800000 in
set_option maxRecDepth 100000 in
theorem text_5 (op d a b m : Int) (w : World) (he : Env w) (h : mayB op d a b m = true) (hf : formOf op = 5) :
    Calls Tryz.prog 8 #[.agg #[.int .i64 op, .int .i64 d, .int .i64 a, .int .i64 b, .int .i64 m]] w fun e w' => e = .returned (.tuple #[.string (textOf op d a b m), .int .i64 0]) ∧ Below w.heap.size w w' := by
  obtain ⟨⟨ho, ho'⟩, ⟨hd, hd'⟩, ⟨ha, ha'⟩, ⟨hb, hb'⟩, ⟨hm, hm'⟩, -, -⟩ := may_parts h
  have H := Lib.hid h
  have HF := Lib.hid hf
  have HE := Lib.hid he
  clear h hf he
  have hns := nameOf_size op
  have e0 : hasOf (setOf 5) 0 = true := rfl
  have e1 : hasOf (setOf 5) 1 = true := rfl
  have e2 : hasOf (setOf 5) 2 = true := rfl
  have e3 : hasOf (setOf 5) 3 = false := rfl
  have ld := Lib.itoa_length_le d (by omega) (by omega)
  have la := Lib.itoa_length_le a (by omega) (by omega)
  have lb := Lib.itoa_length_le b (by omega) (by omega)
  have lm := Lib.itoa_length_le m (by omega) (by omega)
  have i0 := idx4_0 (.pointer (some ⟨w.heap.size, 1, none⟩)) (.pointer (some ⟨w.heap.size, 2, none⟩)) (.pointer (some ⟨w.heap.size, 3, none⟩)) (.pointer (some ⟨w.heap.size, 4, none⟩))
  have i1 := idx4_1 (.pointer (some ⟨w.heap.size, 1, none⟩)) (.pointer (some ⟨w.heap.size, 2, none⟩)) (.pointer (some ⟨w.heap.size, 3, none⟩)) (.pointer (some ⟨w.heap.size, 4, none⟩))
  have i2 := idx4_2 (.pointer (some ⟨w.heap.size, 1, none⟩)) (.pointer (some ⟨w.heap.size, 2, none⟩)) (.pointer (some ⟨w.heap.size, 3, none⟩)) (.pointer (some ⟨w.heap.size, 4, none⟩))
  have i3 := idx4_3 (.pointer (some ⟨w.heap.size, 1, none⟩)) (.pointer (some ⟨w.heap.size, 2, none⟩)) (.pointer (some ⟨w.heap.size, 3, none⟩)) (.pointer (some ⟨w.heap.size, 4, none⟩))
  go_enter Tryz.func8, Tryz.ntmps8
  go_wp2_with (first
    | (go_at_call 21; refine (may_is H.out _).mono ?_; rintro e w1 ⟨rfl, hb1⟩; obtain ⟨hc1, hf1⟩ := bcell hb1; have hz1 : w.heap.size < w1.heap.size := by have := hb1.size; simp at this; omega)
    | (go_at_call 22; refine (name_any _ _).mono ?_; rintro e w2 ⟨rfl, hb2⟩; obtain ⟨hc2, hf2⟩ := bcell hb2; have hz2 : w.heap.size < w2.heap.size := by have := hb2.size; omega)
    | (go_at_call 24; refine (form_any _ _).mono ?_; rw [HF.out]; rintro e w3 ⟨rfl, rfl⟩)
    | (go_at_call 23; refine (names_any _ _).mono ?_; rintro e w3 ⟨rfl, rfl⟩)
    | (go_at_call 25; refine (numbers_any _ _).mono ?_; rintro e w3 ⟨rfl, rfl⟩))
  refine wp_loop_rounds 5 ?_
  have E3 := Lib.hid ((HE.out.alloc _).below (Bl.step (Below.refl _ _) hb1) |>.below hb2 |>.alloc (.cells #[.pointer (some ⟨w.heap.size, 1, none⟩), .pointer (some ⟨w.heap.size, 2, none⟩), .pointer (some ⟨w.heap.size, 3, none⟩), .pointer (some ⟨w.heap.size, 4, none⟩)] 65) |>.drew)
  rw [rounds_succ]
  go_wp2_with (first | (go_at_call 26; refine (has_any _ _ _ (by omega) (by omega)).mono ?_; rintro e w' ⟨rfl, rfl⟩) | (go_at_call 27; refine (itoa_any _ (by omega) (by omega) _ E3.out).mono ?_; rintro e w4 ⟨rfl, hb4⟩; obtain ⟨hc4, hf4⟩ := bcell hb4; have hz4 : w.heap.size < w4.heap.size := by have := hb4.size; first | omega | (simp at this; omega)))
  have E4 := Lib.hid (E3.out.below hb4)
  rw [rounds_succ]
  go_wp2_with (first | (go_at_call 26; refine (has_any _ _ _ (by omega) (by omega)).mono ?_; rintro e w' ⟨rfl, rfl⟩) | (go_at_call 27; refine (itoa_any _ (by omega) (by omega) _ E4.out).mono ?_; rintro e w5 ⟨rfl, hb5⟩; obtain ⟨hc5, hf5⟩ := bcell hb5; have hz5 : w.heap.size < w5.heap.size := by have := hb5.size; first | omega | (simp at this; omega)))
  have E5 := Lib.hid (E4.out.below hb5)
  rw [rounds_succ]
  go_wp2_with (first | (go_at_call 26; refine (has_any _ _ _ (by omega) (by omega)).mono ?_; rintro e w' ⟨rfl, rfl⟩) | (go_at_call 27; refine (itoa_any _ (by omega) (by omega) _ E5.out).mono ?_; rintro e w6 ⟨rfl, hb6⟩; obtain ⟨hc6, hf6⟩ := bcell hb6; have hz6 : w.heap.size < w6.heap.size := by have := hb6.size; first | omega | (simp at this; omega)))
  have E6 := Lib.hid (E5.out.below hb6)
  rw [rounds_succ]
  go_wp2_with (go_at_call 26; refine (has_any _ _ _ (by omega) (by omega)).mono ?_; rintro e w' ⟨rfl, rfl⟩)
  rw [rounds_succ]
  go_wp2
  go_ret2
  refine ⟨ret_text (ba_eq ?_), ?_⟩
  · unfold textOf textL; rw [HF.out]; simp [regT, immT, nmD, nmA, nmB, nmM]
  · repeat (first | exact Below.refl _ _ | refine Bl.drew ?_ | refine Bl.drewN ?_ _ | refine Bl.alloc ?_ _ | refine Bl.step ?_ (by assumption))

set_option maxHeartbeats 800000 in
set_option maxRecDepth 100000 in
theorem text_6 (op d a b m : Int) (w : World) (he : Env w) (h : mayB op d a b m = true) (hf : formOf op = 6) :
    Calls Tryz.prog 8 #[.agg #[.int .i64 op, .int .i64 d, .int .i64 a, .int .i64 b, .int .i64 m]] w fun e w' => e = .returned (.tuple #[.string (textOf op d a b m), .int .i64 0]) ∧ Below w.heap.size w w' := by
  obtain ⟨⟨ho, ho'⟩, ⟨hd, hd'⟩, ⟨ha, ha'⟩, ⟨hb, hb'⟩, ⟨hm, hm'⟩, -, -⟩ := may_parts h
  have H := Lib.hid h
  have HF := Lib.hid hf
  have HE := Lib.hid he
  clear h hf he
  have hns := nameOf_size op
  have e0 : hasOf (setOf 6) 0 = true := rfl
  have e1 : hasOf (setOf 6) 1 = true := rfl
  have e2 : hasOf (setOf 6) 2 = false := rfl
  have e3 : hasOf (setOf 6) 3 = true := rfl
  have ld := Lib.itoa_length_le d (by omega) (by omega)
  have la := Lib.itoa_length_le a (by omega) (by omega)
  have lb := Lib.itoa_length_le b (by omega) (by omega)
  have lm := Lib.itoa_length_le m (by omega) (by omega)
  have i0 := idx4_0 (.pointer (some ⟨w.heap.size, 1, none⟩)) (.pointer (some ⟨w.heap.size, 2, none⟩)) (.pointer (some ⟨w.heap.size, 3, none⟩)) (.pointer (some ⟨w.heap.size, 4, none⟩))
  have i1 := idx4_1 (.pointer (some ⟨w.heap.size, 1, none⟩)) (.pointer (some ⟨w.heap.size, 2, none⟩)) (.pointer (some ⟨w.heap.size, 3, none⟩)) (.pointer (some ⟨w.heap.size, 4, none⟩))
  have i2 := idx4_2 (.pointer (some ⟨w.heap.size, 1, none⟩)) (.pointer (some ⟨w.heap.size, 2, none⟩)) (.pointer (some ⟨w.heap.size, 3, none⟩)) (.pointer (some ⟨w.heap.size, 4, none⟩))
  have i3 := idx4_3 (.pointer (some ⟨w.heap.size, 1, none⟩)) (.pointer (some ⟨w.heap.size, 2, none⟩)) (.pointer (some ⟨w.heap.size, 3, none⟩)) (.pointer (some ⟨w.heap.size, 4, none⟩))
  go_enter Tryz.func8, Tryz.ntmps8
  go_wp2_with (first
    | (go_at_call 21; refine (may_is H.out _).mono ?_; rintro e w1 ⟨rfl, hb1⟩; obtain ⟨hc1, hf1⟩ := bcell hb1; have hz1 : w.heap.size < w1.heap.size := by have := hb1.size; simp at this; omega)
    | (go_at_call 22; refine (name_any _ _).mono ?_; rintro e w2 ⟨rfl, hb2⟩; obtain ⟨hc2, hf2⟩ := bcell hb2; have hz2 : w.heap.size < w2.heap.size := by have := hb2.size; omega)
    | (go_at_call 24; refine (form_any _ _).mono ?_; rw [HF.out]; rintro e w3 ⟨rfl, rfl⟩)
    | (go_at_call 23; refine (names_any _ _).mono ?_; rintro e w3 ⟨rfl, rfl⟩)
    | (go_at_call 25; refine (numbers_any _ _).mono ?_; rintro e w3 ⟨rfl, rfl⟩))
  refine wp_loop_rounds 5 ?_
  have E3 := Lib.hid ((HE.out.alloc _).below (Bl.step (Below.refl _ _) hb1) |>.below hb2 |>.alloc (.cells #[.pointer (some ⟨w.heap.size, 1, none⟩), .pointer (some ⟨w.heap.size, 2, none⟩), .pointer (some ⟨w.heap.size, 3, none⟩), .pointer (some ⟨w.heap.size, 4, none⟩)] 65) |>.drew)
  rw [rounds_succ]
  go_wp2_with (first | (go_at_call 26; refine (has_any _ _ _ (by omega) (by omega)).mono ?_; rintro e w' ⟨rfl, rfl⟩) | (go_at_call 27; refine (itoa_any _ (by omega) (by omega) _ E3.out).mono ?_; rintro e w4 ⟨rfl, hb4⟩; obtain ⟨hc4, hf4⟩ := bcell hb4; have hz4 : w.heap.size < w4.heap.size := by have := hb4.size; first | omega | (simp at this; omega)))
  have E4 := Lib.hid (E3.out.below hb4)
  rw [rounds_succ]
  go_wp2_with (first | (go_at_call 26; refine (has_any _ _ _ (by omega) (by omega)).mono ?_; rintro e w' ⟨rfl, rfl⟩) | (go_at_call 27; refine (itoa_any _ (by omega) (by omega) _ E4.out).mono ?_; rintro e w5 ⟨rfl, hb5⟩; obtain ⟨hc5, hf5⟩ := bcell hb5; have hz5 : w.heap.size < w5.heap.size := by have := hb5.size; first | omega | (simp at this; omega)))
  have E5 := Lib.hid (E4.out.below hb5)
  rw [rounds_succ]
  go_wp2_with (go_at_call 26; refine (has_any _ _ _ (by omega) (by omega)).mono ?_; rintro e w' ⟨rfl, rfl⟩)
  rw [rounds_succ]
  go_wp2_with (first | (go_at_call 26; refine (has_any _ _ _ (by omega) (by omega)).mono ?_; rintro e w' ⟨rfl, rfl⟩) | (go_at_call 27; refine (itoa_any _ (by omega) (by omega) _ E5.out).mono ?_; rintro e w6 ⟨rfl, hb6⟩; obtain ⟨hc6, hf6⟩ := bcell hb6; have hz6 : w.heap.size < w6.heap.size := by have := hb6.size; first | omega | (simp at this; omega)))
  have E6 := Lib.hid (E5.out.below hb6)
  rw [rounds_succ]
  go_wp2
  go_ret2
  refine ⟨ret_text (ba_eq ?_), ?_⟩
  · unfold textOf textL; rw [HF.out]; simp [regT, immT, nmD, nmA, nmB, nmM]
  · repeat (first | exact Below.refl _ _ | refine Bl.drew ?_ | refine Bl.drewN ?_ _ | refine Bl.alloc ?_ _ | refine Bl.step ?_ (by assumption))

theorem text_yes (op d a b m : Int) (w : World) (he : Env w) (h : mayB op d a b m = true) :
    Calls Tryz.prog 8 #[.agg #[.int .i64 op, .int .i64 d, .int .i64 a, .int .i64 b, .int .i64 m]] w fun e w' => e = .returned (.tuple #[.string (textOf op d a b m), .int .i64 0]) ∧ Below w.heap.size w w' := by
  rcases form_range op with hf | hf | hf | hf | hf | hf | hf
  · exact text_0 op d a b m w he h hf
  · exact text_1 op d a b m w he h hf
  · exact text_2 op d a b m w he h hf
  · exact text_3 op d a b m w he h hf
  · exact text_4 op d a b m w he h hf
  · exact text_5 op d a b m w he h hf
  · exact text_6 op d a b m w he h hf

end Go.Proofs.YtnkkomodpjgefaaGreatDoor
