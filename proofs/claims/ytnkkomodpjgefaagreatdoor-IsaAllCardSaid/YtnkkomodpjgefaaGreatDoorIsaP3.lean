/- Contract of isa.Parse, some of the forms. -/
import Derived.Test.YtnkkomodpjgefaaGreatDoorIsaP0
namespace Go.Proofs.YtnkkomodpjgefaaGreatDoor
open Go.RowKit

set_option maxHeartbeats 1600000 in
set_option maxRecDepth 100000 in
theorem parse_6y (s : ByteArray) (hs : s.size ≤ 4000) (op : Int) (w : World) (he : Env w) (hop : namedV (cutA s) = op) (hf : formOf op = 6) (hm : mayB op (numV (trimR (cutA (cutB s)))) (numV (trimR (cutA (cutB (cutB s))))) 0 (numV (trimR (cutA (cutB (cutB (cutB s)))))) = true) (ht : ((textOf op (numV (trimR (cutA (cutB s)))) (numV (trimR (cutA (cutB (cutB s))))) 0 (numV (trimR (cutA (cutB (cutB (cutB s))))))).toList == s.toList) = true) :
    Calls Tryz.prog 9 #[.string s] w fun e w' => e = .returned (.tuple #[.agg #[.int .i64 op, .int .i64 (numV (trimR (cutA (cutB s)))), .int .i64 (numV (trimR (cutA (cutB (cutB s))))), .int .i64 0, .int .i64 (numV (trimR (cutA (cutB (cutB (cutB s))))))], .int .i64 0]) ∧ Below w.heap.size w w' := by
  have HF := Lib.hid hf
  have HE := Lib.hid he
  have HO := Lib.hid hop
  have HM := Lib.hid hm
  clear hf he hop hm
  have hr0 : (cutB s).size ≤ 4000 := by have := cutB_size s; omega
  have hr1 : (cutB (cutB s)).size ≤ 4000 := by have := cutB_size (cutB s); omega
  have hr2 : (cutB (cutB (cutB s))).size ≤ 4000 := by have := cutB_size (cutB (cutB s)); omega
  have hw0 : (trimR (cutA (cutB s))).size ≤ 4000 := by have := trimR_size (cutA (cutB s)); have := cutA_size (cutB s); omega
  have hw1 : (trimR (cutA (cutB (cutB s)))).size ≤ 4000 := by have := trimR_size (cutA (cutB (cutB s))); have := cutA_size (cutB (cutB s)); omega
  have hw2 : (trimR (cutA (cutB (cutB (cutB s))))).size ≤ 4000 := by have := trimR_size (cutA (cutB (cutB (cutB s)))); have := cutA_size (cutB (cutB (cutB s))); omega
  have e0 : hasOf (setOf 6) 0 = true := rfl
  have e1 : hasOf (setOf 6) 1 = true := rfl
  have e2 : hasOf (setOf 6) 2 = false := rfl
  have e3 : hasOf (setOf 6) 3 = true := rfl
  go_enter Tryz.func9, Tryz.ntmps9
  go_wp2_with (first
    | (go_at_call 28; refine (cut_sp _ _ (by repeat (first | exact HE.out | refine Env.drew ?_ | refine Env.alloc ?_ _)) hs).mono ?_; rintro e w1 ⟨rfl, hb1⟩; have G1 := slot5 hb1; obtain ⟨hc1, hf1⟩ := bcell hb1; have hz1 : w.heap.size < w1.heap.size := by have := hb1.size; simp at this; omega)
    | (go_at_call 29; refine (named_any _ _).mono ?_; rw [HO.out]; rintro e w2 ⟨rfl, hb2⟩; have G2 := five_b hb2 G1 hz1; obtain ⟨hc2, hf2⟩ := bcell hb2; have hz2 : w.heap.size < w2.heap.size := by have := hb2.size; omega)
    | (go_at_call 24; refine (form_any _ _).mono ?_; rw [HF.out]; rintro e w3 ⟨rfl, rfl⟩)
    | (go_at_call 23; refine (names_any _ _).mono ?_; rintro e w3 ⟨rfl, rfl⟩)
    | (go_at_call 25; refine (numbers_any _ _).mono ?_; rintro e w3 ⟨rfl, rfl⟩))
  have hle2 : w.heap.size ≤ w2.heap.size := by omega
  have hz2a : w.heap.size < w2.heap.size + 1 := by omega
  have hz2b : w.heap.size < w2.heap.size + 1 + 1 := by omega
  have hne2 : w.heap.size ≠ w2.heap.size := by omega
  have F3 : (((w2.alloc (.cells #[.int .i64 op, .int .i64 0, .int .i64 0, .int .i64 0, .int .i64 0] 31)).alloc (.cells #[.pointer (some ⟨w2.heap.size, 1, none⟩), .pointer (some ⟨w2.heap.size, 2, none⟩), .pointer (some ⟨w2.heap.size, 3, none⟩), .pointer (some ⟨w2.heap.size, 4, none⟩)] 65)).drew).cell? ⟨w2.heap.size, 0, none⟩ = some (.int .i64 op) ∧ (((w2.alloc (.cells #[.int .i64 op, .int .i64 0, .int .i64 0, .int .i64 0, .int .i64 0] 31)).alloc (.cells #[.pointer (some ⟨w2.heap.size, 1, none⟩), .pointer (some ⟨w2.heap.size, 2, none⟩), .pointer (some ⟨w2.heap.size, 3, none⟩), .pointer (some ⟨w2.heap.size, 4, none⟩)] 65)).drew).cell? ⟨w2.heap.size, 1, none⟩ = some (.int .i64 0) ∧ (((w2.alloc (.cells #[.int .i64 op, .int .i64 0, .int .i64 0, .int .i64 0, .int .i64 0] 31)).alloc (.cells #[.pointer (some ⟨w2.heap.size, 1, none⟩), .pointer (some ⟨w2.heap.size, 2, none⟩), .pointer (some ⟨w2.heap.size, 3, none⟩), .pointer (some ⟨w2.heap.size, 4, none⟩)] 65)).drew).cell? ⟨w2.heap.size, 2, none⟩ = some (.int .i64 0) ∧ (((w2.alloc (.cells #[.int .i64 op, .int .i64 0, .int .i64 0, .int .i64 0, .int .i64 0] 31)).alloc (.cells #[.pointer (some ⟨w2.heap.size, 1, none⟩), .pointer (some ⟨w2.heap.size, 2, none⟩), .pointer (some ⟨w2.heap.size, 3, none⟩), .pointer (some ⟨w2.heap.size, 4, none⟩)] 65)).drew).cell? ⟨w2.heap.size, 3, none⟩ = some (.int .i64 0) ∧ (((w2.alloc (.cells #[.int .i64 op, .int .i64 0, .int .i64 0, .int .i64 0, .int .i64 0] 31)).alloc (.cells #[.pointer (some ⟨w2.heap.size, 1, none⟩), .pointer (some ⟨w2.heap.size, 2, none⟩), .pointer (some ⟨w2.heap.size, 3, none⟩), .pointer (some ⟨w2.heap.size, 4, none⟩)] 65)).drew).cell? ⟨w2.heap.size, 4, none⟩ = some (.int .i64 0) := ⟨by simp, by simp, by simp, by simp, by simp⟩
  have G3 := five_b (Bl.drew (Bl.alloc (Bl.alloc (Below.refl w2.heap.size w2) (.cells #[.int .i64 op, .int .i64 0, .int .i64 0, .int .i64 0, .int .i64 0] 31)) (.cells #[.pointer (some ⟨w2.heap.size, 1, none⟩), .pointer (some ⟨w2.heap.size, 2, none⟩), .pointer (some ⟨w2.heap.size, 3, none⟩), .pointer (some ⟨w2.heap.size, 4, none⟩)] 65))) G2 hz2
  have E2 := Lib.hid (Env.of' hb2 (Env.of' hb1 (HE.out.alloc _)))
  have hroom : 6 ≤ w2.heap.size := E2.out.room
  have i0 := idx4_0 (.pointer (some ⟨w2.heap.size, 1, none⟩)) (.pointer (some ⟨w2.heap.size, 2, none⟩)) (.pointer (some ⟨w2.heap.size, 3, none⟩)) (.pointer (some ⟨w2.heap.size, 4, none⟩))
  have i1 := idx4_1 (.pointer (some ⟨w2.heap.size, 1, none⟩)) (.pointer (some ⟨w2.heap.size, 2, none⟩)) (.pointer (some ⟨w2.heap.size, 3, none⟩)) (.pointer (some ⟨w2.heap.size, 4, none⟩))
  have i2 := idx4_2 (.pointer (some ⟨w2.heap.size, 1, none⟩)) (.pointer (some ⟨w2.heap.size, 2, none⟩)) (.pointer (some ⟨w2.heap.size, 3, none⟩)) (.pointer (some ⟨w2.heap.size, 4, none⟩))
  have i3 := idx4_3 (.pointer (some ⟨w2.heap.size, 1, none⟩)) (.pointer (some ⟨w2.heap.size, 2, none⟩)) (.pointer (some ⟨w2.heap.size, 3, none⟩)) (.pointer (some ⟨w2.heap.size, 4, none⟩))
  refine wp_loop_rounds 5 ?_
  rw [rounds_succ]
  go_wp2_with (first
    | (go_at_call 26; refine (has_any _ _ _ (by omega) (by omega)).mono ?_; rintro e w' ⟨rfl, rfl⟩)
    | (go_at_call 28; refine (cut_sp _ _ (by repeat (first | exact E2.out | refine Env.drew ?_ | refine Env.alloc ?_ _ | refine Env.set ?_ _ _ _ hroom)) hr0).mono ?_; rintro e w4 ⟨rfl, hb4⟩; have F4 := five_b hb4 F3 (by first | omega | (simp; omega) | (simp; done)); have G4 := five_b hb4 G3 (by first | omega | (simp; omega) | (simp; done)); have E4 := Lib.hid (Env.of' hb4 (by repeat (first | exact E2.out | refine Env.drew ?_ | refine Env.alloc ?_ _ | refine Env.set ?_ _ _ _ hroom))); obtain ⟨hc4, hf4⟩ := bcell hb4; have hz4 : w.heap.size < w4.heap.size := (by have := hb4.size; first | omega | (simp at this; omega)); have hy4 : w2.heap.size < w4.heap.size := (by have := hb4.size; first | omega | (simp at this; omega)))
    | (go_at_call 31; refine (trim_r _ _).mono ?_; rintro e w' ⟨rfl, rfl⟩)
    | (go_at_call 30; refine (atoi_num _ hw0 _ (by repeat (first | exact E4.out | refine Env.drew ?_ | refine Env.alloc ?_ _ | refine Env.set ?_ _ _ _ hroom))).mono ?_; rintro e w5 ⟨ev5, rfl, hb5⟩; have F5x := five_b hb5 F4 (by first | omega | (simp; omega) | (simp; done)); have G5x := five_b hb5 G4 (by first | omega | (simp; omega) | (simp; done)); have F5 := five_set1 (.int .i64 (numV (trimR (cutA (cutB s))))) F5x; have G5 := five_oth (q := 1) (.int .i64 (numV (trimR (cutA (cutB s))))) G5x hne2; have E5 := Lib.hid (Env.of' hb5 (by repeat (first | exact E4.out | refine Env.drew ?_ | refine Env.alloc ?_ _ | refine Env.set ?_ _ _ _ hroom))); obtain ⟨hc5, hf5⟩ := bcell hb5; have hz5 : w.heap.size < w5.heap.size := (by have := hb5.size; first | omega | (simp at this; omega)); have hy5 : w2.heap.size < w5.heap.size := (by have := hb5.size; first | omega | (simp at this; omega))))
  rw [rounds_succ]
  go_wp2_with (first
    | (go_at_call 26; refine (has_any _ _ _ (by omega) (by omega)).mono ?_; rintro e w' ⟨rfl, rfl⟩)
    | (go_at_call 28; refine (cut_sp _ _ (by repeat (first | exact E5.out | refine Env.drew ?_ | refine Env.alloc ?_ _ | refine Env.set ?_ _ _ _ hroom)) hr1).mono ?_; rintro e w6 ⟨rfl, hb6⟩; have F6 := five_b hb6 F5 (by first | omega | (simp; omega) | (simp; done)); have G6 := five_b hb6 G5 (by first | omega | (simp; omega) | (simp; done)); have E6 := Lib.hid (Env.of' hb6 (by repeat (first | exact E5.out | refine Env.drew ?_ | refine Env.alloc ?_ _ | refine Env.set ?_ _ _ _ hroom))); obtain ⟨hc6, hf6⟩ := bcell hb6; have hz6 : w.heap.size < w6.heap.size := (by have := hb6.size; first | omega | (simp at this; omega)); have hy6 : w2.heap.size < w6.heap.size := (by have := hb6.size; first | omega | (simp at this; omega)))
    | (go_at_call 31; refine (trim_r _ _).mono ?_; rintro e w' ⟨rfl, rfl⟩)
    | (go_at_call 30; refine (atoi_num _ hw1 _ (by repeat (first | exact E6.out | refine Env.drew ?_ | refine Env.alloc ?_ _ | refine Env.set ?_ _ _ _ hroom))).mono ?_; rintro e w7 ⟨ev7, rfl, hb7⟩; have F7x := five_b hb7 F6 (by first | omega | (simp; omega) | (simp; done)); have G7x := five_b hb7 G6 (by first | omega | (simp; omega) | (simp; done)); have F7 := five_set2 (.int .i64 (numV (trimR (cutA (cutB (cutB s)))))) F7x; have G7 := five_oth (q := 2) (.int .i64 (numV (trimR (cutA (cutB (cutB s)))))) G7x hne2; have E7 := Lib.hid (Env.of' hb7 (by repeat (first | exact E6.out | refine Env.drew ?_ | refine Env.alloc ?_ _ | refine Env.set ?_ _ _ _ hroom))); obtain ⟨hc7, hf7⟩ := bcell hb7; have hz7 : w.heap.size < w7.heap.size := (by have := hb7.size; first | omega | (simp at this; omega)); have hy7 : w2.heap.size < w7.heap.size := (by have := hb7.size; first | omega | (simp at this; omega))))
  rw [rounds_succ]
  go_wp2_with (go_at_call 26; refine (has_any _ _ _ (by omega) (by omega)).mono ?_; rintro e w' ⟨rfl, rfl⟩)
  rw [rounds_succ]
  go_wp2_with (first
    | (go_at_call 26; refine (has_any _ _ _ (by omega) (by omega)).mono ?_; rintro e w' ⟨rfl, rfl⟩)
    | (go_at_call 28; refine (cut_sp _ _ (by repeat (first | exact E7.out | refine Env.drew ?_ | refine Env.alloc ?_ _ | refine Env.set ?_ _ _ _ hroom)) hr2).mono ?_; rintro e w8 ⟨rfl, hb8⟩; have F8 := five_b hb8 F7 (by first | omega | (simp; omega) | (simp; done)); have G8 := five_b hb8 G7 (by first | omega | (simp; omega) | (simp; done)); have E8 := Lib.hid (Env.of' hb8 (by repeat (first | exact E7.out | refine Env.drew ?_ | refine Env.alloc ?_ _ | refine Env.set ?_ _ _ _ hroom))); obtain ⟨hc8, hf8⟩ := bcell hb8; have hz8 : w.heap.size < w8.heap.size := (by have := hb8.size; first | omega | (simp at this; omega)); have hy8 : w2.heap.size < w8.heap.size := (by have := hb8.size; first | omega | (simp at this; omega)))
    | (go_at_call 31; refine (trim_r _ _).mono ?_; rintro e w' ⟨rfl, rfl⟩)
    | (go_at_call 30; refine (atoi_num _ hw2 _ (by repeat (first | exact E8.out | refine Env.drew ?_ | refine Env.alloc ?_ _ | refine Env.set ?_ _ _ _ hroom))).mono ?_; rintro e w9 ⟨ev9, rfl, hb9⟩; have F9x := five_b hb9 F8 (by first | omega | (simp; omega) | (simp; done)); have G9x := five_b hb9 G8 (by first | omega | (simp; omega) | (simp; done)); have F9 := five_set4 (.int .i64 (numV (trimR (cutA (cutB (cutB (cutB s))))))) F9x; have G9 := five_oth (q := 4) (.int .i64 (numV (trimR (cutA (cutB (cutB (cutB s))))))) G9x hne2; have E9 := Lib.hid (Env.of' hb9 (by repeat (first | exact E8.out | refine Env.drew ?_ | refine Env.alloc ?_ _ | refine Env.set ?_ _ _ _ hroom))); obtain ⟨hc9, hf9⟩ := bcell hb9; have hz9 : w.heap.size < w9.heap.size := (by have := hb9.size; first | omega | (simp at this; omega)); have hy9 : w2.heap.size < w9.heap.size := (by have := hb9.size; first | omega | (simp at this; omega))))
  rw [rounds_succ]
  go_wp2_with (go_at_call 8; refine (text_is _ (by repeat (first | exact E9.out | refine Env.drew ?_ | refine Env.alloc ?_ _ | refine Env.set ?_ _ _ _ hroom)) HM.out).mono ?_; rintro e w20 ⟨rfl, hb20⟩; have F20 := five_b hb20 F9 (by first | omega | (simp; omega) | (simp; done)); have G20 := five_b hb20 G9 (by first | omega | (simp; omega) | (simp; done)); obtain ⟨hc20, hf20⟩ := bcell hb20; have hz20 : w.heap.size < w20.heap.size := (by have := hb20.size; first | omega | (simp at this; omega)))
  obtain ⟨g0, g1, g2, g3, g4⟩ := G20
  refine bodyPost_ret (v := .tuple #[.agg #[.int .i64 op, .int .i64 (numV (trimR (cutA (cutB s)))), .int .i64 (numV (trimR (cutA (cutB (cutB s))))), .int .i64 0, .int .i64 (numV (trimR (cutA (cutB (cutB (cutB s))))))], .int .i64 0]) (by simp [results, Tryz.results9, go_sem, g0, g1, g2, g3, g4]) rfl ⟨rfl, ?_⟩
  repeat (first | exact Below.refl _ _ | refine Bl.set ?_ _ _ | refine Bl.setq ?_ _ _ _ hle2 | refine Bl.drew ?_ | refine Bl.drewN ?_ _ | refine Bl.alloc ?_ _ | refine Bl.step ?_ (by assumption))

set_option maxHeartbeats 1600000 in
set_option maxRecDepth 100000 in
theorem parse_6m (s : ByteArray) (hs : s.size ≤ 4000) (op : Int) (w : World) (he : Env w) (hop : namedV (cutA s) = op) (hf : formOf op = 6) (hm : mayB op (numV (trimR (cutA (cutB s)))) (numV (trimR (cutA (cutB (cutB s))))) 0 (numV (trimR (cutA (cutB (cutB (cutB s)))))) = false) :
    Calls Tryz.prog 9 #[.string s] w fun e w' => e = .returned (.tuple #[.agg #[.int .i64 0, .int .i64 0, .int .i64 0, .int .i64 0, .int .i64 0], .int .i64 4]) ∧ Below w.heap.size w w' := by
  have HF := Lib.hid hf
  have HE := Lib.hid he
  have HO := Lib.hid hop
  have HM := Lib.hid hm
  clear hf he hop hm
  have hr0 : (cutB s).size ≤ 4000 := by have := cutB_size s; omega
  have hr1 : (cutB (cutB s)).size ≤ 4000 := by have := cutB_size (cutB s); omega
  have hr2 : (cutB (cutB (cutB s))).size ≤ 4000 := by have := cutB_size (cutB (cutB s)); omega
  have hw0 : (trimR (cutA (cutB s))).size ≤ 4000 := by have := trimR_size (cutA (cutB s)); have := cutA_size (cutB s); omega
  have hw1 : (trimR (cutA (cutB (cutB s)))).size ≤ 4000 := by have := trimR_size (cutA (cutB (cutB s))); have := cutA_size (cutB (cutB s)); omega
  have hw2 : (trimR (cutA (cutB (cutB (cutB s))))).size ≤ 4000 := by have := trimR_size (cutA (cutB (cutB (cutB s)))); have := cutA_size (cutB (cutB (cutB s))); omega
  have e0 : hasOf (setOf 6) 0 = true := rfl
  have e1 : hasOf (setOf 6) 1 = true := rfl
  have e2 : hasOf (setOf 6) 2 = false := rfl
  have e3 : hasOf (setOf 6) 3 = true := rfl
  go_enter Tryz.func9, Tryz.ntmps9
  go_wp2_with (first
    | (go_at_call 28; refine (cut_sp _ _ (by repeat (first | exact HE.out | refine Env.drew ?_ | refine Env.alloc ?_ _)) hs).mono ?_; rintro e w1 ⟨rfl, hb1⟩; have G1 := slot5 hb1; obtain ⟨hc1, hf1⟩ := bcell hb1; have hz1 : w.heap.size < w1.heap.size := by have := hb1.size; simp at this; omega)
    | (go_at_call 29; refine (named_any _ _).mono ?_; rw [HO.out]; rintro e w2 ⟨rfl, hb2⟩; have G2 := five_b hb2 G1 hz1; obtain ⟨hc2, hf2⟩ := bcell hb2; have hz2 : w.heap.size < w2.heap.size := by have := hb2.size; omega)
    | (go_at_call 24; refine (form_any _ _).mono ?_; rw [HF.out]; rintro e w3 ⟨rfl, rfl⟩)
    | (go_at_call 23; refine (names_any _ _).mono ?_; rintro e w3 ⟨rfl, rfl⟩)
    | (go_at_call 25; refine (numbers_any _ _).mono ?_; rintro e w3 ⟨rfl, rfl⟩))
  have hle2 : w.heap.size ≤ w2.heap.size := by omega
  have hz2a : w.heap.size < w2.heap.size + 1 := by omega
  have hz2b : w.heap.size < w2.heap.size + 1 + 1 := by omega
  have hne2 : w.heap.size ≠ w2.heap.size := by omega
  have F3 : (((w2.alloc (.cells #[.int .i64 op, .int .i64 0, .int .i64 0, .int .i64 0, .int .i64 0] 31)).alloc (.cells #[.pointer (some ⟨w2.heap.size, 1, none⟩), .pointer (some ⟨w2.heap.size, 2, none⟩), .pointer (some ⟨w2.heap.size, 3, none⟩), .pointer (some ⟨w2.heap.size, 4, none⟩)] 65)).drew).cell? ⟨w2.heap.size, 0, none⟩ = some (.int .i64 op) ∧ (((w2.alloc (.cells #[.int .i64 op, .int .i64 0, .int .i64 0, .int .i64 0, .int .i64 0] 31)).alloc (.cells #[.pointer (some ⟨w2.heap.size, 1, none⟩), .pointer (some ⟨w2.heap.size, 2, none⟩), .pointer (some ⟨w2.heap.size, 3, none⟩), .pointer (some ⟨w2.heap.size, 4, none⟩)] 65)).drew).cell? ⟨w2.heap.size, 1, none⟩ = some (.int .i64 0) ∧ (((w2.alloc (.cells #[.int .i64 op, .int .i64 0, .int .i64 0, .int .i64 0, .int .i64 0] 31)).alloc (.cells #[.pointer (some ⟨w2.heap.size, 1, none⟩), .pointer (some ⟨w2.heap.size, 2, none⟩), .pointer (some ⟨w2.heap.size, 3, none⟩), .pointer (some ⟨w2.heap.size, 4, none⟩)] 65)).drew).cell? ⟨w2.heap.size, 2, none⟩ = some (.int .i64 0) ∧ (((w2.alloc (.cells #[.int .i64 op, .int .i64 0, .int .i64 0, .int .i64 0, .int .i64 0] 31)).alloc (.cells #[.pointer (some ⟨w2.heap.size, 1, none⟩), .pointer (some ⟨w2.heap.size, 2, none⟩), .pointer (some ⟨w2.heap.size, 3, none⟩), .pointer (some ⟨w2.heap.size, 4, none⟩)] 65)).drew).cell? ⟨w2.heap.size, 3, none⟩ = some (.int .i64 0) ∧ (((w2.alloc (.cells #[.int .i64 op, .int .i64 0, .int .i64 0, .int .i64 0, .int .i64 0] 31)).alloc (.cells #[.pointer (some ⟨w2.heap.size, 1, none⟩), .pointer (some ⟨w2.heap.size, 2, none⟩), .pointer (some ⟨w2.heap.size, 3, none⟩), .pointer (some ⟨w2.heap.size, 4, none⟩)] 65)).drew).cell? ⟨w2.heap.size, 4, none⟩ = some (.int .i64 0) := ⟨by simp, by simp, by simp, by simp, by simp⟩
  have G3 := five_b (Bl.drew (Bl.alloc (Bl.alloc (Below.refl w2.heap.size w2) (.cells #[.int .i64 op, .int .i64 0, .int .i64 0, .int .i64 0, .int .i64 0] 31)) (.cells #[.pointer (some ⟨w2.heap.size, 1, none⟩), .pointer (some ⟨w2.heap.size, 2, none⟩), .pointer (some ⟨w2.heap.size, 3, none⟩), .pointer (some ⟨w2.heap.size, 4, none⟩)] 65))) G2 hz2
  have E2 := Lib.hid (Env.of' hb2 (Env.of' hb1 (HE.out.alloc _)))
  have hroom : 6 ≤ w2.heap.size := E2.out.room
  have i0 := idx4_0 (.pointer (some ⟨w2.heap.size, 1, none⟩)) (.pointer (some ⟨w2.heap.size, 2, none⟩)) (.pointer (some ⟨w2.heap.size, 3, none⟩)) (.pointer (some ⟨w2.heap.size, 4, none⟩))
  have i1 := idx4_1 (.pointer (some ⟨w2.heap.size, 1, none⟩)) (.pointer (some ⟨w2.heap.size, 2, none⟩)) (.pointer (some ⟨w2.heap.size, 3, none⟩)) (.pointer (some ⟨w2.heap.size, 4, none⟩))
  have i2 := idx4_2 (.pointer (some ⟨w2.heap.size, 1, none⟩)) (.pointer (some ⟨w2.heap.size, 2, none⟩)) (.pointer (some ⟨w2.heap.size, 3, none⟩)) (.pointer (some ⟨w2.heap.size, 4, none⟩))
  have i3 := idx4_3 (.pointer (some ⟨w2.heap.size, 1, none⟩)) (.pointer (some ⟨w2.heap.size, 2, none⟩)) (.pointer (some ⟨w2.heap.size, 3, none⟩)) (.pointer (some ⟨w2.heap.size, 4, none⟩))
  refine wp_loop_rounds 5 ?_
  rw [rounds_succ]
  go_wp2_with (first
    | (go_at_call 26; refine (has_any _ _ _ (by omega) (by omega)).mono ?_; rintro e w' ⟨rfl, rfl⟩)
    | (go_at_call 28; refine (cut_sp _ _ (by repeat (first | exact E2.out | refine Env.drew ?_ | refine Env.alloc ?_ _ | refine Env.set ?_ _ _ _ hroom)) hr0).mono ?_; rintro e w4 ⟨rfl, hb4⟩; have F4 := five_b hb4 F3 (by first | omega | (simp; omega) | (simp; done)); have G4 := five_b hb4 G3 (by first | omega | (simp; omega) | (simp; done)); have E4 := Lib.hid (Env.of' hb4 (by repeat (first | exact E2.out | refine Env.drew ?_ | refine Env.alloc ?_ _ | refine Env.set ?_ _ _ _ hroom))); obtain ⟨hc4, hf4⟩ := bcell hb4; have hz4 : w.heap.size < w4.heap.size := (by have := hb4.size; first | omega | (simp at this; omega)); have hy4 : w2.heap.size < w4.heap.size := (by have := hb4.size; first | omega | (simp at this; omega)))
    | (go_at_call 31; refine (trim_r _ _).mono ?_; rintro e w' ⟨rfl, rfl⟩)
    | (go_at_call 30; refine (atoi_num _ hw0 _ (by repeat (first | exact E4.out | refine Env.drew ?_ | refine Env.alloc ?_ _ | refine Env.set ?_ _ _ _ hroom))).mono ?_; rintro e w5 ⟨ev5, rfl, hb5⟩; have F5x := five_b hb5 F4 (by first | omega | (simp; omega) | (simp; done)); have G5x := five_b hb5 G4 (by first | omega | (simp; omega) | (simp; done)); have F5 := five_set1 (.int .i64 (numV (trimR (cutA (cutB s))))) F5x; have G5 := five_oth (q := 1) (.int .i64 (numV (trimR (cutA (cutB s))))) G5x hne2; have E5 := Lib.hid (Env.of' hb5 (by repeat (first | exact E4.out | refine Env.drew ?_ | refine Env.alloc ?_ _ | refine Env.set ?_ _ _ _ hroom))); obtain ⟨hc5, hf5⟩ := bcell hb5; have hz5 : w.heap.size < w5.heap.size := (by have := hb5.size; first | omega | (simp at this; omega)); have hy5 : w2.heap.size < w5.heap.size := (by have := hb5.size; first | omega | (simp at this; omega))))
  rw [rounds_succ]
  go_wp2_with (first
    | (go_at_call 26; refine (has_any _ _ _ (by omega) (by omega)).mono ?_; rintro e w' ⟨rfl, rfl⟩)
    | (go_at_call 28; refine (cut_sp _ _ (by repeat (first | exact E5.out | refine Env.drew ?_ | refine Env.alloc ?_ _ | refine Env.set ?_ _ _ _ hroom)) hr1).mono ?_; rintro e w6 ⟨rfl, hb6⟩; have F6 := five_b hb6 F5 (by first | omega | (simp; omega) | (simp; done)); have G6 := five_b hb6 G5 (by first | omega | (simp; omega) | (simp; done)); have E6 := Lib.hid (Env.of' hb6 (by repeat (first | exact E5.out | refine Env.drew ?_ | refine Env.alloc ?_ _ | refine Env.set ?_ _ _ _ hroom))); obtain ⟨hc6, hf6⟩ := bcell hb6; have hz6 : w.heap.size < w6.heap.size := (by have := hb6.size; first | omega | (simp at this; omega)); have hy6 : w2.heap.size < w6.heap.size := (by have := hb6.size; first | omega | (simp at this; omega)))
    | (go_at_call 31; refine (trim_r _ _).mono ?_; rintro e w' ⟨rfl, rfl⟩)
    | (go_at_call 30; refine (atoi_num _ hw1 _ (by repeat (first | exact E6.out | refine Env.drew ?_ | refine Env.alloc ?_ _ | refine Env.set ?_ _ _ _ hroom))).mono ?_; rintro e w7 ⟨ev7, rfl, hb7⟩; have F7x := five_b hb7 F6 (by first | omega | (simp; omega) | (simp; done)); have G7x := five_b hb7 G6 (by first | omega | (simp; omega) | (simp; done)); have F7 := five_set2 (.int .i64 (numV (trimR (cutA (cutB (cutB s)))))) F7x; have G7 := five_oth (q := 2) (.int .i64 (numV (trimR (cutA (cutB (cutB s)))))) G7x hne2; have E7 := Lib.hid (Env.of' hb7 (by repeat (first | exact E6.out | refine Env.drew ?_ | refine Env.alloc ?_ _ | refine Env.set ?_ _ _ _ hroom))); obtain ⟨hc7, hf7⟩ := bcell hb7; have hz7 : w.heap.size < w7.heap.size := (by have := hb7.size; first | omega | (simp at this; omega)); have hy7 : w2.heap.size < w7.heap.size := (by have := hb7.size; first | omega | (simp at this; omega))))
  rw [rounds_succ]
  go_wp2_with (go_at_call 26; refine (has_any _ _ _ (by omega) (by omega)).mono ?_; rintro e w' ⟨rfl, rfl⟩)
  rw [rounds_succ]
  go_wp2_with (first
    | (go_at_call 26; refine (has_any _ _ _ (by omega) (by omega)).mono ?_; rintro e w' ⟨rfl, rfl⟩)
    | (go_at_call 28; refine (cut_sp _ _ (by repeat (first | exact E7.out | refine Env.drew ?_ | refine Env.alloc ?_ _ | refine Env.set ?_ _ _ _ hroom)) hr2).mono ?_; rintro e w8 ⟨rfl, hb8⟩; have F8 := five_b hb8 F7 (by first | omega | (simp; omega) | (simp; done)); have G8 := five_b hb8 G7 (by first | omega | (simp; omega) | (simp; done)); have E8 := Lib.hid (Env.of' hb8 (by repeat (first | exact E7.out | refine Env.drew ?_ | refine Env.alloc ?_ _ | refine Env.set ?_ _ _ _ hroom))); obtain ⟨hc8, hf8⟩ := bcell hb8; have hz8 : w.heap.size < w8.heap.size := (by have := hb8.size; first | omega | (simp at this; omega)); have hy8 : w2.heap.size < w8.heap.size := (by have := hb8.size; first | omega | (simp at this; omega)))
    | (go_at_call 31; refine (trim_r _ _).mono ?_; rintro e w' ⟨rfl, rfl⟩)
    | (go_at_call 30; refine (atoi_num _ hw2 _ (by repeat (first | exact E8.out | refine Env.drew ?_ | refine Env.alloc ?_ _ | refine Env.set ?_ _ _ _ hroom))).mono ?_; rintro e w9 ⟨ev9, rfl, hb9⟩; have F9x := five_b hb9 F8 (by first | omega | (simp; omega) | (simp; done)); have G9x := five_b hb9 G8 (by first | omega | (simp; omega) | (simp; done)); have F9 := five_set4 (.int .i64 (numV (trimR (cutA (cutB (cutB (cutB s))))))) F9x; have G9 := five_oth (q := 4) (.int .i64 (numV (trimR (cutA (cutB (cutB (cutB s))))))) G9x hne2; have E9 := Lib.hid (Env.of' hb9 (by repeat (first | exact E8.out | refine Env.drew ?_ | refine Env.alloc ?_ _ | refine Env.set ?_ _ _ _ hroom))); obtain ⟨hc9, hf9⟩ := bcell hb9; have hz9 : w.heap.size < w9.heap.size := (by have := hb9.size; first | omega | (simp at this; omega)); have hy9 : w2.heap.size < w9.heap.size := (by have := hb9.size; first | omega | (simp at this; omega))))
  rw [rounds_succ]
  go_wp2_with (go_at_call 8; refine (text_not _ HM.out).mono ?_; rintro e w20 ⟨rfl, hb20⟩; have F20 := five_b hb20 F9 (by first | omega | (simp; omega) | (simp; done)); have G20 := five_b hb20 G9 (by first | omega | (simp; omega) | (simp; done)); obtain ⟨hc20, hf20⟩ := bcell hb20; have hz20 : w.heap.size < w20.heap.size := (by have := hb20.size; first | omega | (simp at this; omega)))
  obtain ⟨g0, g1, g2, g3, g4⟩ := G20
  refine bodyPost_ret (v := .tuple #[.agg #[.int .i64 0, .int .i64 0, .int .i64 0, .int .i64 0, .int .i64 0], .int .i64 4]) (by simp [results, Tryz.results9, go_sem, g0, g1, g2, g3, g4]) rfl ⟨rfl, ?_⟩
  repeat (first | exact Below.refl _ _ | refine Bl.set ?_ _ _ | refine Bl.setq ?_ _ _ _ hle2 | refine Bl.drew ?_ | refine Bl.drewN ?_ _ | refine Bl.alloc ?_ _ | refine Bl.step ?_ (by assumption))

set_option maxHeartbeats 1600000 in
set_option maxRecDepth 100000 in
theorem parse_6w (s : ByteArray) (hs : s.size ≤ 4000) (op : Int) (w : World) (he : Env w) (hop : namedV (cutA s) = op) (hf : formOf op = 6) (hm : mayB op (numV (trimR (cutA (cutB s)))) (numV (trimR (cutA (cutB (cutB s))))) 0 (numV (trimR (cutA (cutB (cutB (cutB s)))))) = true) (ht : ((textOf op (numV (trimR (cutA (cutB s)))) (numV (trimR (cutA (cutB (cutB s))))) 0 (numV (trimR (cutA (cutB (cutB (cutB s))))))).toList == s.toList) = false) :
    Calls Tryz.prog 9 #[.string s] w fun e w' => e = .returned (.tuple #[.agg #[.int .i64 0, .int .i64 0, .int .i64 0, .int .i64 0, .int .i64 0], .int .i64 4]) ∧ Below w.heap.size w w' := by
  have HF := Lib.hid hf
  have HE := Lib.hid he
  have HO := Lib.hid hop
  have HM := Lib.hid hm
  clear hf he hop hm
  have hr0 : (cutB s).size ≤ 4000 := by have := cutB_size s; omega
  have hr1 : (cutB (cutB s)).size ≤ 4000 := by have := cutB_size (cutB s); omega
  have hr2 : (cutB (cutB (cutB s))).size ≤ 4000 := by have := cutB_size (cutB (cutB s)); omega
  have hw0 : (trimR (cutA (cutB s))).size ≤ 4000 := by have := trimR_size (cutA (cutB s)); have := cutA_size (cutB s); omega
  have hw1 : (trimR (cutA (cutB (cutB s)))).size ≤ 4000 := by have := trimR_size (cutA (cutB (cutB s))); have := cutA_size (cutB (cutB s)); omega
  have hw2 : (trimR (cutA (cutB (cutB (cutB s))))).size ≤ 4000 := by have := trimR_size (cutA (cutB (cutB (cutB s)))); have := cutA_size (cutB (cutB (cutB s))); omega
  have e0 : hasOf (setOf 6) 0 = true := rfl
  have e1 : hasOf (setOf 6) 1 = true := rfl
  have e2 : hasOf (setOf 6) 2 = false := rfl
  have e3 : hasOf (setOf 6) 3 = true := rfl
  go_enter Tryz.func9, Tryz.ntmps9
  go_wp2_with (first
    | (go_at_call 28; refine (cut_sp _ _ (by repeat (first | exact HE.out | refine Env.drew ?_ | refine Env.alloc ?_ _)) hs).mono ?_; rintro e w1 ⟨rfl, hb1⟩; have G1 := slot5 hb1; obtain ⟨hc1, hf1⟩ := bcell hb1; have hz1 : w.heap.size < w1.heap.size := by have := hb1.size; simp at this; omega)
    | (go_at_call 29; refine (named_any _ _).mono ?_; rw [HO.out]; rintro e w2 ⟨rfl, hb2⟩; have G2 := five_b hb2 G1 hz1; obtain ⟨hc2, hf2⟩ := bcell hb2; have hz2 : w.heap.size < w2.heap.size := by have := hb2.size; omega)
    | (go_at_call 24; refine (form_any _ _).mono ?_; rw [HF.out]; rintro e w3 ⟨rfl, rfl⟩)
    | (go_at_call 23; refine (names_any _ _).mono ?_; rintro e w3 ⟨rfl, rfl⟩)
    | (go_at_call 25; refine (numbers_any _ _).mono ?_; rintro e w3 ⟨rfl, rfl⟩))
  have hle2 : w.heap.size ≤ w2.heap.size := by omega
  have hz2a : w.heap.size < w2.heap.size + 1 := by omega
  have hz2b : w.heap.size < w2.heap.size + 1 + 1 := by omega
  have hne2 : w.heap.size ≠ w2.heap.size := by omega
  have F3 : (((w2.alloc (.cells #[.int .i64 op, .int .i64 0, .int .i64 0, .int .i64 0, .int .i64 0] 31)).alloc (.cells #[.pointer (some ⟨w2.heap.size, 1, none⟩), .pointer (some ⟨w2.heap.size, 2, none⟩), .pointer (some ⟨w2.heap.size, 3, none⟩), .pointer (some ⟨w2.heap.size, 4, none⟩)] 65)).drew).cell? ⟨w2.heap.size, 0, none⟩ = some (.int .i64 op) ∧ (((w2.alloc (.cells #[.int .i64 op, .int .i64 0, .int .i64 0, .int .i64 0, .int .i64 0] 31)).alloc (.cells #[.pointer (some ⟨w2.heap.size, 1, none⟩), .pointer (some ⟨w2.heap.size, 2, none⟩), .pointer (some ⟨w2.heap.size, 3, none⟩), .pointer (some ⟨w2.heap.size, 4, none⟩)] 65)).drew).cell? ⟨w2.heap.size, 1, none⟩ = some (.int .i64 0) ∧ (((w2.alloc (.cells #[.int .i64 op, .int .i64 0, .int .i64 0, .int .i64 0, .int .i64 0] 31)).alloc (.cells #[.pointer (some ⟨w2.heap.size, 1, none⟩), .pointer (some ⟨w2.heap.size, 2, none⟩), .pointer (some ⟨w2.heap.size, 3, none⟩), .pointer (some ⟨w2.heap.size, 4, none⟩)] 65)).drew).cell? ⟨w2.heap.size, 2, none⟩ = some (.int .i64 0) ∧ (((w2.alloc (.cells #[.int .i64 op, .int .i64 0, .int .i64 0, .int .i64 0, .int .i64 0] 31)).alloc (.cells #[.pointer (some ⟨w2.heap.size, 1, none⟩), .pointer (some ⟨w2.heap.size, 2, none⟩), .pointer (some ⟨w2.heap.size, 3, none⟩), .pointer (some ⟨w2.heap.size, 4, none⟩)] 65)).drew).cell? ⟨w2.heap.size, 3, none⟩ = some (.int .i64 0) ∧ (((w2.alloc (.cells #[.int .i64 op, .int .i64 0, .int .i64 0, .int .i64 0, .int .i64 0] 31)).alloc (.cells #[.pointer (some ⟨w2.heap.size, 1, none⟩), .pointer (some ⟨w2.heap.size, 2, none⟩), .pointer (some ⟨w2.heap.size, 3, none⟩), .pointer (some ⟨w2.heap.size, 4, none⟩)] 65)).drew).cell? ⟨w2.heap.size, 4, none⟩ = some (.int .i64 0) := ⟨by simp, by simp, by simp, by simp, by simp⟩
  have G3 := five_b (Bl.drew (Bl.alloc (Bl.alloc (Below.refl w2.heap.size w2) (.cells #[.int .i64 op, .int .i64 0, .int .i64 0, .int .i64 0, .int .i64 0] 31)) (.cells #[.pointer (some ⟨w2.heap.size, 1, none⟩), .pointer (some ⟨w2.heap.size, 2, none⟩), .pointer (some ⟨w2.heap.size, 3, none⟩), .pointer (some ⟨w2.heap.size, 4, none⟩)] 65))) G2 hz2
  have E2 := Lib.hid (Env.of' hb2 (Env.of' hb1 (HE.out.alloc _)))
  have hroom : 6 ≤ w2.heap.size := E2.out.room
  have i0 := idx4_0 (.pointer (some ⟨w2.heap.size, 1, none⟩)) (.pointer (some ⟨w2.heap.size, 2, none⟩)) (.pointer (some ⟨w2.heap.size, 3, none⟩)) (.pointer (some ⟨w2.heap.size, 4, none⟩))
  have i1 := idx4_1 (.pointer (some ⟨w2.heap.size, 1, none⟩)) (.pointer (some ⟨w2.heap.size, 2, none⟩)) (.pointer (some ⟨w2.heap.size, 3, none⟩)) (.pointer (some ⟨w2.heap.size, 4, none⟩))
  have i2 := idx4_2 (.pointer (some ⟨w2.heap.size, 1, none⟩)) (.pointer (some ⟨w2.heap.size, 2, none⟩)) (.pointer (some ⟨w2.heap.size, 3, none⟩)) (.pointer (some ⟨w2.heap.size, 4, none⟩))
  have i3 := idx4_3 (.pointer (some ⟨w2.heap.size, 1, none⟩)) (.pointer (some ⟨w2.heap.size, 2, none⟩)) (.pointer (some ⟨w2.heap.size, 3, none⟩)) (.pointer (some ⟨w2.heap.size, 4, none⟩))
  refine wp_loop_rounds 5 ?_
  rw [rounds_succ]
  go_wp2_with (first
    | (go_at_call 26; refine (has_any _ _ _ (by omega) (by omega)).mono ?_; rintro e w' ⟨rfl, rfl⟩)
    | (go_at_call 28; refine (cut_sp _ _ (by repeat (first | exact E2.out | refine Env.drew ?_ | refine Env.alloc ?_ _ | refine Env.set ?_ _ _ _ hroom)) hr0).mono ?_; rintro e w4 ⟨rfl, hb4⟩; have F4 := five_b hb4 F3 (by first | omega | (simp; omega) | (simp; done)); have G4 := five_b hb4 G3 (by first | omega | (simp; omega) | (simp; done)); have E4 := Lib.hid (Env.of' hb4 (by repeat (first | exact E2.out | refine Env.drew ?_ | refine Env.alloc ?_ _ | refine Env.set ?_ _ _ _ hroom))); obtain ⟨hc4, hf4⟩ := bcell hb4; have hz4 : w.heap.size < w4.heap.size := (by have := hb4.size; first | omega | (simp at this; omega)); have hy4 : w2.heap.size < w4.heap.size := (by have := hb4.size; first | omega | (simp at this; omega)))
    | (go_at_call 31; refine (trim_r _ _).mono ?_; rintro e w' ⟨rfl, rfl⟩)
    | (go_at_call 30; refine (atoi_num _ hw0 _ (by repeat (first | exact E4.out | refine Env.drew ?_ | refine Env.alloc ?_ _ | refine Env.set ?_ _ _ _ hroom))).mono ?_; rintro e w5 ⟨ev5, rfl, hb5⟩; have F5x := five_b hb5 F4 (by first | omega | (simp; omega) | (simp; done)); have G5x := five_b hb5 G4 (by first | omega | (simp; omega) | (simp; done)); have F5 := five_set1 (.int .i64 (numV (trimR (cutA (cutB s))))) F5x; have G5 := five_oth (q := 1) (.int .i64 (numV (trimR (cutA (cutB s))))) G5x hne2; have E5 := Lib.hid (Env.of' hb5 (by repeat (first | exact E4.out | refine Env.drew ?_ | refine Env.alloc ?_ _ | refine Env.set ?_ _ _ _ hroom))); obtain ⟨hc5, hf5⟩ := bcell hb5; have hz5 : w.heap.size < w5.heap.size := (by have := hb5.size; first | omega | (simp at this; omega)); have hy5 : w2.heap.size < w5.heap.size := (by have := hb5.size; first | omega | (simp at this; omega))))
  rw [rounds_succ]
  go_wp2_with (first
    | (go_at_call 26; refine (has_any _ _ _ (by omega) (by omega)).mono ?_; rintro e w' ⟨rfl, rfl⟩)
    | (go_at_call 28; refine (cut_sp _ _ (by repeat (first | exact E5.out | refine Env.drew ?_ | refine Env.alloc ?_ _ | refine Env.set ?_ _ _ _ hroom)) hr1).mono ?_; rintro e w6 ⟨rfl, hb6⟩; have F6 := five_b hb6 F5 (by first | omega | (simp; omega) | (simp; done)); have G6 := five_b hb6 G5 (by first | omega | (simp; omega) | (simp; done)); have E6 := Lib.hid (Env.of' hb6 (by repeat (first | exact E5.out | refine Env.drew ?_ | refine Env.alloc ?_ _ | refine Env.set ?_ _ _ _ hroom))); obtain ⟨hc6, hf6⟩ := bcell hb6; have hz6 : w.heap.size < w6.heap.size := (by have := hb6.size; first | omega | (simp at this; omega)); have hy6 : w2.heap.size < w6.heap.size := (by have := hb6.size; first | omega | (simp at this; omega)))
    | (go_at_call 31; refine (trim_r _ _).mono ?_; rintro e w' ⟨rfl, rfl⟩)
    | (go_at_call 30; refine (atoi_num _ hw1 _ (by repeat (first | exact E6.out | refine Env.drew ?_ | refine Env.alloc ?_ _ | refine Env.set ?_ _ _ _ hroom))).mono ?_; rintro e w7 ⟨ev7, rfl, hb7⟩; have F7x := five_b hb7 F6 (by first | omega | (simp; omega) | (simp; done)); have G7x := five_b hb7 G6 (by first | omega | (simp; omega) | (simp; done)); have F7 := five_set2 (.int .i64 (numV (trimR (cutA (cutB (cutB s)))))) F7x; have G7 := five_oth (q := 2) (.int .i64 (numV (trimR (cutA (cutB (cutB s)))))) G7x hne2; have E7 := Lib.hid (Env.of' hb7 (by repeat (first | exact E6.out | refine Env.drew ?_ | refine Env.alloc ?_ _ | refine Env.set ?_ _ _ _ hroom))); obtain ⟨hc7, hf7⟩ := bcell hb7; have hz7 : w.heap.size < w7.heap.size := (by have := hb7.size; first | omega | (simp at this; omega)); have hy7 : w2.heap.size < w7.heap.size := (by have := hb7.size; first | omega | (simp at this; omega))))
  rw [rounds_succ]
  go_wp2_with (go_at_call 26; refine (has_any _ _ _ (by omega) (by omega)).mono ?_; rintro e w' ⟨rfl, rfl⟩)
  rw [rounds_succ]
  go_wp2_with (first
    | (go_at_call 26; refine (has_any _ _ _ (by omega) (by omega)).mono ?_; rintro e w' ⟨rfl, rfl⟩)
    | (go_at_call 28; refine (cut_sp _ _ (by repeat (first | exact E7.out | refine Env.drew ?_ | refine Env.alloc ?_ _ | refine Env.set ?_ _ _ _ hroom)) hr2).mono ?_; rintro e w8 ⟨rfl, hb8⟩; have F8 := five_b hb8 F7 (by first | omega | (simp; omega) | (simp; done)); have G8 := five_b hb8 G7 (by first | omega | (simp; omega) | (simp; done)); have E8 := Lib.hid (Env.of' hb8 (by repeat (first | exact E7.out | refine Env.drew ?_ | refine Env.alloc ?_ _ | refine Env.set ?_ _ _ _ hroom))); obtain ⟨hc8, hf8⟩ := bcell hb8; have hz8 : w.heap.size < w8.heap.size := (by have := hb8.size; first | omega | (simp at this; omega)); have hy8 : w2.heap.size < w8.heap.size := (by have := hb8.size; first | omega | (simp at this; omega)))
    | (go_at_call 31; refine (trim_r _ _).mono ?_; rintro e w' ⟨rfl, rfl⟩)
    | (go_at_call 30; refine (atoi_num _ hw2 _ (by repeat (first | exact E8.out | refine Env.drew ?_ | refine Env.alloc ?_ _ | refine Env.set ?_ _ _ _ hroom))).mono ?_; rintro e w9 ⟨ev9, rfl, hb9⟩; have F9x := five_b hb9 F8 (by first | omega | (simp; omega) | (simp; done)); have G9x := five_b hb9 G8 (by first | omega | (simp; omega) | (simp; done)); have F9 := five_set4 (.int .i64 (numV (trimR (cutA (cutB (cutB (cutB s))))))) F9x; have G9 := five_oth (q := 4) (.int .i64 (numV (trimR (cutA (cutB (cutB (cutB s))))))) G9x hne2; have E9 := Lib.hid (Env.of' hb9 (by repeat (first | exact E8.out | refine Env.drew ?_ | refine Env.alloc ?_ _ | refine Env.set ?_ _ _ _ hroom))); obtain ⟨hc9, hf9⟩ := bcell hb9; have hz9 : w.heap.size < w9.heap.size := (by have := hb9.size; first | omega | (simp at this; omega)); have hy9 : w2.heap.size < w9.heap.size := (by have := hb9.size; first | omega | (simp at this; omega))))
  rw [rounds_succ]
  go_wp2_with (go_at_call 8; refine (text_is _ (by repeat (first | exact E9.out | refine Env.drew ?_ | refine Env.alloc ?_ _ | refine Env.set ?_ _ _ _ hroom)) HM.out).mono ?_; rintro e w20 ⟨rfl, hb20⟩; have F20 := five_b hb20 F9 (by first | omega | (simp; omega) | (simp; done)); have G20 := five_b hb20 G9 (by first | omega | (simp; omega) | (simp; done)); obtain ⟨hc20, hf20⟩ := bcell hb20; have hz20 : w.heap.size < w20.heap.size := (by have := hb20.size; first | omega | (simp at this; omega)))
  obtain ⟨g0, g1, g2, g3, g4⟩ := G20
  refine bodyPost_ret (v := .tuple #[.agg #[.int .i64 0, .int .i64 0, .int .i64 0, .int .i64 0, .int .i64 0], .int .i64 4]) (by simp [results, Tryz.results9, go_sem, g0, g1, g2, g3, g4]) rfl ⟨rfl, ?_⟩
  repeat (first | exact Below.refl _ _ | refine Bl.set ?_ _ _ | refine Bl.setq ?_ _ _ _ hle2 | refine Bl.drew ?_ | refine Bl.drewN ?_ _ | refine Bl.alloc ?_ _ | refine Bl.step ?_ (by assumption))

end Go.Proofs.YtnkkomodpjgefaaGreatDoor
