/- Contracts of the document's reading of a word, the rest of the forms. -/
import Derived.Test.YtnkkomodpjgefaaGreatDoorIsaE0
namespace Go.Proofs.YtnkkomodpjgefaaGreatDoor
open Go.RowKit

set_option maxHeartbeats 800000 in
set_option maxRecDepth 100000 in
theorem rof_3by (v : Int) (w : World) (h0 : 0 ≤ v) (h1 : v < 4294967296) (hf : formOf (v % 256) = 3) (ha : (v % 256 != 3) = true) (ha' : (v % 256 != 6) = true) (hi : 32767 < v / 65536) (hm : mayB (v % 256) (v / 4096 % 16) 0 0 (v / 65536 - 65536) = true) (hw : (wordOf (v % 256) (v / 4096 % 16) 0 0 (v / 65536 - 65536) != v) = false) :
    Calls Tryz.prog 37 #[.int .u32 v] w fun e w' => e = .returned (.tuple #[.agg #[.int .i64 (v % 256), .int .i64 (v / 4096 % 16), .int .i64 0, .int .i64 0, .int .i64 (v / 65536 - 65536)], .int .i64 0]) ∧ Below w.heap.size w w' := by
  have HF := Lib.hid hf
  have HM := Lib.hid hm
  clear hf hm
  have eD : nmD 3 = true := rfl
  have eA : nmA 3 = false := rfl
  have eB : nmB 3 = false := rfl
  have eM : nmM 3 = true := rfl
  have x0 := and255 v (by omega) (by omega)
  have x1 := and15 (v / 4096) (by omega) (by omega)
  have x2 := and15 (v / 256) (by omega) (by omega)
  have x3 := and255 (v / 65536) (by omega) (by omega)
  go_enter Tryz.func37, Tryz.ntmps37
  go_wp2_with (first
    | (go_at_call 50; refine (rform_any _ _).mono ?_; rw [HF.out]; rintro e w1 ⟨rfl, rfl⟩)
    | (go_at_call 49; refine (rnames_any _ _).mono ?_; rintro e w1 ⟨rfl, rfl⟩)
    | (go_at_call 51; refine (rmay_is HM.out _).mono ?_; rintro e w2 ⟨rfl, hb2⟩; obtain ⟨hc2, hf2⟩ := bcell hb2; have hz2 : w.heap.size + 1 < w2.heap.size := (by have := hb2.size; simp at this; omega); have hz3 : w.heap.size < w2.heap.size := by omega)
    | (go_at_call 52; refine (rword_at HM.out _).mono ?_; rintro e w3 ⟨rfl, hb3⟩; obtain ⟨hc3, hf3⟩ := bcell hb3))
  obtain ⟨c0, c1, c2, c3, c4⟩ := slot5 (Bl.step (Bl.step (Bl.alloc (Below.refl _ _) _) hb2) hb3)
  refine bodyPost_ret (v := .tuple #[.agg #[.int .i64 (v % 256), .int .i64 (v / 4096 % 16), .int .i64 0, .int .i64 0, .int .i64 (v / 65536 - 65536)], .int .i64 0]) (by simp [results, Tryz.results37, go_sem, c0, c1, c2, c3, c4]) rfl ⟨rfl, ?_⟩
  repeat (first | exact Below.refl _ _ | refine Bl.set ?_ _ _ | refine Bl.drew ?_ | refine Bl.drewN ?_ _ | refine Bl.alloc ?_ _ | refine Bl.step ?_ (by assumption))

set_option maxHeartbeats 800000 in
set_option maxRecDepth 100000 in
theorem rof_3bm (v : Int) (w : World) (h0 : 0 ≤ v) (h1 : v < 4294967296) (hf : formOf (v % 256) = 3) (ha : (v % 256 != 3) = true) (ha' : (v % 256 != 6) = true) (hi : 32767 < v / 65536) (hm : mayB (v % 256) (v / 4096 % 16) 0 0 (v / 65536 - 65536) = false) :
    Calls Tryz.prog 37 #[.int .u32 v] w fun e w' => e = .returned (.tuple #[.agg #[.int .i64 0, .int .i64 0, .int .i64 0, .int .i64 0, .int .i64 0], .int .i64 4]) ∧ Below w.heap.size w w' := by
  have HF := Lib.hid hf
  have HM := Lib.hid hm
  clear hf hm
  have eD : nmD 3 = true := rfl
  have eA : nmA 3 = false := rfl
  have eB : nmB 3 = false := rfl
  have eM : nmM 3 = true := rfl
  have x0 := and255 v (by omega) (by omega)
  have x1 := and15 (v / 4096) (by omega) (by omega)
  have x2 := and15 (v / 256) (by omega) (by omega)
  have x3 := and255 (v / 65536) (by omega) (by omega)
  go_enter Tryz.func37, Tryz.ntmps37
  go_wp2_with (first
    | (go_at_call 50; refine (rform_any _ _).mono ?_; rw [HF.out]; rintro e w1 ⟨rfl, rfl⟩)
    | (go_at_call 49; refine (rnames_any _ _).mono ?_; rintro e w1 ⟨rfl, rfl⟩)
    | (go_at_call 51; refine (rmay_not HM.out _).mono ?_; rintro e w2 ⟨rfl, hb2⟩; obtain ⟨hc2, hf2⟩ := bcell hb2; have hz2 : w.heap.size + 1 < w2.heap.size := (by have := hb2.size; simp at this; omega); have hz3 : w.heap.size < w2.heap.size := by omega)
    | (go_at_call 52; refine (rword_at HM.out _).mono ?_; rintro e w3 ⟨rfl, hb3⟩; obtain ⟨hc3, hf3⟩ := bcell hb3))
  obtain ⟨c0, c1, c2, c3, c4⟩ := slot5 (Bl.step (Bl.alloc (Below.refl _ _) _) hb2)
  refine bodyPost_ret (v := .tuple #[.agg #[.int .i64 0, .int .i64 0, .int .i64 0, .int .i64 0, .int .i64 0], .int .i64 4]) (by simp [results, Tryz.results37, go_sem, c0, c1, c2, c3, c4]) rfl ⟨rfl, ?_⟩
  repeat (first | exact Below.refl _ _ | refine Bl.set ?_ _ _ | refine Bl.drew ?_ | refine Bl.drewN ?_ _ | refine Bl.alloc ?_ _ | refine Bl.step ?_ (by assumption))

set_option maxHeartbeats 800000 in
set_option maxRecDepth 100000 in
theorem rof_3bw (v : Int) (w : World) (h0 : 0 ≤ v) (h1 : v < 4294967296) (hf : formOf (v % 256) = 3) (ha : (v % 256 != 3) = true) (ha' : (v % 256 != 6) = true) (hi : 32767 < v / 65536) (hm : mayB (v % 256) (v / 4096 % 16) 0 0 (v / 65536 - 65536) = true) (hw : (wordOf (v % 256) (v / 4096 % 16) 0 0 (v / 65536 - 65536) != v) = true) :
    Calls Tryz.prog 37 #[.int .u32 v] w fun e w' => e = .returned (.tuple #[.agg #[.int .i64 0, .int .i64 0, .int .i64 0, .int .i64 0, .int .i64 0], .int .i64 4]) ∧ Below w.heap.size w w' := by
  have HF := Lib.hid hf
  have HM := Lib.hid hm
  clear hf hm
  have eD : nmD 3 = true := rfl
  have eA : nmA 3 = false := rfl
  have eB : nmB 3 = false := rfl
  have eM : nmM 3 = true := rfl
  have x0 := and255 v (by omega) (by omega)
  have x1 := and15 (v / 4096) (by omega) (by omega)
  have x2 := and15 (v / 256) (by omega) (by omega)
  have x3 := and255 (v / 65536) (by omega) (by omega)
  go_enter Tryz.func37, Tryz.ntmps37
  go_wp2_with (first
    | (go_at_call 50; refine (rform_any _ _).mono ?_; rw [HF.out]; rintro e w1 ⟨rfl, rfl⟩)
    | (go_at_call 49; refine (rnames_any _ _).mono ?_; rintro e w1 ⟨rfl, rfl⟩)
    | (go_at_call 51; refine (rmay_is HM.out _).mono ?_; rintro e w2 ⟨rfl, hb2⟩; obtain ⟨hc2, hf2⟩ := bcell hb2; have hz2 : w.heap.size + 1 < w2.heap.size := (by have := hb2.size; simp at this; omega); have hz3 : w.heap.size < w2.heap.size := by omega)
    | (go_at_call 52; refine (rword_at HM.out _).mono ?_; rintro e w3 ⟨rfl, hb3⟩; obtain ⟨hc3, hf3⟩ := bcell hb3))
  obtain ⟨c0, c1, c2, c3, c4⟩ := slot5 (Bl.step (Bl.step (Bl.alloc (Below.refl _ _) _) hb2) hb3)
  refine bodyPost_ret (v := .tuple #[.agg #[.int .i64 0, .int .i64 0, .int .i64 0, .int .i64 0, .int .i64 0], .int .i64 4]) (by simp [results, Tryz.results37, go_sem, c0, c1, c2, c3, c4]) rfl ⟨rfl, ?_⟩
  repeat (first | exact Below.refl _ _ | refine Bl.set ?_ _ _ | refine Bl.drew ?_ | refine Bl.drewN ?_ _ | refine Bl.alloc ?_ _ | refine Bl.step ?_ (by assumption))

set_option maxHeartbeats 800000 in
set_option maxRecDepth 100000 in
theorem rof_3cy (v : Int) (w : World) (h0 : 0 ≤ v) (h1 : v < 4294967296) (hf : formOf (v % 256) = 3) (ha : (v % 256 != 3) = true) (ha' : (v % 256 != 6) = true) (hi : v / 65536 ≤ 32767) (hm : mayB (v % 256) (v / 4096 % 16) 0 0 (v / 65536) = true) (hw : (wordOf (v % 256) (v / 4096 % 16) 0 0 (v / 65536) != v) = false) :
    Calls Tryz.prog 37 #[.int .u32 v] w fun e w' => e = .returned (.tuple #[.agg #[.int .i64 (v % 256), .int .i64 (v / 4096 % 16), .int .i64 0, .int .i64 0, .int .i64 (v / 65536)], .int .i64 0]) ∧ Below w.heap.size w w' := by
  have HF := Lib.hid hf
  have HM := Lib.hid hm
  clear hf hm
  have eD : nmD 3 = true := rfl
  have eA : nmA 3 = false := rfl
  have eB : nmB 3 = false := rfl
  have eM : nmM 3 = true := rfl
  have x0 := and255 v (by omega) (by omega)
  have x1 := and15 (v / 4096) (by omega) (by omega)
  have x2 := and15 (v / 256) (by omega) (by omega)
  have x3 := and255 (v / 65536) (by omega) (by omega)
  go_enter Tryz.func37, Tryz.ntmps37
  go_wp2_with (first
    | (go_at_call 50; refine (rform_any _ _).mono ?_; rw [HF.out]; rintro e w1 ⟨rfl, rfl⟩)
    | (go_at_call 49; refine (rnames_any _ _).mono ?_; rintro e w1 ⟨rfl, rfl⟩)
    | (go_at_call 51; refine (rmay_is HM.out _).mono ?_; rintro e w2 ⟨rfl, hb2⟩; obtain ⟨hc2, hf2⟩ := bcell hb2; have hz2 : w.heap.size + 1 < w2.heap.size := (by have := hb2.size; simp at this; omega); have hz3 : w.heap.size < w2.heap.size := by omega)
    | (go_at_call 52; refine (rword_at HM.out _).mono ?_; rintro e w3 ⟨rfl, hb3⟩; obtain ⟨hc3, hf3⟩ := bcell hb3))
  obtain ⟨c0, c1, c2, c3, c4⟩ := slot5 (Bl.step (Bl.step (Bl.alloc (Below.refl _ _) _) hb2) hb3)
  refine bodyPost_ret (v := .tuple #[.agg #[.int .i64 (v % 256), .int .i64 (v / 4096 % 16), .int .i64 0, .int .i64 0, .int .i64 (v / 65536)], .int .i64 0]) (by simp [results, Tryz.results37, go_sem, c0, c1, c2, c3, c4]) rfl ⟨rfl, ?_⟩
  repeat (first | exact Below.refl _ _ | refine Bl.set ?_ _ _ | refine Bl.drew ?_ | refine Bl.drewN ?_ _ | refine Bl.alloc ?_ _ | refine Bl.step ?_ (by assumption))

set_option maxHeartbeats 800000 in
set_option maxRecDepth 100000 in
theorem rof_3cm (v : Int) (w : World) (h0 : 0 ≤ v) (h1 : v < 4294967296) (hf : formOf (v % 256) = 3) (ha : (v % 256 != 3) = true) (ha' : (v % 256 != 6) = true) (hi : v / 65536 ≤ 32767) (hm : mayB (v % 256) (v / 4096 % 16) 0 0 (v / 65536) = false) :
    Calls Tryz.prog 37 #[.int .u32 v] w fun e w' => e = .returned (.tuple #[.agg #[.int .i64 0, .int .i64 0, .int .i64 0, .int .i64 0, .int .i64 0], .int .i64 4]) ∧ Below w.heap.size w w' := by
  have HF := Lib.hid hf
  have HM := Lib.hid hm
  clear hf hm
  have eD : nmD 3 = true := rfl
  have eA : nmA 3 = false := rfl
  have eB : nmB 3 = false := rfl
  have eM : nmM 3 = true := rfl
  have x0 := and255 v (by omega) (by omega)
  have x1 := and15 (v / 4096) (by omega) (by omega)
  have x2 := and15 (v / 256) (by omega) (by omega)
  have x3 := and255 (v / 65536) (by omega) (by omega)
  go_enter Tryz.func37, Tryz.ntmps37
  go_wp2_with (first
    | (go_at_call 50; refine (rform_any _ _).mono ?_; rw [HF.out]; rintro e w1 ⟨rfl, rfl⟩)
    | (go_at_call 49; refine (rnames_any _ _).mono ?_; rintro e w1 ⟨rfl, rfl⟩)
    | (go_at_call 51; refine (rmay_not HM.out _).mono ?_; rintro e w2 ⟨rfl, hb2⟩; obtain ⟨hc2, hf2⟩ := bcell hb2; have hz2 : w.heap.size + 1 < w2.heap.size := (by have := hb2.size; simp at this; omega); have hz3 : w.heap.size < w2.heap.size := by omega)
    | (go_at_call 52; refine (rword_at HM.out _).mono ?_; rintro e w3 ⟨rfl, hb3⟩; obtain ⟨hc3, hf3⟩ := bcell hb3))
  obtain ⟨c0, c1, c2, c3, c4⟩ := slot5 (Bl.step (Bl.alloc (Below.refl _ _) _) hb2)
  refine bodyPost_ret (v := .tuple #[.agg #[.int .i64 0, .int .i64 0, .int .i64 0, .int .i64 0, .int .i64 0], .int .i64 4]) (by simp [results, Tryz.results37, go_sem, c0, c1, c2, c3, c4]) rfl ⟨rfl, ?_⟩
  repeat (first | exact Below.refl _ _ | refine Bl.set ?_ _ _ | refine Bl.drew ?_ | refine Bl.drewN ?_ _ | refine Bl.alloc ?_ _ | refine Bl.step ?_ (by assumption))

set_option maxHeartbeats 800000 in
set_option maxRecDepth 100000 in
theorem rof_3cw (v : Int) (w : World) (h0 : 0 ≤ v) (h1 : v < 4294967296) (hf : formOf (v % 256) = 3) (ha : (v % 256 != 3) = true) (ha' : (v % 256 != 6) = true) (hi : v / 65536 ≤ 32767) (hm : mayB (v % 256) (v / 4096 % 16) 0 0 (v / 65536) = true) (hw : (wordOf (v % 256) (v / 4096 % 16) 0 0 (v / 65536) != v) = true) :
    Calls Tryz.prog 37 #[.int .u32 v] w fun e w' => e = .returned (.tuple #[.agg #[.int .i64 0, .int .i64 0, .int .i64 0, .int .i64 0, .int .i64 0], .int .i64 4]) ∧ Below w.heap.size w w' := by
  have HF := Lib.hid hf
  have HM := Lib.hid hm
  clear hf hm
  have eD : nmD 3 = true := rfl
  have eA : nmA 3 = false := rfl
  have eB : nmB 3 = false := rfl
  have eM : nmM 3 = true := rfl
  have x0 := and255 v (by omega) (by omega)
  have x1 := and15 (v / 4096) (by omega) (by omega)
  have x2 := and15 (v / 256) (by omega) (by omega)
  have x3 := and255 (v / 65536) (by omega) (by omega)
  go_enter Tryz.func37, Tryz.ntmps37
  go_wp2_with (first
    | (go_at_call 50; refine (rform_any _ _).mono ?_; rw [HF.out]; rintro e w1 ⟨rfl, rfl⟩)
    | (go_at_call 49; refine (rnames_any _ _).mono ?_; rintro e w1 ⟨rfl, rfl⟩)
    | (go_at_call 51; refine (rmay_is HM.out _).mono ?_; rintro e w2 ⟨rfl, hb2⟩; obtain ⟨hc2, hf2⟩ := bcell hb2; have hz2 : w.heap.size + 1 < w2.heap.size := (by have := hb2.size; simp at this; omega); have hz3 : w.heap.size < w2.heap.size := by omega)
    | (go_at_call 52; refine (rword_at HM.out _).mono ?_; rintro e w3 ⟨rfl, hb3⟩; obtain ⟨hc3, hf3⟩ := bcell hb3))
  obtain ⟨c0, c1, c2, c3, c4⟩ := slot5 (Bl.step (Bl.step (Bl.alloc (Below.refl _ _) _) hb2) hb3)
  refine bodyPost_ret (v := .tuple #[.agg #[.int .i64 0, .int .i64 0, .int .i64 0, .int .i64 0, .int .i64 0], .int .i64 4]) (by simp [results, Tryz.results37, go_sem, c0, c1, c2, c3, c4]) rfl ⟨rfl, ?_⟩
  repeat (first | exact Below.refl _ _ | refine Bl.set ?_ _ _ | refine Bl.drew ?_ | refine Bl.drewN ?_ _ | refine Bl.alloc ?_ _ | refine Bl.step ?_ (by assumption))

set_option maxHeartbeats 800000 in
set_option maxRecDepth 100000 in
theorem rof_4y (v : Int) (w : World) (h0 : 0 ≤ v) (h1 : v < 4294967296) (hf : formOf (v % 256) = 4) (hm : mayB (v % 256) (v / 4096 % 16) (v / 256 % 16) 0 0 = true) (hw : (wordOf (v % 256) (v / 4096 % 16) (v / 256 % 16) 0 0 != v) = false) :
    Calls Tryz.prog 37 #[.int .u32 v] w fun e w' => e = .returned (.tuple #[.agg #[.int .i64 (v % 256), .int .i64 (v / 4096 % 16), .int .i64 (v / 256 % 16), .int .i64 0, .int .i64 0], .int .i64 0]) ∧ Below w.heap.size w w' := by
  have HF := Lib.hid hf
  have HM := Lib.hid hm
  clear hf hm
  have eD : nmD 4 = true := rfl
  have eA : nmA 4 = true := rfl
  have eB : nmB 4 = false := rfl
  have eM : nmM 4 = false := rfl
  have x0 := and255 v (by omega) (by omega)
  have x1 := and15 (v / 4096) (by omega) (by omega)
  have x2 := and15 (v / 256) (by omega) (by omega)
  have x3 := and255 (v / 65536) (by omega) (by omega)
  go_enter Tryz.func37, Tryz.ntmps37
  go_wp2_with (first
    | (go_at_call 50; refine (rform_any _ _).mono ?_; rw [HF.out]; rintro e w1 ⟨rfl, rfl⟩)
    | (go_at_call 49; refine (rnames_any _ _).mono ?_; rintro e w1 ⟨rfl, rfl⟩)
    | (go_at_call 51; refine (rmay_is HM.out _).mono ?_; rintro e w2 ⟨rfl, hb2⟩; obtain ⟨hc2, hf2⟩ := bcell hb2; have hz2 : w.heap.size + 1 < w2.heap.size := (by have := hb2.size; simp at this; omega); have hz3 : w.heap.size < w2.heap.size := by omega)
    | (go_at_call 52; refine (rword_at HM.out _).mono ?_; rintro e w3 ⟨rfl, hb3⟩; obtain ⟨hc3, hf3⟩ := bcell hb3))
  obtain ⟨c0, c1, c2, c3, c4⟩ := slot5 (Bl.step (Bl.step (Bl.alloc (Below.refl _ _) _) hb2) hb3)
  refine bodyPost_ret (v := .tuple #[.agg #[.int .i64 (v % 256), .int .i64 (v / 4096 % 16), .int .i64 (v / 256 % 16), .int .i64 0, .int .i64 0], .int .i64 0]) (by simp [results, Tryz.results37, go_sem, c0, c1, c2, c3, c4]) rfl ⟨rfl, ?_⟩
  repeat (first | exact Below.refl _ _ | refine Bl.set ?_ _ _ | refine Bl.drew ?_ | refine Bl.drewN ?_ _ | refine Bl.alloc ?_ _ | refine Bl.step ?_ (by assumption))

set_option maxHeartbeats 800000 in
set_option maxRecDepth 100000 in
theorem rof_4m (v : Int) (w : World) (h0 : 0 ≤ v) (h1 : v < 4294967296) (hf : formOf (v % 256) = 4) (hm : mayB (v % 256) (v / 4096 % 16) (v / 256 % 16) 0 0 = false) :
    Calls Tryz.prog 37 #[.int .u32 v] w fun e w' => e = .returned (.tuple #[.agg #[.int .i64 0, .int .i64 0, .int .i64 0, .int .i64 0, .int .i64 0], .int .i64 4]) ∧ Below w.heap.size w w' := by
  have HF := Lib.hid hf
  have HM := Lib.hid hm
  clear hf hm
  have eD : nmD 4 = true := rfl
  have eA : nmA 4 = true := rfl
  have eB : nmB 4 = false := rfl
  have eM : nmM 4 = false := rfl
  have x0 := and255 v (by omega) (by omega)
  have x1 := and15 (v / 4096) (by omega) (by omega)
  have x2 := and15 (v / 256) (by omega) (by omega)
  have x3 := and255 (v / 65536) (by omega) (by omega)
  go_enter Tryz.func37, Tryz.ntmps37
  go_wp2_with (first
    | (go_at_call 50; refine (rform_any _ _).mono ?_; rw [HF.out]; rintro e w1 ⟨rfl, rfl⟩)
    | (go_at_call 49; refine (rnames_any _ _).mono ?_; rintro e w1 ⟨rfl, rfl⟩)
    | (go_at_call 51; refine (rmay_not HM.out _).mono ?_; rintro e w2 ⟨rfl, hb2⟩; obtain ⟨hc2, hf2⟩ := bcell hb2; have hz2 : w.heap.size + 1 < w2.heap.size := (by have := hb2.size; simp at this; omega); have hz3 : w.heap.size < w2.heap.size := by omega)
    | (go_at_call 52; refine (rword_at HM.out _).mono ?_; rintro e w3 ⟨rfl, hb3⟩; obtain ⟨hc3, hf3⟩ := bcell hb3))
  obtain ⟨c0, c1, c2, c3, c4⟩ := slot5 (Bl.step (Bl.alloc (Below.refl _ _) _) hb2)
  refine bodyPost_ret (v := .tuple #[.agg #[.int .i64 0, .int .i64 0, .int .i64 0, .int .i64 0, .int .i64 0], .int .i64 4]) (by simp [results, Tryz.results37, go_sem, c0, c1, c2, c3, c4]) rfl ⟨rfl, ?_⟩
  repeat (first | exact Below.refl _ _ | refine Bl.set ?_ _ _ | refine Bl.drew ?_ | refine Bl.drewN ?_ _ | refine Bl.alloc ?_ _ | refine Bl.step ?_ (by assumption))

set_option maxHeartbeats 800000 in
set_option maxRecDepth 100000 in
theorem rof_4w (v : Int) (w : World) (h0 : 0 ≤ v) (h1 : v < 4294967296) (hf : formOf (v % 256) = 4) (hm : mayB (v % 256) (v / 4096 % 16) (v / 256 % 16) 0 0 = true) (hw : (wordOf (v % 256) (v / 4096 % 16) (v / 256 % 16) 0 0 != v) = true) :
    Calls Tryz.prog 37 #[.int .u32 v] w fun e w' => e = .returned (.tuple #[.agg #[.int .i64 0, .int .i64 0, .int .i64 0, .int .i64 0, .int .i64 0], .int .i64 4]) ∧ Below w.heap.size w w' := by
  have HF := Lib.hid hf
  have HM := Lib.hid hm
  clear hf hm
  have eD : nmD 4 = true := rfl
  have eA : nmA 4 = true := rfl
  have eB : nmB 4 = false := rfl
  have eM : nmM 4 = false := rfl
  have x0 := and255 v (by omega) (by omega)
  have x1 := and15 (v / 4096) (by omega) (by omega)
  have x2 := and15 (v / 256) (by omega) (by omega)
  have x3 := and255 (v / 65536) (by omega) (by omega)
  go_enter Tryz.func37, Tryz.ntmps37
  go_wp2_with (first
    | (go_at_call 50; refine (rform_any _ _).mono ?_; rw [HF.out]; rintro e w1 ⟨rfl, rfl⟩)
    | (go_at_call 49; refine (rnames_any _ _).mono ?_; rintro e w1 ⟨rfl, rfl⟩)
    | (go_at_call 51; refine (rmay_is HM.out _).mono ?_; rintro e w2 ⟨rfl, hb2⟩; obtain ⟨hc2, hf2⟩ := bcell hb2; have hz2 : w.heap.size + 1 < w2.heap.size := (by have := hb2.size; simp at this; omega); have hz3 : w.heap.size < w2.heap.size := by omega)
    | (go_at_call 52; refine (rword_at HM.out _).mono ?_; rintro e w3 ⟨rfl, hb3⟩; obtain ⟨hc3, hf3⟩ := bcell hb3))
  obtain ⟨c0, c1, c2, c3, c4⟩ := slot5 (Bl.step (Bl.step (Bl.alloc (Below.refl _ _) _) hb2) hb3)
  refine bodyPost_ret (v := .tuple #[.agg #[.int .i64 0, .int .i64 0, .int .i64 0, .int .i64 0, .int .i64 0], .int .i64 4]) (by simp [results, Tryz.results37, go_sem, c0, c1, c2, c3, c4]) rfl ⟨rfl, ?_⟩
  repeat (first | exact Below.refl _ _ | refine Bl.set ?_ _ _ | refine Bl.drew ?_ | refine Bl.drewN ?_ _ | refine Bl.alloc ?_ _ | refine Bl.step ?_ (by assumption))

set_option maxHeartbeats 800000 in
set_option maxRecDepth 100000 in
theorem rof_5y (v : Int) (w : World) (h0 : 0 ≤ v) (h1 : v < 4294967296) (hf : formOf (v % 256) = 5) (hm : mayB (v % 256) (v / 4096 % 16) (v / 256 % 16) (v / 65536 % 256) 0 = true) (hw : (wordOf (v % 256) (v / 4096 % 16) (v / 256 % 16) (v / 65536 % 256) 0 != v) = false) :
    Calls Tryz.prog 37 #[.int .u32 v] w fun e w' => e = .returned (.tuple #[.agg #[.int .i64 (v % 256), .int .i64 (v / 4096 % 16), .int .i64 (v / 256 % 16), .int .i64 (v / 65536 % 256), .int .i64 0], .int .i64 0]) ∧ Below w.heap.size w w' := by
  have HF := Lib.hid hf
  have HM := Lib.hid hm
  clear hf hm
  have eD : nmD 5 = true := rfl
  have eA : nmA 5 = true := rfl
  have eB : nmB 5 = true := rfl
  have eM : nmM 5 = false := rfl
  have x0 := and255 v (by omega) (by omega)
  have x1 := and15 (v / 4096) (by omega) (by omega)
  have x2 := and15 (v / 256) (by omega) (by omega)
  have x3 := and255 (v / 65536) (by omega) (by omega)
  go_enter Tryz.func37, Tryz.ntmps37
  go_wp2_with (first
    | (go_at_call 50; refine (rform_any _ _).mono ?_; rw [HF.out]; rintro e w1 ⟨rfl, rfl⟩)
    | (go_at_call 49; refine (rnames_any _ _).mono ?_; rintro e w1 ⟨rfl, rfl⟩)
    | (go_at_call 51; refine (rmay_is HM.out _).mono ?_; rintro e w2 ⟨rfl, hb2⟩; obtain ⟨hc2, hf2⟩ := bcell hb2; have hz2 : w.heap.size + 1 < w2.heap.size := (by have := hb2.size; simp at this; omega); have hz3 : w.heap.size < w2.heap.size := by omega)
    | (go_at_call 52; refine (rword_at HM.out _).mono ?_; rintro e w3 ⟨rfl, hb3⟩; obtain ⟨hc3, hf3⟩ := bcell hb3))
  obtain ⟨c0, c1, c2, c3, c4⟩ := slot5 (Bl.step (Bl.step (Bl.alloc (Below.refl _ _) _) hb2) hb3)
  refine bodyPost_ret (v := .tuple #[.agg #[.int .i64 (v % 256), .int .i64 (v / 4096 % 16), .int .i64 (v / 256 % 16), .int .i64 (v / 65536 % 256), .int .i64 0], .int .i64 0]) (by simp [results, Tryz.results37, go_sem, c0, c1, c2, c3, c4]) rfl ⟨rfl, ?_⟩
  repeat (first | exact Below.refl _ _ | refine Bl.set ?_ _ _ | refine Bl.drew ?_ | refine Bl.drewN ?_ _ | refine Bl.alloc ?_ _ | refine Bl.step ?_ (by assumption))

set_option maxHeartbeats 800000 in
set_option maxRecDepth 100000 in
theorem rof_5m (v : Int) (w : World) (h0 : 0 ≤ v) (h1 : v < 4294967296) (hf : formOf (v % 256) = 5) (hm : mayB (v % 256) (v / 4096 % 16) (v / 256 % 16) (v / 65536 % 256) 0 = false) :
    Calls Tryz.prog 37 #[.int .u32 v] w fun e w' => e = .returned (.tuple #[.agg #[.int .i64 0, .int .i64 0, .int .i64 0, .int .i64 0, .int .i64 0], .int .i64 4]) ∧ Below w.heap.size w w' := by
  have HF := Lib.hid hf
  have HM := Lib.hid hm
  clear hf hm
  have eD : nmD 5 = true := rfl
  have eA : nmA 5 = true := rfl
  have eB : nmB 5 = true := rfl
  have eM : nmM 5 = false := rfl
  have x0 := and255 v (by omega) (by omega)
  have x1 := and15 (v / 4096) (by omega) (by omega)
  have x2 := and15 (v / 256) (by omega) (by omega)
  have x3 := and255 (v / 65536) (by omega) (by omega)
  go_enter Tryz.func37, Tryz.ntmps37
  go_wp2_with (first
    | (go_at_call 50; refine (rform_any _ _).mono ?_; rw [HF.out]; rintro e w1 ⟨rfl, rfl⟩)
    | (go_at_call 49; refine (rnames_any _ _).mono ?_; rintro e w1 ⟨rfl, rfl⟩)
    | (go_at_call 51; refine (rmay_not HM.out _).mono ?_; rintro e w2 ⟨rfl, hb2⟩; obtain ⟨hc2, hf2⟩ := bcell hb2; have hz2 : w.heap.size + 1 < w2.heap.size := (by have := hb2.size; simp at this; omega); have hz3 : w.heap.size < w2.heap.size := by omega)
    | (go_at_call 52; refine (rword_at HM.out _).mono ?_; rintro e w3 ⟨rfl, hb3⟩; obtain ⟨hc3, hf3⟩ := bcell hb3))
  obtain ⟨c0, c1, c2, c3, c4⟩ := slot5 (Bl.step (Bl.alloc (Below.refl _ _) _) hb2)
  refine bodyPost_ret (v := .tuple #[.agg #[.int .i64 0, .int .i64 0, .int .i64 0, .int .i64 0, .int .i64 0], .int .i64 4]) (by simp [results, Tryz.results37, go_sem, c0, c1, c2, c3, c4]) rfl ⟨rfl, ?_⟩
  repeat (first | exact Below.refl _ _ | refine Bl.set ?_ _ _ | refine Bl.drew ?_ | refine Bl.drewN ?_ _ | refine Bl.alloc ?_ _ | refine Bl.step ?_ (by assumption))

set_option maxHeartbeats 800000 in
set_option maxRecDepth 100000 in
theorem rof_5w (v : Int) (w : World) (h0 : 0 ≤ v) (h1 : v < 4294967296) (hf : formOf (v % 256) = 5) (hm : mayB (v % 256) (v / 4096 % 16) (v / 256 % 16) (v / 65536 % 256) 0 = true) (hw : (wordOf (v % 256) (v / 4096 % 16) (v / 256 % 16) (v / 65536 % 256) 0 != v) = true) :
    Calls Tryz.prog 37 #[.int .u32 v] w fun e w' => e = .returned (.tuple #[.agg #[.int .i64 0, .int .i64 0, .int .i64 0, .int .i64 0, .int .i64 0], .int .i64 4]) ∧ Below w.heap.size w w' := by
  have HF := Lib.hid hf
  have HM := Lib.hid hm
  clear hf hm
  have eD : nmD 5 = true := rfl
  have eA : nmA 5 = true := rfl
  have eB : nmB 5 = true := rfl
  have eM : nmM 5 = false := rfl
  have x0 := and255 v (by omega) (by omega)
  have x1 := and15 (v / 4096) (by omega) (by omega)
  have x2 := and15 (v / 256) (by omega) (by omega)
  have x3 := and255 (v / 65536) (by omega) (by omega)
  go_enter Tryz.func37, Tryz.ntmps37
  go_wp2_with (first
    | (go_at_call 50; refine (rform_any _ _).mono ?_; rw [HF.out]; rintro e w1 ⟨rfl, rfl⟩)
    | (go_at_call 49; refine (rnames_any _ _).mono ?_; rintro e w1 ⟨rfl, rfl⟩)
    | (go_at_call 51; refine (rmay_is HM.out _).mono ?_; rintro e w2 ⟨rfl, hb2⟩; obtain ⟨hc2, hf2⟩ := bcell hb2; have hz2 : w.heap.size + 1 < w2.heap.size := (by have := hb2.size; simp at this; omega); have hz3 : w.heap.size < w2.heap.size := by omega)
    | (go_at_call 52; refine (rword_at HM.out _).mono ?_; rintro e w3 ⟨rfl, hb3⟩; obtain ⟨hc3, hf3⟩ := bcell hb3))
  obtain ⟨c0, c1, c2, c3, c4⟩ := slot5 (Bl.step (Bl.step (Bl.alloc (Below.refl _ _) _) hb2) hb3)
  refine bodyPost_ret (v := .tuple #[.agg #[.int .i64 0, .int .i64 0, .int .i64 0, .int .i64 0, .int .i64 0], .int .i64 4]) (by simp [results, Tryz.results37, go_sem, c0, c1, c2, c3, c4]) rfl ⟨rfl, ?_⟩
  repeat (first | exact Below.refl _ _ | refine Bl.set ?_ _ _ | refine Bl.drew ?_ | refine Bl.drewN ?_ _ | refine Bl.alloc ?_ _ | refine Bl.step ?_ (by assumption))

set_option maxHeartbeats 800000 in
set_option maxRecDepth 100000 in
theorem rof_6by (v : Int) (w : World) (h0 : 0 ≤ v) (h1 : v < 4294967296) (hf : formOf (v % 256) = 6) (ha : (v % 256 != 3) = true) (ha' : (v % 256 != 6) = true) (hi : 32767 < v / 65536) (hm : mayB (v % 256) (v / 4096 % 16) (v / 256 % 16) 0 (v / 65536 - 65536) = true) (hw : (wordOf (v % 256) (v / 4096 % 16) (v / 256 % 16) 0 (v / 65536 - 65536) != v) = false) :
    Calls Tryz.prog 37 #[.int .u32 v] w fun e w' => e = .returned (.tuple #[.agg #[.int .i64 (v % 256), .int .i64 (v / 4096 % 16), .int .i64 (v / 256 % 16), .int .i64 0, .int .i64 (v / 65536 - 65536)], .int .i64 0]) ∧ Below w.heap.size w w' := by
  have HF := Lib.hid hf
  have HM := Lib.hid hm
  clear hf hm
  have eD : nmD 6 = true := rfl
  have eA : nmA 6 = true := rfl
  have eB : nmB 6 = false := rfl
  have eM : nmM 6 = true := rfl
  have x0 := and255 v (by omega) (by omega)
  have x1 := and15 (v / 4096) (by omega) (by omega)
  have x2 := and15 (v / 256) (by omega) (by omega)
  have x3 := and255 (v / 65536) (by omega) (by omega)
  go_enter Tryz.func37, Tryz.ntmps37
  go_wp2_with (first
    | (go_at_call 50; refine (rform_any _ _).mono ?_; rw [HF.out]; rintro e w1 ⟨rfl, rfl⟩)
    | (go_at_call 49; refine (rnames_any _ _).mono ?_; rintro e w1 ⟨rfl, rfl⟩)
    | (go_at_call 51; refine (rmay_is HM.out _).mono ?_; rintro e w2 ⟨rfl, hb2⟩; obtain ⟨hc2, hf2⟩ := bcell hb2; have hz2 : w.heap.size + 1 < w2.heap.size := (by have := hb2.size; simp at this; omega); have hz3 : w.heap.size < w2.heap.size := by omega)
    | (go_at_call 52; refine (rword_at HM.out _).mono ?_; rintro e w3 ⟨rfl, hb3⟩; obtain ⟨hc3, hf3⟩ := bcell hb3))
  obtain ⟨c0, c1, c2, c3, c4⟩ := slot5 (Bl.step (Bl.step (Bl.alloc (Below.refl _ _) _) hb2) hb3)
  refine bodyPost_ret (v := .tuple #[.agg #[.int .i64 (v % 256), .int .i64 (v / 4096 % 16), .int .i64 (v / 256 % 16), .int .i64 0, .int .i64 (v / 65536 - 65536)], .int .i64 0]) (by simp [results, Tryz.results37, go_sem, c0, c1, c2, c3, c4]) rfl ⟨rfl, ?_⟩
  repeat (first | exact Below.refl _ _ | refine Bl.set ?_ _ _ | refine Bl.drew ?_ | refine Bl.drewN ?_ _ | refine Bl.alloc ?_ _ | refine Bl.step ?_ (by assumption))

set_option maxHeartbeats 800000 in
set_option maxRecDepth 100000 in
theorem rof_6bm (v : Int) (w : World) (h0 : 0 ≤ v) (h1 : v < 4294967296) (hf : formOf (v % 256) = 6) (ha : (v % 256 != 3) = true) (ha' : (v % 256 != 6) = true) (hi : 32767 < v / 65536) (hm : mayB (v % 256) (v / 4096 % 16) (v / 256 % 16) 0 (v / 65536 - 65536) = false) :
    Calls Tryz.prog 37 #[.int .u32 v] w fun e w' => e = .returned (.tuple #[.agg #[.int .i64 0, .int .i64 0, .int .i64 0, .int .i64 0, .int .i64 0], .int .i64 4]) ∧ Below w.heap.size w w' := by
  have HF := Lib.hid hf
  have HM := Lib.hid hm
  clear hf hm
  have eD : nmD 6 = true := rfl
  have eA : nmA 6 = true := rfl
  have eB : nmB 6 = false := rfl
  have eM : nmM 6 = true := rfl
  have x0 := and255 v (by omega) (by omega)
  have x1 := and15 (v / 4096) (by omega) (by omega)
  have x2 := and15 (v / 256) (by omega) (by omega)
  have x3 := and255 (v / 65536) (by omega) (by omega)
  go_enter Tryz.func37, Tryz.ntmps37
  go_wp2_with (first
    | (go_at_call 50; refine (rform_any _ _).mono ?_; rw [HF.out]; rintro e w1 ⟨rfl, rfl⟩)
    | (go_at_call 49; refine (rnames_any _ _).mono ?_; rintro e w1 ⟨rfl, rfl⟩)
    | (go_at_call 51; refine (rmay_not HM.out _).mono ?_; rintro e w2 ⟨rfl, hb2⟩; obtain ⟨hc2, hf2⟩ := bcell hb2; have hz2 : w.heap.size + 1 < w2.heap.size := (by have := hb2.size; simp at this; omega); have hz3 : w.heap.size < w2.heap.size := by omega)
    | (go_at_call 52; refine (rword_at HM.out _).mono ?_; rintro e w3 ⟨rfl, hb3⟩; obtain ⟨hc3, hf3⟩ := bcell hb3))
  obtain ⟨c0, c1, c2, c3, c4⟩ := slot5 (Bl.step (Bl.alloc (Below.refl _ _) _) hb2)
  refine bodyPost_ret (v := .tuple #[.agg #[.int .i64 0, .int .i64 0, .int .i64 0, .int .i64 0, .int .i64 0], .int .i64 4]) (by simp [results, Tryz.results37, go_sem, c0, c1, c2, c3, c4]) rfl ⟨rfl, ?_⟩
  repeat (first | exact Below.refl _ _ | refine Bl.set ?_ _ _ | refine Bl.drew ?_ | refine Bl.drewN ?_ _ | refine Bl.alloc ?_ _ | refine Bl.step ?_ (by assumption))

set_option maxHeartbeats 800000 in
set_option maxRecDepth 100000 in
theorem rof_6bw (v : Int) (w : World) (h0 : 0 ≤ v) (h1 : v < 4294967296) (hf : formOf (v % 256) = 6) (ha : (v % 256 != 3) = true) (ha' : (v % 256 != 6) = true) (hi : 32767 < v / 65536) (hm : mayB (v % 256) (v / 4096 % 16) (v / 256 % 16) 0 (v / 65536 - 65536) = true) (hw : (wordOf (v % 256) (v / 4096 % 16) (v / 256 % 16) 0 (v / 65536 - 65536) != v) = true) :
    Calls Tryz.prog 37 #[.int .u32 v] w fun e w' => e = .returned (.tuple #[.agg #[.int .i64 0, .int .i64 0, .int .i64 0, .int .i64 0, .int .i64 0], .int .i64 4]) ∧ Below w.heap.size w w' := by
  have HF := Lib.hid hf
  have HM := Lib.hid hm
  clear hf hm
  have eD : nmD 6 = true := rfl
  have eA : nmA 6 = true := rfl
  have eB : nmB 6 = false := rfl
  have eM : nmM 6 = true := rfl
  have x0 := and255 v (by omega) (by omega)
  have x1 := and15 (v / 4096) (by omega) (by omega)
  have x2 := and15 (v / 256) (by omega) (by omega)
  have x3 := and255 (v / 65536) (by omega) (by omega)
  go_enter Tryz.func37, Tryz.ntmps37
  go_wp2_with (first
    | (go_at_call 50; refine (rform_any _ _).mono ?_; rw [HF.out]; rintro e w1 ⟨rfl, rfl⟩)
    | (go_at_call 49; refine (rnames_any _ _).mono ?_; rintro e w1 ⟨rfl, rfl⟩)
    | (go_at_call 51; refine (rmay_is HM.out _).mono ?_; rintro e w2 ⟨rfl, hb2⟩; obtain ⟨hc2, hf2⟩ := bcell hb2; have hz2 : w.heap.size + 1 < w2.heap.size := (by have := hb2.size; simp at this; omega); have hz3 : w.heap.size < w2.heap.size := by omega)
    | (go_at_call 52; refine (rword_at HM.out _).mono ?_; rintro e w3 ⟨rfl, hb3⟩; obtain ⟨hc3, hf3⟩ := bcell hb3))
  obtain ⟨c0, c1, c2, c3, c4⟩ := slot5 (Bl.step (Bl.step (Bl.alloc (Below.refl _ _) _) hb2) hb3)
  refine bodyPost_ret (v := .tuple #[.agg #[.int .i64 0, .int .i64 0, .int .i64 0, .int .i64 0, .int .i64 0], .int .i64 4]) (by simp [results, Tryz.results37, go_sem, c0, c1, c2, c3, c4]) rfl ⟨rfl, ?_⟩
  repeat (first | exact Below.refl _ _ | refine Bl.set ?_ _ _ | refine Bl.drew ?_ | refine Bl.drewN ?_ _ | refine Bl.alloc ?_ _ | refine Bl.step ?_ (by assumption))

set_option maxHeartbeats 800000 in
set_option maxRecDepth 100000 in
theorem rof_6cy (v : Int) (w : World) (h0 : 0 ≤ v) (h1 : v < 4294967296) (hf : formOf (v % 256) = 6) (ha : (v % 256 != 3) = true) (ha' : (v % 256 != 6) = true) (hi : v / 65536 ≤ 32767) (hm : mayB (v % 256) (v / 4096 % 16) (v / 256 % 16) 0 (v / 65536) = true) (hw : (wordOf (v % 256) (v / 4096 % 16) (v / 256 % 16) 0 (v / 65536) != v) = false) :
    Calls Tryz.prog 37 #[.int .u32 v] w fun e w' => e = .returned (.tuple #[.agg #[.int .i64 (v % 256), .int .i64 (v / 4096 % 16), .int .i64 (v / 256 % 16), .int .i64 0, .int .i64 (v / 65536)], .int .i64 0]) ∧ Below w.heap.size w w' := by
  have HF := Lib.hid hf
  have HM := Lib.hid hm
  clear hf hm
  have eD : nmD 6 = true := rfl
  have eA : nmA 6 = true := rfl
  have eB : nmB 6 = false := rfl
  have eM : nmM 6 = true := rfl
  have x0 := and255 v (by omega) (by omega)
  have x1 := and15 (v / 4096) (by omega) (by omega)
  have x2 := and15 (v / 256) (by omega) (by omega)
  have x3 := and255 (v / 65536) (by omega) (by omega)
  go_enter Tryz.func37, Tryz.ntmps37
  go_wp2_with (first
    | (go_at_call 50; refine (rform_any _ _).mono ?_; rw [HF.out]; rintro e w1 ⟨rfl, rfl⟩)
    | (go_at_call 49; refine (rnames_any _ _).mono ?_; rintro e w1 ⟨rfl, rfl⟩)
    | (go_at_call 51; refine (rmay_is HM.out _).mono ?_; rintro e w2 ⟨rfl, hb2⟩; obtain ⟨hc2, hf2⟩ := bcell hb2; have hz2 : w.heap.size + 1 < w2.heap.size := (by have := hb2.size; simp at this; omega); have hz3 : w.heap.size < w2.heap.size := by omega)
    | (go_at_call 52; refine (rword_at HM.out _).mono ?_; rintro e w3 ⟨rfl, hb3⟩; obtain ⟨hc3, hf3⟩ := bcell hb3))
  obtain ⟨c0, c1, c2, c3, c4⟩ := slot5 (Bl.step (Bl.step (Bl.alloc (Below.refl _ _) _) hb2) hb3)
  refine bodyPost_ret (v := .tuple #[.agg #[.int .i64 (v % 256), .int .i64 (v / 4096 % 16), .int .i64 (v / 256 % 16), .int .i64 0, .int .i64 (v / 65536)], .int .i64 0]) (by simp [results, Tryz.results37, go_sem, c0, c1, c2, c3, c4]) rfl ⟨rfl, ?_⟩
  repeat (first | exact Below.refl _ _ | refine Bl.set ?_ _ _ | refine Bl.drew ?_ | refine Bl.drewN ?_ _ | refine Bl.alloc ?_ _ | refine Bl.step ?_ (by assumption))

set_option maxHeartbeats 800000 in
set_option maxRecDepth 100000 in
theorem rof_6cm (v : Int) (w : World) (h0 : 0 ≤ v) (h1 : v < 4294967296) (hf : formOf (v % 256) = 6) (ha : (v % 256 != 3) = true) (ha' : (v % 256 != 6) = true) (hi : v / 65536 ≤ 32767) (hm : mayB (v % 256) (v / 4096 % 16) (v / 256 % 16) 0 (v / 65536) = false) :
    Calls Tryz.prog 37 #[.int .u32 v] w fun e w' => e = .returned (.tuple #[.agg #[.int .i64 0, .int .i64 0, .int .i64 0, .int .i64 0, .int .i64 0], .int .i64 4]) ∧ Below w.heap.size w w' := by
  have HF := Lib.hid hf
  have HM := Lib.hid hm
  clear hf hm
  have eD : nmD 6 = true := rfl
  have eA : nmA 6 = true := rfl
  have eB : nmB 6 = false := rfl
  have eM : nmM 6 = true := rfl
  have x0 := and255 v (by omega) (by omega)
  have x1 := and15 (v / 4096) (by omega) (by omega)
  have x2 := and15 (v / 256) (by omega) (by omega)
  have x3 := and255 (v / 65536) (by omega) (by omega)
  go_enter Tryz.func37, Tryz.ntmps37
  go_wp2_with (first
    | (go_at_call 50; refine (rform_any _ _).mono ?_; rw [HF.out]; rintro e w1 ⟨rfl, rfl⟩)
    | (go_at_call 49; refine (rnames_any _ _).mono ?_; rintro e w1 ⟨rfl, rfl⟩)
    | (go_at_call 51; refine (rmay_not HM.out _).mono ?_; rintro e w2 ⟨rfl, hb2⟩; obtain ⟨hc2, hf2⟩ := bcell hb2; have hz2 : w.heap.size + 1 < w2.heap.size := (by have := hb2.size; simp at this; omega); have hz3 : w.heap.size < w2.heap.size := by omega)
    | (go_at_call 52; refine (rword_at HM.out _).mono ?_; rintro e w3 ⟨rfl, hb3⟩; obtain ⟨hc3, hf3⟩ := bcell hb3))
  obtain ⟨c0, c1, c2, c3, c4⟩ := slot5 (Bl.step (Bl.alloc (Below.refl _ _) _) hb2)
  refine bodyPost_ret (v := .tuple #[.agg #[.int .i64 0, .int .i64 0, .int .i64 0, .int .i64 0, .int .i64 0], .int .i64 4]) (by simp [results, Tryz.results37, go_sem, c0, c1, c2, c3, c4]) rfl ⟨rfl, ?_⟩
  repeat (first | exact Below.refl _ _ | refine Bl.set ?_ _ _ | refine Bl.drew ?_ | refine Bl.drewN ?_ _ | refine Bl.alloc ?_ _ | refine Bl.step ?_ (by assumption))

set_option maxHeartbeats 800000 in
set_option maxRecDepth 100000 in
theorem rof_6cw (v : Int) (w : World) (h0 : 0 ≤ v) (h1 : v < 4294967296) (hf : formOf (v % 256) = 6) (ha : (v % 256 != 3) = true) (ha' : (v % 256 != 6) = true) (hi : v / 65536 ≤ 32767) (hm : mayB (v % 256) (v / 4096 % 16) (v / 256 % 16) 0 (v / 65536) = true) (hw : (wordOf (v % 256) (v / 4096 % 16) (v / 256 % 16) 0 (v / 65536) != v) = true) :
    Calls Tryz.prog 37 #[.int .u32 v] w fun e w' => e = .returned (.tuple #[.agg #[.int .i64 0, .int .i64 0, .int .i64 0, .int .i64 0, .int .i64 0], .int .i64 4]) ∧ Below w.heap.size w w' := by
  have HF := Lib.hid hf
  have HM := Lib.hid hm
  clear hf hm
  have eD : nmD 6 = true := rfl
  have eA : nmA 6 = true := rfl
  have eB : nmB 6 = false := rfl
  have eM : nmM 6 = true := rfl
  have x0 := and255 v (by omega) (by omega)
  have x1 := and15 (v / 4096) (by omega) (by omega)
  have x2 := and15 (v / 256) (by omega) (by omega)
  have x3 := and255 (v / 65536) (by omega) (by omega)
  go_enter Tryz.func37, Tryz.ntmps37
  go_wp2_with (first
    | (go_at_call 50; refine (rform_any _ _).mono ?_; rw [HF.out]; rintro e w1 ⟨rfl, rfl⟩)
    | (go_at_call 49; refine (rnames_any _ _).mono ?_; rintro e w1 ⟨rfl, rfl⟩)
    | (go_at_call 51; refine (rmay_is HM.out _).mono ?_; rintro e w2 ⟨rfl, hb2⟩; obtain ⟨hc2, hf2⟩ := bcell hb2; have hz2 : w.heap.size + 1 < w2.heap.size := (by have := hb2.size; simp at this; omega); have hz3 : w.heap.size < w2.heap.size := by omega)
    | (go_at_call 52; refine (rword_at HM.out _).mono ?_; rintro e w3 ⟨rfl, hb3⟩; obtain ⟨hc3, hf3⟩ := bcell hb3))
  obtain ⟨c0, c1, c2, c3, c4⟩ := slot5 (Bl.step (Bl.step (Bl.alloc (Below.refl _ _) _) hb2) hb3)
  refine bodyPost_ret (v := .tuple #[.agg #[.int .i64 0, .int .i64 0, .int .i64 0, .int .i64 0, .int .i64 0], .int .i64 4]) (by simp [results, Tryz.results37, go_sem, c0, c1, c2, c3, c4]) rfl ⟨rfl, ?_⟩
  repeat (first | exact Below.refl _ _ | refine Bl.set ?_ _ _ | refine Bl.drew ?_ | refine Bl.drewN ?_ _ | refine Bl.alloc ?_ _ | refine Bl.step ?_ (by assumption))

end Go.Proofs.YtnkkomodpjgefaaGreatDoor
