/- Contracts of reading a word or four bytes: each word is one instruction's or none's. -/
import Derived.Test.YtknepljmbpdpkaaIsaC
namespace Go.Proofs.Ytknepljmbpdpkaa
open Go.RowKit

set_option maxHeartbeats 400000 in
set_option maxRecDepth 100000 in
theorem of_no1 (v : Int) (w : World) (h0 : 0 ≤ v) (h1 : v < 4294967296) (h : mayB (v % 256) (keepIf (nmD (formOf (v % 256))) (v / 4096 % 16)) (keepIf (nmA (formOf (v % 256))) (v / 256 % 16)) (keepIf (nmB (formOf (v % 256))) (v / 65536 % 16)) (keepIf (nmM (formOf (v % 256))) (immOf (v % 256) v)) = false) :
    Calls Try.prog 60 #[.int .u32 v] w fun e w' => e = .returned (.tuple #[.agg #[.int .i64 0, .int .i64 0, .int .i64 0, .int .i64 0, .int .i64 0], .int .i64 4]) ∧ Below w.heap.size w w' := by
  have H := Lib.hid h
  clear h
  go_enter Try.func60, Try.ntmps60
  go_wp2_with (first
    | (go_at_call 71; refine (apart_any _ _ h0 h1).mono ?_; rintro e w1 ⟨rfl, hb1⟩; obtain ⟨hc1, hf1⟩ := bcell hb1; have hz1 : w.heap.size < w1.heap.size := by have := hb1.size; simp at this; omega)
    | (go_at_call 70; refine (only_any _ _ _ _ _ _).mono ?_; rintro e w2 ⟨rfl, hb2⟩; obtain ⟨hc2, hf2⟩ := bcell hb2; have hz2 : w.heap.size < w2.heap.size := by have := hb2.size; omega)
    | (go_at_call 55; refine (word_at_no H.out _).mono ?_; rintro e w3 ⟨rfl, hb3⟩; obtain ⟨hc3, hf3⟩ := bcell hb3))
  have hB2 := Bl.step hb1 hb2
  obtain ⟨c0, c1, c2, c3, c4⟩ := slot5 (Bl.step (Bl.alloc hB2 _) hb3)
  refine bodyPost_ret (v := .tuple #[.agg #[.int .i64 0, .int .i64 0, .int .i64 0, .int .i64 0, .int .i64 0], .int .i64 4]) (by simp [results, Try.results60, go_sem, c0, c1, c2, c3, c4]) rfl ⟨rfl, ?_⟩
  repeat (first | exact Below.refl _ _ | refine Bl.set ?_ _ _ | refine Bl.drew ?_ | refine Bl.drewN ?_ _ | refine Bl.alloc ?_ _ | refine Bl.step ?_ (by assumption))

set_option maxHeartbeats 400000 in
set_option maxRecDepth 100000 in
theorem of_no2 (v : Int) (w : World) (h0 : 0 ≤ v) (h1 : v < 4294967296) (h : mayB (v % 256) (keepIf (nmD (formOf (v % 256))) (v / 4096 % 16)) (keepIf (nmA (formOf (v % 256))) (v / 256 % 16)) (keepIf (nmB (formOf (v % 256))) (v / 65536 % 16)) (keepIf (nmM (formOf (v % 256))) (immOf (v % 256) v)) = true) (hw : (wordOf (v % 256) (keepIf (nmD (formOf (v % 256))) (v / 4096 % 16)) (keepIf (nmA (formOf (v % 256))) (v / 256 % 16)) (keepIf (nmB (formOf (v % 256))) (v / 65536 % 16)) (keepIf (nmM (formOf (v % 256))) (immOf (v % 256) v)) == v) = false) :
    Calls Try.prog 60 #[.int .u32 v] w fun e w' => e = .returned (.tuple #[.agg #[.int .i64 0, .int .i64 0, .int .i64 0, .int .i64 0, .int .i64 0], .int .i64 4]) ∧ Below w.heap.size w w' := by
  have H := Lib.hid h
  clear h
  go_enter Try.func60, Try.ntmps60
  go_wp2_with (first
    | (go_at_call 71; refine (apart_any _ _ h0 h1).mono ?_; rintro e w1 ⟨rfl, hb1⟩; obtain ⟨hc1, hf1⟩ := bcell hb1; have hz1 : w.heap.size < w1.heap.size := by have := hb1.size; simp at this; omega)
    | (go_at_call 70; refine (only_any _ _ _ _ _ _).mono ?_; rintro e w2 ⟨rfl, hb2⟩; obtain ⟨hc2, hf2⟩ := bcell hb2; have hz2 : w.heap.size < w2.heap.size := by have := hb2.size; omega)
    | (go_at_call 55; refine (word_at ⟨H.out, rfl⟩ _).mono ?_; rintro e w3 ⟨rfl, hb3⟩; obtain ⟨hc3, hf3⟩ := bcell hb3))
  have hB2 := Bl.step hb1 hb2
  obtain ⟨c0, c1, c2, c3, c4⟩ := slot5 (Bl.step (Bl.alloc hB2 _) hb3)
  refine bodyPost_ret (v := .tuple #[.agg #[.int .i64 0, .int .i64 0, .int .i64 0, .int .i64 0, .int .i64 0], .int .i64 4]) (by simp [results, Try.results60, go_sem, c0, c1, c2, c3, c4]) rfl ⟨rfl, ?_⟩
  repeat (first | exact Below.refl _ _ | refine Bl.set ?_ _ _ | refine Bl.drew ?_ | refine Bl.drewN ?_ _ | refine Bl.alloc ?_ _ | refine Bl.step ?_ (by assumption))

theorem of_no (v : Int) (w : World) (h0 : 0 ≤ v) (h1 : v < 4294967296) (h : isWord v = false) :
    Calls Try.prog 60 #[.int .u32 v] w fun e w' => e = .returned (.tuple #[.agg #[.int .i64 0, .int .i64 0, .int .i64 0, .int .i64 0, .int .i64 0], .int .i64 4]) ∧ Below w.heap.size w w' := by
  unfold isWord cD cA cB cM at h
  cases hm : mayB (v % 256) (keepIf (nmD (formOf (v % 256))) (v / 4096 % 16)) (keepIf (nmA (formOf (v % 256))) (v / 256 % 16)) (keepIf (nmB (formOf (v % 256))) (v / 65536 % 16)) (keepIf (nmM (formOf (v % 256))) (immOf (v % 256) v))
  · exact of_no1 v w h0 h1 hm
  · rw [hm] at h
    exact of_no2 v w h0 h1 hm (by simpa using h)

end Go.Proofs.Ytknepljmbpdpkaa
