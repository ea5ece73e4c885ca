/- Contracts of the document's Word, and of reading a word or four bytes. -/
import Derived.Test.YtknepljmbpdpkaaIsaB
namespace Go.Proofs.Ytknepljmbpdpkaa
open Go.RowKit

set_option maxHeartbeats 400000 in
set_option maxRecDepth 100000 in
theorem rword_yes (op d a b m : Int) (w : World) (h : mayB op d a b m = true) :
    Calls Try.prog 68 #[.agg #[.int .i64 op, .int .i64 d, .int .i64 a, .int .i64 b, .int .i64 m]] w fun e w' => e = .returned (.int .u32 (wordOf op d a b m)) ∧ Below w.heap.size w w' := by
  obtain ⟨⟨ho, ho'⟩, ⟨hd, hd'⟩, ⟨ha, ha'⟩, ⟨hb, hb'⟩, ⟨hm, hm'⟩, hf, hf'⟩ := may_parts h
  by_cases h5 : formOf op = 5
  · have H5 := Lib.hid h5
    have hw := Lib.hid (show wordOf op d a b m = op + (16 * d + a) * 256 + b * 65536 by unfold wordOf; rw [if_pos h5])
    clear h h5 hf hf'
    go_enter Try.func68, Try.ntmps68
    go_wp2_with (go_at_call 66; refine (rform_any _ _).mono ?_; rw [H5.out]; rintro e w' ⟨rfl, rfl⟩)
    go_ret
    exact ⟨ret_int hw.out.symm, (Below.refl _ _).alloc (Nat.le_refl _) _⟩
  · have H5 := Lib.hid (show (formOf op == 5) = false by rw [beq_eq_false_iff_ne]; exact h5)
    have hw := Lib.hid (show wordOf op d a b m = op + (16 * d + a) * 256 + m % 65536 * 65536 by unfold wordOf; rw [if_neg h5])
    have hx := and65535 m
    clear h h5 hf hf'
    have h5 := H5.out
    go_enter Try.func68, Try.ntmps68
    go_wp2_with (go_at_call 66; refine (rform_any _ _).mono ?_; rintro e w' ⟨rfl, rfl⟩)
    go_ret
    exact ⟨ret_int hw.out.symm, (Below.refl _ _).alloc (Nat.le_refl _) _⟩

theorem i16_wrap (n : Int) : IntKind.i16.wrap n = (n + 32768) % 65536 - 32768 := by
  by_cases h : n % 65536 ≥ 32768
  · have : IntKind.i16.wrap n = n % 65536 - 65536 := by simp [IntKind.wrap, IntKind.bits, IntKind.signed, h]
    omega
  · have : IntKind.i16.wrap n = n % 65536 := by simp [IntKind.wrap, IntKind.bits, IntKind.signed]; omega
    omega
theorem ins_eq {op d a b m op' d' a' b' m' : Int} (h0 : op = op') (h1 : d = d') (h2 : a = a') (h3 : b = b') (h4 : m = m') :
    (Value.agg #[.int .i64 op, .int .i64 d, .int .i64 a, .int .i64 b, .int .i64 m]) = .agg #[.int .i64 op', .int .i64 d', .int .i64 a', .int .i64 b', .int .i64 m'] := by rw [h0, h1, h2, h3, h4]

set_option maxHeartbeats 400000 in
set_option maxRecDepth 100000 in
theorem apart_any (v : Int) (w : World) (h0 : 0 ≤ v) (h1 : v < 4294967296) :
    Calls Try.prog 71 #[.int .u32 v] w fun e w' => e = .returned (.agg #[.int .i64 (v % 256), .int .i64 (v / 4096 % 16), .int .i64 (v / 256 % 16), .int .i64 (v / 65536 % 16), .int .i64 (immOf (v % 256) v)]) ∧ Below w.heap.size w w' := by
  have x1 := and15 (v / 4096) (by omega) (by omega)
  have x2 := and15 (v / 256) (by omega) (by omega)
  have x3 := and15 (v / 65536) (by omega) (by omega)
  have x4 := i16_wrap (v / 65536)
  by_cases hc : (v / 65536 + 32768) % 65536 - 32768 < leastOf (v % 256)
  · have hi := Lib.hid (show immOf (v % 256) v = v / 65536 by unfold immOf; rw [if_neg (by omega)])
    go_enter Try.func71, Try.ntmps71
    go_wp2_with (go_at_call 74; refine (bounds_any _ _).mono ?_; rintro e w' ⟨rfl, rfl⟩)
    refine bodyPost_ret (v := .agg #[.int .i64 (v % 256), .int .i64 (v / 4096 % 16), .int .i64 (v / 256 % 16), .int .i64 (v / 65536 % 16), .int .i64 (v / 65536)]) (by simp [results, Try.results71, go_sem]) rfl ⟨by rw [hi.out], ?_⟩
    exact (Below.refl _ _).alloc (Nat.le_refl _) _
  · have hi := Lib.hid (show immOf (v % 256) v = (v / 65536 + 32768) % 65536 - 32768 by unfold immOf; rw [if_pos (by omega)])
    go_enter Try.func71, Try.ntmps71
    go_wp2_with (go_at_call 74; refine (bounds_any _ _).mono ?_; rintro e w' ⟨rfl, rfl⟩)
    refine bodyPost_ret (v := .agg #[.int .i64 (v % 256), .int .i64 (v / 4096 % 16), .int .i64 (v / 256 % 16), .int .i64 (v / 65536 % 16), .int .i64 ((v / 65536 + 32768) % 65536 - 32768)]) (by simp [results, Try.results71, go_sem]) rfl ⟨by rw [hi.out], ?_⟩
    exact (Below.refl _ _).alloc (Nat.le_refl _) _

theorem word_any (op d a b m : Int) (w : World) :
    Calls Try.prog 55 #[.agg #[.int .i64 op, .int .i64 d, .int .i64 a, .int .i64 b, .int .i64 m]] w fun e w' => e = .returned (.tuple #[.int .u32 (if mayB op d a b m then wordOf op d a b m else 0), .int .i64 (if mayB op d a b m then 0 else 2)]) ∧ Below w.heap.size w w' := by
  cases h : mayB op d a b m
  · exact word_no op d a b m w h
  · exact word_yes op d a b m w h

theorem Bl.step {w W1 W2 : World} (h : Below w.heap.size w W1) (h' : Below W1.heap.size W1 W2) : Below w.heap.size w W2 := h.trans (h'.mono h.size)
theorem Bl.alloc {w W1 : World} (h : Below w.heap.size w W1) (o : Obj) : Below w.heap.size w (W1.alloc o) := h.alloc h.size o
theorem Bl.drew {w W1 : World} (h : Below w.heap.size w W1) : Below w.heap.size w W1.drew := h.drew
theorem Bl.drewN {w W1 : World} (h : Below w.heap.size w W1) (n : Nat) : Below w.heap.size w (W1.drewN n) := below_drewN h n
theorem Bl.set {w W1 : World} (h : Below w.heap.size w W1) (o : Nat) (u : Value) : Below w.heap.size w (W1.setCell ⟨w.heap.size, o, none⟩ u) := h.setCell (p := ⟨w.heap.size, o, none⟩) (Nat.le_refl _) u
/-- The cells of the block that a call lays first, behind whatever it lays later. -/
theorem slot5 {w W1 : World} {v0 v1 v2 v3 v4 : Value} {t : TypeId} (h : Below (w.alloc (.cells #[v0, v1, v2, v3, v4] t)).heap.size (w.alloc (.cells #[v0, v1, v2, v3, v4] t)) W1) :
    W1.cell? ⟨w.heap.size, 0, none⟩ = some v0 ∧ W1.cell? ⟨w.heap.size, 1, none⟩ = some v1 ∧ W1.cell? ⟨w.heap.size, 2, none⟩ = some v2 ∧ W1.cell? ⟨w.heap.size, 3, none⟩ = some v3 ∧ W1.cell? ⟨w.heap.size, 4, none⟩ = some v4 :=
  five_below h (by simp) (by simp)

theorem word_at {op d a b m x : Int} (h : mayB op d a b m = true ∧ wordOf op d a b m = x) (w : World) :
    Calls Try.prog 55 #[.agg #[.int .i64 op, .int .i64 d, .int .i64 a, .int .i64 b, .int .i64 m]] w fun e w' => e = .returned (.tuple #[.int .u32 x, .int .i64 0]) ∧ Below w.heap.size w w' := by
  rw [← h.2]; exact word_yes op d a b m w h.1
theorem word_at_no {op d a b m : Int} (h : mayB op d a b m = false) (w : World) :
    Calls Try.prog 55 #[.agg #[.int .i64 op, .int .i64 d, .int .i64 a, .int .i64 b, .int .i64 m]] w fun e w' => e = .returned (.tuple #[.int .u32 0, .int .i64 2]) ∧ Below w.heap.size w w' := word_no op d a b m w h

set_option maxHeartbeats 400000 in
set_option maxRecDepth 100000 in
theorem of_yes (v : Int) (w : World) (h0 : 0 ≤ v) (h1 : v < 4294967296) (h : isWord v = true) :
    Calls Try.prog 60 #[.int .u32 v] w fun e w' => e = .returned (.tuple #[.agg #[.int .i64 (v % 256), .int .i64 (cD v), .int .i64 (cA v), .int .i64 (cB v), .int .i64 (cM v)], .int .i64 0]) ∧ Below w.heap.size w w' := by
  unfold isWord at h
  simp only [Bool.and_eq_true, beq_iff_eq] at h
  unfold cD cA cB cM at h ⊢
  have H := Lib.hid h
  clear h
  go_enter Try.func60, Try.ntmps60
  go_wp2_with (first
    | (go_at_call 71; refine (apart_any _ _ h0 h1).mono ?_; rintro e w1 ⟨rfl, hb1⟩; obtain ⟨hc1, hf1⟩ := bcell hb1; have hz1 : w.heap.size < w1.heap.size := by have := hb1.size; simp at this; omega)
    | (go_at_call 70; refine (only_any _ _ _ _ _ _).mono ?_; rintro e w2 ⟨rfl, hb2⟩; obtain ⟨hc2, hf2⟩ := bcell hb2; have hz2 : w.heap.size < w2.heap.size := by have := hb2.size; omega)
    | (go_at_call 55; refine (word_at H.out _).mono ?_; rintro e w3 ⟨rfl, hb3⟩; obtain ⟨hc3, hf3⟩ := bcell hb3))
  have hB2 := Bl.step hb1 hb2
  obtain ⟨c0, c1, c2, c3, c4⟩ := slot5 (Bl.step (Bl.alloc hB2 _) hb3)
  refine bodyPost_ret (v := .tuple #[.agg #[.int .i64 (v % 256), .int .i64 (keepIf (nmD (formOf (v % 256))) (v / 4096 % 16)), .int .i64 (keepIf (nmA (formOf (v % 256))) (v / 256 % 16)), .int .i64 (keepIf (nmB (formOf (v % 256))) (v / 65536 % 16)), .int .i64 (keepIf (nmM (formOf (v % 256))) (immOf (v % 256) v))], .int .i64 0]) (by simp [results, Try.results60, go_sem, c0, c1, c2, c3, c4]) rfl ⟨rfl, ?_⟩
  repeat (first | exact Below.refl _ _ | refine Bl.set ?_ _ _ | refine Bl.drew ?_ | refine Bl.alloc ?_ _ | refine Bl.step ?_ (by assumption))

end Go.Proofs.Ytknepljmbpdpkaa
