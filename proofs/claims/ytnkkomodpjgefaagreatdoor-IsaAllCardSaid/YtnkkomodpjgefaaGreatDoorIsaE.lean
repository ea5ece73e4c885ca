/- Contracts of the document's reading of a word: it comes to the same as isa's. -/
import Derived.Test.YtnkkomodpjgefaaGreatDoorIsaE1
import Derived.Test.YtnkkomodpjgefaaGreatDoorIsaE2
namespace Go.Proofs.YtnkkomodpjgefaaGreatDoor
open Go.RowKit

theorem formOf_3 {x : Int} (h : x = 3) : formOf x = 1 := by subst h; rfl
theorem formOf_6 {x : Int} (h : x = 6) : formOf x = 3 := by subst h; rfl
theorem formOf_b1 {x k : Int} (h : formOf x = k) (hk : k ≠ 1) : (x != 3) = true := by
  rw [bne_iff_ne]; intro e; rw [formOf_3 e] at h; omega
theorem formOf_b3 {x k : Int} (h : formOf x = k) (hk : k ≠ 3) : (x != 6) = true := by
  rw [bne_iff_ne]; intro e; rw [formOf_6 e] at h; omega

/-- A word that is one. -/
theorem rof_yes (v : Int) (w : World) (h0 : 0 ≤ v) (h1 : v < 4294967296) (h : isWord v = true) :
    Calls Tryz.prog 37 #[.int .u32 v] w fun e w' => e = .returned (.tuple #[.agg #[.int .i64 (v % 256), .int .i64 (cD v), .int .i64 (cA v), .int .i64 (cB v), .int .i64 (cM v)], .int .i64 0]) ∧ Below w.heap.size w w' := by
  have hB := rB_eq h0 h1 h
  have hM := rM_eq v h0 h1
  rw [← rIsWord_eq v h0 h1] at h
  rw [← hB, ← hM]
  unfold rIsWord at h
  simp only [Bool.and_eq_true, beq_iff_eq] at h
  obtain ⟨hm, hw⟩ := h
  have hw' : (wordOf (v % 256) (cD v) (cA v) (rB v) (rM v) != v) = false := by rw [hw]; simp
  clear hw hB hM
  unfold cD cA rB rM at hm hw' ⊢
  rcases form_range (v % 256) with hf | hf | hf | hf | hf | hf | hf
  · rw [hf] at hm hw' ⊢; exact rof_0y v w h0 h1 hf hm hw'
  · rw [hf] at hm hw' ⊢
    by_cases e3 : v % 256 = 3
    · rw [if_neg (by omega)] at hm hw' ⊢; exact rof_1ay v w h0 h1 hf (by simp [e3]) hm hw'
    · have b3 : (v % 256 != 3) = true := by rw [bne_iff_ne]; exact e3
      have e6 : v % 256 ≠ 6 := by simpa using formOf_b3 hf (by omega)
      by_cases hi : 32767 < v / 65536
      · rw [if_pos ⟨⟨e3, e6⟩, hi⟩] at hm hw' ⊢; exact rof_1by v w h0 h1 hf b3 (by simpa using e6) hi hm hw'
      · rw [if_neg (by omega)] at hm hw' ⊢; exact rof_1cy v w h0 h1 hf b3 (by simpa using e6) (by omega) hm hw'
  · rw [hf] at hm hw' ⊢; exact rof_2y v w h0 h1 hf hm hw'
  · rw [hf] at hm hw' ⊢
    have b3 := formOf_b1 hf (by omega)
    have e3 : v % 256 ≠ 3 := by simpa using b3
    by_cases e6 : v % 256 = 6
    · rw [if_neg (by omega)] at hm hw' ⊢; exact rof_3ay v w h0 h1 hf b3 (by simp [e6]) hm hw'
    · by_cases hi : 32767 < v / 65536
      · rw [if_pos ⟨⟨e3, e6⟩, hi⟩] at hm hw' ⊢; exact rof_3by v w h0 h1 hf b3 (by simpa using e6) hi hm hw'
      · rw [if_neg (by omega)] at hm hw' ⊢; exact rof_3cy v w h0 h1 hf b3 (by simpa using e6) (by omega) hm hw'
  · rw [hf] at hm hw' ⊢; exact rof_4y v w h0 h1 hf hm hw'
  · rw [hf] at hm hw' ⊢; exact rof_5y v w h0 h1 hf hm hw'
  · rw [hf] at hm hw' ⊢
    have b3 := formOf_b1 hf (by omega)
    have b6 := formOf_b3 hf (by omega)
    have e3 : v % 256 ≠ 3 := by simpa using b3
    have e6 : v % 256 ≠ 6 := by simpa using b6
    by_cases hi : 32767 < v / 65536
    · rw [if_pos ⟨⟨e3, e6⟩, hi⟩] at hm hw' ⊢; exact rof_6by v w h0 h1 hf b3 b6 hi hm hw'
    · rw [if_neg (by omega)] at hm hw' ⊢; exact rof_6cy v w h0 h1 hf b3 b6 (by omega) hm hw'

theorem rof_no_m (v : Int) (w : World) (h0 : 0 ≤ v) (h1 : v < 4294967296) (hm : mayB (v % 256) (cD v) (cA v) (rB v) (rM v) = false) :
    Calls Tryz.prog 37 #[.int .u32 v] w fun e w' => e = .returned (.tuple #[.agg #[.int .i64 0, .int .i64 0, .int .i64 0, .int .i64 0, .int .i64 0], .int .i64 4]) ∧ Below w.heap.size w w' := by
  unfold cD cA rB rM at hm
  rcases form_range (v % 256) with hf | hf | hf | hf | hf | hf | hf
  · rw [hf] at hm; exact rof_0m v w h0 h1 hf hm
  · rw [hf] at hm
    by_cases e3 : v % 256 = 3
    · rw [if_neg (by omega)] at hm; exact rof_1am v w h0 h1 hf (by simp [e3]) hm
    · have b3 : (v % 256 != 3) = true := by rw [bne_iff_ne]; exact e3
      have e6 : v % 256 ≠ 6 := by simpa using formOf_b3 hf (by omega)
      by_cases hi : 32767 < v / 65536
      · rw [if_pos ⟨⟨e3, e6⟩, hi⟩] at hm; exact rof_1bm v w h0 h1 hf b3 (by simpa using e6) hi hm
      · rw [if_neg (by omega)] at hm; exact rof_1cm v w h0 h1 hf b3 (by simpa using e6) (by omega) hm
  · rw [hf] at hm; exact rof_2m v w h0 h1 hf hm
  · rw [hf] at hm
    have b3 := formOf_b1 hf (by omega)
    have e3 : v % 256 ≠ 3 := by simpa using b3
    by_cases e6 : v % 256 = 6
    · rw [if_neg (by omega)] at hm; exact rof_3am v w h0 h1 hf b3 (by simp [e6]) hm
    · by_cases hi : 32767 < v / 65536
      · rw [if_pos ⟨⟨e3, e6⟩, hi⟩] at hm; exact rof_3bm v w h0 h1 hf b3 (by simpa using e6) hi hm
      · rw [if_neg (by omega)] at hm; exact rof_3cm v w h0 h1 hf b3 (by simpa using e6) (by omega) hm
  · rw [hf] at hm; exact rof_4m v w h0 h1 hf hm
  · rw [hf] at hm; exact rof_5m v w h0 h1 hf hm
  · rw [hf] at hm
    have b3 := formOf_b1 hf (by omega)
    have b6 := formOf_b3 hf (by omega)
    have e3 : v % 256 ≠ 3 := by simpa using b3
    have e6 : v % 256 ≠ 6 := by simpa using b6
    by_cases hi : 32767 < v / 65536
    · rw [if_pos ⟨⟨e3, e6⟩, hi⟩] at hm; exact rof_6bm v w h0 h1 hf b3 b6 hi hm
    · rw [if_neg (by omega)] at hm; exact rof_6cm v w h0 h1 hf b3 b6 (by omega) hm

theorem rof_no_w (v : Int) (w : World) (h0 : 0 ≤ v) (h1 : v < 4294967296) (hm : mayB (v % 256) (cD v) (cA v) (rB v) (rM v) = true) (hw' : (wordOf (v % 256) (cD v) (cA v) (rB v) (rM v) != v) = true) :
    Calls Tryz.prog 37 #[.int .u32 v] w fun e w' => e = .returned (.tuple #[.agg #[.int .i64 0, .int .i64 0, .int .i64 0, .int .i64 0, .int .i64 0], .int .i64 4]) ∧ Below w.heap.size w w' := by
  unfold cD cA rB rM at hm hw'
  rcases form_range (v % 256) with hf | hf | hf | hf | hf | hf | hf
  · rw [hf] at hm hw'; exact rof_0w v w h0 h1 hf hm hw'
  · rw [hf] at hm hw'
    by_cases e3 : v % 256 = 3
    · rw [if_neg (by omega)] at hm hw'; exact rof_1aw v w h0 h1 hf (by simp [e3]) hm hw'
    · have b3 : (v % 256 != 3) = true := by rw [bne_iff_ne]; exact e3
      have e6 : v % 256 ≠ 6 := by simpa using formOf_b3 hf (by omega)
      by_cases hi : 32767 < v / 65536
      · rw [if_pos ⟨⟨e3, e6⟩, hi⟩] at hm hw'; exact rof_1bw v w h0 h1 hf b3 (by simpa using e6) hi hm hw'
      · rw [if_neg (by omega)] at hm hw'; exact rof_1cw v w h0 h1 hf b3 (by simpa using e6) (by omega) hm hw'
  · rw [hf] at hm hw'; exact rof_2w v w h0 h1 hf hm hw'
  · rw [hf] at hm hw'
    have b3 := formOf_b1 hf (by omega)
    have e3 : v % 256 ≠ 3 := by simpa using b3
    by_cases e6 : v % 256 = 6
    · rw [if_neg (by omega)] at hm hw'; exact rof_3aw v w h0 h1 hf b3 (by simp [e6]) hm hw'
    · by_cases hi : 32767 < v / 65536
      · rw [if_pos ⟨⟨e3, e6⟩, hi⟩] at hm hw'; exact rof_3bw v w h0 h1 hf b3 (by simpa using e6) hi hm hw'
      · rw [if_neg (by omega)] at hm hw'; exact rof_3cw v w h0 h1 hf b3 (by simpa using e6) (by omega) hm hw'
  · rw [hf] at hm hw'; exact rof_4w v w h0 h1 hf hm hw'
  · rw [hf] at hm hw'; exact rof_5w v w h0 h1 hf hm hw'
  · rw [hf] at hm hw'
    have b3 := formOf_b1 hf (by omega)
    have b6 := formOf_b3 hf (by omega)
    have e3 : v % 256 ≠ 3 := by simpa using b3
    have e6 : v % 256 ≠ 6 := by simpa using b6
    by_cases hi : 32767 < v / 65536
    · rw [if_pos ⟨⟨e3, e6⟩, hi⟩] at hm hw'; exact rof_6bw v w h0 h1 hf b3 b6 hi hm hw'
    · rw [if_neg (by omega)] at hm hw'; exact rof_6cw v w h0 h1 hf b3 b6 (by omega) hm hw'

/-- A word that is none's. -/
theorem rof_no (v : Int) (w : World) (h0 : 0 ≤ v) (h1 : v < 4294967296) (h : isWord v = false) :
    Calls Tryz.prog 37 #[.int .u32 v] w fun e w' => e = .returned (.tuple #[.agg #[.int .i64 0, .int .i64 0, .int .i64 0, .int .i64 0, .int .i64 0], .int .i64 4]) ∧ Below w.heap.size w w' := by
  rw [← rIsWord_eq v h0 h1] at h
  unfold rIsWord at h
  cases hm : mayB (v % 256) (cD v) (cA v) (rB v) (rM v)
  · exact rof_no_m v w h0 h1 hm
  · rw [hm] at h
    exact rof_no_w v w h0 h1 hm (by simpa using h)

end Go.Proofs.YtnkkomodpjgefaaGreatDoor
