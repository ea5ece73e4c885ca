/- Contract of isa.Parse: the instruction of a text, or none. What is read too kindly has not that text. -/
import Derived.Test.YtnkkomodpjgefaaGreatDoorIsaText
import Derived.Test.YtnkkomodpjgefaaGreatDoorIsaOps
namespace Go.Proofs.YtnkkomodpjgefaaGreatDoor
open Go.RowKit

/-- A text up to its first blank, and behind it. -/
def cutA (s : ByteArray) : ByteArray := ⟨(Lib.cut s.data.toList [32]).1.toArray⟩
def cutB (s : ByteArray) : ByteArray := ⟨(Lib.cut s.data.toList [32]).2.1.toArray⟩
def cutC (s : ByteArray) : Bool := (Lib.cut s.data.toList [32]).2.2
/-- A text without the r ahead; its number. -/
def trimR (s : ByteArray) : ByteArray := ⟨(Lib.trimPrefix s.data.toList [114]).toArray⟩
def numV (s : ByteArray) : Int := atoiV s.data.toList

theorem size_ba (l : List UInt8) : (⟨l.toArray⟩ : ByteArray).size = l.length := by show l.toArray.size = _; simp
theorem size_data (s : ByteArray) : s.data.toList.length = s.size := by show _ = s.data.size; simp
theorem cutA_size (s : ByteArray) : (cutA s).size ≤ s.size := by
  unfold cutA; rw [size_ba, ← size_data s]; unfold Lib.cut; split
  · simp only [List.length_take]; omega
  · exact Nat.le_refl _
theorem cutB_size (s : ByteArray) : (cutB s).size ≤ s.size := by
  unfold cutB; rw [size_ba, ← size_data s]; unfold Lib.cut; split
  · simp only [List.length_drop]; omega
  · exact Nat.zero_le _
theorem trimR_size (s : ByteArray) : (trimR s).size ≤ s.size := by
  unfold trimR; rw [size_ba, ← size_data s]; unfold Lib.trimPrefix; split
  · simp only [List.length_drop]; omega
  · exact Nat.le_refl _

theorem cut_sp (s : ByteArray) (w : World) (he : Env w) (hs : s.size ≤ 4000) :
    Calls Tryz.prog 28 #[.string s, .string ⟨#[32]⟩] w fun e w' => e = .returned (.tuple #[.string (cutA s), .string (cutB s), .bool (cutC s)]) ∧ Below w.heap.size w w' :=
  cut_any s ⟨#[32]⟩ w he (by omega)
theorem trim_r (s : ByteArray) (w : World) :
    Calls Tryz.prog 31 #[.string s, .string ⟨#[114]⟩] w fun e w' => e = .returned (.string (trimR s)) ∧ w = w' := trim_any s ⟨#[114]⟩ w
theorem atoi_num (s : ByteArray) (hs : s.size ≤ 4000) (w : World) (he : Env w) : Calls Tryz.prog 30 #[.string s] w (AtoiPost (numV s) w) := atoi_any s (by omega) w he
theorem text_is {op d a b m : Int} (w : World) (he : Env w) (h : mayB op d a b m = true) :
    Calls Tryz.prog 8 #[.agg #[.int .i64 op, .int .i64 d, .int .i64 a, .int .i64 b, .int .i64 m]] w fun e w' => e = .returned (.tuple #[.string (textOf op d a b m), .int .i64 0]) ∧ Below w.heap.size w w' := text_yes op d a b m w he h
theorem text_not {op d a b m : Int} (w : World) (h : mayB op d a b m = false) :
    Calls Tryz.prog 8 #[.agg #[.int .i64 op, .int .i64 d, .int .i64 a, .int .i64 b, .int .i64 m]] w fun e w' => e = .returned (.tuple #[.string ⟨#[]⟩, .int .i64 2]) ∧ Below w.heap.size w w' := text_no op d a b m w h
theorem Env.set {w : World} (h : Env w) (b o : Nat) (v : Value) (hb : 6 ≤ b) : Env (w.setCell ⟨b, o, none⟩ v) := by
  have hB : Below 6 w (w.setCell ⟨b, o, none⟩ v) := (Below.refl 6 w).setCell (p := ⟨b, o, none⟩) hb v
  have hc : ∀ k, k < 6 → (w.setCell ⟨b, o, none⟩ v).cell? ⟨k, 0, none⟩ = w.cell? ⟨k, 0, none⟩ := fun k hk => hB.cell (p := ⟨k, 0, none⟩) hk
  refine ⟨var?_below hB (g := 3) (by kernel_rfl) (by omega) h.tab, ?_, ?_, ?_, Nat.le_trans h.room hB.size⟩
  · rw [hc _ (by omega)]; exact h.long
  · rw [hc _ (by omega)]; exact h.syn
  · rw [hc _ (by omega)]; exact h.ran
theorem cell_other (W : World) (B q i : Nat) (x : Value) (h : q ≠ i) : (W.setCell ⟨B, q, none⟩ x).cell? ⟨B, i, none⟩ = W.cell? ⟨B, i, none⟩ := by
  exact World.cell?_setCell_other W _ _ _ (fun e => h (congrArg Addr.off e))
theorem five_b {n B : Nat} {W w1 : World} {v0 v1 v2 v3 v4 : Value} (hb : Below n W w1) (h : W.cell? ⟨B, 0, none⟩ = some v0 ∧ W.cell? ⟨B, 1, none⟩ = some v1 ∧ W.cell? ⟨B, 2, none⟩ = some v2 ∧ W.cell? ⟨B, 3, none⟩ = some v3 ∧ W.cell? ⟨B, 4, none⟩ = some v4) (hB : B < n) :
    w1.cell? ⟨B, 0, none⟩ = some v0 ∧ w1.cell? ⟨B, 1, none⟩ = some v1 ∧ w1.cell? ⟨B, 2, none⟩ = some v2 ∧ w1.cell? ⟨B, 3, none⟩ = some v3 ∧ w1.cell? ⟨B, 4, none⟩ = some v4 := five_below hb hB h
theorem five_set1 {B : Nat} {W : World} {v0 v1 v2 v3 v4 : Value} (x : Value) (h : W.cell? ⟨B, 0, none⟩ = some v0 ∧ W.cell? ⟨B, 1, none⟩ = some v1 ∧ W.cell? ⟨B, 2, none⟩ = some v2 ∧ W.cell? ⟨B, 3, none⟩ = some v3 ∧ W.cell? ⟨B, 4, none⟩ = some v4) :
    (W.setCell ⟨B, 1, none⟩ x).cell? ⟨B, 0, none⟩ = some v0 ∧ (W.setCell ⟨B, 1, none⟩ x).cell? ⟨B, 1, none⟩ = some x ∧ (W.setCell ⟨B, 1, none⟩ x).cell? ⟨B, 2, none⟩ = some v2 ∧ (W.setCell ⟨B, 1, none⟩ x).cell? ⟨B, 3, none⟩ = some v3 ∧ (W.setCell ⟨B, 1, none⟩ x).cell? ⟨B, 4, none⟩ = some v4 := by
  obtain ⟨h0, h1, h2, h3, h4⟩ := h
  refine ⟨?_, ?_, ?_, ?_, ?_⟩
  · rw [cell_other W B 1 0 x (by omega)]; exact h0
  · exact World.cell?_setCell_same' W _ _ (by rw [h1]; rfl)
  · rw [cell_other W B 1 2 x (by omega)]; exact h2
  · rw [cell_other W B 1 3 x (by omega)]; exact h3
  · rw [cell_other W B 1 4 x (by omega)]; exact h4
theorem five_set2 {B : Nat} {W : World} {v0 v1 v2 v3 v4 : Value} (x : Value) (h : W.cell? ⟨B, 0, none⟩ = some v0 ∧ W.cell? ⟨B, 1, none⟩ = some v1 ∧ W.cell? ⟨B, 2, none⟩ = some v2 ∧ W.cell? ⟨B, 3, none⟩ = some v3 ∧ W.cell? ⟨B, 4, none⟩ = some v4) :
    (W.setCell ⟨B, 2, none⟩ x).cell? ⟨B, 0, none⟩ = some v0 ∧ (W.setCell ⟨B, 2, none⟩ x).cell? ⟨B, 1, none⟩ = some v1 ∧ (W.setCell ⟨B, 2, none⟩ x).cell? ⟨B, 2, none⟩ = some x ∧ (W.setCell ⟨B, 2, none⟩ x).cell? ⟨B, 3, none⟩ = some v3 ∧ (W.setCell ⟨B, 2, none⟩ x).cell? ⟨B, 4, none⟩ = some v4 := by
  obtain ⟨h0, h1, h2, h3, h4⟩ := h
  refine ⟨?_, ?_, ?_, ?_, ?_⟩
  · rw [cell_other W B 2 0 x (by omega)]; exact h0
  · rw [cell_other W B 2 1 x (by omega)]; exact h1
  · exact World.cell?_setCell_same' W _ _ (by rw [h2]; rfl)
  · rw [cell_other W B 2 3 x (by omega)]; exact h3
  · rw [cell_other W B 2 4 x (by omega)]; exact h4
theorem five_set3 {B : Nat} {W : World} {v0 v1 v2 v3 v4 : Value} (x : Value) (h : W.cell? ⟨B, 0, none⟩ = some v0 ∧ W.cell? ⟨B, 1, none⟩ = some v1 ∧ W.cell? ⟨B, 2, none⟩ = some v2 ∧ W.cell? ⟨B, 3, none⟩ = some v3 ∧ W.cell? ⟨B, 4, none⟩ = some v4) :
    (W.setCell ⟨B, 3, none⟩ x).cell? ⟨B, 0, none⟩ = some v0 ∧ (W.setCell ⟨B, 3, none⟩ x).cell? ⟨B, 1, none⟩ = some v1 ∧ (W.setCell ⟨B, 3, none⟩ x).cell? ⟨B, 2, none⟩ = some v2 ∧ (W.setCell ⟨B, 3, none⟩ x).cell? ⟨B, 3, none⟩ = some x ∧ (W.setCell ⟨B, 3, none⟩ x).cell? ⟨B, 4, none⟩ = some v4 := by
  obtain ⟨h0, h1, h2, h3, h4⟩ := h
  refine ⟨?_, ?_, ?_, ?_, ?_⟩
  · rw [cell_other W B 3 0 x (by omega)]; exact h0
  · rw [cell_other W B 3 1 x (by omega)]; exact h1
  · rw [cell_other W B 3 2 x (by omega)]; exact h2
  · exact World.cell?_setCell_same' W _ _ (by rw [h3]; rfl)
  · rw [cell_other W B 3 4 x (by omega)]; exact h4
theorem five_set4 {B : Nat} {W : World} {v0 v1 v2 v3 v4 : Value} (x : Value) (h : W.cell? ⟨B, 0, none⟩ = some v0 ∧ W.cell? ⟨B, 1, none⟩ = some v1 ∧ W.cell? ⟨B, 2, none⟩ = some v2 ∧ W.cell? ⟨B, 3, none⟩ = some v3 ∧ W.cell? ⟨B, 4, none⟩ = some v4) :
    (W.setCell ⟨B, 4, none⟩ x).cell? ⟨B, 0, none⟩ = some v0 ∧ (W.setCell ⟨B, 4, none⟩ x).cell? ⟨B, 1, none⟩ = some v1 ∧ (W.setCell ⟨B, 4, none⟩ x).cell? ⟨B, 2, none⟩ = some v2 ∧ (W.setCell ⟨B, 4, none⟩ x).cell? ⟨B, 3, none⟩ = some v3 ∧ (W.setCell ⟨B, 4, none⟩ x).cell? ⟨B, 4, none⟩ = some x := by
  obtain ⟨h0, h1, h2, h3, h4⟩ := h
  refine ⟨?_, ?_, ?_, ?_, ?_⟩
  · rw [cell_other W B 4 0 x (by omega)]; exact h0
  · rw [cell_other W B 4 1 x (by omega)]; exact h1
  · rw [cell_other W B 4 2 x (by omega)]; exact h2
  · rw [cell_other W B 4 3 x (by omega)]; exact h3
  · exact World.cell?_setCell_same' W _ _ (by rw [h4]; rfl)

theorem five_oth {B C q : Nat} {W : World} {v0 v1 v2 v3 v4 : Value} (x : Value) (h : W.cell? ⟨B, 0, none⟩ = some v0 ∧ W.cell? ⟨B, 1, none⟩ = some v1 ∧ W.cell? ⟨B, 2, none⟩ = some v2 ∧ W.cell? ⟨B, 3, none⟩ = some v3 ∧ W.cell? ⟨B, 4, none⟩ = some v4) (hBC : B ≠ C) :
    (W.setCell ⟨C, q, none⟩ x).cell? ⟨B, 0, none⟩ = some v0 ∧ (W.setCell ⟨C, q, none⟩ x).cell? ⟨B, 1, none⟩ = some v1 ∧ (W.setCell ⟨C, q, none⟩ x).cell? ⟨B, 2, none⟩ = some v2 ∧ (W.setCell ⟨C, q, none⟩ x).cell? ⟨B, 3, none⟩ = some v3 ∧ (W.setCell ⟨C, q, none⟩ x).cell? ⟨B, 4, none⟩ = some v4 := by
  have k : ∀ i, (W.setCell ⟨C, q, none⟩ x).cell? ⟨B, i, none⟩ = W.cell? ⟨B, i, none⟩ := fun i => World.cell?_setCell_other W _ _ _ (fun e => hBC (congrArg Addr.block e).symm)
  simp only [k]; exact h
theorem Bl.setq {w W1 : World} (h : Below w.heap.size w W1) (b o : Nat) (u : Value) (hb : w.heap.size ≤ b) : Below w.heap.size w (W1.setCell ⟨b, o, none⟩ u) := h.setCell (p := ⟨b, o, none⟩) hb u
theorem Env.of' {w w' : World} (hb : Below w.heap.size w w') (h : Env w) : Env w' := h.below hb

end Go.Proofs.YtnkkomodpjgefaaGreatDoor
