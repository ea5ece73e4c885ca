/- Contract of isa.Reads: the registers read, rising, each once. -/
import Derived.Test.YtnkkomodpjgefaaGreatDoorIsaSort
import Derived.Test.YtnkkomodpjgefaaGreatDoorIsaW
namespace Go.Proofs.YtnkkomodpjgefaaGreatDoor
open Go.RowKit Go.Sort

/-- The registers an instruction reads, as they are laid before they are sorted. -/
def rdRaw (op d a b : Int) : List Int :=
  (if nmA (formOf op) then [a] else []) ++ (if nmB (formOf op) then [b] else []) ++ (if op = 6 ∨ asksOf op = true then [d] else [])
def rdL (op d a b : Int) : List Int := Lib.compact ((rdRaw op d a b).mergeSort fun x y => decide (x ≤ y))

theorem Tryz.infoInt : (Tryz.prog.info? 3).map (fun i => (i.zero, i.size, i.bytes)) = some (some (.int .i64 0), 1, 8) := by kernel_rfl
def ReadsPost (L : List Int) (w : World) (e : Ending) (w' : World) : Prop := ∃ v, e = .returned v ∧ IntsAt w' v L ∧ Below w.heap.size w w'
def SortPost (base n : Nat) (v : Value) (zs : List Int) (w : World) (e : Ending) (w' : World) : Prop :=
  e = .returned (.tuple #[]) ∧ w'.ownsRow base 3 1 v n ((zs.mergeSort fun x y => decide (x ≤ y)).map (Value.int .i64)) ∧ Below base w w' ∧ w.heap.size ≤ w'.heap.size

set_option maxHeartbeats 800000 in
set_option maxRecDepth 100000 in
theorem reads_no (op d a b m : Int) (w : World) (h : mayB op d a b m = false) :
    Calls Tryz.prog 15 #[.agg #[.int .i64 op, .int .i64 d, .int .i64 a, .int .i64 b, .int .i64 m]] w fun e w' => e = .returned (.slice none 0 0) ∧ Below w.heap.size w w' := by
  have H := Lib.hid h
  clear h
  go_enter Tryz.func15, Tryz.ntmps15
  go_wp2_with (go_at_call 21; refine (may_not H.out _).mono ?_; rintro e w1 ⟨rfl, hb1⟩)
  go_ret
  exact ⟨rfl, Bl.step (Bl.alloc (Below.refl _ _) _) hb1⟩

set_option maxHeartbeats 1600000 in
set_option maxRecDepth 100000 in
theorem reads_none (op d a b m : Int) (w : World) (h : mayB op d a b m = true) (hA : nmA (formOf op) = false) (hB : nmB (formOf op) = false) (h6 : (op == 6) = false) (hK : asksOf op = false) :
    Calls Tryz.prog 15 #[.agg #[.int .i64 op, .int .i64 d, .int .i64 a, .int .i64 b, .int .i64 m]] w (ReadsPost (rdL op d a b) w) := by
  have hR : rdRaw op d a b = [] := by
    have h6' : ¬ op = 6 := by simpa using h6
    unfold rdRaw; rw [hA, hB, hK]; simp [h6']
  unfold rdL
  rw [hR]
  have H := Lib.hid h
  have gA : hasOf (setOf (formOf op)) 1 = false := by rw [has_A, hA]
  have gB : hasOf (setOf (formOf op)) 2 = false := by rw [has_B, hB]
  clear h hR hA hB
  obtain ⟨i0, hi, hz0, hz1, hz2⟩ := info_parts Tryz.infoInt
  have h0 : w.ownsRow w.heap.size 3 1 (.slice none 0 0) 0 ([] : List Value) := World.ownsRow_nil ..
  have tok1 : True := trivial
  go_enter Tryz.func15, Tryz.ntmps15
  go_wp2_with (first
    | (go_at_call 21; refine (may_is H.out _).mono ?_; rintro e w1 ⟨rfl, hb1⟩; obtain ⟨hc1, hf1⟩ := bcell hb1
       have hs1 : w.heap.size + 1 ≤ w1.heap.size := by have := hb1.size; simpa using this)
    | (go_at_call 24; refine (form_any _ _).mono ?_; rintro e w2 ⟨rfl, rfl⟩)
    | (go_at_call 23; refine (names_any _ _).mono ?_; rintro e w2 ⟨rfl, rfl⟩)
    | (go_at_call 26; refine (has_any _ _ _ (by omega) (by omega)).mono ?_; rintro e w2 ⟨rfl, rfl⟩)
    | (go_at_call 34; refine (asks_any _ _).mono ?_; rintro e w2 ⟨rfl, rfl⟩)

    | (go_at_call 35; refine (sort_own (base := w.heap.size + 1) (n := 0) (zs := []) (World.ownsRow_nil ..) rfl (by omega)).mono ?_; rintro e w3 ⟨rfl, h3, b3, hs3⟩)
    | (go_at_call 36; refine (compact_own h3 (by simp) (by omega)).mono ?_; rintro e w4 ⟨v4, rfl, h4, b4⟩))
  go_ret
  have hb0 : Below (w.heap.size + 1) w1 w1 := Below.refl _ _
  have hbA := ((hb0.trans b3).trans b4).mono (Nat.le_succ _)
  exact ⟨_, rfl, h4, (Bl.step (Bl.alloc (Below.refl _ _) _) hb1).trans hbA⟩

set_option maxHeartbeats 1600000 in
set_option maxRecDepth 100000 in
theorem reads_a (op d a b m : Int) (w : World) (h : mayB op d a b m = true) (hA : nmA (formOf op) = true) (hB : nmB (formOf op) = false) (h6 : (op == 6) = false) (hK : asksOf op = false) :
    Calls Tryz.prog 15 #[.agg #[.int .i64 op, .int .i64 d, .int .i64 a, .int .i64 b, .int .i64 m]] w (ReadsPost (rdL op d a b) w) := by
  have hR : rdRaw op d a b = [a] := by
    have h6' : ¬ op = 6 := by simpa using h6
    unfold rdRaw; rw [hA, hB, hK]; simp [h6']
  unfold rdL
  rw [hR]
  have H := Lib.hid h
  have gA : hasOf (setOf (formOf op)) 1 = true := by rw [has_A, hA]
  have gB : hasOf (setOf (formOf op)) 2 = false := by rw [has_B, hB]
  clear h hR hA hB
  obtain ⟨i0, hi, hz0, hz1, hz2⟩ := info_parts Tryz.infoInt
  have h0 : w.ownsRow w.heap.size 3 1 (.slice none 0 0) 0 ([] : List Value) := World.ownsRow_nil ..
  have tok1 : True := trivial
  go_enter Tryz.func15, Tryz.ntmps15
  go_wp2_with (first
    | (go_at_call 21; refine (may_is H.out _).mono ?_; rintro e w1 ⟨rfl, hb1⟩; obtain ⟨hc1, hf1⟩ := bcell hb1
       have hs1 : w.heap.size + 1 ≤ w1.heap.size := by have := hb1.size; simpa using this)
    | (go_at_call 24; refine (form_any _ _).mono ?_; rintro e w2 ⟨rfl, rfl⟩)
    | (go_at_call 23; refine (names_any _ _).mono ?_; rintro e w2 ⟨rfl, rfl⟩)
    | (go_at_call 26; refine (has_any _ _ _ (by omega) (by omega)).mono ?_; rintro e w2 ⟨rfl, rfl⟩)
    | (go_at_call 34; refine (asks_any _ _).mono ?_; rintro e w2 ⟨rfl, rfl⟩)
    | (at_builtin; have tik := tok1; clear tik tok1; refine wpList_append_own _ rfl _ _ 48 rfl (w.heap.size + 1) 3 i0 (.int .i64 0) 1 8 Tryz.underlying48 hi hz0 hz1 hz2 rfl (by decide) _ _ _ rfl (World.ownsRow_nil ..) ⟨w1.heap.size, 0, none⟩ 1 1 [.int .i64 a] rfl rfl (cell_one_new _ _ _) (by simp [Value.oneCell']) (by unfold maxLen; omega) (by omega) (by simp; omega) ?_
       intro v11 w11 h11 g11 _
       have hz11 : w.heap.size + 1 ≤ w11.heap.size := by have := g11.size; simp at this; omega
       have b11 : Below (w.heap.size + 1) w1 w11 := ((Below.refl _ _).alloc (by omega) _).grown g11 (by simp; omega) (fun k e => absurd (show (none : Option Nat) = some k from e) (by simp))
       have c11 : ∀ b o, b < w.heap.size + 1 → w11.cell? ⟨b, o, none⟩ = w1.cell? ⟨b, o, none⟩ := fun b o h => b11.cell (p := ⟨b, o, none⟩) h
       have f11 : ∀ b o, b < w.heap.size + 1 → w11.frozen? ⟨b, o, none⟩ = w1.frozen? ⟨b, o, none⟩ := fun b o h => b11.frozen (p := ⟨b, o, none⟩) h)
    | (go_at_call 35; refine (sort_own (base := w.heap.size + 1) (n := 1) (zs := [a]) (own_cast h11 (by omega) (by simp)) rfl (by omega)).mono ?_; rintro e w3 ⟨rfl, h3, b3, hs3⟩)
    | (go_at_call 36; refine (compact_own h3 (by simp) (by omega)).mono ?_; rintro e w4 ⟨v4, rfl, h4, b4⟩))
  go_ret
  have hb0 : Below (w.heap.size + 1) w1 w1 := Below.refl _ _
  have hbA := (((hb0.trans b11).trans b3).trans b4).mono (Nat.le_succ _)
  exact ⟨_, rfl, h4, (Bl.step (Bl.alloc (Below.refl _ _) _) hb1).trans hbA⟩

set_option maxHeartbeats 1600000 in
set_option maxRecDepth 100000 in
theorem reads_ab (op d a b m : Int) (w : World) (h : mayB op d a b m = true) (hA : nmA (formOf op) = true) (hB : nmB (formOf op) = true) (h6 : (op == 6) = false) (hK : asksOf op = false) :
    Calls Tryz.prog 15 #[.agg #[.int .i64 op, .int .i64 d, .int .i64 a, .int .i64 b, .int .i64 m]] w (ReadsPost (rdL op d a b) w) := by
  have hR : rdRaw op d a b = [a, b] := by
    have h6' : ¬ op = 6 := by simpa using h6
    unfold rdRaw; rw [hA, hB, hK]; simp [h6']
  unfold rdL
  rw [hR]
  have H := Lib.hid h
  have gA : hasOf (setOf (formOf op)) 1 = true := by rw [has_A, hA]
  have gB : hasOf (setOf (formOf op)) 2 = true := by rw [has_B, hB]
  clear h hR hA hB
  obtain ⟨i0, hi, hz0, hz1, hz2⟩ := info_parts Tryz.infoInt
  have h0 : w.ownsRow w.heap.size 3 1 (.slice none 0 0) 0 ([] : List Value) := World.ownsRow_nil ..
  have tok1 : True := trivial
  have tok2 : True := trivial
  go_enter Tryz.func15, Tryz.ntmps15
  go_wp2_with (first
    | (go_at_call 21; refine (may_is H.out _).mono ?_; rintro e w1 ⟨rfl, hb1⟩; obtain ⟨hc1, hf1⟩ := bcell hb1
       have hs1 : w.heap.size + 1 ≤ w1.heap.size := by have := hb1.size; simpa using this)
    | (go_at_call 24; refine (form_any _ _).mono ?_; rintro e w2 ⟨rfl, rfl⟩)
    | (go_at_call 23; refine (names_any _ _).mono ?_; rintro e w2 ⟨rfl, rfl⟩)
    | (go_at_call 26; refine (has_any _ _ _ (by omega) (by omega)).mono ?_; rintro e w2 ⟨rfl, rfl⟩)
    | (go_at_call 34; refine (asks_any _ _).mono ?_; rintro e w2 ⟨rfl, rfl⟩)
    | (at_builtin; have tik := tok1; clear tik tok1; refine wpList_append_own _ rfl _ _ 48 rfl (w.heap.size + 1) 3 i0 (.int .i64 0) 1 8 Tryz.underlying48 hi hz0 hz1 hz2 rfl (by decide) _ _ _ rfl (World.ownsRow_nil ..) ⟨w1.heap.size, 0, none⟩ 1 1 [.int .i64 a] rfl rfl (cell_one_new _ _ _) (by simp [Value.oneCell']) (by unfold maxLen; omega) (by omega) (by simp; omega) ?_
       intro v11 w11 h11 g11 _
       have hz11 : w.heap.size + 1 ≤ w11.heap.size := by have := g11.size; simp at this; omega
       have b11 : Below (w.heap.size + 1) w1 w11 := ((Below.refl _ _).alloc (by omega) _).grown g11 (by simp; omega) (fun k e => absurd (show (none : Option Nat) = some k from e) (by simp))
       have c11 : ∀ b o, b < w.heap.size + 1 → w11.cell? ⟨b, o, none⟩ = w1.cell? ⟨b, o, none⟩ := fun b o h => b11.cell (p := ⟨b, o, none⟩) h
       have f11 : ∀ b o, b < w.heap.size + 1 → w11.frozen? ⟨b, o, none⟩ = w1.frozen? ⟨b, o, none⟩ := fun b o h => b11.frozen (p := ⟨b, o, none⟩) h)
    | (at_builtin; have tik := tok2; clear tik tok2; refine wpList_append_own _ rfl _ _ 48 rfl (w.heap.size + 1) 3 i0 (.int .i64 0) 1 8 Tryz.underlying48 hi hz0 hz1 hz2 rfl (by decide) _ _ _ rfl (h11.alloc _) ⟨w11.heap.size, 0, none⟩ 1 1 [.int .i64 b] rfl rfl (cell_one_new _ _ _) (by simp [Value.oneCell']) (by unfold maxLen; omega) (by omega) (by simp; omega) ?_
       intro v12 w12 h12 g12 _
       have hz12 : w.heap.size + 1 ≤ w12.heap.size := by have := g12.size; simp at this; omega
       have b12 : Below (w.heap.size + 1) w11 w12 := ((Below.refl _ _).alloc (by omega) _).grown g12 (by simp; omega) (fun k e => ((h11.alloc (.cells #[.int .i64 b] 3)).lt k e).1)
       have c12 : ∀ b o, b < w.heap.size + 1 → w12.cell? ⟨b, o, none⟩ = w11.cell? ⟨b, o, none⟩ := fun b o h => b12.cell (p := ⟨b, o, none⟩) h
       have f12 : ∀ b o, b < w.heap.size + 1 → w12.frozen? ⟨b, o, none⟩ = w11.frozen? ⟨b, o, none⟩ := fun b o h => b12.frozen (p := ⟨b, o, none⟩) h)
    | (go_at_call 35; refine (sort_own (base := w.heap.size + 1) (n := 2) (zs := [a, b]) (own_cast h12 (by omega) (by simp)) rfl (by omega)).mono ?_; rintro e w3 ⟨rfl, h3, b3, hs3⟩)
    | (go_at_call 36; refine (compact_own h3 (by simp) (by omega)).mono ?_; rintro e w4 ⟨v4, rfl, h4, b4⟩))
  go_ret
  have hb0 : Below (w.heap.size + 1) w1 w1 := Below.refl _ _
  have hbA := ((((hb0.trans b11).trans b12).trans b3).trans b4).mono (Nat.le_succ _)
  exact ⟨_, rfl, h4, (Bl.step (Bl.alloc (Below.refl _ _) _) hb1).trans hbA⟩

set_option maxHeartbeats 1600000 in
set_option maxRecDepth 100000 in
theorem reads_ad (op d a b m : Int) (w : World) (h : mayB op d a b m = true) (hA : nmA (formOf op) = true) (hB : nmB (formOf op) = false) (h6 : (op == 6) = false) (hK : asksOf op = true) :
    Calls Tryz.prog 15 #[.agg #[.int .i64 op, .int .i64 d, .int .i64 a, .int .i64 b, .int .i64 m]] w (ReadsPost (rdL op d a b) w) := by
  have hR : rdRaw op d a b = [a, d] := by
    have h6' : ¬ op = 6 := by simpa using h6
    unfold rdRaw; rw [hA, hB, hK]; simp [h6']
  unfold rdL
  rw [hR]
  have H := Lib.hid h
  have gA : hasOf (setOf (formOf op)) 1 = true := by rw [has_A, hA]
  have gB : hasOf (setOf (formOf op)) 2 = false := by rw [has_B, hB]
  clear h hR hA hB
  obtain ⟨i0, hi, hz0, hz1, hz2⟩ := info_parts Tryz.infoInt
  have h0 : w.ownsRow w.heap.size 3 1 (.slice none 0 0) 0 ([] : List Value) := World.ownsRow_nil ..
  have tok1 : True := trivial
  have tok2 : True := trivial
  go_enter Tryz.func15, Tryz.ntmps15
  go_wp2_with (first
    | (go_at_call 21; refine (may_is H.out _).mono ?_; rintro e w1 ⟨rfl, hb1⟩; obtain ⟨hc1, hf1⟩ := bcell hb1
       have hs1 : w.heap.size + 1 ≤ w1.heap.size := by have := hb1.size; simpa using this)
    | (go_at_call 24; refine (form_any _ _).mono ?_; rintro e w2 ⟨rfl, rfl⟩)
    | (go_at_call 23; refine (names_any _ _).mono ?_; rintro e w2 ⟨rfl, rfl⟩)
    | (go_at_call 26; refine (has_any _ _ _ (by omega) (by omega)).mono ?_; rintro e w2 ⟨rfl, rfl⟩)
    | (go_at_call 34; refine (asks_any _ _).mono ?_; rintro e w2 ⟨rfl, rfl⟩)
    | (at_builtin; have tik := tok1; clear tik tok1; refine wpList_append_own _ rfl _ _ 48 rfl (w.heap.size + 1) 3 i0 (.int .i64 0) 1 8 Tryz.underlying48 hi hz0 hz1 hz2 rfl (by decide) _ _ _ rfl (World.ownsRow_nil ..) ⟨w1.heap.size, 0, none⟩ 1 1 [.int .i64 a] rfl rfl (cell_one_new _ _ _) (by simp [Value.oneCell']) (by unfold maxLen; omega) (by omega) (by simp; omega) ?_
       intro v11 w11 h11 g11 _
       have hz11 : w.heap.size + 1 ≤ w11.heap.size := by have := g11.size; simp at this; omega
       have b11 : Below (w.heap.size + 1) w1 w11 := ((Below.refl _ _).alloc (by omega) _).grown g11 (by simp; omega) (fun k e => absurd (show (none : Option Nat) = some k from e) (by simp))
       have c11 : ∀ b o, b < w.heap.size + 1 → w11.cell? ⟨b, o, none⟩ = w1.cell? ⟨b, o, none⟩ := fun b o h => b11.cell (p := ⟨b, o, none⟩) h
       have f11 : ∀ b o, b < w.heap.size + 1 → w11.frozen? ⟨b, o, none⟩ = w1.frozen? ⟨b, o, none⟩ := fun b o h => b11.frozen (p := ⟨b, o, none⟩) h)
    | (at_builtin; have tik := tok2; clear tik tok2; refine wpList_append_own _ rfl _ _ 48 rfl (w.heap.size + 1) 3 i0 (.int .i64 0) 1 8 Tryz.underlying48 hi hz0 hz1 hz2 rfl (by decide) _ _ _ rfl (h11.alloc _) ⟨w11.heap.size, 0, none⟩ 1 1 [.int .i64 d] rfl rfl (cell_one_new _ _ _) (by simp [Value.oneCell']) (by unfold maxLen; omega) (by omega) (by simp; omega) ?_
       intro v12 w12 h12 g12 _
       have hz12 : w.heap.size + 1 ≤ w12.heap.size := by have := g12.size; simp at this; omega
       have b12 : Below (w.heap.size + 1) w11 w12 := ((Below.refl _ _).alloc (by omega) _).grown g12 (by simp; omega) (fun k e => ((h11.alloc (.cells #[.int .i64 d] 3)).lt k e).1)
       have c12 : ∀ b o, b < w.heap.size + 1 → w12.cell? ⟨b, o, none⟩ = w11.cell? ⟨b, o, none⟩ := fun b o h => b12.cell (p := ⟨b, o, none⟩) h
       have f12 : ∀ b o, b < w.heap.size + 1 → w12.frozen? ⟨b, o, none⟩ = w11.frozen? ⟨b, o, none⟩ := fun b o h => b12.frozen (p := ⟨b, o, none⟩) h)
    | (go_at_call 35; refine (sort_own (base := w.heap.size + 1) (n := 2) (zs := [a, d]) (own_cast h12 (by omega) (by simp)) rfl (by omega)).mono ?_; rintro e w3 ⟨rfl, h3, b3, hs3⟩)
    | (go_at_call 36; refine (compact_own h3 (by simp) (by omega)).mono ?_; rintro e w4 ⟨v4, rfl, h4, b4⟩))
  go_ret
  have hb0 : Below (w.heap.size + 1) w1 w1 := Below.refl _ _
  have hbA := ((((hb0.trans b11).trans b12).trans b3).trans b4).mono (Nat.le_succ _)
  exact ⟨_, rfl, h4, (Bl.step (Bl.alloc (Below.refl _ _) _) hb1).trans hbA⟩

set_option maxHeartbeats 1600000 in
set_option maxRecDepth 100000 in
theorem reads_d (op d a b m : Int) (w : World) (h : mayB op d a b m = true) (hA : nmA (formOf op) = false) (hB : nmB (formOf op) = false) (h6 : (op == 6) = true) (hK : asksOf op = false) :
    Calls Tryz.prog 15 #[.agg #[.int .i64 op, .int .i64 d, .int .i64 a, .int .i64 b, .int .i64 m]] w (ReadsPost (rdL op d a b) w) := by
  have hR : rdRaw op d a b = [d] := by
    have h6' : op = 6 := by simpa using h6
    unfold rdRaw; rw [hA, hB, hK]; simp [h6']
  unfold rdL
  rw [hR]
  have H := Lib.hid h
  have gA : hasOf (setOf (formOf op)) 1 = false := by rw [has_A, hA]
  have gB : hasOf (setOf (formOf op)) 2 = false := by rw [has_B, hB]
  clear h hR hA hB
  obtain ⟨i0, hi, hz0, hz1, hz2⟩ := info_parts Tryz.infoInt
  have h0 : w.ownsRow w.heap.size 3 1 (.slice none 0 0) 0 ([] : List Value) := World.ownsRow_nil ..
  have tok1 : True := trivial
  go_enter Tryz.func15, Tryz.ntmps15
  go_wp2_with (first
    | (go_at_call 21; refine (may_is H.out _).mono ?_; rintro e w1 ⟨rfl, hb1⟩; obtain ⟨hc1, hf1⟩ := bcell hb1
       have hs1 : w.heap.size + 1 ≤ w1.heap.size := by have := hb1.size; simpa using this)
    | (go_at_call 24; refine (form_any _ _).mono ?_; rintro e w2 ⟨rfl, rfl⟩)
    | (go_at_call 23; refine (names_any _ _).mono ?_; rintro e w2 ⟨rfl, rfl⟩)
    | (go_at_call 26; refine (has_any _ _ _ (by omega) (by omega)).mono ?_; rintro e w2 ⟨rfl, rfl⟩)
    | (go_at_call 34; refine (asks_any _ _).mono ?_; rintro e w2 ⟨rfl, rfl⟩)
    | (at_builtin; have tik := tok1; clear tik tok1; refine wpList_append_own _ rfl _ _ 48 rfl (w.heap.size + 1) 3 i0 (.int .i64 0) 1 8 Tryz.underlying48 hi hz0 hz1 hz2 rfl (by decide) _ _ _ rfl (World.ownsRow_nil ..) ⟨w1.heap.size, 0, none⟩ 1 1 [.int .i64 d] rfl rfl (cell_one_new _ _ _) (by simp [Value.oneCell']) (by unfold maxLen; omega) (by omega) (by simp; omega) ?_
       intro v11 w11 h11 g11 _
       have hz11 : w.heap.size + 1 ≤ w11.heap.size := by have := g11.size; simp at this; omega
       have b11 : Below (w.heap.size + 1) w1 w11 := ((Below.refl _ _).alloc (by omega) _).grown g11 (by simp; omega) (fun k e => absurd (show (none : Option Nat) = some k from e) (by simp))
       have c11 : ∀ b o, b < w.heap.size + 1 → w11.cell? ⟨b, o, none⟩ = w1.cell? ⟨b, o, none⟩ := fun b o h => b11.cell (p := ⟨b, o, none⟩) h
       have f11 : ∀ b o, b < w.heap.size + 1 → w11.frozen? ⟨b, o, none⟩ = w1.frozen? ⟨b, o, none⟩ := fun b o h => b11.frozen (p := ⟨b, o, none⟩) h)
    | (go_at_call 35; refine (sort_own (base := w.heap.size + 1) (n := 1) (zs := [d]) (own_cast h11 (by omega) (by simp)) rfl (by omega)).mono ?_; rintro e w3 ⟨rfl, h3, b3, hs3⟩)
    | (go_at_call 36; refine (compact_own h3 (by simp) (by omega)).mono ?_; rintro e w4 ⟨v4, rfl, h4, b4⟩))
  go_ret
  have hb0 : Below (w.heap.size + 1) w1 w1 := Below.refl _ _
  have hbA := (((hb0.trans b11).trans b3).trans b4).mono (Nat.le_succ _)
  exact ⟨_, rfl, h4, (Bl.step (Bl.alloc (Below.refl _ _) _) hb1).trans hbA⟩

theorem reads_may (op d a b m : Int) (w : World) (h : mayB op d a b m = true) :
    Calls Tryz.prog 15 #[.agg #[.int .i64 op, .int .i64 d, .int .i64 a, .int .i64 b, .int .i64 m]] w (ReadsPost (rdL op d a b) w) := by
  have ho := (may_parts h).1
  have hk : op = 1 ∨ op = 2 ∨ op = 3 ∨ op = 4 ∨ op = 5 ∨ op = 6 ∨ op = 7 ∨ op = 8 ∨ op = 9 ∨ op = 10 ∨ op = 11 ∨ op = 12 ∨ op = 13 ∨ op = 14 ∨ op = 15 ∨ op = 16 ∨ op = 17 ∨ op = 18 ∨ op = 19 ∨ op = 20 ∨ op = 21 ∨ op = 22 ∨ op = 23 ∨ op = 24 ∨ op = 25 ∨ op = 26 ∨ op = 27 ∨ op = 28 := by omega
  rcases hk with rfl | rfl | rfl | rfl | rfl | rfl | rfl | rfl | rfl | rfl | rfl | rfl | rfl | rfl | rfl | rfl | rfl | rfl | rfl | rfl | rfl | rfl | rfl | rfl | rfl | rfl | rfl | rfl <;> first
    | exact reads_none _ _ _ _ _ w h rfl rfl rfl rfl
    | exact reads_a _ _ _ _ _ w h rfl rfl rfl rfl
    | exact reads_ab _ _ _ _ _ w h rfl rfl rfl rfl
    | exact reads_ad _ _ _ _ _ w h rfl rfl rfl rfl
    | exact reads_d _ _ _ _ _ w h rfl rfl rfl rfl

end Go.Proofs.YtnkkomodpjgefaaGreatDoor
