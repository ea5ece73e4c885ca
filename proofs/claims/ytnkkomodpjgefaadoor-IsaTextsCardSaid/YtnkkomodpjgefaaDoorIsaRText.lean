/- Contract of the document's Text: it is isa's text. -/
import Derived.Test.YtnkkomodpjgefaaDoorIsaText
import Derived.Deep.RegionWith
namespace Go.Proofs.YtnkkomodpjgefaaDoor
open Go.RowKit

theorem Env.of {w w' : World} (hb : Below w.heap.size w w') (h : Env w) : Env w' := h.below hb

theorem names_cell (W : World) {op : Int} (h0 : 0 ≤ op) (h1 : op ≤ 28) : (W.alloc (.cells nameCells 9)).cell? ⟨W.heap.size, op.toNat, none⟩ = some (.string (nameOf op)) := by
  rw [cell_of_row _ _ _ _ _ _ (heap_alloc_new W _), name_cell _ (by omega)]
  rw [show ((op.toNat : Nat) : Int) = op by omega]

set_option maxHeartbeats 1600000 in
set_option maxRecDepth 100000 in
theorem rtext_0 (op d a b m : Int) (w : World) (he : Env w) (h : mayB op d a b m = true) (hf : formOf op = 0) :
    Calls Tryd.prog 22 #[.agg #[.int .i64 op, .int .i64 d, .int .i64 a, .int .i64 b, .int .i64 m]] w fun e w' => e = .returned (.string (textOf op d a b m)) ∧ Below w.heap.size w w' := by
  obtain ⟨⟨ho, ho'⟩, ⟨hd, hd'⟩, ⟨ha, ha'⟩, ⟨hb, hb'⟩, ⟨hm, hm'⟩, -, -⟩ := may_parts h
  have HF := Lib.hid hf
  have HE := Lib.hid he
  clear h hf he
  have hns := nameOf_size op
  have eD : nmD 0 = false := rfl
  have eA : nmA 0 = false := rfl
  have eB : nmB 0 = false := rfl
  have eM : nmM 0 = false := rfl
  have ld := Lib.itoa_length_le d (by omega) (by omega)
  have la := Lib.itoa_length_le a (by omega) (by omega)
  have lb := Lib.itoa_length_le b (by omega) (by omega)
  have lm := Lib.itoa_length_le m (by omega) (by omega)
  have hnc := names_cell (w.alloc (.cells #[.int .i64 op, .int .i64 d, .int .i64 a, .int .i64 b, .int .i64 m] 26)) (op := op) (by omega) (by omega)
  rw [World.size_alloc] at hnc
  have ho0 : 0 ≤ op := by omega
  have ho9 : op < 29 := by omega
  go_enter Tryd.func22, Tryd.ntmps22
  go_wp2_with (first
    | (go_at_call 30; refine (rform_any _ _).mono ?_; rw [HF.out]; rintro e w3 ⟨rfl, rfl⟩)
    | (go_at_call 36; refine (rnames_any _ _).mono ?_; rintro e w3 ⟨rfl, rfl⟩))
  go_region_with (go_at_call 27; refine (rNames_any _).mono ?_; rintro e w3 ⟨rfl, rfl⟩)
  all_goals
    go_wp2
    go_ret
    refine ⟨ret_str (ba_eq ?_), ?_⟩
    · unfold textOf textL; rw [HF.out]; simp [regT, immT, nmD, nmA, nmB, nmM]
    · repeat (first | exact Below.refl _ _ | refine Bl.drew ?_ | refine Bl.drewN ?_ _ | refine Bl.alloc ?_ _ | refine Bl.step ?_ (by assumption))

set_option maxHeartbeats 1600000 in
set_option maxRecDepth 100000 in
theorem rtext_1 (op d a b m : Int) (w : World) (he : Env w) (h : mayB op d a b m = true) (hf : formOf op = 1) :
    Calls Tryd.prog 22 #[.agg #[.int .i64 op, .int .i64 d, .int .i64 a, .int .i64 b, .int .i64 m]] w fun e w' => e = .returned (.string (textOf op d a b m)) ∧ Below w.heap.size w w' := by
  obtain ⟨⟨ho, ho'⟩, ⟨hd, hd'⟩, ⟨ha, ha'⟩, ⟨hb, hb'⟩, ⟨hm, hm'⟩, -, -⟩ := may_parts h
  have HF := Lib.hid hf
  have HE := Lib.hid he
  clear h hf he
  have hns := nameOf_size op
  have eD : nmD 1 = false := rfl
  have eA : nmA 1 = false := rfl
  have eB : nmB 1 = false := rfl
  have eM : nmM 1 = true := rfl
  have ld := Lib.itoa_length_le d (by omega) (by omega)
  have la := Lib.itoa_length_le a (by omega) (by omega)
  have lb := Lib.itoa_length_le b (by omega) (by omega)
  have lm := Lib.itoa_length_le m (by omega) (by omega)
  have hnc := names_cell (w.alloc (.cells #[.int .i64 op, .int .i64 d, .int .i64 a, .int .i64 b, .int .i64 m] 26)) (op := op) (by omega) (by omega)
  rw [World.size_alloc] at hnc
  have ho0 : 0 ≤ op := by omega
  have ho9 : op < 29 := by omega
  go_enter Tryd.func22, Tryd.ntmps22
  go_wp2_with (first
    | (go_at_call 30; refine (rform_any _ _).mono ?_; rw [HF.out]; rintro e w3 ⟨rfl, rfl⟩)
    | (go_at_call 36; refine (rnames_any _ _).mono ?_; rintro e w3 ⟨rfl, rfl⟩))
  go_region_with (go_at_call 27; refine (rNames_any _).mono ?_; rintro e w3 ⟨rfl, rfl⟩)
  all_goals
    have tok4 : True := trivial
    go_wp2_with (go_at_call 43; have tik := tok4; clear tik tok4; refine (itoa_any _ (by omega) (by omega) _ (by repeat (first | exact HE.out | refine Env.drew ?_ | refine Env.alloc ?_ _))).mono ?_; rintro e w4 ⟨rfl, hb4⟩; obtain ⟨hc4, hf4⟩ := bcell hb4; have hz4 : w.heap.size < w4.heap.size := by have := hb4.size; first | omega | (simp at this; omega))
    have E4 := Lib.hid (Env.of hb4 (by repeat (first | exact HE.out | refine Env.drew ?_ | refine Env.alloc ?_ _)))
    go_wp2
    go_ret
    refine ⟨ret_str (ba_eq ?_), ?_⟩
    · unfold textOf textL; rw [HF.out]; simp [regT, immT, nmD, nmA, nmB, nmM]
    · repeat (first | exact Below.refl _ _ | refine Bl.drew ?_ | refine Bl.drewN ?_ _ | refine Bl.alloc ?_ _ | refine Bl.step ?_ (by assumption))

set_option maxHeartbeats 1600000 in
set_option maxRecDepth 100000 in
theorem rtext_2 (op d a b m : Int) (w : World) (he : Env w) (h : mayB op d a b m = true) (hf : formOf op = 2) :
    Calls Tryd.prog 22 #[.agg #[.int .i64 op, .int .i64 d, .int .i64 a, .int .i64 b, .int .i64 m]] w fun e w' => e = .returned (.string (textOf op d a b m)) ∧ Below w.heap.size w w' := by
  obtain ⟨⟨ho, ho'⟩, ⟨hd, hd'⟩, ⟨ha, ha'⟩, ⟨hb, hb'⟩, ⟨hm, hm'⟩, -, -⟩ := may_parts h
  have HF := Lib.hid hf
  have HE := Lib.hid he
  clear h hf he
  have hns := nameOf_size op
  have eD : nmD 2 = false := rfl
  have eA : nmA 2 = true := rfl
  have eB : nmB 2 = false := rfl
  have eM : nmM 2 = false := rfl
  have ld := Lib.itoa_length_le d (by omega) (by omega)
  have la := Lib.itoa_length_le a (by omega) (by omega)
  have lb := Lib.itoa_length_le b (by omega) (by omega)
  have lm := Lib.itoa_length_le m (by omega) (by omega)
  have hnc := names_cell (w.alloc (.cells #[.int .i64 op, .int .i64 d, .int .i64 a, .int .i64 b, .int .i64 m] 26)) (op := op) (by omega) (by omega)
  rw [World.size_alloc] at hnc
  have ho0 : 0 ≤ op := by omega
  have ho9 : op < 29 := by omega
  go_enter Tryd.func22, Tryd.ntmps22
  go_wp2_with (first
    | (go_at_call 30; refine (rform_any _ _).mono ?_; rw [HF.out]; rintro e w3 ⟨rfl, rfl⟩)
    | (go_at_call 36; refine (rnames_any _ _).mono ?_; rintro e w3 ⟨rfl, rfl⟩))
  go_region_with (go_at_call 27; refine (rNames_any _).mono ?_; rintro e w3 ⟨rfl, rfl⟩)
  all_goals
    have tok4 : True := trivial
    go_wp2_with (go_at_call 43; have tik := tok4; clear tik tok4; refine (itoa_any _ (by omega) (by omega) _ (by repeat (first | exact HE.out | refine Env.drew ?_ | refine Env.alloc ?_ _))).mono ?_; rintro e w4 ⟨rfl, hb4⟩; obtain ⟨hc4, hf4⟩ := bcell hb4; have hz4 : w.heap.size < w4.heap.size := by have := hb4.size; first | omega | (simp at this; omega))
    have E4 := Lib.hid (Env.of hb4 (by repeat (first | exact HE.out | refine Env.drew ?_ | refine Env.alloc ?_ _)))
    go_wp2
    go_ret
    refine ⟨ret_str (ba_eq ?_), ?_⟩
    · unfold textOf textL; rw [HF.out]; simp [regT, immT, nmD, nmA, nmB, nmM]
    · repeat (first | exact Below.refl _ _ | refine Bl.drew ?_ | refine Bl.drewN ?_ _ | refine Bl.alloc ?_ _ | refine Bl.step ?_ (by assumption))

set_option maxHeartbeats 1600000 in
set_option maxRecDepth 100000 in
theorem rtext_3 (op d a b m : Int) (w : World) (he : Env w) (h : mayB op d a b m = true) (hf : formOf op = 3) :
    Calls Tryd.prog 22 #[.agg #[.int .i64 op, .int .i64 d, .int .i64 a, .int .i64 b, .int .i64 m]] w fun e w' => e = .returned (.string (textOf op d a b m)) ∧ Below w.heap.size w w' := by
  obtain ⟨⟨ho, ho'⟩, ⟨hd, hd'⟩, ⟨ha, ha'⟩, ⟨hb, hb'⟩, ⟨hm, hm'⟩, -, -⟩ := may_parts h
  have HF := Lib.hid hf
  have HE := Lib.hid he
  clear h hf he
  have hns := nameOf_size op
  have eD : nmD 3 = true := rfl
  have eA : nmA 3 = false := rfl
  have eB : nmB 3 = false := rfl
  have eM : nmM 3 = true := rfl
  have ld := Lib.itoa_length_le d (by omega) (by omega)
  have la := Lib.itoa_length_le a (by omega) (by omega)
  have lb := Lib.itoa_length_le b (by omega) (by omega)
  have lm := Lib.itoa_length_le m (by omega) (by omega)
  have hnc := names_cell (w.alloc (.cells #[.int .i64 op, .int .i64 d, .int .i64 a, .int .i64 b, .int .i64 m] 26)) (op := op) (by omega) (by omega)
  rw [World.size_alloc] at hnc
  have ho0 : 0 ≤ op := by omega
  have ho9 : op < 29 := by omega
  go_enter Tryd.func22, Tryd.ntmps22
  go_wp2_with (first
    | (go_at_call 30; refine (rform_any _ _).mono ?_; rw [HF.out]; rintro e w3 ⟨rfl, rfl⟩)
    | (go_at_call 36; refine (rnames_any _ _).mono ?_; rintro e w3 ⟨rfl, rfl⟩))
  go_region_with (go_at_call 27; refine (rNames_any _).mono ?_; rintro e w3 ⟨rfl, rfl⟩)
  all_goals
    have tok4 : True := trivial
    go_wp2_with (go_at_call 43; have tik := tok4; clear tik tok4; refine (itoa_any _ (by omega) (by omega) _ (by repeat (first | exact HE.out | refine Env.drew ?_ | refine Env.alloc ?_ _))).mono ?_; rintro e w4 ⟨rfl, hb4⟩; obtain ⟨hc4, hf4⟩ := bcell hb4; have hz4 : w.heap.size < w4.heap.size := by have := hb4.size; first | omega | (simp at this; omega))
    have E4 := Lib.hid (Env.of hb4 (by repeat (first | exact HE.out | refine Env.drew ?_ | refine Env.alloc ?_ _)))
    have tok5 : True := trivial
    go_wp2_with (go_at_call 43; have tik := tok5; clear tik tok5; refine (itoa_any _ (by omega) (by omega) _ (by repeat (first | exact E4.out | refine Env.drew ?_ | refine Env.alloc ?_ _))).mono ?_; rintro e w5 ⟨rfl, hb5⟩; obtain ⟨hc5, hf5⟩ := bcell hb5; have hz5 : w.heap.size < w5.heap.size := by have := hb5.size; first | omega | (simp at this; omega))
    have E5 := Lib.hid (Env.of hb5 (by repeat (first | exact E4.out | refine Env.drew ?_ | refine Env.alloc ?_ _)))
    go_wp2
    go_ret
    refine ⟨ret_str (ba_eq ?_), ?_⟩
    · unfold textOf textL; rw [HF.out]; simp [regT, immT, nmD, nmA, nmB, nmM]
    · repeat (first | exact Below.refl _ _ | refine Bl.drew ?_ | refine Bl.drewN ?_ _ | refine Bl.alloc ?_ _ | refine Bl.step ?_ (by assumption))

set_option maxHeartbeats 1600000 in
set_option maxRecDepth 100000 in
theorem rtext_4 (op d a b m : Int) (w : World) (he : Env w) (h : mayB op d a b m = true) (hf : formOf op = 4) :
    Calls Tryd.prog 22 #[.agg #[.int .i64 op, .int .i64 d, .int .i64 a, .int .i64 b, .int .i64 m]] w fun e w' => e = .returned (.string (textOf op d a b m)) ∧ Below w.heap.size w w' := by
  obtain ⟨⟨ho, ho'⟩, ⟨hd, hd'⟩, ⟨ha, ha'⟩, ⟨hb, hb'⟩, ⟨hm, hm'⟩, -, -⟩ := may_parts h
  have HF := Lib.hid hf
  have HE := Lib.hid he
  clear h hf he
  have hns := nameOf_size op
  have eD : nmD 4 = true := rfl
  have eA : nmA 4 = true := rfl
  have eB : nmB 4 = false := rfl
  have eM : nmM 4 = false := rfl
  have ld := Lib.itoa_length_le d (by omega) (by omega)
  have la := Lib.itoa_length_le a (by omega) (by omega)
  have lb := Lib.itoa_length_le b (by omega) (by omega)
  have lm := Lib.itoa_length_le m (by omega) (by omega)
  have hnc := names_cell (w.alloc (.cells #[.int .i64 op, .int .i64 d, .int .i64 a, .int .i64 b, .int .i64 m] 26)) (op := op) (by omega) (by omega)
  rw [World.size_alloc] at hnc
  have ho0 : 0 ≤ op := by omega
  have ho9 : op < 29 := by omega
  go_enter Tryd.func22, Tryd.ntmps22
  go_wp2_with (first
    | (go_at_call 30; refine (rform_any _ _).mono ?_; rw [HF.out]; rintro e w3 ⟨rfl, rfl⟩)
    | (go_at_call 36; refine (rnames_any _ _).mono ?_; rintro e w3 ⟨rfl, rfl⟩))
  go_region_with (go_at_call 27; refine (rNames_any _).mono ?_; rintro e w3 ⟨rfl, rfl⟩)
  all_goals
    have tok4 : True := trivial
    go_wp2_with (go_at_call 43; have tik := tok4; clear tik tok4; refine (itoa_any _ (by omega) (by omega) _ (by repeat (first | exact HE.out | refine Env.drew ?_ | refine Env.alloc ?_ _))).mono ?_; rintro e w4 ⟨rfl, hb4⟩; obtain ⟨hc4, hf4⟩ := bcell hb4; have hz4 : w.heap.size < w4.heap.size := by have := hb4.size; first | omega | (simp at this; omega))
    have E4 := Lib.hid (Env.of hb4 (by repeat (first | exact HE.out | refine Env.drew ?_ | refine Env.alloc ?_ _)))
    have tok5 : True := trivial
    go_wp2_with (go_at_call 43; have tik := tok5; clear tik tok5; refine (itoa_any _ (by omega) (by omega) _ (by repeat (first | exact E4.out | refine Env.drew ?_ | refine Env.alloc ?_ _))).mono ?_; rintro e w5 ⟨rfl, hb5⟩; obtain ⟨hc5, hf5⟩ := bcell hb5; have hz5 : w.heap.size < w5.heap.size := by have := hb5.size; first | omega | (simp at this; omega))
    have E5 := Lib.hid (Env.of hb5 (by repeat (first | exact E4.out | refine Env.drew ?_ | refine Env.alloc ?_ _)))
    go_wp2
    go_ret
    refine ⟨ret_str (ba_eq ?_), ?_⟩
    · unfold textOf textL; rw [HF.out]; simp [regT, immT, nmD, nmA, nmB, nmM]
    · repeat (first | exact Below.refl _ _ | refine Bl.drew ?_ | refine Bl.drewN ?_ _ | refine Bl.alloc ?_ _ | refine Bl.step ?_ (by assumption))

set_option maxHeartbeats 1600000 in
set_option maxRecDepth 100000 in
theorem rtext_5 (op d a b m : Int) (w : World) (he : Env w) (h : mayB op d a b m = true) (hf : formOf op = 5) :
    Calls Tryd.prog 22 #[.agg #[.int .i64 op, .int .i64 d, .int .i64 a, .int .i64 b, .int .i64 m]] w fun e w' => e = .returned (.string (textOf op d a b m)) ∧ Below w.heap.size w w' := by
  obtain ⟨⟨ho, ho'⟩, ⟨hd, hd'⟩, ⟨ha, ha'⟩, ⟨hb, hb'⟩, ⟨hm, hm'⟩, -, -⟩ := may_parts h
  have HF := Lib.hid hf
  have HE := Lib.hid he
  clear h hf he
  have hns := nameOf_size op
  have eD : nmD 5 = true := rfl
  have eA : nmA 5 = true := rfl
  have eB : nmB 5 = true := rfl
  have eM : nmM 5 = false := rfl
  have ld := Lib.itoa_length_le d (by omega) (by omega)
  have la := Lib.itoa_length_le a (by omega) (by omega)
  have lb := Lib.itoa_length_le b (by omega) (by omega)
  have lm := Lib.itoa_length_le m (by omega) (by omega)
  have hnc := names_cell (w.alloc (.cells #[.int .i64 op, .int .i64 d, .int .i64 a, .int .i64 b, .int .i64 m] 26)) (op := op) (by omega) (by omega)
  rw [World.size_alloc] at hnc
  have ho0 : 0 ≤ op := by omega
  have ho9 : op < 29 := by omega
  go_enter Tryd.func22, Tryd.ntmps22
  go_wp2_with (first
    | (go_at_call 30; refine (rform_any _ _).mono ?_; rw [HF.out]; rintro e w3 ⟨rfl, rfl⟩)
    | (go_at_call 36; refine (rnames_any _ _).mono ?_; rintro e w3 ⟨rfl, rfl⟩))
  go_region_with (go_at_call 27; refine (rNames_any _).mono ?_; rintro e w3 ⟨rfl, rfl⟩)
  all_goals
    have tok4 : True := trivial
    go_wp2_with (go_at_call 43; have tik := tok4; clear tik tok4; refine (itoa_any _ (by omega) (by omega) _ (by repeat (first | exact HE.out | refine Env.drew ?_ | refine Env.alloc ?_ _))).mono ?_; rintro e w4 ⟨rfl, hb4⟩; obtain ⟨hc4, hf4⟩ := bcell hb4; have hz4 : w.heap.size < w4.heap.size := by have := hb4.size; first | omega | (simp at this; omega))
    have E4 := Lib.hid (Env.of hb4 (by repeat (first | exact HE.out | refine Env.drew ?_ | refine Env.alloc ?_ _)))
    have tok5 : True := trivial
    go_wp2_with (go_at_call 43; have tik := tok5; clear tik tok5; refine (itoa_any _ (by omega) (by omega) _ (by repeat (first | exact E4.out | refine Env.drew ?_ | refine Env.alloc ?_ _))).mono ?_; rintro e w5 ⟨rfl, hb5⟩; obtain ⟨hc5, hf5⟩ := bcell hb5; have hz5 : w.heap.size < w5.heap.size := by have := hb5.size; first | omega | (simp at this; omega))
    have E5 := Lib.hid (Env.of hb5 (by repeat (first | exact E4.out | refine Env.drew ?_ | refine Env.alloc ?_ _)))
    have tok6 : True := trivial
    go_wp2_with (go_at_call 43; have tik := tok6; clear tik tok6; refine (itoa_any _ (by omega) (by omega) _ (by repeat (first | exact E5.out | refine Env.drew ?_ | refine Env.alloc ?_ _))).mono ?_; rintro e w6 ⟨rfl, hb6⟩; obtain ⟨hc6, hf6⟩ := bcell hb6; have hz6 : w.heap.size < w6.heap.size := by have := hb6.size; first | omega | (simp at this; omega))
    have E6 := Lib.hid (Env.of hb6 (by repeat (first | exact E5.out | refine Env.drew ?_ | refine Env.alloc ?_ _)))
    go_wp2
    go_ret
    refine ⟨ret_str (ba_eq ?_), ?_⟩
    · unfold textOf textL; rw [HF.out]; simp [regT, immT, nmD, nmA, nmB, nmM]
    · repeat (first | exact Below.refl _ _ | refine Bl.drew ?_ | refine Bl.drewN ?_ _ | refine Bl.alloc ?_ _ | refine Bl.step ?_ (by assumption))

set_option maxHeartbeats 1600000 in
set_option maxRecDepth 100000 in
theorem rtext_6 (op d a b m : Int) (w : World) (he : Env w) (h : mayB op d a b m = true) (hf : formOf op = 6) :
    Calls Tryd.prog 22 #[.agg #[.int .i64 op, .int .i64 d, .int .i64 a, .int .i64 b, .int .i64 m]] w fun e w' => e = .returned (.string (textOf op d a b m)) ∧ Below w.heap.size w w' := by
  obtain ⟨⟨ho, ho'⟩, ⟨hd, hd'⟩, ⟨ha, ha'⟩, ⟨hb, hb'⟩, ⟨hm, hm'⟩, -, -⟩ := may_parts h
  have HF := Lib.hid hf
  have HE := Lib.hid he
  clear h hf he
  have hns := nameOf_size op
  have eD : nmD 6 = true := rfl
  have eA : nmA 6 = true := rfl
  have eB : nmB 6 = false := rfl
  have eM : nmM 6 = true := rfl
  have ld := Lib.itoa_length_le d (by omega) (by omega)
  have la := Lib.itoa_length_le a (by omega) (by omega)
  have lb := Lib.itoa_length_le b (by omega) (by omega)
  have lm := Lib.itoa_length_le m (by omega) (by omega)
  have hnc := names_cell (w.alloc (.cells #[.int .i64 op, .int .i64 d, .int .i64 a, .int .i64 b, .int .i64 m] 26)) (op := op) (by omega) (by omega)
  rw [World.size_alloc] at hnc
  have ho0 : 0 ≤ op := by omega
  have ho9 : op < 29 := by omega
  go_enter Tryd.func22, Tryd.ntmps22
  go_wp2_with (first
    | (go_at_call 30; refine (rform_any _ _).mono ?_; rw [HF.out]; rintro e w3 ⟨rfl, rfl⟩)
    | (go_at_call 36; refine (rnames_any _ _).mono ?_; rintro e w3 ⟨rfl, rfl⟩))
  go_region_with (go_at_call 27; refine (rNames_any _).mono ?_; rintro e w3 ⟨rfl, rfl⟩)
  all_goals
    have tok4 : True := trivial
    go_wp2_with (go_at_call 43; have tik := tok4; clear tik tok4; refine (itoa_any _ (by omega) (by omega) _ (by repeat (first | exact HE.out | refine Env.drew ?_ | refine Env.alloc ?_ _))).mono ?_; rintro e w4 ⟨rfl, hb4⟩; obtain ⟨hc4, hf4⟩ := bcell hb4; have hz4 : w.heap.size < w4.heap.size := by have := hb4.size; first | omega | (simp at this; omega))
    have E4 := Lib.hid (Env.of hb4 (by repeat (first | exact HE.out | refine Env.drew ?_ | refine Env.alloc ?_ _)))
    have tok5 : True := trivial
    go_wp2_with (go_at_call 43; have tik := tok5; clear tik tok5; refine (itoa_any _ (by omega) (by omega) _ (by repeat (first | exact E4.out | refine Env.drew ?_ | refine Env.alloc ?_ _))).mono ?_; rintro e w5 ⟨rfl, hb5⟩; obtain ⟨hc5, hf5⟩ := bcell hb5; have hz5 : w.heap.size < w5.heap.size := by have := hb5.size; first | omega | (simp at this; omega))
    have E5 := Lib.hid (Env.of hb5 (by repeat (first | exact E4.out | refine Env.drew ?_ | refine Env.alloc ?_ _)))
    have tok6 : True := trivial
    go_wp2_with (go_at_call 43; have tik := tok6; clear tik tok6; refine (itoa_any _ (by omega) (by omega) _ (by repeat (first | exact E5.out | refine Env.drew ?_ | refine Env.alloc ?_ _))).mono ?_; rintro e w6 ⟨rfl, hb6⟩; obtain ⟨hc6, hf6⟩ := bcell hb6; have hz6 : w.heap.size < w6.heap.size := by have := hb6.size; first | omega | (simp at this; omega))
    have E6 := Lib.hid (Env.of hb6 (by repeat (first | exact E5.out | refine Env.drew ?_ | refine Env.alloc ?_ _)))
    go_wp2
    go_ret
    refine ⟨ret_str (ba_eq ?_), ?_⟩
    · unfold textOf textL; rw [HF.out]; simp [regT, immT, nmD, nmA, nmB, nmM]
    · repeat (first | exact Below.refl _ _ | refine Bl.drew ?_ | refine Bl.drewN ?_ _ | refine Bl.alloc ?_ _ | refine Bl.step ?_ (by assumption))

theorem rtext_yes (op d a b m : Int) (w : World) (he : Env w) (h : mayB op d a b m = true) :
    Calls Tryd.prog 22 #[.agg #[.int .i64 op, .int .i64 d, .int .i64 a, .int .i64 b, .int .i64 m]] w fun e w' => e = .returned (.string (textOf op d a b m)) ∧ Below w.heap.size w w' := by
  rcases form_range op with hf | hf | hf | hf | hf | hf | hf
  · exact rtext_0 op d a b m w he h hf
  · exact rtext_1 op d a b m w he h hf
  · exact rtext_2 op d a b m w he h hf
  · exact rtext_3 op d a b m w he h hf
  · exact rtext_4 op d a b m w he h hf
  · exact rtext_5 op d a b m w he h hf
  · exact rtext_6 op d a b m w he h hf

end Go.Proofs.YtnkkomodpjgefaaDoor
