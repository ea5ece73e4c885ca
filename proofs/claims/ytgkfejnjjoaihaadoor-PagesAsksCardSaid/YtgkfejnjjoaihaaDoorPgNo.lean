/- A table that is not there: no pointer, or a zero table. -/
import Derived.Test.YtgkfejnjjoaihaaDoorPgDg
namespace Go.Proofs.YtgkfejnjjoaihaaDoor
open Go.RowKit

/-- No table: no pointer, or one whose map is none. -/
def NoT (w : World) (q : Option Addr) : Prop := q = none ∨ ∃ t, q = some ⟨t, 0, none⟩ ∧ w.cell? ⟨t, 2560, none⟩ = some (.map none)
section
variable {w w' : World} {q : Option Addr}
theorem NoT.below (h : NoT w q) (hb : Below w.heap.size w w') : NoT w' q := by
  rcases h with rfl | ⟨t, rfl, hc⟩
  · exact .inl rfl
  · exact .inr ⟨t, rfl, (hb.cell (p := ⟨t, 2560, none⟩) (block_lt_of_cell hc)).trans hc⟩
theorem there_nt (h : NoT w q) : Calls Tryd.prog 43 #[.pointer q] w fun e w' => e = .returned (.bool false) ∧ w = w' := by
  rcases h with rfl | ⟨t, rfl, hc⟩
  · exact there_no w
  · exact there_zero hc
theorem NoT.al (h : NoT w q) (o : Obj) : NoT (w.alloc o) q := h.below ((Below.refl _ _).alloc (Nat.le_refl _) _)
theorem get_nt (h : NoT w q) (s p : Int) : Calls Tryd.prog 16 #[.pointer q, .int .i64 s, .int .i64 p] w fun e w' => e = .returned (.tuple #[entV nilE, .bool false]) ∧ Below w.heap.size w w' :=
  get_err (E := 1) (by decide) (fun o => taken_no (there_nt (h.al o)) s p)
theorem clear_nt (h : NoT w q) (s p : Int) : Calls Tryd.prog 33 #[.pointer q, .int .i64 s, .int .i64 p] w fun e w' => e = .returned (.tuple #[entV nilE, .int .i64 1]) ∧ Below w.heap.size w w' :=
  clear_err (E := 1) (by decide) (fun o => taken_no (there_nt (h.al o)) s p)
theorem clean_nt (h : NoT w q) (s p : Int) : Calls Tryd.prog 38 #[.pointer q, .int .i64 s, .int .i64 p] w fun e w' => e = .returned (.tuple #[entV nilE, .int .i64 1]) ∧ Below w.heap.size w w' :=
  clean_err (E := 1) (by decide) (fun o => taken_no (there_nt (h.al o)) s p)
theorem set_nt (h : NoT w q) (s p f r : Int) : Calls Tryd.prog 23 #[.pointer q, .int .i64 s, .int .i64 p, .int .i64 f, .int .i64 r] w fun e w' => e = .returned (.int .i64 1) ∧ w = w' :=
  set_err (E := 1) (by decide) (slot_no (there_nt h) s p)
theorem drop_nt (h : NoT w q) (s : Int) : Calls Tryd.prog 41 #[.pointer q, .int .i64 s] w fun e w' => e = .returned (.tuple #[.slice none 0 0, .int .i64 1]) ∧ w = w' := drop_no (there_nt h) s
set_option maxRecDepth 100000 in
set_option maxHeartbeats 1000000 in
theorem rights_nt (h : NoT w q) (s p r : Int) : Calls Tryd.prog 35 #[.pointer q, .int .i64 s, .int .i64 p, .int .i64 r] w fun e w' => e = .returned (.int .i64 1) ∧ w = w' := by
  have H := Lib.hid (there_nt h)
  have HT := Lib.hid (taken_no (there_nt h) s p)
  clear h
  go_enter Tryd.func35, Tryd.ntmps35
  go_wp2_with (first
    | (go_at_call 43; refine H.out.mono ?_; rintro e w' ⟨rfl, rfl⟩)
    | (go_at_call 45; refine HT.out.mono ?_; rintro e w' ⟨rfl, rfl⟩))
  go_ret
  exact ⟨rfl, rfl⟩
set_option maxRecDepth 100000 in
set_option maxHeartbeats 1000000 in
theorem ask_nt (h : NoT w q) (s : Int) (a : Nat) (r : Int) : Calls Tryd.prog 19 #[.pointer q, .int .i64 s, .int .u32 a, .int .i64 r] w fun e w' => e = .returned (.tuple #[.int .i64 0, .int .i64 0, .int .i64 1]) ∧ w = w' := by
  have H := Lib.hid (there_nt h)
  clear h
  go_enter Tryd.func19, Tryd.ntmps19
  go_wp2_with (go_at_call 43; refine H.out.mono ?_; rintro e w' ⟨rfl, rfl⟩)
  go_ret3
  exact ⟨rfl, rfl⟩
set_option maxRecDepth 100000 in
set_option maxHeartbeats 1000000 in
theorem same_nt (h : NoT w q) : Calls Tryd.prog 17 #[.pointer q, .pointer none] w fun e w' => e = .returned (.bool true) ∧ w = w' := by
  have H := Lib.hid (there_nt h)
  have HN := Lib.hid (there_no w)
  clear h
  go_enter Tryd.func17, Tryd.ntmps17
  go_wp2_with (go_at_call 43; (first | (with_reducible refine H.out.mono ?_) | (with_reducible refine HN.out.mono ?_)); rintro e w' ⟨rfl, rfl⟩)
  go_ret
  exact ⟨rfl, rfl⟩
end
end Go.Proofs.YtgkfejnjjoaihaaDoor
