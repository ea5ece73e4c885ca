/- What pools that are not there, and zero ones, answer. -/
import Derived.Test.YtjbamldhoeblbaaFrmK
namespace Go.Proofs.Ytjbamldhoeblbaa
open Go.RowKit Go.Shelf
attribute [local go_sem] Oper.semAt_some

/-- No pool: nil, or a zero one. -/
def NoP (w : World) (v : Value) : Prop := ∀ W, Below w.heap.size w W → Calls Try.prog 38 #[v] W fun e w' => e = .returned (.bool false) ∧ W = w'
theorem nop_nil (w : World) : NoP w (.pointer none) := fun W _ => there_nil W
theorem there_zero {w : World} {b : Nat} (h : w.cell? ⟨b, 0, none⟩ = some (.slice none 0 0)) : Calls Try.prog 38 #[.pointer (some ⟨b, 0, none⟩)] w fun e w' => e = .returned (.bool false) ∧ w = w' := by
  go_enter Try.func38, Try.ntmps38
  go_wp2
  go_ret
  exact ⟨rfl, rfl⟩
theorem nop_zero {w : World} {b : Nat} (h : w.cell? ⟨b, 0, none⟩ = some (.slice none 0 0)) : NoP w (.pointer (some ⟨b, 0, none⟩)) := fun W hb => there_zero ((hb.cell (p := ⟨b, 0, none⟩) (World.block_lt_of_cell? w _ h)).trans h)
theorem NoP.below {w W : World} {v : Value} (h : NoP w v) (hb : Below w.heap.size w W) : NoP W v := fun W' hb' => h W' (hb.trans (hb'.mono hb.size))
theorem NoP.at {w : World} {v : Value} (h : NoP w v) : Calls Try.prog 38 #[v] w fun e w' => e = .returned (.bool false) ∧ w = w' := h w (Below.refl _ _)

theorem owned_x {w : World} {v : Value} (h : NoP w v) (f : Int) : Calls Try.prog 51 #[v, .int .i64 f] w fun e w' => e = .returned (.tuple #[.pointer none, .int .i64 1]) ∧ w = w' := by
  have H := Lib.hid h
  clear h
  go_enter Try.func51, Try.ntmps51
  go_wp2_with (go_at_call 38; refine H.out.at.mono ?_; rintro e w' ⟨rfl, rfl⟩)
  go_ret2
  exact ⟨rfl, rfl⟩
theorem grant_x {w : World} {v : Value} (h : NoP w v) (a : Int) : Calls Try.prog 17 #[v, .int .i64 a] w fun e w' => e = .returned (.tuple #[.int .i64 0, .int .i64 1]) ∧ w = w' := by
  have H := Lib.hid h
  clear h
  go_enter Try.func17, Try.ntmps17
  go_wp2
  go_step3
  go_wp2_with (go_at_call 38; refine H.out.at.mono ?_; rintro e w' ⟨rfl, rfl⟩)
  try rw [Exit.noGoto_ret]
  go_ret2
  exact ⟨rfl, rfl⟩
theorem hold_x {w : World} {v : Value} (h : NoP w v) (f : Int) : Calls Try.prog 18 #[v, .int .i64 f] w fun e w' => e = .returned (.int .i64 1) ∧ w = w' := by
  have H := Lib.hid h
  clear h
  go_enter Try.func18, Try.ntmps18
  go_wp2_with (go_at_call 51; refine (owned_x H.out f).mono ?_; rintro e w' ⟨rfl, rfl⟩)
  go_ret
  exact ⟨rfl, rfl⟩
theorem drop_x {w : World} {v : Value} (h : NoP w v) (f : Int) : Calls Try.prog 19 #[v, .int .i64 f] w fun e w' => e = .returned (.tuple #[.bool false, .int .i64 1]) ∧ w = w' := by
  have H := Lib.hid h
  clear h
  go_enter Try.func19, Try.ntmps19
  go_wp2_with (go_at_call 51; refine (owned_x H.out f).mono ?_; rintro e w' ⟨rfl, rfl⟩)
  go_ret2
  exact ⟨rfl, rfl⟩
theorem room_x {w : World} {v : Value} (h : NoP w v) (f o n : Int) : Calls Try.prog 54 #[v, .int .i64 f, .int .i64 o, .int .i64 n] w fun e w' => e = .returned (.tuple #[.slice none 0 0, .int .i64 1]) ∧ w = w' := by
  have H := Lib.hid h
  clear h
  go_enter Try.func54, Try.ntmps54
  go_wp2_with (go_at_call 38; refine H.out.at.mono ?_; rintro e w' ⟨rfl, rfl⟩)
  go_ret2
  exact ⟨rfl, rfl⟩
theorem byte_x {w : World} {v : Value} (h : NoP w v) (f o : Int) : Calls Try.prog 26 #[v, .int .i64 f, .int .i64 o] w fun e w' => e = .returned (.tuple #[.int .u8 0, .int .i64 1]) ∧ w = w' := by
  have H := Lib.hid h
  clear h
  go_enter Try.func26, Try.ntmps26
  go_wp2_with (go_at_call 54; refine (room_x H.out f o 1).mono ?_; rintro e w' ⟨rfl, rfl⟩)
  go_ret2
  exact ⟨rfl, rfl⟩
theorem put_x {w : World} {v : Value} (h : NoP w v) (f o : Int) : Calls Try.prog 25 #[v, .int .i64 f, .int .i64 o, .slice none 0 0] w fun e w' => e = .returned (.int .i64 1) ∧ w = w' := by
  have H := Lib.hid h
  clear h
  go_enter Try.func25, Try.ntmps25
  go_wp2_with (first
    | (go_at_call 54; refine (room_x H.out f o 0).mono ?_; rintro e w' ⟨rfl, rfl⟩)
    | (with_reducible refine wpList_copy_nothing rfl _ _ 32 32 rfl 5 Try.underlying32 (by kernel_rfl) none none 0 0 0 0 rfl rfl rfl ?_))
  go_ret
  exact ⟨rfl, rfl⟩
theorem page_x {w : World} {v : Value} (h : NoP w v) (f : Int) : Calls Try.prog 23 #[v, .int .i64 f] w fun e w' => e = .returned (.tuple #[.slice none 0 0, .int .i64 1]) ∧ w = w' := by
  have H := Lib.hid h
  clear h
  go_enter Try.func23, Try.ntmps23
  go_wp2_with (go_at_call 51; refine (owned_x H.out f).mono ?_; rintro e w' ⟨rfl, rfl⟩)
  go_ret2
  exact ⟨rfl, rfl⟩
theorem of_x {w : World} {v : Value} (h : NoP w v) (f : Int) : Calls Try.prog 27 #[v, .int .i64 f] w fun e w' => e = .returned (.tuple #[.agg #[.int .i64 0, .int .i64 0, .int .i64 0], .int .i64 1]) ∧ Below w.heap.size w w' := by
  have H := fun o => Lib.hid (h.below ((Below.refl _ w).alloc (Nat.le_refl _) o))
  clear h
  go_enter Try.func27, Try.ntmps27
  go_wp2_with (go_at_call 51; refine (owned_x (H _).out f).mono ?_; rintro e w' ⟨rfl, rfl⟩)
  exact bodyPost_ret (v := .tuple #[.agg #[.int .i64 0, .int .i64 0, .int .i64 0], .int .i64 1]) (by simp [results, Try.results27, go_sem]) rfl ⟨rfl, (Below.refl _ _).alloc (Nat.le_refl _) _⟩
theorem drops_x {w : World} {v : Value} (h : NoP w v) (a : Int) : Calls Try.prog 20 #[v, .int .i64 a] w fun e w' => e = .returned (.tuple #[.int .i64 0, .int .i64 1]) ∧ Below w.heap.size w w' := by
  have H := fun o => Lib.hid (h.below ((Below.refl _ w).alloc (Nat.le_refl _) o))
  clear h
  go_enter Try.func20, Try.ntmps20
  go_wp2_with (go_at_call 38; refine (H _).out.at.mono ?_; rintro e w' ⟨rfl, rfl⟩)
  go_ret2
  exact ⟨rfl, (Below.refl _ _).alloc (Nat.le_refl _) _⟩
theorem copy_x {w : World} {v : Value} (h : NoP w v) (f o : Int) : Calls Try.prog 28 #[v, .int .i64 f, .int .i64 o] w fun e w' => e = .returned (.int .i64 1) ∧ w = w' := by
  have H := Lib.hid h
  clear h
  go_enter Try.func28, Try.ntmps28
  go_wp2_with (go_at_call 51; refine (owned_x H.out f).mono ?_; rintro e w' ⟨rfl, rfl⟩)
  go_ret
  exact ⟨rfl, rfl⟩
theorem quota_x {w : World} {v : Value} (h : NoP w v) (a : Int) : Calls Try.prog 22 #[v, .int .i64 a] w fun e w' => e = .returned (.int .i64 0) ∧ w = w' := by
  have H := Lib.hid h
  clear h
  go_enter Try.func22, Try.ntmps22
  go_wp2_with (go_at_call 38; refine H.out.at.mono ?_; rintro e w' ⟨rfl, rfl⟩)
  go_ret
  exact ⟨rfl, rfl⟩
theorem clone_x {w : World} {v : Value} (h : NoP w v) : Calls Try.prog 13 #[v] w fun e w' => e = .returned (.pointer none) ∧ w = w' := by
  have H := Lib.hid h
  clear h
  go_enter Try.func13, Try.ntmps13
  go_wp2_with (go_at_call 38; refine H.out.at.mono ?_; rintro e w' ⟨rfl, rfl⟩)
  go_ret
  exact ⟨rfl, rfl⟩
theorem free_x {w : World} {v : Value} (h : NoP w v) : Calls Try.prog 21 #[v] w fun e w' => e = .returned (.int .i64 0) ∧ w = w' := by
  have H := Lib.hid h
  clear h
  go_enter Try.func21, Try.ntmps21
  go_wp2_with (go_at_call 38; refine H.out.at.mono ?_; rintro e w' ⟨rfl, rfl⟩)
  go_ret
  exact ⟨rfl, rfl⟩

/-! ### each, over no pool -/
theorem each_v (v : Value) (w : World) (h1 : v.oneCell' = true) : Calls Try.prog 49 #[v] w fun e w' => e = .returned (.func (.func 58) #[] #[.pointer (some ⟨w.heap.size, 0, none⟩)]) ∧ w' = w.alloc (.cells #[v] 25) := by
  go_enter Try.func49, Try.ntmps49
  go_wp2
  go_ret
  exact ⟨rfl, rfl⟩

end Go.Proofs.Ytjbamldhoeblbaa
