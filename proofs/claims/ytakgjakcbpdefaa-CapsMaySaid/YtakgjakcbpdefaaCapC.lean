/- The contracts of there, isAccount, areRights, New, Len, Of. -/
import Derived.Test.YtakgjakcbpdefaaCapB
import Derived.WalkSpells
namespace Go.Proofs.Ytakgjakcbpdefaa
open Go.RowKit
open Go.Maps (Keyed)

theorem Try.qmap : ∀ (w : World) (r : Option Nat), (binOp .eql 59 (.map r) (.map none)).run Try.prog w = .ok (.bool r.isNone) w := fun w r => run_eql_map_nil w _ _ _ r Try.underlying59
theorem there_any {w : World} {t b : Nat} {T : Tab} (h : TabAt w t b T) : Calls Try.prog 30 #[.pointer (some ⟨t, 0, none⟩)] w fun e w' => e = .returned (.map (some b)) ∧ w = w' := by
  have c0 := h.c0
  clear h
  go_enter Try.func30, Try.ntmps30
  go_wp2_with fail
  go_ret
  exact ⟨rfl, rfl⟩
theorem there_no (w : World) : Calls Try.prog 30 #[.pointer none] w fun e w' => e = .returned (.map none) ∧ w = w' := by
  go_enter Try.func30, Try.ntmps30
  go_wp2_with fail
  go_ret
  exact ⟨rfl, rfl⟩
theorem there_zero {w : World} {t : Nat} (c0 : w.cell? ⟨t, 0, none⟩ = some (.map none)) : Calls Try.prog 30 #[.pointer (some ⟨t, 0, none⟩)] w fun e w' => e = .returned (.map none) ∧ w = w' := by
  go_enter Try.func30, Try.ntmps30
  go_wp2_with fail
  go_ret
  exact ⟨rfl, rfl⟩
theorem isAccount_any (a : Int) (w : World) : Calls Try.prog 47 #[.int .i64 a] w fun e w' => e = .returned (.bool (accB a)) ∧ w = w' := by
  by_cases h1 : 0 ≤ a
  · have e : accB a = decide (a < 8) := by unfold accB; simp [h1]
    rw [e]; clear e
    go_enter Try.func47, Try.ntmps47
    go_wp2_with fail
    go_ret
    exact ⟨rfl, rfl⟩
  · have e : accB a = false := by unfold accB; simp [h1]
    rw [e]; clear e
    go_enter Try.func47, Try.ntmps47
    go_wp2_with fail
    go_ret
    exact ⟨rfl, rfl⟩
theorem areRights_any (a : Int) (w : World) : Calls Try.prog 37 #[.int .i64 a] w fun e w' => e = .returned (.bool (rightsB a)) ∧ w = w' := by
  by_cases h1 : 0 < a
  · have e : rightsB a = decide (a ≤ 15) := by unfold rightsB; simp [h1]
    rw [e]; clear e
    go_enter Try.func37, Try.ntmps37
    go_wp2_with fail
    go_ret
    exact ⟨rfl, rfl⟩
  · have e : rightsB a = false := by unfold rightsB; simp [h1]
    rw [e]; clear e
    go_enter Try.func37, Try.ntmps37
    go_wp2_with fail
    go_ret
    exact ⟨rfl, rfl⟩
theorem new_any (w : World) : Calls Try.prog 10 #[] w fun e w' => e = .returned (.pointer (some ⟨w.heap.size + 1, 0, none⟩)) ∧ TabAt w' (w.heap.size + 1) w.heap.size ⟨[], 0⟩ ∧ Below w.heap.size w w' := by
  have hmm := @run_makeMap Try.prog
  go_enter Try.func10, Try.ntmps10
  go_wp2_with fail
  go_ret
  refine ⟨rfl, ⟨new_ok, ?_, .map [], ?_, mapIs_new⟩, ?_⟩
  · have := heap_alloc_new (w.alloc (.map #[] 0)) (.cells #[.map (some w.heap.size), .int .i64 0] 61 (0, 0))
    rw [World.size_alloc] at this
    exact this
  · exact ownsMap_eq (World.ownsMap_made w _ _ _) (Below.heap_alloc _ _ _ (by rw [World.size_alloc]; omega))
  · exact ((Below.refl _ w).alloc (Nat.le_refl _) _).alloc (by rw [World.size_alloc]; omega) _
theorem len_any {w : World} {t b : Nat} {T : Tab} (h : TabAt w t b T) : Calls Try.prog 28 #[.pointer (some ⟨t, 0, none⟩)] w fun e w' => e = .returned (.int .i64 (T.caps.length : Int)) ∧ w = w' := by
  obtain ⟨D, hown, hD⟩ := h.map
  have HD := Lib.hid hD
  have H := Lib.hid h
  clear hD h
  go_enter Try.func28, Try.ntmps28
  go_wp2_with (first
    | (go_at_call 30; refine (there_any H.out).mono ?_; rintro e w' ⟨rfl, rfl⟩)
    | (at_len; refine wpList_len_own _ rfl _ _ rfl _ _ Try.underlying59 _ _ _ _ rfl hown ?_))
  go_ret
  refine ⟨?_, rfl⟩
  rw [HD.out.2.2.1]; rfl
theorem len_none {w : World} {p : Option Addr} (hp : Calls Try.prog 30 #[.pointer p] w fun e w' => e = .returned (.map none) ∧ w = w') : Calls Try.prog 28 #[.pointer p] w fun e w' => e = .returned (.int .i64 0) ∧ w = w' := by
  go_enter Try.func28, Try.ntmps28
  go_wp2_with (go_at_call 30; refine hp.mono ?_; rintro e w' ⟨rfl, rfl⟩)
  go_ret
  exact ⟨rfl, rfl⟩

/-- A capability is looked up. -/
theorem look_ok {w : World} {t b : Nat} {T : Tab} (h : TabAt w t b T) (id : Int) (hw : (Lit.int .i64 id).wf = true) :
    (Instr.lookup 59 (.map (some b)) (.int .i64 id) true).run Try.prog w = .ok (.tuple #[capV (getC T.caps id), .bool (findC T.caps id).isSome]) w := by
  obtain ⟨D, h1, h2⟩ := h.map
  obtain ⟨v, ps, hrun, hv⟩ := h1.look_ok Try.kid Try.underlying59 (Try.zCap w) (zd := capD nilC) (zp := []) rfl (Maps.keyOf_int_mk Try.underlying2 hw)
  rw [h2.2.1] at hv
  rw [hrun, h2.1, capE_is hv]
theorem look_one {w : World} {t b : Nat} {T : Tab} (h : TabAt w t b T) (id : Int) (hw : (Lit.int .i64 id).wf = true) :
    (Instr.lookup 59 (.map (some b)) (.int .i64 id) false).run Try.prog w = .ok (capV (getC T.caps id)) w := by
  obtain ⟨D, h1, h2⟩ := h.map
  obtain ⟨v, ps, hrun, hv⟩ := h1.lookup Try.kid Try.underlying59 (Try.zCap w) (zd := capD nilC) (zp := []) rfl (Maps.keyOf_int_mk Try.underlying2 hw)
  rw [h2.2.1] at hv
  rw [hrun, capE_is hv]
set_option maxRecDepth 100000 in
set_option maxHeartbeats 2000000 in
theorem of_any {w : World} {t b : Nat} {T : Tab} (h : TabAt w t b T) (id : Int) (hw : (Lit.int .i64 id).wf = true) (c : Cap) (f : Bool) (hc : getC T.caps id = c) (hf : (findC T.caps id).isSome = f) (h0 : f = false → c = nilC) :
    Calls Try.prog 19 #[.pointer (some ⟨t, 0, none⟩), .int .i64 id] w fun e w' => e = .returned (.tuple #[capV c, .int .i64 (if f then 0 else 6)]) ∧ Below w.heap.size w w' := by
  have H := fun w' (hb : Below w.heap.size w w') => Lib.hid (h.step hb)
  have h1 := fun o => h.step (w' := w.alloc o) ((Below.refl _ w).alloc (Nat.le_refl _) _)
  have hl := fun o => look_ok (h1 o) id hw
  have H1 := fun o => Lib.hid (h1 o)
  have HL := fun o => Lib.hid (hl o)
  rw [hc, hf] at HL
  have H0 := Lib.hid h0
  clear h hc hf hw h0 h1 hl
  go_enter Try.func19, Try.ntmps19
  go_wp2_with fail
  refine (there_any (H1 _).out).mono ?_
  rintro e w' ⟨rfl, rfl⟩
  have hl := (HL (.cells #[.int .i64 0, .int .i64 0, .int .i64 0, .int .i64 0, .int .i64 0, .int .i64 0, .int .i64 0] 43)).out
  unfold capV at hl
  go_wp2_with fail
  refine ((there_any (H _ (((Below.refl _ w).alloc (Nat.le_refl _) _).alloc (by simp) _)).out).mono ?_)
  rintro e w' ⟨rfl, rfl⟩
  clear hl HL H H1
  have q := Try.qmap
  cases f with
  | true =>
    clear H0
    go_wp2_with fail
    refine bodyPost_ret (v := .tuple #[capV c, .int .i64 0]) (by simp [results, Try.results19, go_sem, capV]) rfl ⟨rfl, ?_⟩
    exact ((Below.refl _ w).alloc (Nat.le_refl _) _).alloc (by simp) _
  | false =>
    obtain rfl := H0.out rfl
    go_wp2_with fail
    refine bodyPost_ret (v := .tuple #[capV nilC, .int .i64 6]) (by simp [results, Try.results19, go_sem, capV, nilC]) rfl ⟨rfl, ?_⟩
    exact ((Below.refl _ w).alloc (Nat.le_refl _) _).alloc (by simp) _
end Go.Proofs.Ytakgjakcbpdefaa
