/- A capability is made: own, add, derive, Root, Derive, Grant. -/
import Derived.Test.YtakgjakcbpdefaaCapF
import Derived.RegionTactic
import Derived.ChangeAlike
import Derived.Deep.RegionWith
import Derived.Deep.RegionLaw
namespace Go.Proofs.Ytakgjakcbpdefaa
open Go.RowKit
open Go.Maps (Keyed)

theorem below_set7 {B : Nat} {a w : World} (h : Below B a w) {g : Nat} (hg : B ≤ g) (v0 v1 v2 v3 v4 v5 v6 : Value) :
    Below B a (((((((w.setCell ⟨g, 0, none⟩ v0).setCell ⟨g, 1, none⟩ v1).setCell ⟨g, 2, none⟩ v2).setCell ⟨g, 3, none⟩ v3).setCell ⟨g, 4, none⟩ v4).setCell ⟨g, 5, none⟩ v5).setCell ⟨g, 6, none⟩ v6) :=
  ((((((h.setCell hg _).setCell hg _).setCell hg _).setCell hg _).setCell hg _).setCell hg _).setCell hg _
theorem seven_of {w : World} {g : Nat} {t : TypeId} {a b c d e f i : Value} (h : w.heap[g]? = some (.cells #[a, b, c, d, e, f, i] t (0, 0))) :
    (w.cell? ⟨g, 0, none⟩ = some a ∧ w.cell? ⟨g, 1, none⟩ = some b ∧ w.cell? ⟨g, 2, none⟩ = some c ∧ w.cell? ⟨g, 3, none⟩ = some d ∧ w.cell? ⟨g, 4, none⟩ = some e ∧ w.cell? ⟨g, 5, none⟩ = some f ∧ w.cell? ⟨g, 6, none⟩ = some i) ∧
    (w.frozen? ⟨g, 0, none⟩ = false ∧ w.frozen? ⟨g, 1, none⟩ = false ∧ w.frozen? ⟨g, 2, none⟩ = false ∧ w.frozen? ⟨g, 3, none⟩ = false ∧ w.frozen? ⟨g, 4, none⟩ = false ∧ w.frozen? ⟨g, 5, none⟩ = false ∧ w.frozen? ⟨g, 6, none⟩ = false) ∧ g < w.heap.size := by
  have hlt := (Array.getElem?_eq_some_iff.1 h).1
  refine ⟨⟨?_, ?_, ?_, ?_, ?_, ?_, ?_⟩, ⟨?_, ?_, ?_, ?_, ?_, ?_, ?_⟩, hlt⟩
  all_goals first
    | (rw [cell_of_row _ _ _ _ _ _ h]; rfl)
    | (simp [World.frozen?, h])
set_option maxRecDepth 100000 in
set_option maxHeartbeats 2000000 in
theorem own_no {w : World} {t b : Nat} {T : Tab} (h : TabAt w t b T) (a id : Int) (ha : accB a = false) :
    Calls Try.prog 45 #[.pointer (some ⟨t, 0, none⟩), .int .i64 a, .int .i64 id] w fun e w' => e = .returned (.tuple #[capV nilC, .int .i64 2]) ∧ Below w.heap.size w w' := by
  have H := fun o => Lib.hid (h.step (w' := w.alloc o) ((Below.refl _ w).alloc (Nat.le_refl _) _))
  clear h
  have q := Try.qmap
  go_enter Try.func45, Try.ntmps45
  go_wp2_with (first
    | (go_at_call 30; refine (there_any (H _).out).mono ?_; rintro e w' ⟨rfl, rfl⟩)
    | (go_at_call 47; refine (isAccount_any a _).mono ?_; rintro e w' ⟨rfl, rfl⟩))
  refine bodyPost_ret (v := .tuple #[capV nilC, .int .i64 2]) (by simp [results, Try.results45, go_sem, capV, nilC]) rfl ⟨rfl, ?_⟩
  exact (Below.refl _ w).alloc (Nat.le_refl _) _
set_option maxRecDepth 100000 in
set_option maxHeartbeats 2000000 in
theorem own_yes {w : World} {t b : Nat} {T : Tab} (h : TabAt w t b T) (a id : Int) (hw : (Lit.int .i64 id).wf = true) (ha : accB a = true) :
    Calls Try.prog 45 #[.pointer (some ⟨t, 0, none⟩), .int .i64 a, .int .i64 id] w fun e w' =>
      (∃ c, e = .returned (.tuple #[capV c, .int .i64 (ownE T.caps a id)]) ∧ (ownE T.caps a id = 0 → c = getC T.caps id)) ∧ Below w.heap.size w w' := by
  have H := fun o => Lib.hid (h.step (w' := w.alloc o) ((Below.refl _ w).alloc (Nat.le_refl _) _))
  have no : ∀ f, (findC T.caps id).isSome = f → f = false → getC T.caps id = nilC := fun f e1 e2 => get_none (by rw [e2] at e1; simpa using e1)
  have e6 : (findC T.caps id).isSome = false → ownE T.caps a id = 6 := fun hf => by
    unfold ownE; rw [if_pos ha, show findC T.caps id = none by simpa using hf]
  have e0 : (findC T.caps id).isSome = true → ownE T.caps a id = if (getC T.caps id).account == a then 0 else 6 := fun hf => by
    obtain ⟨c, hc⟩ := Option.isSome_iff_exists.1 hf
    unfold ownE; rw [if_pos ha, hc, get_mem hc]
  generalize hfx : (findC T.caps id).isSome = f at e6 e0
  have HO := fun o => Lib.hid (of_any (h.step (w' := w.alloc o) ((Below.refl _ w).alloc (Nat.le_refl _) _)) id hw (getC T.caps id) f rfl hfx (no f hfx))
  have E6 := Lib.hid e6
  have E0 := Lib.hid e0
  clear h no e6 e0 hfx hw
  generalize getC T.caps id = c at HO E0
  unfold capV at HO
  have q := Try.qmap
  go_enter Try.func45, Try.ntmps45
  go_wp2_with (first
    | (go_at_call 30; refine (there_any (H _).out).mono ?_; rintro e w' ⟨rfl, rfl⟩)
    | (go_at_call 47; refine (isAccount_any a _).mono ?_; rintro e w' ⟨rfl, rfl⟩))
  refine (HO _).out.mono ?_
  rintro e w1 ⟨rfl, hb1⟩
  have d0 := Lib.hid ((hb1.block w.heap.size (by simp)).trans (heap_alloc_new w _))
  have b1 := Lib.hid (((Below.refl _ w).alloc (Nat.le_refl _) _).trans (hb1.mono (by simp)))
  have hs := Lib.hid hb1.size
  obtain ⟨⟨c0, c1, c2, c3, c4, c5, c6⟩, ⟨f0, f1, f2, f3, f4, f5, f6⟩, hlt⟩ := seven_of d0.out
  clear hb1 HO
  cases f
  · have E := Lib.hid (E6.out rfl)
    clear E0 E6
    go_wp2_with fail
    refine bodyPost_ret (v := .tuple #[capV c, .int .i64 6]) (by simp [results, Try.results45, go_sem, capV, c0, c1, c2, c3, c4, c5, c6, hlt, Nat.ne_of_lt hlt]) rfl ⟨⟨_, by rw [E.out], fun h => absurd h (by rw [E.out]; decide)⟩, ?_⟩
    first
      | exact (below_set7 b1.out (Nat.le_refl _) _ _ _ _ _ _ _).alloc (by simp [World.setCell]; exact b1.out.size) _
      | exact below_set7 (b1.out.alloc b1.out.size _) (Nat.le_refl _) _ _ _ _ _ _ _
  · have E := Lib.hid (E0.out rfl)
    clear E0 E6
    cases hm : c.account == a
    · go_wp2_with fail
      refine bodyPost_ret (v := .tuple #[capV nilC, .int .i64 6]) (by simp [results, Try.results45, go_sem, capV, nilC, c0, c1, c2, c3, c4, c5, c6, hlt, Nat.ne_of_lt hlt]) rfl ⟨⟨_, by rw [E.out, hm]; rfl, fun h => absurd h (by rw [E.out, hm]; decide)⟩, ?_⟩
      first
        | exact (below_set7 b1.out (Nat.le_refl _) _ _ _ _ _ _ _).alloc (by simp [World.setCell]; exact b1.out.size) _
        | exact below_set7 (b1.out.alloc b1.out.size _) (Nat.le_refl _) _ _ _ _ _ _ _
    · go_wp2_with fail
      refine bodyPost_ret (v := .tuple #[capV c, .int .i64 0]) (by simp [results, Try.results45, go_sem, capV, c0, c1, c2, c3, c4, c5, c6, hlt, Nat.ne_of_lt hlt]) rfl ⟨⟨_, by rw [E.out, hm]; rfl, fun _ => rfl⟩, ?_⟩
      first
        | exact (below_set7 b1.out (Nat.le_refl _) _ _ _ _ _ _ _).alloc (by simp [World.setCell]; exact b1.out.size) _
        | exact below_set7 (b1.out.alloc b1.out.size _) (Nat.le_refl _) _ _ _ _ _ _ _
theorem own_any {w : World} {t b : Nat} {T : Tab} (h : TabAt w t b T) (a id : Int) (hw : (Lit.int .i64 id).wf = true) :
    Calls Try.prog 45 #[.pointer (some ⟨t, 0, none⟩), .int .i64 a, .int .i64 id] w fun e w' =>
      (∃ c, e = .returned (.tuple #[capV c, .int .i64 (ownE T.caps a id)]) ∧ (ownE T.caps a id = 0 → c = getC T.caps id)) ∧ Below w.heap.size w w' := by
  cases ha : accB a with
  | true => exact own_yes h a id hw ha
  | false =>
    have e : ownE T.caps a id = 2 := by unfold ownE; rw [ha]; rfl
    refine (own_no h a id ha).mono ?_
    rintro _ w' ⟨rfl, hb⟩
    exact ⟨⟨nilC, by rw [e], fun h => absurd h (by rw [e]; decide)⟩, hb⟩
end Go.Proofs.Ytakgjakcbpdefaa
