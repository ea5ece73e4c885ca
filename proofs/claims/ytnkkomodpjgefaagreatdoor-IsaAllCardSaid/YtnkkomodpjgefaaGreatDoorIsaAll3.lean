/- What holds while IsaAll goes over the bytes: beside what lay ahead of the turns, the turn, and how many came. -/
import Derived.Test.YtnkkomodpjgefaaGreatDoorIsaAll2
import Derived.Test.YtnkkomodpjgefaaGreatDoorIsaKnown
import Derived.RangeFuncNested
namespace Go.Proofs.YtnkkomodpjgefaaGreatDoor
open Go.RowKit Go.Shelf Go.Sort
attribute [local go_sem] Oper.semAt_some

theorem range_last {k x : Nat} {pre : List Nat} (h : List.range k = pre ++ [x]) : x = pre.length ∧ k = pre.length + 1 := by
  have hl := congrArg List.length h
  simp at hl
  subst hl
  rw [List.range_succ] at h
  have := List.append_inj' h rfl
  simp at this
  exact ⟨this.2.symm, rfl⟩

theorem eql_all (w : World) (b : Nat) : (binOp .eql 25 (.func (.func 17) #[] #[.pointer (some ⟨b, 0, none⟩)]) .nilFunc).run Tryz.prog w = .ok (.bool false) w := by kernel_rfl

/-- While a turn goes on. -/
def AllI (W4 : World) (T N : Nat) (t : Int) (Ds : List Nat) (lim : Nat → Prop) (pre : List Nat) (W : World) : Prop :=
  (lim pre.length ∧ W.cell? ⟨T, 0, none⟩ = some (.int .i64 t) ∧ W.cell? ⟨N, 0, none⟩ = some (.int .i64 (pre.length : Int)) ∧ W.frozen? ⟨N, 0, none⟩ = false) ∧ (∀ D ∈ Ds, W.heap[D]? = some (.deferred (some []))) ∧ Below W4.heap.size W4 W
/-- Where it is left: at the asked place, or by a return that never comes. -/
def AllX (W4 : World) (T N : Nat) (t lv : Int) (M : Nat) (ok : Prop) (Ds : List Nat) (c : Code) (pre : List Nat) (W : World) : Prop :=
  (c = .exit 4 ∧ ok ∧ W.cell? ⟨T, 0, none⟩ = some (.int .i64 t) ∧ W.cell? ⟨N, 0, none⟩ = some (.int .i64 lv) ∧ (∀ D ∈ Ds, W.heap[D]? = some (.deferred (some []))) ∧ Below W4.heap.size W4 W) ∨ (c = .ret ∧ ¬ ∃ k, k ≤ M ∧ pre = List.range k)

theorem allI_own (W4 : World) (T N : Nat) (t : Int) (Ds : List Nat) (lim : Nat → Prop) (B : Nat) (hB : W4.heap.size ≤ B) (hD : ∀ D ∈ Ds, D < B) : OwnFrom B (AllI W4 T N t Ds lim) := by
  intro pre A A' row hs hg hr
  have hr' := fun r e => (hr r e).2
  obtain ⟨⟨h0, h1, h2, h3⟩, h6, h7⟩ := hs
  refine ⟨⟨h0, cell_kept h1 hg hr', cell_kept h2 hg hr', (frozen_kept h2 hg hr').trans h3⟩, fun D hd => ?_, h7.grown hg h7.size (fun k e => Nat.le_trans hB (hr k e).1)⟩
  have h := h6 D hd
  rw [hg.block D (Array.getElem?_eq_some_iff.1 h).1 (fun e => by have := (hr D e.symm).1; have := hD D hd; omega)]; exact h
theorem allX_own (W4 : World) (T N : Nat) (t lv : Int) (M : Nat) (ok : Prop) (Ds : List Nat) (c : Code) (B : Nat) (hB : W4.heap.size ≤ B) (hD : ∀ D ∈ Ds, D < B) : OwnFrom B (AllX W4 T N t lv M ok Ds c) := by
  intro pre A A' row hs hg hr
  have hr' := fun r e => (hr r e).2
  rcases hs with ⟨hc, ht, h1, h2, h6, h7⟩ | h
  · refine Or.inl ⟨hc, ht, cell_kept h1 hg hr', cell_kept h2 hg hr', fun D hd => ?_, h7.grown hg h7.size (fun k e => Nat.le_trans hB (hr k e).1)⟩
    have h := h6 D hd
    rw [hg.block D (Array.getElem?_eq_some_iff.1 h).1 (fun e => by have := (hr D e.symm).1; have := hD D hd; omega)]; exact h
  · exact Or.inr h
/-- The instruction of a round in a block of its own. -/
def AllA (L : List Int) (fr : Nat → Nat → Act) (B : Nat) (x : Nat) (a : Act) (W : World) : Prop := ∃ b, B ≤ b ∧ a = fr x b ∧ W.heap[b]? = some (.cells #[.int .i64 (oOp (wAt L x)), .int .i64 (oD (wAt L x)), .int .i64 (oA (wAt L x)), .int .i64 (oB (wAt L x)), .int .i64 (oM (wAt L x))] 31 (0, 0))
theorem allA_own (L : List Int) (fr : Nat → Nat → Act) (B B' x : Nat) (a : Act) : OwnFrom B' (fun (_ : Unit) W => AllA L fr B x a W) := by
  rintro s A A' row ⟨b, hb, ha, hc⟩ hg hr
  exact ⟨b, hb, ha, (grownBy_keeps_cells hg (fun r e => (hr r e).2) hc rfl).trans hc⟩

/-- One more: the world behind it. -/
theorem all_step {W4 W : World} {T N : Nat} {t : Int} {Ds : List Nat} {lim : Nat → Prop} {pre : List Nat} (x : Nat) (h : AllI W4 T N t Ds lim pre W) (hTN : T ≠ N) (hwN : W4.heap.size ≤ N) (hl : lim (pre.length + 1)) (hDN : ∀ D ∈ Ds, D ≠ N) (q : Nat) :
    AllI W4 T N t Ds lim (pre ++ [x]) ((W.drewN q).setCell ⟨N, 0, none⟩ (.int .i64 ((pre.length : Int) + 1))) := by
  obtain ⟨⟨h0, h1, h2, h3⟩, h6, h7⟩ := h
  refine ⟨⟨by rw [List.length_append]; exact hl, (World.cell?_of_block (w := W.drewN q) (Below.heap_setCell _ ⟨N, 0, none⟩ _ _ hTN)).trans h1, ?_, by have h3' : (W.drewN q).frozen? ⟨N, 0, none⟩ = false := h3; simpa using h3'⟩, fun D hd => ?_, (below_drewN h7 q).setCell (p := ⟨N, 0, none⟩) hwN _⟩
  · rw [List.length_append]; exact World.cell?_setCell_same (W.drewN q) ⟨N, 0, none⟩ _ h2
  · rw [Below.heap_setCell _ _ _ _ (hDN D hd)]; exact h6 D hd
theorem all_keeps (W : World) (N B bx g : Nat) (v : Value) (q : Nat) (hb : bx ≠ N) (hg : g ≠ N) : KeepsFrom B W ((W.drewN q).setCell ⟨N, 0, none⟩ v) ∧ KeepsTwo bx g W ((W.drewN q).setCell ⟨N, 0, none⟩ v) := by
  refine ⟨(KeepsOthers.trans (⟨Nat.le_refl _, fun _ _ h _ => h⟩ : KeepsOthers W (W.drewN q)) (KeepsOthers.setCell _ _ _)).from B, fun k cs t fr hk e => ?_⟩
  rw [Below.heap_setCell _ _ _ _ (show k ≠ N by rcases hk with rfl | rfl <;> assumption)]; exact e

end Go.Proofs.YtnkkomodpjgefaaGreatDoor
