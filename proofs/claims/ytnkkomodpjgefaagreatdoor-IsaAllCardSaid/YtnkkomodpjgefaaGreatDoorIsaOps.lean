/- The ops are gone over in order, with their names, left early or not; and isa.Named finds the op of a name. -/
import Derived.RangeFuncNested
import Derived.RangeFuncBound
import Derived.RangeFuncCalls
import Derived.RangeFuncLeaves
import Derived.Shelf.Abstract
import Derived.Shelf.RegionOpen
import Derived.WalkKit
import Derived.OwnWalkIn
import Derived.TacticsInMore
import Derived.LoopNIn
import Derived.LoopIn
import Derived.Test.YtnkkomodpjgefaaGreatDoorIsaN
namespace Go.Proofs.YtnkkomodpjgefaaGreatDoor
open Go.RowKit Go.Shelf
attribute [local go_sem] Oper.semAt_some

/-- An op's number. -/
abbrev OpNo := { x : Int // 1 ≤ x ∧ x ≤ 28 }
abbrev opEnc (x : OpNo) : Array Value := #[.int .i64 x.1, .string (nameOf x.1)]
/-- The first k ops. -/
def opsUpto (k : Nat) : List OpNo := (List.range k).filterMap fun j : Nat => if h : j < 28 then some ⟨(j : Int) + 1, by omega⟩ else none
theorem opsUpto_succ (k : Nat) (h : k < 28) : opsUpto (k + 1) = opsUpto k ++ [⟨(k : Int) + 1, by omega⟩] := by
  unfold opsUpto; rw [List.range_succ, List.filterMap_append]; simp [h]
theorem opsUpto_length (k : Nat) (h : k ≤ 28) : (opsUpto k).length = k := by
  induction k with
  | zero => rfl
  | succ k ih => rw [opsUpto_succ k (by omega), List.length_append, ih (by omega)]; rfl

/-- What lies in cells from block n₀ on lies as it lay. -/
def KeepsNew (n₀ : Nat) (W W' : World) : Prop := ∀ k cs t fr, n₀ ≤ k → W.heap[k]? = some (.cells cs t fr) → W'.heap[k]? = some (.cells cs t fr)
theorem KeepsNew.refl (n₀ : Nat) (W : World) : KeepsNew n₀ W W := fun _ _ _ _ _ h => h
theorem KeepsNew.trans {n₀ : Nat} {A B C : World} (h : KeepsNew n₀ A B) (k : KeepsNew n₀ B C) : KeepsNew n₀ A C := fun i cs t fr hi e => k i cs t fr hi (h i cs t fr hi e)
theorem keepsNew_b {n₀ : Nat} {w : World} (W : World) (l : Nat) (o o' : Obj) (_ : w.heap.size ≤ l) (h : W.heap[l]? = some o) (ho : o.isCells = false) (_ : o.isWalk = false) : KeepsNew n₀ W (W.putObj l o') := fun k cs t fr _ e => by
  have hk : k ≠ l := by rintro rfl; rw [h] at e; cases e; cases ho
  rw [World.putObj_heap_other hk]; exact e
theorem KeepsNew.set {n₀ : Nat} (W : World) (a : Addr) (u : Value) (h : a.block < n₀) : KeepsNew n₀ W (W.setCell a u) := fun k cs t fr hk e => by
  rw [Below.heap_setCell _ _ _ _ (by omega)]; exact e
theorem KeepsNew.alloc {n₀ : Nat} (W : World) (o : Obj) : KeepsNew n₀ W (W.alloc o) := fun k cs t fr _ e => by
  rw [Below.heap_alloc _ _ _ (Array.getElem?_eq_some_iff.1 e).1]; exact e

theorem store_names (X : World) : (storeCells ⟨X.heap.size, 0, none⟩ nameCells.toList).run Tryz.prog (X.alloc (.cells #[.string ⟨#[]⟩, .string ⟨#[]⟩, .string ⟨#[]⟩, .string ⟨#[]⟩, .string ⟨#[]⟩, .string ⟨#[]⟩, .string ⟨#[]⟩, .string ⟨#[]⟩, .string ⟨#[]⟩, .string ⟨#[]⟩, .string ⟨#[]⟩, .string ⟨#[]⟩, .string ⟨#[]⟩, .string ⟨#[]⟩, .string ⟨#[]⟩, .string ⟨#[]⟩, .string ⟨#[]⟩, .string ⟨#[]⟩, .string ⟨#[]⟩, .string ⟨#[]⟩, .string ⟨#[]⟩, .string ⟨#[]⟩, .string ⟨#[]⟩, .string ⟨#[]⟩, .string ⟨#[]⟩, .string ⟨#[]⟩, .string ⟨#[]⟩, .string ⟨#[]⟩, .string ⟨#[]⟩] 88)) = .ok () (X.alloc (.cells nameCells 88)) :=
  run_storeCells_new X 88 _ nameCells Tryz.s29 (by kernel_rfl) (by kernel_rfl)

set_option maxRecDepth 100000 in
set_option maxHeartbeats 1000000 in
theorem opsLit_in (n : Nat) (hn : 1 ≤ n) (l n₀ : Nat) (J Jx : List OpNo → World → Prop) (W : World) (hn₀ : n₀ ≤ W.heap.size)
    (hJ : ∀ o W', J [] W' → J [] (W'.alloc o))
    (hY : ∀ pre x W1, J pre W1 → pre.length < 28 → YieldAt Fence.wide (n - 1) Tryz.prog l #[.int .i64 x.1, .string (nameOf x.1)] W1 fun e W' =>
      (e = .returned (.bool true) ∧ J (pre ++ [x]) W' ∧ KeepsNew n₀ W1 W') ∨ (e = .returned (.bool false) ∧ Jx (pre ++ [x]) W'))
    (h0 : J [] W) :
    CallsIn Fence.wide n Tryz.prog 55 #[.func (.yield l) #[] #[]] W fun e W' => (∃ v, e = .returned v) ∧
      ((∃ xs, xs = opsUpto 28 ∧ J xs W') ∨ (∃ pre, (∃ k, k ≤ 28 ∧ pre = opsUpto k) ∧ Jx pre W')) := by
  have h0' := hJ (.cells nameCells 88) _ (hJ (.cells nameCells 88) W h0)
  have hst := store_names (W.alloc (.cells nameCells 88))
  rw [World.size_alloc] at hst
  have hrow : ((W.alloc (.cells nameCells 88)).alloc (.cells nameCells 88)).heap[W.heap.size + 1]? = some (.cells nameCells 88 (0, 0)) := heap_alloc2_new W _ _
  refine callsIn_of_wp Tryz.func55 rfl trivial ?_ rfl
  simp only [Tryz.ntmps55, List.size_toArray, List.length_cons, List.length_nil, Nat.reduceAdd, Nat.reduceSub, Array.replicate_succ, Array.replicate_zero, List.push_toArray, List.append_toArray, List.nil_append, List.cons_append]
  gi_wp2_with (refine ⟨trivial, ?_⟩; gi_at_call 40; refine (callsIn_wide.2 (opNames_any _)).mono ?_; rintro e w' ⟨rfl, rfl⟩)
  gi_loopw [3] (fun i wr => ∃ k : Nat, k ≤ 28 ∧ i = .int .i64 ((k : Int) + 1) ∧ J (opsUpto k) wr ∧ wr.heap[W.heap.size + 1]? = some (.cells nameCells 88 (0, 0)))
    (fun i _ => 29 - (intOf i).toNat)
  case atStart => exact ⟨0, Nat.zero_le _, rfl, h0', hrow⟩
  case round =>
    obtain ⟨k, hk, rfl, hJs, hr⟩ := hrel
    by_cases hlt : k < 28
    · obtain ⟨fn, tmps, assign, body, hy, hR⟩ := hY _ ⟨(k : Int) + 1, by omega⟩ wr hJs (by rw [opsUpto_length k hk]; exact hlt)
      dsimp only at hy
      have hko : isOp ((k : Int) + 1) = true := by unfold isOp; simp; omega
      have hcl : wr.cell? ⟨W.heap.size + 1, k + 1, none⟩ = some (.string (nameOf ((k : Int) + 1))) := by
        rw [cell_of_row _ _ _ _ _ _ hr, name_cell _ (by omega)]; rfl
      have HR := Lib.hid hr
      clear hr hst hrow
      gi_wp2_with (refine ⟨trivial, ?_⟩; gi_at_call 38; refine (callsIn_wide.2 (known_any _ _)).mono ?_; rintro e w' ⟨rfl, rfl⟩)
      refine hR.mono ?_
      rintro e W3 (⟨rfl, hJ3, hk3⟩ | ⟨rfl, hJx3⟩)
      · gi_wp2
        go_roundw
        case rel => exact ⟨k + 1, by omega, by go_num, by rw [opsUpto_succ k hlt]; exact hJ3, hk3 _ _ _ _ (by omega) HR.out⟩
        case measure => simp [intOf]; omega
      · gi_wp2
        refine bodyPost_ret (results_none rfl _ _ _) rfl ?_
        exact ⟨⟨_, rfl⟩, .inr ⟨_, ⟨k + 1, by omega, (opsUpto_succ k hlt).symm⟩, hJx3⟩⟩
    · obtain rfl : k = 28 := by omega
      have hko : isOp 29 = false := rfl
      clear hr hst hrow
      gi_wp2_with (refine ⟨trivial, ?_⟩; gi_at_call 38; refine (callsIn_wide.2 (known_any _ _)).mono ?_; rintro e w' ⟨rfl, rfl⟩)
      go_end0
      exact ⟨⟨_, rfl⟩, .inl ⟨_, rfl, hJs⟩⟩

theorem ops_stops (n : Nat) (hn : 1 ≤ n) (n₀ : Nat) (w : World) (hn₀ : n₀ ≤ w.heap.size) :
    SeqStopsK Fence.wide n Tryz.prog 55 #[] opEnc (KeepsNew n₀) (fun xs => xs = opsUpto 28) (fun pre => ∃ k, k ≤ 28 ∧ pre = opsUpto k) 28 w :=
  fun l J Jx W hb hJ _ hY h0 => opsLit_in n hn l n₀ J Jx W (Nat.le_trans hn₀ hb.size) (fun o W' h => hJ [] W' (W'.alloc o) none h (World.grownBy_alloc W' o none) (fun _ e => by cases e)) hY h0

/-- The op of a name. -/
def findN (nm : ByteArray) (l : List OpNo) : Option OpNo := l.find? fun x => (nameOf x.1).toList == nm.toList
def namedV (nm : ByteArray) : Int := ((findN nm (opsUpto 28)).map (·.1)).getD 0
def namedB (nm : ByteArray) : Bool := (findN nm (opsUpto 28)).isSome
theorem find_hit {nm : ByteArray} {pre : List OpNo} {x : OpNo} (h : findN nm pre = none) (hx : ((nameOf x.1).toList == nm.toList) = true) : findN nm (pre ++ [x]) = some x := by
  unfold findN at *; rw [List.find?_append, h]; simp only [List.find?_cons, hx]; rfl
theorem find_miss {nm : ByteArray} {pre : List OpNo} {x : OpNo} (h : findN nm pre = none) (hx : ((nameOf x.1).toList == nm.toList) = false) : findN nm (pre ++ [x]) = none := by
  unfold findN at *; rw [List.find?_append, h]; simp only [List.find?_cons, hx]; rfl
theorem opsUpto_prefix (k : Nat) (h : k ≤ 28) : ∃ r, opsUpto 28 = opsUpto k ++ r := by
  suffices ∀ j, k + j ≤ 28 → ∃ r, opsUpto (k + j) = opsUpto k ++ r by
    obtain ⟨r, hr⟩ := this (28 - k) (by omega)
    exact ⟨r, by rw [← hr, Nat.add_sub_cancel' h]⟩
  intro j
  induction j with
  | zero => intro _; exact ⟨[], by simp⟩
  | succ j ih =>
    intro hj
    obtain ⟨r, hr⟩ := ih (by omega)
    refine ⟨_, by rw [← Nat.add_assoc, opsUpto_succ _ (by omega), hr, List.append_assoc]⟩
theorem find_prefix {nm : ByteArray} {k : Nat} (hk : k ≤ 28) {x : OpNo} (h : findN nm (opsUpto k) = some x) : findN nm (opsUpto 28) = some x := by
  obtain ⟨r, hr⟩ := opsUpto_prefix k hk
  unfold findN at *; rw [hr, List.find?_append, h, Option.some_or]

theorem cell_new_l (w : World) (v : Value) (t : TypeId) : (w.alloc (.cells #[v] t)).cell? ⟨w.heap.size, 0, none⟩ = some v ∧ (w.alloc (.cells #[v] t)).frozen? ⟨w.heap.size, 0, none⟩ = false := ⟨by simp, by simp⟩
theorem cell_alloc_l {W : World} {a : Addr} {v : Value} (o : Obj) (h : W.cell? a = some v) : (W.alloc o).cell? a = some v := cell_kept h (World.grownBy_alloc W o none) (fun r e => by cases e)
theorem frozen_alloc_l {W : World} {a : Addr} {v : Value} (o : Obj) (h : W.cell? a = some v) (hf : W.frozen? a = false) : (W.alloc o).frozen? a = false := (frozen_kept h (World.grownBy_alloc W o none) (fun r e => by cases e)).trans hf

theorem two_set {W : World} {b c : Nat} {u v : Value} (x y : Value) (hbc : b ≠ c) (h1 : W.cell? ⟨b, 0, none⟩ = some u) (h2 : W.cell? ⟨c, 0, none⟩ = some v) :
    ((W.setCell ⟨b, 0, none⟩ x).setCell ⟨c, 0, none⟩ y).cell? ⟨b, 0, none⟩ = some x ∧ ((W.setCell ⟨b, 0, none⟩ x).setCell ⟨c, 0, none⟩ y).cell? ⟨c, 0, none⟩ = some y := by
  have k1 : ∀ (X : World) (z : Value), (X.setCell ⟨c, 0, none⟩ z).cell? ⟨b, 0, none⟩ = X.cell? ⟨b, 0, none⟩ := fun X z => World.cell?_of_block (w := X) (Below.heap_setCell X ⟨c, 0, none⟩ z b hbc)
  have k2 : ∀ (X : World) (z : Value), (X.setCell ⟨b, 0, none⟩ z).cell? ⟨c, 0, none⟩ = X.cell? ⟨c, 0, none⟩ := fun X z => World.cell?_of_block (w := X) (Below.heap_setCell X ⟨b, 0, none⟩ z c (Ne.symm hbc))
  refine ⟨(k1 _ _).trans (World.cell?_setCell_same' W _ _ (by rw [h1]; rfl)), World.cell?_setCell_same' _ _ _ (by rw [k2, h2]; rfl)⟩

theorem ops_any (w : World) : Calls Tryz.prog 43 #[] w fun e w' => e = .returned (.func (.func 55) #[] #[]) ∧ w = w' := by
  go_enter Tryz.func43, Tryz.ntmps43
  go_wp2
  go_ret
  exact ⟨rfl, rfl⟩

set_option maxRecDepth 100000 in
set_option maxHeartbeats 2000000 in
theorem named_in (nm : ByteArray) (w : World) :
    CallsIn Fence.wide 5 Tryz.prog 29 #[.string nm] w fun e W' => e = .returned (.tuple #[.int .i64 (namedV nm), .bool (namedB nm)]) ∧ Below w.heap.size w W' := by
  refine callsIn_of_wp_marks Tryz.func29 rfl trivial ?_ rfl
  simp only [Tryz.ntmps29, List.size_toArray, List.length_cons, List.length_nil, Nat.reduceAdd, Nat.reduceSub, Array.replicate_succ, Array.replicate_zero, List.push_toArray, List.append_toArray, List.nil_append, List.cons_append]
  gi_wp2_with (refine ⟨trivial, ?_⟩; gi_at_call 43; refine (callsIn_wide.2 (ops_any _)).mono ?_; rintro e w' ⟨rfl, rfl⟩)
  have c0 := cell_new_l w (.string nm) 9
  have c1 := cell_new_l (w.alloc (.cells #[.string nm] 9)) (.int .i64 0) 29
  have c2 := cell_new_l ((w.alloc (.cells #[.string nm] 9)).alloc (.cells #[.int .i64 0] 29)) (.bool false) 4
  simp only [World.size_alloc] at c1 c2
  have hB0 : Below w.heap.size w (((w.alloc (.cells #[.string nm] 9)).alloc (.cells #[.int .i64 0] 29)).alloc (.cells #[.bool false] 4)) := (((Below.refl _ w).alloc (Nat.le_refl _) _).alloc (by simp) _).alloc (by simp; omega) _
  refine wpIn_rangeFunc_ownF rfl (by omega) (gf := 55) (lb := #[]) rfl trivial (enters_of Tryz.func55 (by kernel_rfl) rfl)
    (ops_stops 4 (by omega) (w.heap.size + 1 + 1 + 1) _ (by simp)) KeepsNew.trans keepsNew_b (Below.refl _ _) (fun _ => rfl)
    (fun pre W => (findN nm pre = none ∧ W.cell? ⟨w.heap.size, 0, none⟩ = some (.string nm) ∧ W.cell? ⟨w.heap.size + 1, 0, none⟩ = some (.int .i64 0) ∧ W.frozen? ⟨w.heap.size + 1, 0, none⟩ = false ∧ W.cell? ⟨w.heap.size + 1 + 1, 0, none⟩ = some (.bool false) ∧ W.frozen? ⟨w.heap.size + 1 + 1, 0, none⟩ = false) ∧ Below w.heap.size w W)
    (fun c pre W => (c = .ret ∧ ∃ x, findN nm pre = some x ∧ W.cell? ⟨w.heap.size + 1, 0, none⟩ = some (.int .i64 x.1) ∧ W.cell? ⟨w.heap.size + 1 + 1, 0, none⟩ = some (.bool true)) ∧ Below w.heap.size w W)
    (OwnFrom.and (Own.from (fun s A B row hs hg hr => ⟨hs.1, cell_kept hs.2.1 hg hr, cell_kept hs.2.2.1 hg hr, (frozen_kept hs.2.2.1 hg hr).trans hs.2.2.2.1, cell_kept hs.2.2.2.2.1 hg hr, (frozen_kept hs.2.2.2.2.1 hg hr).trans hs.2.2.2.2.2⟩) _) (ownFrom_below (Nat.le_refl _) (by simp; omega)))
    (fun c => OwnFrom.and (Own.from (fun s A B row hs hg hr => by obtain ⟨hc, x, hp, h1, h2⟩ := hs; exact ⟨hc, x, hp, cell_kept h1 hg hr, cell_kept h2 hg hr⟩) _) (ownFrom_below (Nat.le_refl _) (by simp; omega)))
    ⟨⟨rfl, cell_alloc_l _ (cell_alloc_l _ c0.1), cell_alloc_l _ c1.1, frozen_alloc_l _ c1.1 c1.2, c2.1, c2.2⟩, hB0⟩
    (fun x => { tmps := #[.string nm, .pointer (some ⟨w.heap.size, 0, none⟩), .pointer (some ⟨w.heap.size + 1, 0, none⟩), .pointer (some ⟨w.heap.size + 1 + 1, 0, none⟩), .int .i64 x.1, .string (nameOf x.1), .func (.func 55) #[] #[], .int .i64 x.1, .string (nameOf x.1), undef, undef, undef, undef], defers := [] }) ?assign ?body ?done ?stop
  case assign =>
    intro l x W K hK
    gi_wp2
    exact hK
  case body =>
    rintro l pre x W ⟨⟨hp, hcn, hc1, hf1, hc2, hf2⟩, hB⟩ _
    gi_wp2
    · have hx : ((nameOf x.1).toList == nm.toList) = true := by assumption
      obtain ⟨d1, d2⟩ := two_set (.int .i64 x.1) (.bool true) (by omega) hc1 hc2
      exact ⟨(KeepsOthers.setCell _ _ _).trans (KeepsOthers.setCell _ _ _), ⟨rfl, x, find_hit hp hx, d1, d2⟩, (hB.setCell (p := ⟨w.heap.size + 1, 0, none⟩) (by simp) _).setCell (p := ⟨w.heap.size + 1 + 1, 0, none⟩) (by simp; omega) _⟩
    · have hx : ((nameOf x.1).toList == nm.toList) = false := by assumption
      exact ⟨KeepsOthers.refl _, KeepsNew.refl _ _, ⟨find_miss hp hx, hcn, hc1, hf1, hc2, hf2⟩, hB⟩
  case done =>
    rintro D ys W hD rfl ⟨⟨hp, hcn, hc1, hf1, hc2, hf2⟩, hB⟩ hK
    gi_wp2
    have hK' := ((KeepsOthers.setCell W ⟨w.heap.size + 1, 0, none⟩ (.int .i64 0)).trans (KeepsOthers.setCell _ ⟨w.heap.size + 1 + 1, 0, none⟩ (.bool false))).same D _ hK rfl
    refine ⟨by simp, .inl ⟨_, _, rfl, run_takeDeferred hK', ?_⟩⟩
    obtain ⟨d1, d2⟩ := two_set (.int .i64 0) (.bool false) (show w.heap.size + 1 ≠ w.heap.size + 1 + 1 by omega) hc1 hc2
    have hc5 := cell_kept d1 (grownBy_putObj' _ D (.deferred none)) (fun r e => by cases e; exact ⟨_, hK', rfl⟩)
    have hc6 := cell_kept d2 (grownBy_putObj' _ D (.deferred none)) (fun r e => by cases e; exact ⟨_, hK', rfl⟩)
    have hv : namedV nm = 0 ∧ namedB nm = false := by unfold namedV namedB; rw [hp]; exact ⟨rfl, rfl⟩
    refine ⟨.tuple #[.int .i64 0, .bool false], ?_, by rw [hv.1, hv.2], ((hB.setCell (p := ⟨w.heap.size + 1, 0, none⟩) (by simp) _).setCell (p := ⟨w.heap.size + 1 + 1, 0, none⟩) (by simp; omega) _).trans (belowK_b (w := w) (Nat.le_refl _) _ D _ _ (by simp at hD; omega) hK' rfl rfl)⟩
    simp [results, Tryz.f29, go_sem, hc5, hc6]
  case stop =>
    rintro D c pre W hD ⟨k, hk, rfl⟩ ⟨⟨rfl, x, hx, hc1, hc2⟩, hB⟩ hK
    gi_wp2
    refine ⟨by simp, .inl ⟨_, _, rfl, run_takeDeferred hK, ?_⟩⟩
    have hc5 := cell_kept hc1 (grownBy_putObj' _ D (.deferred none)) (fun r e => by cases e; exact ⟨_, hK, rfl⟩)
    have hc6 := cell_kept hc2 (grownBy_putObj' _ D (.deferred none)) (fun r e => by cases e; exact ⟨_, hK, rfl⟩)
    have hv : namedV nm = x.1 ∧ namedB nm = true := by unfold namedV namedB; rw [find_prefix hk hx]; exact ⟨rfl, rfl⟩
    refine ⟨.tuple #[.int .i64 x.1, .bool true], ?_, by rw [hv.1, hv.2], hB.trans (belowK_b (w := w) (Nat.le_refl _) W D _ _ (by simp at hD; omega) hK rfl rfl)⟩
    simp [results, Tryz.f29, go_sem, hc5, hc6]

theorem named_any (nm : ByteArray) (w : World) :
    Calls Tryz.prog 29 #[.string nm] w fun e W' => e = .returned (.tuple #[.int .i64 (namedV nm), .bool (namedB nm)]) ∧ Below w.heap.size w W' :=
  callsIn_wide.1 (named_in nm w)

end Go.Proofs.YtnkkomodpjgefaaGreatDoor
