/- any: does anything stand in a space? -/
import Derived.Test.YtgkfejnjjoaihaaDoorPgS
import Derived.OneCell
namespace Go.Proofs.YtgkfejnjjoaihaaDoor
open Go.RowKit
attribute [local go_sem] Oper.semAt_some

def anyT (T : Tb) (s : Int) : Bool := (List.range 32).any (hitS T s)
theorem anyT_no {T : Tb} {s : Int} (h : ∀ j, j < 32 → hitS T s j = false) : anyT T s = false := by
  unfold anyT
  rw [List.any_eq_false]
  intro j hj
  rw [h j (List.mem_range.1 hj)]
  simp
theorem anyT_yes {T : Tb} {s : Int} {j : Nat} (hj : j < 32) (h : hitS T s j = true) : anyT T s = true := List.any_eq_true.2 ⟨j, List.mem_range.2 hj, h⟩
def AnyI (w0 : World) (T : Tb) (s : Int) (k : Nat) (W : World) : Prop := Below w0.heap.size w0 W ∧ ∀ j, j < k → hitS T s j = false
def AnyX (w : World) (T : Tb) (s : Int) (n : Nat) (c : Code) (W : World) : Prop := (c = .ret ∧ anyT T s = true) ∧ W.cell? ⟨n, 0, none⟩ = some (.bool true) ∧ Below w.heap.size w W
theorem anyI_own (w0 : World) (T : Tb) (s : Int) (B : Nat) (hB : w0.heap.size ≤ B) : OwnFrom B (AnyI w0 T s) := OwnFrom.and (ownFrom_below (Nat.le_refl _) hB) (ownFrom_pure _ _)
theorem anyX_own (w w0 : World) (T : Tb) (s : Int) (n : Nat) (c : Code) (h : w.heap.size ≤ w0.heap.size) : OwnFrom w0.heap.size (fun (_ : Unit) W => AnyX w T s n c W) :=
  OwnFrom.and (ownFrom_pure _ (fun _ => c = .ret ∧ anyT T s = true)) (OwnFrom.and (Own.from (fun _ _ _ _ hs hg hr => cell_kept hs hg hr) _) (ownFrom_below (Nat.le_refl _) h))
theorem cell_new_f (w : World) (v : Value) (t : TypeId) : (w.alloc (.cells #[v] t)).cell? ⟨w.heap.size, 0, none⟩ = some v ∧ (w.alloc (.cells #[v] t)).frozen? ⟨w.heap.size, 0, none⟩ = false := ⟨by simp, by simp⟩
theorem three_boxes (w : World) (x p s : Value) (a b c : TypeId) :
    (((w.alloc (.cells #[x] a)).alloc (.cells #[p] b)).alloc (.cells #[s] c)).heap[w.heap.size]? = some (.cells #[x] a (0, 0)) ∧
    (((w.alloc (.cells #[x] a)).alloc (.cells #[p] b)).alloc (.cells #[s] c)).heap[w.heap.size + 1]? = some (.cells #[p] b (0, 0)) ∧
    (((w.alloc (.cells #[x] a)).alloc (.cells #[p] b)).alloc (.cells #[s] c)).heap[w.heap.size + 1 + 1]? = some (.cells #[s] c (0, 0)) ∧
    (((w.alloc (.cells #[x] a)).alloc (.cells #[p] b)).alloc (.cells #[s] c)).heap.size = w.heap.size + 1 + 1 + 1 ∧ Below w.heap.size w (((w.alloc (.cells #[x] a)).alloc (.cells #[p] b)).alloc (.cells #[s] c)) := three_alloc w _ _ _
theorem one_of {w : World} {n : Nat} {v : Value} {t : TypeId} (h : w.heap[n]? = some (.cells #[v] t (0, 0))) : w.cell? ⟨n, 0, none⟩ = some v ∧ w.frozen? ⟨n, 0, none⟩ = false ∧ n < w.heap.size :=
  ⟨by rw [cell_of_row _ _ _ _ _ _ h]; rfl, frozen_of_row _ _ _ _ _ h, (Array.getElem?_eq_some_iff.1 h).1⟩
theorem boxes_of {w : World} {b1 b2 t : Nat} {s : Int} {ta tb : TypeId} (h1 : w.heap[b1]? = some (.cells #[.pointer (some ⟨t, 0, none⟩)] ta (0, 0))) (h2 : w.heap[b2]? = some (.cells #[.int .i64 s] tb (0, 0))) : BoxesAt w b1 b2 t s := ⟨(one_of h1).1, (one_of h2).1⟩
theorem below_putC {B : Nat} {w W : World} (h : Below B w W) (D : Nat) (o : Obj) (hD : B ≤ D) : Below B w (W.putObj D o) :=
  ⟨h.os, h.tape, h.output, by simp [World.putObj]; exact h.size, fun k hk => (World.putObj_heap_other (by omega)).trans (h.block k hk)⟩
theorem keeps_from {B : Nat} {W W' : World} (h : KeepsOthers W W') : KeepsFrom B W W' := ⟨h.size, fun k o _ hk ho => h.same k o hk ho⟩

set_option maxRecDepth 100000 in
set_option maxHeartbeats 2000000 in
theorem any_in {w : World} {t b N : Nat} {T : Tb} (h : PT w t b N T) (s : Int) :
    CallsIn Fence.wide 5 Tryd.prog 53 #[.pointer (some ⟨t, 0, none⟩), .int .i64 s] w fun e w' => e = .returned (.bool (anyT T s)) ∧ Below w.heap.size w w' := by
  obtain ⟨r0, r1, r2, hsz, hB0⟩ := three_boxes w (.bool false) (.pointer (some ⟨t, 0, none⟩)) (.int .i64 s) 4 23 3
  have hP := h.step hB0
  have HP := Lib.hid hP
  clear h hP
  refine callsIn_of_wp_marks Tryd.func53 rfl trivial ?_ rfl
  simp only [Tryd.ntmps53, List.size_toArray, List.length_cons, List.length_nil, Nat.reduceAdd, Nat.reduceSub, Array.replicate_succ, Array.replicate_zero, List.push_toArray, List.append_toArray, List.nil_append, List.cons_append]
  gi_wp2_with fail
  refine ⟨trivial, ?_⟩
  gi_at_call 54
  refine (callsIn_wide.2 (space_any _ _)).mono ?_
  rintro e w' ⟨rfl, rfl⟩
  have hsz1 : (w.alloc (.cells #[.bool false] 4)).heap.size = w.heap.size + 1 := by simp
  rw [hsz1]
  gi_wp2_with fail
  generalize hW0 : ((w.alloc (.cells #[.bool false] 4)).alloc (.cells #[.pointer (some ⟨t, 0, none⟩)] 23)).alloc (.cells #[.int .i64 s] 3) = w0 at r0 r1 r2 hsz hB0 HP ⊢
  clear hW0 hsz1
  have hn : w.heap.size ≤ w0.heap.size := hB0.size
  have HB0 := Lib.hid hB0
  have R0 := Lib.hid r0
  have HS := Lib.hid hsz
  have hbox : ∀ W : World, Below w0.heap.size w0 W → BoxesAt W (w.heap.size + 1) (w.heap.size + 1 + 1) t s ∧ PT W t b N T := fun W hb =>
    ⟨boxes_of ((hb.block _ (by omega)).trans r1) ((hb.block _ (by omega)).trans r2), HP.out.step hb⟩
  have HBX := Lib.hid hbox
  clear r0 r1 r2 hsz hbox hB0
  refine range_b (encs := encS T s) (N := 32) (hit := hitS T s) (I := AnyI w0 T s) (Ix := AnyX w T s w.heap.size) rfl (by omega) (gf := 61) (lb := #[.pointer (some ⟨w.heap.size + 1, 0, none⟩), .pointer (some ⟨w.heap.size + 1 + 1, 0, none⟩)]) rfl trivial (enters_of Tryd.func61 (by kernel_rfl) rfl)
    (space_steps 4 (by omega) _ _ t b N T s _ (fun W hI => HBX.out W hI.1)) (fun _ => rfl) (anyI_own w0 T s _ (Nat.le_refl _)) (fun k W h => ⟨h.1.trans ((Below.refl _ W).drew.mono h.1.size), h.2⟩) (fun c => anyX_own w w0 T s _ c hn) ⟨Below.refl _ _, fun j hj => by omega⟩
    (fun k W _ hh h => ⟨h.1, fun j hj => by
      by_cases e : j = k
      · subst e; exact hh
      · exact h.2 j (by omega)⟩) (fun _ => none)
    (fun k B => { tmps := #[.pointer (some ⟨t, 0, none⟩), .int .i64 s, undef, undef, .pointer (some ⟨w.heap.size, 0, none⟩), .pointer (some ⟨t, 0, none⟩), .int .i64 s, .func (.func 61) #[] #[.pointer (some ⟨w.heap.size + 1, 0, none⟩), .pointer (some ⟨w.heap.size + 1 + 1, 0, none⟩)], .int .i64 k, entV (atT T s k)], defers := [] }) ?assign ?body ?done ?stop
  case assign =>
    intro l k W K hK
    gi_wp2
    simpa [encS, addO] using hK
  case body =>
    rintro l k B W hk hh hB - ⟨hbl, hall⟩
    have HBL := Lib.hid hbl
    have HH := Lib.hid hh
    have r0 : W.heap[w.heap.size]? = some (.cells #[.bool false] 4 (0, 0)) := (hbl.block _ (by have := HS.out; omega)).trans R0.out
    obtain ⟨rc, rf, rl⟩ := one_of r0
    have R0' := Lib.hid r0
    clear hbl hall hh r0
    gi_wp2
    refine ⟨keeps_from (KeepsOthers.setCell _ _ _), ⟨rfl, anyT_yes hk HH.out⟩, ?_, (HB0.out.trans (HBL.out.mono HB0.out.size)).setCell (Nat.le_refl _) _⟩
    rw [cell_of_row _ _ _ _ _ _ (one_setCell R0'.out)]; rfl
  case done =>
    rintro D W hD ⟨hbl, hall⟩ hK
    have r0 : W.heap[w.heap.size]? = some (.cells #[.bool false] 4 (0, 0)) := (hbl.block _ (by have := HS.out; omega)).trans R0.out
    obtain ⟨rc, rf, rl⟩ := one_of r0
    have HBL := Lib.hid hbl
    have E := Lib.hid (anyT_no hall)
    have hne := HS.out
    clear hbl hall
    gi_wp2
    have hK' : (W.setCell ⟨w.heap.size, 0, none⟩ (.bool false)).heap[D]? = some (.deferred (some [])) := (heap_setCell_other W ⟨w.heap.size, 0, none⟩ D _ (show D ≠ w.heap.size by omega)).trans hK
    have hc' : (W.setCell ⟨w.heap.size, 0, none⟩ (.bool false)).cell? ⟨w.heap.size, 0, none⟩ = some (.bool false) := by rw [cell_of_row _ _ _ _ _ _ (one_setCell r0)]; rfl
    refine ⟨by simp, .inl ⟨_, _, rfl, run_takeDeferred hK', ?_⟩⟩
    refine ⟨.bool false, ?_, by rw [E.out], below_putC ((HB0.out.trans (HBL.out.mono HB0.out.size)).setCell (Nat.le_refl _) _) _ _ (by omega)⟩
    have hc2 : ((W.setCell ⟨w.heap.size, 0, none⟩ (.bool false)).putObj D (.deferred none)).cell? ⟨w.heap.size, 0, none⟩ = some (.bool false) := (World.cell?_of_block (a := ⟨w.heap.size, 0, none⟩) (World.putObj_heap_other (show w.heap.size ≠ D by omega))).trans hc'
    simp [results, Tryd.f53, go_sem, hc2]
  case stop =>
    rintro D c W hD ⟨⟨rfl, hany⟩, hcell, hbl⟩ hK
    have hne := HS.out
    gi_wp2
    refine ⟨by simp, .inl ⟨_, _, rfl, run_takeDeferred hK, ?_⟩⟩
    refine ⟨.bool true, ?_, by rw [hany], below_putC hbl _ _ (by omega)⟩
    have hc2 : (W.putObj D (.deferred none)).cell? ⟨w.heap.size, 0, none⟩ = some (.bool true) := (World.cell?_of_block (a := ⟨w.heap.size, 0, none⟩) (World.putObj_heap_other (show w.heap.size ≠ D by omega))).trans hcell
    simp [results, Tryd.f53, go_sem, hc2]
theorem any_any {w : World} {t b N : Nat} {T : Tb} (h : PT w t b N T) (s : Int) :
    Calls Tryd.prog 53 #[.pointer (some ⟨t, 0, none⟩), .int .i64 s] w fun e w' => e = .returned (.bool (anyT T s)) ∧ Below w.heap.size w w' := callsIn_wide.1 (any_in h s)
end Go.Proofs.YtgkfejnjjoaihaaDoor
