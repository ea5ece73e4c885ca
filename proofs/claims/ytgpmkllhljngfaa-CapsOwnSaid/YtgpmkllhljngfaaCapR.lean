/- granted: has the account 1 one that another made? -/
import Derived.Test.YtgpmkllhljngfaaCapQ
import Derived.OneCell
namespace Go.Proofs.Ytgpmkllhljngfaa
open Go.RowKit
attribute [local go_sem] Oper.semAt_some

theorem eql_seq (w : World) (F : Nat) : (binOp .eql 40 (.func (.func 58) #[] #[.pointer (some ⟨F, 0, none⟩)]) .nilFunc).run Try.prog w = .ok (.bool false) w := by kernel_rfl
def strangerB (S : List Cap) : Bool := (allC S 1).any (fun c => c.maker != 1)
def GrantI (w0 : World) (S : List Cap) (k : Nat) (W : World) : Prop := Below w0.heap.size w0 W ∧ ∀ j, j < k → (atC S j).maker = 1
def GrantX (w w0 : World) (S : List Cap) (b : Nat) (c : Code) (W : World) : Prop := (c = .ret ∧ S.any (fun c => c.maker != 1) = true) ∧ W.cell? ⟨b, 0, none⟩ = some (.bool true) ∧ Below w.heap.size w W
theorem atC_mem {S : List Cap} {k : Nat} (hk : k < S.length) : atC S k ∈ S := by unfold atC; rw [List.getD_eq_getElem?_getD, List.getElem?_eq_getElem hk]; exact List.getElem_mem hk
theorem atC_any {S : List Cap} {p : Cap → Bool} (h : ∀ j, j < S.length → p (atC S j) = false) : S.any p = false := by
  rw [List.any_eq_false]
  intro c hc
  obtain ⟨j, hj, rfl⟩ := List.getElem_of_mem hc
  have := h j hj
  unfold atC at this
  rw [List.getD_eq_getElem?_getD, List.getElem?_eq_getElem hj] at this
  simpa using this
theorem grantI_own (w0 : World) (S : List Cap) : OwnFrom w0.heap.size (GrantI w0 S) := OwnFrom.and (ownFrom_below (Nat.le_refl _) (Nat.le_refl _)) (ownFrom_pure _ _)
theorem grantX_own (w w0 : World) (S : List Cap) (b : Nat) (c : Code) (h : w.heap.size ≤ w0.heap.size) : OwnFrom w0.heap.size (fun (_ : Unit) W => GrantX w w0 S b c W) :=
  OwnFrom.and (ownFrom_pure _ (fun _ => c = .ret ∧ S.any (fun c => c.maker != 1) = true)) (OwnFrom.and (Own.from (fun _ _ _ _ hs hg hr => cell_kept hs hg hr) _) (ownFrom_below (Nat.le_refl _) h))
theorem keeps_below {W W' : World} (h : Below W.heap.size W W') : KeepsOthers W W' := ⟨h.size, fun k o hk _ => (h.block k (Array.getElem?_eq_some_iff.1 hk).1).trans hk⟩
theorem below_putC {B : Nat} {w W : World} (h : Below B w W) (D : Nat) (o : Obj) (hD : B ≤ D) : Below B w (W.putObj D o) :=
  ⟨h.os, h.tape, h.output, by simp [World.putObj]; exact h.size, fun k hk => (World.putObj_heap_other (by omega)).trans (h.block k hk)⟩

set_option maxRecDepth 100000 in
set_option maxHeartbeats 2000000 in
theorem granted_in {w : World} {t b : Nat} {T : Tab} (h : TabAt w t b T) (hl : T.last ≤ 1000) :
    CallsIn Fence.wide 5 Try.prog 25 #[.pointer (some ⟨t, 0, none⟩)] w fun e w' => e = .returned (.bool (strangerB T.caps)) ∧ Below w.heap.size w w' := by
  have HA := fun o => Lib.hid (all_any (h.step (w' := w.alloc o) ((Below.refl _ w).alloc (Nat.le_refl _) _)) hl 1)
  have HLEN := Lib.hid (show (allC T.caps 1).length ≤ 1000 from Nat.le_trans (List.length_filter_le _ _) (Nat.le_trans h.ok.len hl))
  unfold strangerB
  generalize allC T.caps 1 = S at HA HLEN ⊢
  clear h hl
  refine callsIn_of_wp_marks Try.func25 rfl trivial ?_ rfl
  simp only [Try.ntmps25, List.size_toArray, List.length_cons, List.length_nil, Nat.reduceAdd, Nat.reduceSub, Array.replicate_succ, Array.replicate_zero, List.push_toArray, List.append_toArray, List.nil_append, List.cons_append]
  have q := eql_seq
  gi_wp2_with fail
  refine ⟨trivial, ?_⟩
  gi_at_call 18
  refine (callsIn_wide.2 (HA _).out).mono ?_
  rintro e w0 ⟨F, rfl, hseq, hb, -⟩
  obtain ⟨A, cap, hs⟩ := hseq.is
  have hcell := (hb.block w.heap.size (by simp)).trans (heap_alloc_new w _)
  have B0 := Lib.hid (((Below.refl _ w).alloc (Nat.le_refl _) _).trans (hb.mono (by simp)))
  have HS := Lib.hid hs
  have HC := Lib.hid hcell
  have hb0 : w.heap.size < w0.heap.size := (Array.getElem?_eq_some_iff.1 hcell).1
  clear hseq hs hb hcell
  unfold seqV
  gi_wp2_with fail
  refine range_cap rfl (by omega) (gf := 58) (lb := #[.pointer (some ⟨F, 0, none⟩)]) (S := S) (I := GrantI w0 S) (Ix := GrantX w w0 S w.heap.size) rfl trivial (enters_of Try.func58 (by kernel_rfl) rfl)
    (values_steps 4 (by omega) F A cap S HLEN.out _ (fun k W hI => HS.out.below hI.1 (Nat.le_refl _))) rfl (grantI_own w0 S) (fun c => grantX_own w w0 S _ c B0.out.size) ⟨Below.refl _ _, fun j hj => by omega⟩
    (fun k B => { tmps := #[.pointer (some ⟨t, 0, none⟩), undef, .pointer (some ⟨w.heap.size, 0, none⟩), .func (.func 58) #[] #[.pointer (some ⟨F, 0, none⟩)], .pointer (some ⟨B, 0, none⟩), .pointer (some ⟨t, 0, none⟩), .func (.func 58) #[] #[.pointer (some ⟨F, 0, none⟩)], .func (.func 58) #[] #[.pointer (some ⟨F, 0, none⟩)], .bool false, .func (.func 58) #[] #[.pointer (some ⟨F, 0, none⟩)], capV (atC S k), undef, undef, undef], defers := [] }) ?assign ?body ?done ?stop
  case assign =>
    intro l k W K hK
    unfold boxC capV at *
    gi_wp2
    exact hK
  case body =>
    rintro l k B W hk hB hbox ⟨hbl, hall⟩
    have HBL := Lib.hid hbl
    have HALL := Lib.hid hall
    unfold boxC at hbox
    have c3 : W.cell? ⟨B, 3, none⟩ = some (.int .i64 (atC S k).maker) := by rw [cell_of_row _ _ _ _ _ _ hbox]; rfl
    have r0 : W.heap[w.heap.size]? = some (.cells #[.bool false] 4 (0, 0)) := (hbl.block _ hb0).trans HC.out
    have rc : W.cell? ⟨w.heap.size, 0, none⟩ = some (.bool false) := by rw [cell_of_row _ _ _ _ _ _ r0]; rfl
    have rf : W.frozen? ⟨w.heap.size, 0, none⟩ = false := by simp [World.frozen?, r0]
    clear hbl hall hbox
    unfold capV
    cases hm : (atC S k).maker != 1
    · gi_wp2
      exact ⟨KeepsOthers.refl _, HBL.out, fun j hj => by
        by_cases e : j = k
        · subst e; simpa using hm
        · exact HALL.out j (by omega)⟩
    · gi_wp2
      refine ⟨KeepsOthers.setCell _ _ _, ⟨rfl, List.any_eq_true.2 ⟨_, atC_mem hk, hm⟩⟩, ?_, (B0.out.trans (HBL.out.mono B0.out.size)).setCell (Nat.le_refl _) _⟩
      rw [cell_of_row _ _ _ _ _ _ (one_setCell r0)]; rfl
  case done =>
    rintro D W hD ⟨hbl, hall⟩ hK
    have r0 : W.heap[w.heap.size]? = some (.cells #[.bool false] 4 (0, 0)) := (hbl.block _ hb0).trans HC.out
    have rc : W.cell? ⟨w.heap.size, 0, none⟩ = some (.bool false) := by rw [cell_of_row _ _ _ _ _ _ r0]; rfl
    have rf : W.frozen? ⟨w.heap.size, 0, none⟩ = false := by simp [World.frozen?, r0]
    have HBL := Lib.hid hbl
    have E := Lib.hid (show S.any (fun c => c.maker != 1) = false from atC_any fun j hj => by simp [hall j hj])
    clear hbl hall
    gi_wp2
    have hK' : (W.setCell ⟨w.heap.size, 0, none⟩ (.bool false)).heap[D]? = some (.deferred (some [])) := (heap_setCell_other W ⟨w.heap.size, 0, none⟩ D _ (show D ≠ w.heap.size by omega)).trans hK
    have hc' : (W.setCell ⟨w.heap.size, 0, none⟩ (.bool false)).cell? ⟨w.heap.size, 0, none⟩ = some (.bool false) := by rw [cell_of_row _ _ _ _ _ _ (one_setCell r0)]; rfl
    refine ⟨by simp, .inl ⟨_, _, rfl, run_takeDeferred hK', ?_⟩⟩
    refine ⟨.bool false, ?_, by rw [E.out], below_putC ((B0.out.trans (HBL.out.mono B0.out.size)).setCell (Nat.le_refl _) _) _ _ (by have := B0.out.size; omega)⟩
    have hc2 : ((W.setCell ⟨w.heap.size, 0, none⟩ (.bool false)).putObj D (.deferred none)).cell? ⟨w.heap.size, 0, none⟩ = some (.bool false) := (World.cell?_of_block (a := ⟨w.heap.size, 0, none⟩) (World.putObj_heap_other (show w.heap.size ≠ D by omega))).trans hc'
    simp [results, Try.f25, go_sem, hc2]
  case stop =>
    rintro D c W hD ⟨⟨rfl, hany⟩, hcell, hbl⟩ hK
    gi_wp2
    refine ⟨by simp, .inl ⟨_, _, rfl, run_takeDeferred hK, ?_⟩⟩
    refine ⟨.bool true, ?_, by rw [hany], below_putC hbl _ _ (by have := B0.out.size; omega)⟩
    have hc2 : (W.putObj D (.deferred none)).cell? ⟨w.heap.size, 0, none⟩ = some (.bool true) := (World.cell?_of_block (a := ⟨w.heap.size, 0, none⟩) (World.putObj_heap_other (show w.heap.size ≠ D by omega))).trans hcell
    simp [results, Try.f25, go_sem, hc2]
theorem granted_any {w : World} {t b : Nat} {T : Tab} (h : TabAt w t b T) (hl : T.last ≤ 1000) :
    Calls Try.prog 25 #[.pointer (some ⟨t, 0, none⟩)] w fun e w' => e = .returned (.bool (strangerB T.caps)) ∧ Below w.heap.size w w' := callsIn_wide.1 (granted_in h hl)
end Go.Proofs.Ytgpmkllhljngfaa
