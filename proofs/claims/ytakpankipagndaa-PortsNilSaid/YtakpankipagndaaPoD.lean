/- come, drop. -/
import Derived.Test.YtakpankipagndaaPoC
namespace Go.Proofs.Ytakpankipagndaa
open Go.RowKit (wrap64)
open Go.RowKit
attribute [local go_sem] Oper.semAt_some

def Cl.come (X : Cl) (P : List Nat) : Cl := if X.rg.length = 8 then { X with lo := wrap64 (X.lo + 1) } else { X with rg := X.rg ++ [P] }
def Cl.drop (X : Cl) : Cl := { X with rg := X.rg.tail, fs := (X.fs + 1) % 8 }
theorem Cl.come_ok {X : Cl} (h : ClOk X) {P : List Nat} (hP : P.length ≤ 64) : ClOk (X.come P) := by
  unfold Cl.come
  split
  · exact ⟨h.may, h.rl, h.pl, h.fs⟩
  · rename_i hl
    refine ⟨h.may, ?_, fun Q hQ => ?_, h.fs⟩
    · have := h.rl
      rw [List.length_append, List.length_singleton]
      omega
    · rcases List.mem_append.1 hQ with hQ | hQ
      · exact h.pl Q hQ
      · rw [List.mem_singleton.1 hQ]; exact hP
theorem Cl.drop_ok {X : Cl} (h : ClOk X) : ClOk X.drop :=
  ⟨h.may, by unfold Cl.drop; rw [List.length_tail]; have := h.rl; omega, fun P hP => h.pl P (List.mem_of_mem_tail hP), Nat.mod_lt _ (by omega)⟩
/-- Blocks that are new besides. -/
def RN (R : Nat → Prop) (w w' : World) : Nat → Prop := fun k => R k ∨ (w.heap.size ≤ k ∧ k < w'.heap.size)
theorem rem8 {x y j : Nat} (hx : x < 1000) (hy : y < 1000) (hj : (x + y) % 8 = j) : IntKind.i64.wrap ((x : Int) + (y : Int)) = (x : Int) + (y : Int) ∧ ((x : Int) + (y : Int)).tmod 8 = (j : Int) ∧ ((x : Int) + (y : Int)) % 8 = (j : Int) ∧ (0 : Int) ≤ (x : Int) + (y : Int) := by
  refine ⟨by rw [IntWalk.i64_in _ (by omega)], ?_, by omega, by omega⟩
  rw [Int.tmod_eq_emod_of_nonneg (by omega)]
  omega
section
variable {w : World} {R : Nat → Prop} {c : Nat} {X : Cl} {FA : Option Addr} {FC : Nat} {V : Nat → Value}
/-- One more was lost. -/
theorem come_full (h : ClAt w R c X FA FC V) (hl : X.rg.length = 8) (v : Value) :
    Calls Try.prog 54 #[.pointer (some ⟨c, 0, none⟩), v] w fun e w' => e = .returned (.bool false) ∧ w' = w.setCell ⟨c, 11, none⟩ (.int .i64 (wrap64 (X.lo + 1))) := by
  have c10 := h.c10
  rw [hl] at c10
  have c11 := h.c11
  have fz := h.fz
  clear h hl
  go_enter Try.func54, Try.ntmps54
  go_wp2
  go_ret
  exact ⟨rfl, rfl⟩
def ComeOut (w : World) (c j n : Nat) (P : List Nat) (e : Ending) (w' : World) : Prop :=
  e = .returned (.bool true) ∧ ∃ w1 v, w1.ownsRow w.heap.size 5 1 v P.length (byL P) ∧ Below w.heap.size w w1 ∧ w' = (w1.setCell ⟨c, 1 + j, none⟩ v).setCell ⟨c, 10, none⟩ (.int .i64 ((n + 1 : Nat) : Int))
set_option maxHeartbeats 2000000 in
set_option maxRecDepth 100000 in
theorem come_room (h : ClAt w R c X FA FC V) (hx : ClOk X) (hl : X.rg.length < 8) {A : Option Addr} {n ca : Nat} {P : List Nat} (hp : PkF w A n ca P) (hn : n ≤ 64) :
    Calls Try.prog 54 #[.pointer (some ⟨c, 0, none⟩), .slice A n ca] w (ComeOut w c ((X.fs + X.rg.length) % 8) X.rg.length P) := by
  have c9 := h.c9
  have c10 := h.c10
  have hfs := hx.fs
  have hlt := h.lt
  have HC := Lib.hid (h.cb)
  obtain ⟨f, hf⟩ : ∃ f, X.fs = f := ⟨_, rfl⟩
  obtain ⟨k, hk⟩ : ∃ k, X.rg.length = k := ⟨_, rfl⟩
  rw [hf] at c9 hfs HC ⊢
  rw [hk] at c10 hl HC ⊢
  clear hf hk
  have hne : ¬ (k : Int) = 8 := by omega
  obtain ⟨j, hj⟩ : ∃ j, (f + k) % 8 = j := ⟨_, rfl⟩
  obtain ⟨r1, r2, r4, r5⟩ := rem8 (x := f) (y := k) (by omega) (by omega) hj
  have r3 : IntKind.i64.wrap ((k : Int) + 1) = (k : Int) + 1 := by rw [IntWalk.i64_in _ (by omega)]
  have hj8 : j < 8 := by omega
  have hj0 : (0 : Int) ≤ (j : Int) := by omega
  have hj8i : (j : Int) < 8 := by omega
  have HJ := Lib.hid hj
  rw [hj]
  have hcl := fun w' (hb : Below w.heap.size w w') => bclone_any (hp.below hb) (by omega : n ≤ 1000000)
  have HCL := Lib.hid hcl
  clear h hx hp hcl hj
  go_enter Try.func54, Try.ntmps54
  go_wp2_with fail
  have hnew : ∀ W : World, W.heap[c]? = some (.cells (clA (.slice FA X.fl.length FC) V (f : Int) (k : Int) X.lo) 110 (0, 0)) →
      (W.cell? ⟨c, 9, none⟩ = some (.int .i64 (f : Int)) ∧ W.cell? ⟨c, 10, none⟩ = some (.int .i64 (k : Int)) ∧ W.frozen? ⟨c, 1 + j, none⟩ = false) ∧
      ∀ v, ((W.setCell ⟨c, 1 + j, none⟩ v).cell? ⟨c, 9, none⟩ = some (.int .i64 (f : Int)) ∧ (W.setCell ⟨c, 1 + j, none⟩ v).cell? ⟨c, 10, none⟩ = some (.int .i64 (k : Int)) ∧ (W.setCell ⟨c, 1 + j, none⟩ v).frozen? ⟨c, 1 + j, none⟩ = false) := fun W hW => by
    refine ⟨⟨by rw [cell_of_row _ _ _ _ _ _ hW]; rfl, by rw [cell_of_row _ _ _ _ _ _ hW]; rfl, frozen_of_row _ _ _ _ _ hW⟩, fun v => ?_⟩
    have hr := heap_setCell_same W c (1 + j) _ _ v hW
    rw [clA_set _ _ _ _ _ hj8] at hr
    exact ⟨by rw [cell_of_row _ _ _ _ _ _ hr]; rfl, by rw [cell_of_row _ _ _ _ _ _ hr]; rfl, frozen_of_row _ _ _ _ _ hr⟩
  have HN := Lib.hid hnew
  have HN0 := Lib.hid (hnew w.drew HC.out).1
  clear hnew
  go_region_held3 (fun W => W.cell? ⟨c, 9, none⟩ = some (.int .i64 (f : Int)) ∧ W.cell? ⟨c, 10, none⟩ = some (.int .i64 (k : Int)) ∧ W.frozen? ⟨c, 1 + j, none⟩ = false)
    (first | exact HN0.out | exact HW.out.1 | exact HW.out.2 _ | go_keep)
    (first | (go_at_call 62; refine (HCL.out w.drew (Below.refl _ w).drew).mono ?_; rintro e w1 ⟨v, rfl, ho, hb⟩; obtain ⟨A', c', rfl, -⟩ := own_form ho; have HO := Lib.hid (show w1.ownsRow w.heap.size 5 1 (.slice A' P.length c') P.length (byL P) from ho); have HB := Lib.hid (show Below w.heap.size w w1 from (Below.refl _ w).drew.trans hb); have HW := Lib.hid (HN.out w1 ((HB.out.block c hlt).trans HC.out)); have hcj : w1.cell? ⟨c, 1 + j, none⟩ = some (V j) := (by rw [cell_of_row _ _ _ _ _ _ ((HB.out.block c hlt).trans HC.out)]; exact clA_slot _ _ _ _ _ hj8); have hfz1 := fun o => frozen_of_row w1 c o _ _ ((HB.out.block c hlt).trans HC.out); clear ho hb))
  all_goals
    have hc10 := (HW.out.2 (.slice A' P.length c')).2.1
    go_wp2_with fail
    go_ret
    exact ⟨rfl, w1, _, HO.out, HB.out, rfl⟩
end
end Go.Proofs.Ytakpankipagndaa
