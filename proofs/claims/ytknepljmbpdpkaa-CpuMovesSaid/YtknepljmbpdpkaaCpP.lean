/- The core's do, whatever the op; next. -/
import Derived.Test.YtknepljmbpdpkaaCpO
namespace Go.Proofs.Ytknepljmbpdpkaa
open Go.RowKit

set_option maxHeartbeats 2000000 in
set_option maxRecDepth 100000 in
theorem do_rest8 {w : World} {L : Lay8} {s : St8} {m : Mem8} (h : Mach w L s m) (op imm : Int) (d a b : Nat) (hd : d < 16) (hA : a < 16) (hB : b < 16) (hw : (Lit.int .i64 op).wf = true) (ho : (op == 3) = false ∧ (op == 4) = false ∧ (op == 2) = false ∧ (op == 5) = false ∧ (op == 6) = false ∧ (op == 7) = false ∧ (op == 18) = false ∧ (op == 25) = false ∧ (op == 19) = false ∧ (op == 21) = false ∧ (op == 20) = false ∧ (op == 22) = false) :
    Calls Try.prog 50 #[.pointer (some ⟨L.C, 0, none⟩), insV op d a b imm] w (MachOut L (combT s m op d a b) w) := by
  have H := Lib.hid h
  obtain ⟨C, F, B, mp, lo, hi, ad, rc, bc, tp⟩ := L
  have hC : C < w.heap.size := h.core.lt
  have hTp : tp ≤ w.heap.size := h.ht
  have ra : w.cell? ⟨C, a, none⟩ = some (.int .u32 (s.R a)) := h.core.reg a hA
  have rd : w.cell? ⟨C, d, none⟩ = some (.int .u32 (s.R d)) := h.core.reg d hd
  have fd : w.frozen? ⟨C, d, none⟩ = false := h.core.fz d
  have a0 := h.core.ok.r0 a
  have a1 := h.core.ok.r1 a
  have v0 := h.core.ok.r0 d
  have v1 := h.core.ok.r1 d
  have hd2 : (d : Int) < 16 := by omega
  have hA2 : (a : Int) < 16 := by omega
  obtain ⟨q3, q4, q2, q5, q6, q7, q18, q25, q19, q21, q20, q22⟩ := ho
  clear h
  dsimp only
  go_enter Try.func50, Try.ntmps50
  go_wp2
  go_quiet (fail)
  have HW := Lib.hid (by repeat (first | (with_reducible exact H.out) | (with_reducible refine Mach.mdrew ?_) | (with_reducible refine Mach.mdrewN ?_ _) | (with_reducible refine Mach.malloc ?_ _) | ((with_reducible refine Mach.mset (hg := ?hg) ?_ _ _); case hg => dsimp only; omega)) : Mach (((w.alloc (.cells #[.int .i64 op, .int .i64 d, .int .i64 a, .int .i64 b, .int .i64 imm] 52)).alloc (.cells #[.int .i64 0, .int .i64 0, .int .u32 0, .int .i64 0, .int .i64 0] 38)).drewN nq) ⟨C, F, B, mp, lo, hi, ad, rc, bc, tp⟩ s m)
  go_wp2_with (first
    | (go_at_call 63; refine (comb_any HW.out op imm d a b hd hA hB hw).mono ?_; rintro e w1 ⟨rfl, hM, hT⟩; have hC1 : C < w1.heap.size := hM.core.lt; have hsz : w.heap.size + 2 ≤ w1.heap.size := (by have q := hT.size; simp at q; omega); obtain ⟨d0, d1, d2, d3, d4, d5, d6⟩ := five_of ((hT.block (w.heap.size + 1) (by simp) (by have := H.out.flat.bl; simp at *; omega)).trans (heap_alloc_new1 w _ _)); have HM1 := Lib.hid hM; have HT1 := Lib.hid ((show Turned w _ [C, B] from Turned.of_below _ (Bl.drewN (Bl.alloc (Bl.alloc (Below.refl _ _) _) _) _)).trans hT); clear hM hT))

  refine bodyPost_ret (v := stp8 (combT s m op d a b).2.2.kind (combT s m op d a b).2.2.call (combT s m op d a b).2.2.at' (combT s m op d a b).2.2.need (combT s m op d a b).2.2.used) (by simp [results, Try.results50, go_sem, d0, d1, d2, d3, d4, d6]) rfl ⟨rfl, ?_, ?_⟩
  · repeat (first | (with_reducible exact HM1.out) | (with_reducible refine Mach.mdrew ?_) | (with_reducible refine Mach.mdrewN ?_ _) | (with_reducible refine Mach.malloc ?_ _) | ((with_reducible refine Mach.mset (hg := ?hg) ?_ _ _); case hg => dsimp only; omega))
  · repeat (first | (with_reducible exact HT1.out) | (with_reducible refine Turned.tdrew ?_) | (with_reducible refine Turned.tdrewN ?_ _) | (with_reducible refine Turned.talloc ?_ _) | ((with_reducible refine Turned.tset (hg := ?hg) ?_ _ _); case hg => first | (right; omega) | (left; simp; done)))

theorem do_any8 {w : World} {L : Lay8} {s : St8} {m : Mem8} (h : Mach w L s m) (op imm : Int) (d a b : Nat) (hd : d < 16) (hA : a < 16) (hB : b < 16) (hw : (Lit.int .i64 op).wf = true) (hi : op = 6 → 0 ≤ imm ∧ imm ≤ 65535) :
    Calls Try.prog 50 #[.pointer (some ⟨L.C, 0, none⟩), insV op d a b imm] w (MachOut L (doT s m op d a b imm) w) := by
  unfold doT
  by_cases q3 : op = 3
  · subst q3; exact do_call8 h imm d a b hd hA
  rw [if_neg q3]
  by_cases q4 : op = 4
  · subst q4; exact do_back8 h imm d a b hd hA
  rw [if_neg q4]
  by_cases q2 : op = 2
  · subst q2; exact do_stop8 h imm d a b hd hA
  rw [if_neg q2]
  by_cases q5 : op = 5
  · subst q5; exact do_const8 h imm d a b hd hA
  rw [if_neg q5]
  by_cases q6 : op = 6
  · subst q6; exact do_high8 h imm d a b hd hA (hi rfl).1 (hi rfl).2
  rw [if_neg q6]
  by_cases q7 : op = 7
  · subst q7; exact do_copy8 h imm d a b hd hA
  rw [if_neg q7]
  by_cases q18 : op = 18
  · subst q18; exact do_addi8 h imm d a b hd hA
  rw [if_neg q18]
  by_cases q25 : op = 25
  · subst q25; exact do_link8 h imm d a b hd hA
  rw [if_neg q25]
  by_cases q19 : op = 19
  · subst q19; exact do_load8 h imm d a b hd hA
  rw [if_neg q19]
  by_cases q21 : op = 21
  · subst q21; exact do_loadb8 h imm d a b hd hA
  rw [if_neg q21]
  by_cases q20 : op = 20
  · subst q20; exact do_store8 h imm d a b hd hA
  rw [if_neg q20]
  by_cases q22 : op = 22
  · subst q22; exact do_storeb8 h imm d a b hd hA
  rw [if_neg q22]
  exact do_rest8 h op imm d a b hd hA hB hw (by simp [q2, q3, q4, q5, q6, q7, q18, q19, q20, q21, q22, q25])
end Go.Proofs.Ytknepljmbpdpkaa
