/- A capability is made: add. -/
import Derived.Test.YtakgjakcbpdefaaCapG
import Derived.Deep.DeepCutAuto
import Derived.Deep.CutRange
import Derived.Deep.CutBlock
namespace Go.Proofs.Ytakgjakcbpdefaa
open Go.RowKit
open Go.Maps (Keyed)

set_option maxRecDepth 100000 in
set_option maxHeartbeats 2000000 in
theorem add_full {w : World} {t b : Nat} {T : Tab} (h : TabAt w t b T) (hl : T.last ≤ 1000) (c : Cap) (hf : 32 ≤ madeBy T.caps c.maker) :
    Calls Try.prog 48 #[.pointer (some ⟨t, 0, none⟩), capV c] w fun e w' => e = .returned (.tuple #[.int .i64 0, .int .i64 5]) ∧ Below w.heap.size w w' := by
  have H := fun o => Lib.hid (h.step (w' := w.alloc o) ((Below.refl _ w).alloc (Nat.le_refl _) _))
  have HF : ((32 : Int) ≤ (madeBy T.caps c.maker : Nat)) := by omega
  have HL := Lib.hid hl
  clear h hf hl
  unfold capV
  go_enter Try.func48, Try.ntmps48
  go_wp2_with (go_at_call 27; refine (made_any (H _).out HL.out _).mono ?_; rintro e w1 ⟨rfl, hb1⟩; have b1 := Lib.hid (((Below.refl _ w).alloc (Nat.le_refl _) _).trans (hb1.mono (by simp))); clear hb1)
  go_ret2
  exact ⟨rfl, b1.out⟩
set_option maxRecDepth 100000 in
set_option maxHeartbeats 2000000 in
theorem add_yes {w : World} {t b : Nat} {T : Tab} (h : TabAt w t b T) (hl : T.last < 1000) (c : Cap) (hf : madeBy T.caps c.maker < 32) (hok : TabOk (addT T c)) (hi : c.id = 0) :
    Calls Try.prog 48 #[.pointer (some ⟨t, 0, none⟩), capV c] w fun e w' => e = .returned (.tuple #[.int .i64 ((T.last : Int) + 1), .int .i64 0]) ∧ TabAt w' t b (addT T c) ∧ Turned t b w w' := by
  have H := fun o => Lib.hid (h.step (w' := w.alloc o) ((Below.refl _ w).alloc (Nat.le_refl _) _))
  have HH := Lib.hid h
  have HF : ((madeBy T.caps c.maker : Nat) : Int) < 32 := by omega
  have HL := Lib.hid hl
  have HOK := Lib.hid hok
  have tlt := h.ht
  clear h hf hl hok
  unfold capV
  go_enter Try.func48, Try.ntmps48
  go_wp2_with fail
  refine (made_any (H _).out (Nat.le_of_lt HL.out) _).mono ?_
  rintro e w1 ⟨rfl, hb1⟩
  have d0 := Lib.hid ((hb1.block w.heap.size (by simp)).trans (heap_alloc_new w _))
  have b1 := Lib.hid (((Below.refl _ w).alloc (Nat.le_refl _) _).trans (hb1.mono (by simp)))
  have hs := Lib.hid hb1.size
  obtain ⟨⟨c0, c1, c2, c3, c4, c5, c6⟩, ⟨f0, f1, f2, f3, f4, f5, f6⟩, hlt⟩ := seven_of d0.out
  have H1 := Lib.hid (HH.out.step b1.out)
  have t0 := H1.out.c0
  have t1 := H1.out.c1
  have tf := H1.out.fz 1
  have ne : (t = w.heap.size) = False := eq_false (Nat.ne_of_lt tlt)
  have ne' : (w.heap.size = t) = False := eq_false (fun e => Nat.ne_of_lt tlt e.symm)
  have h1 : (T.last : Int) < 1000 := by have := HL.out; omega
  clear hb1
  go_wp2_with fail
  obtain ⟨D, hown, hD⟩ := H1.out.map
  have hbs : b ≠ w.heap.size := Nat.ne_of_lt HH.out.hb
  have hts : t ≠ w.heap.size := Nat.ne_of_lt tlt
  have hbt : b ≠ t := fun e => H1.out.ne e.symm
  have r1 := heap_setCell_same w1 t 1 _ _ (.int .i64 ((T.last : Int) + 1)) H1.out.tab
  have r2 := (heap_setCell_other w1 ⟨t, 1, none⟩ w.heap.size (.int .i64 ((T.last : Int) + 1)) (fun e => hts e.symm)).trans d0.out
  generalize hW1 : w1.setCell ⟨t, 1, none⟩ (.int .i64 ((T.last : Int) + 1)) = W1 at r1 r2
  have r3 := heap_setCell_same W1 w.heap.size 0 _ _ (.int .i64 ((T.last : Int) + 1)) r2
  have r4 := (heap_setCell_other W1 ⟨w.heap.size, 0, none⟩ t (.int .i64 ((T.last : Int) + 1)) hts).trans r1
  generalize hW : W1.setCell ⟨w.heap.size, 0, none⟩ (.int .i64 ((T.last : Int) + 1)) = W at r3 r4
  have hownW : W.drew.ownsMap Try.prog 2 capE b T.last D := ownsMap_eq hown (by subst hW hW1; exact (heap_setCell_other _ ⟨w.heap.size, 0, none⟩ b _ hbs).trans (heap_setCell_other _ ⟨t, 1, none⟩ b _ hbt))
  have trW : Turned t b w W := by
    subst hW hW1
    refine ⟨b1.out.os, b1.out.tape, b1.out.output, ?_, fun k hk ht hb => ?_⟩
    · have := b1.out.size; simpa [World.setCell] using this
    · exact (heap_setCell_other _ ⟨w.heap.size, 0, none⟩ k _ (Nat.ne_of_lt hk)).trans ((heap_setCell_other _ ⟨t, 1, none⟩ k _ ht).trans (b1.out.block k hk))
  clear hW hW1 t0 t1 tf c0 c1 c2 c3 c4 c5 c6 f0 f1 f2 f3 f4 f5 f6 hlt
  have t0 : W.cell? ⟨t, 0, none⟩ = some (.map (some b)) := by rw [cell_of_row _ _ _ _ _ _ r4]; rfl
  obtain ⟨⟨c0, c1, c2, c3, c4, c5, c6⟩, -, hlt⟩ := seven_of r3
  obtain ⟨W2, hrun, hown2, hg2⟩ := hownW.update Try.kid Try.underlying59 (by unfold maxLen; have := HL.out; omega) (key := .int .i64 ((T.last : Int) + 1)) (kl := .int .i64 ((T.last : Int) + 1)) (Maps.keyOf_int_mk Try.underlying2 (by have := HL.out; simp [Lit.wf]; exact ⟨by show (-9223372036854775808 : Int) ≤ _; omega, by omega⟩)) (capE_mk { c with id := (T.last : Int) + 1 })
  unfold capV at hrun
  dsimp only at hrun
  go_region
  have r5 : W2.heap[w.heap.size]? = _ := (hg2.block w.heap.size hlt (fun e => hbs (Option.some.inj e).symm)).trans r3
  have r6 : W2.heap[t]? = _ := (hg2.block t (Array.getElem?_eq_some_iff.1 r4).1 (fun e => hbt (Option.some.inj e).symm)).trans r4
  clear t0 c0 c1 c2 c3 c4 c5 c6 hrun
  have hc0 : W2.cell? ⟨w.heap.size, 0, none⟩ = some (.int .i64 ((T.last : Int) + 1)) := by rw [cell_of_row _ _ _ _ _ _ r5]; rfl
  have HP := Lib.hid (hD.put { c with id := (T.last : Int) + 1 } (fun d hd => by have := (HH.out.ok.ok d hd).i2; show d.id ≠ (T.last : Int) + 1; omega) (by have := HL.out; simp [Lit.wf]; exact ⟨by show (-9223372036854775808 : Int) ≤ _; omega, by omega⟩))
  have HO := Lib.hid hown2
  have R6 := Lib.hid r6
  have HT := Lib.hid (trW.trans (w2 := W2) ⟨hg2.os, hg2.tape, hg2.output, hg2.size, fun k hk _ hb => hg2.block k hk (fun e => hb (Option.some.inj e))⟩)
  clear hD hown hown2 hownW r1 r2 r3 r4 r5 r6 hg2 trW
  go_wp2_with fail
  go_ret2
  exact ⟨rfl, ⟨HOK.out, by rw [R6.out]; rfl, _, HO.out, HP.out⟩, HT.out⟩
end Go.Proofs.Ytakgjakcbpdefaa
