/- The core's step. -/
import Derived.Test.YtknepljmbpdpkaaCpQ
import Derived.Test.YtknepljmbpdpkaaIsaF
import Derived.Maps.AppendAt
namespace Go.Proofs.Ytknepljmbpdpkaa
open Go.RowKit

theorem cell_alloc8 {W : World} {a : Addr} {v : Value} (o : Obj) (h : W.cell? a = some v) : (W.alloc o).cell? a = some v := (((Below.refl W.heap.size W).alloc (Nat.le_refl _) o).cell (World.block_lt_of_cell? W _ h)).trans h
abbrev z5 : Obj := .cells #[.int .i64 0, .int .i64 0, .int .u32 0, .int .i64 0, .int .i64 0] 38

set_option maxHeartbeats 1000000 in
set_option maxRecDepth 100000 in
theorem step_bad {w : World} {L : Lay8} {s : St8} {m : Mem8} (h : Mach w L s m) (hp : s.pc % 4 ≠ 0) :
    Calls Try.prog 27 #[.pointer (some ⟨L.C, 0, none⟩)] w (MachOut L (s, m, { kind := 6 }) w) := by
  have H := Lib.hid h
  obtain ⟨C, F, B, mp, lo, hi, ad, rc, bc, tp⟩ := L
  have hC : C < w.heap.size := h.core.lt
  have hTp : tp ≤ w.heap.size := h.ht
  have rp : w.cell? ⟨C, 16, none⟩ = some (.int .u32 s.pc) := h.core.pc
  have p0 := h.core.ok.p0
  have p1 := h.core.ok.p1
  have hp2 : (s.pc % 4 != 0) = true := by simpa using hp
  clear h hp
  dsimp only
  go_enter Try.func27, Try.ntmps27
  go_wp2
  refine bodyPost_ret (v := stp8 6 0 0 0 0) (by simp [results, Try.results27, go_sem]) rfl (MachOut.ends (t := { kind := 6 }) rfl ?_ ?_)
  · repeat (first | (with_reducible exact H.out) | (with_reducible refine Mach.mdrew ?_) | (with_reducible refine Mach.mdrewN ?_ _) | (with_reducible refine Mach.malloc ?_ _) | ((with_reducible refine Mach.mset (hg := ?hg) ?_ _ _); case hg => dsimp only; omega))
  · dsimp only
    repeat (first | (with_reducible exact Turned.refl _ _) | (with_reducible refine Turned.tdrew ?_) | (with_reducible refine Turned.tdrewN ?_ _) | (with_reducible refine Turned.talloc ?_ _) | ((with_reducible refine Turned.tset (hg := ?hg) ?_ _ _); case hg => first | (right; omega) | (left; simp; done)))

set_option maxHeartbeats 1000000 in
set_option maxRecDepth 100000 in
theorem step_fault {w : World} {L : Lay8} {s : St8} {m : Mem8} (h : Mach w L s m) (hp : s.pc % 4 = 0) (hm : (mayT m 4 4 s.pc).2 = false) :
    Calls Try.prog 27 #[.pointer (some ⟨L.C, 0, none⟩)] w (MachOut L (s, m, fault8 (mayT m 4 4 s.pc).1 4) w) := by
  have H := Lib.hid h
  have p0 := h.core.ok.p0
  have p1 := h.core.ok.p1
  have HL := fun o => Lib.hid (cload_no8 (h.malloc o).flat (h.malloc o).core s.pc 4 4 p0 p1 (by omega) hm)
  obtain ⟨C, F, B, mp, lo, hi, ad, rc, bc, tp⟩ := L
  obtain ⟨x, hx⟩ : ∃ x, (mayT m 4 4 s.pc).1 = x := ⟨_, rfl⟩
  rw [hx] at HL ⊢
  have hC : C < w.heap.size := h.core.lt
  have hTp : tp ≤ w.heap.size := h.ht
  have rp : w.cell? ⟨C, 16, none⟩ = some (.int .u32 s.pc) := h.core.pc
  have hp2 : (s.pc % 4 != 0) = false := by simpa using hp
  clear h hp hm hx
  dsimp only at *
  go_enter Try.func27, Try.ntmps27
  go_wp2_with (go_at_call 48; refine (HL _).out.mono ?_; rintro e w1 ⟨rfl, hb⟩; obtain ⟨d0, d1, d2, d3, d4, d5, d6⟩ := five_of (new5 hb); have HM1 := Lib.hid ((H.out.malloc _).below hb); have hC1 : C < w1.heap.size := HM1.out.core.lt; have HT1 := Lib.hid (show Turned w w1 [C, B] from Turned.of_below _ (((Below.refl _ w).alloc (Nat.le_refl _) _).trans (hb.mono (by simp)))); clear hb)
  refine bodyPost_ret (v := stp8 5 0 x 4 0) (by simp [results, Try.results27, go_sem, d0, d1, d2, d3, d4, d6]) rfl (MachOut.ends (t := fault8 x 4) rfl ?_ ?_)
  · repeat (first | (with_reducible exact HM1.out) | (with_reducible refine Mach.mdrew ?_) | (with_reducible refine Mach.mdrewN ?_ _) | (with_reducible refine Mach.malloc ?_ _) | ((with_reducible refine Mach.mset (hg := ?hg) ?_ _ _); case hg => dsimp only; omega))
  · dsimp only
    repeat (first | (with_reducible exact HT1.out) | (with_reducible refine Turned.tdrew ?_) | (with_reducible refine Turned.tdrewN ?_ _) | (with_reducible refine Turned.talloc ?_ _) | ((with_reducible refine Turned.tset (hg := ?hg) ?_ _ _); case hg => first | (right; omega) | (left; simp; done)))

theorem load4 {m : Mem8} (h : Mem8Ok m) (x : Int) : ∃ a b c d, loadL m x 4 = [a, b, c, d] ∧ (0 ≤ a ∧ a < 256) ∧ (0 ≤ b ∧ b < 256) ∧ (0 ≤ c ∧ c < 256) ∧ (0 ≤ d ∧ d < 256) :=
  ⟨_, _, _, _, loadL_four m x, ⟨h.b0 _, h.b1 _⟩, ⟨h.b0 _, h.b1 _⟩, ⟨h.b0 _, h.b1 _⟩, ⟨h.b0 _, h.b1 _⟩⟩

set_option maxHeartbeats 1000000 in
set_option maxRecDepth 100000 in
theorem step_none {w : World} {L : Lay8} {s : St8} {m : Mem8} (h : Mach w L s m) (hp : s.pc % 4 = 0) (hm : (mayT m 4 4 s.pc).2 = true) (hw : isWord (wordT s m) = false) :
    Calls Try.prog 27 #[.pointer (some ⟨L.C, 0, none⟩)] w (MachOut L (s, m, { kind := 6 }) w) := by
  have H := Lib.hid h
  have p0 := h.core.ok.p0
  have p1 := h.core.ok.p1
  have HL := fun o => Lib.hid (cload_yes8 (h.malloc o).flat (h.malloc o).core s.pc 4 4 p0 p1 (by omega) hm)
  unfold wordT at hw
  obtain ⟨xa, xb, xc, xd, hl, ga, gb, gc, gd⟩ := load4 h.flat.ok s.pc
  rw [hl] at HL hw
  rw [sum8_four] at hw
  have hE : oE (fourOf xa xb xc xd) = 4 := by unfold oE; rw [hw]; rfl
  have HE := Lib.hid hE
  obtain ⟨C, F, B, mp, lo, hi, ad, rc, bc, tp⟩ := L
  have hC : C < w.heap.size := h.core.lt
  have hTp : tp ≤ w.heap.size := h.ht
  have rp : w.cell? ⟨C, 16, none⟩ = some (.int .u32 s.pc) := h.core.pc
  have hp2 : (s.pc % 4 != 0) = false := by simpa using hp
  have GA := Lib.hid ga
  have GB := Lib.hid gb
  have GC := Lib.hid gc
  have GD := Lib.hid gd
  clear h hp hm hl hw hE ga gb gc gd
  dsimp only at *
  go_enter Try.func27, Try.ntmps27
  go_wp2_with (first
    | (go_at_call 48; refine (HL _).out.mono ?_; rintro e w1 ⟨g, rfl, hr, hg, hb⟩; have HH := Lib.hid (new5 hb); obtain ⟨d0, d1, d2, d3, d4, d5, d6⟩ := five_of HH.out; have HM1 := Lib.hid ((H.out.malloc _).below hb); have hC1 : C < w1.heap.size := HM1.out.core.lt; have HT1 := Lib.hid (show Turned w w1 [C, B] from Turned.of_below _ (((Below.refl _ w).alloc (Nat.le_refl _) _).trans (hb.mono (by simp)))); have HR := Lib.hid hr; clear hb hr)
    | (go_at_call 49; refine (read_four g 0 4 xa xb xc xd _ (cell_alloc8 _ (HR.out.cell 0 (by simp))) (cell_alloc8 _ (HR.out.cell 1 (by simp))) (cell_alloc8 _ (HR.out.cell 2 (by simp))) (cell_alloc8 _ (HR.out.cell 3 (by simp))) GA.out GB.out GC.out GD.out).mono ?_; rw [HE.out]; rintro e w2 ⟨rfl, hb2⟩; have HM2 := Lib.hid ((HM1.out.malloc _).below hb2); have hC2 : C < w2.heap.size := HM2.out.core.lt; have hs2 : w.heap.size < w2.heap.size := (by have q := hb2.size; simp at q; omega); obtain ⟨e0, e1, e2, e3, e4, e5, e6⟩ := five_of ((hb2.block w.heap.size (by simp; omega)).trans ((Below.heap_alloc w1 _ _ d6).trans HH.out)); have HT2 := Lib.hid ((HT1.out.talloc _).tbelow hb2); clear hb2))
  refine bodyPost_ret (v := stp8 6 0 0 0 0) (by simp [results, Try.results27, go_sem, e0, e1, e2, e3, e4, e6]) rfl (MachOut.ends (t := { kind := 6 }) rfl ?_ ?_)
  · repeat (first | (with_reducible exact HM2.out) | (with_reducible refine Mach.mdrew ?_) | (with_reducible refine Mach.mdrewN ?_ _) | (with_reducible refine Mach.malloc ?_ _) | ((with_reducible refine Mach.mset (hg := ?hg) ?_ _ _); case hg => dsimp only; omega))
  · dsimp only
    repeat (first | (with_reducible exact HT2.out) | (with_reducible refine Turned.tdrew ?_) | (with_reducible refine Turned.tdrewN ?_ _) | (with_reducible refine Turned.talloc ?_ _) | ((with_reducible refine Turned.tset (hg := ?hg) ?_ _ _); case hg => first | (right; omega) | (left; simp; done)))

set_option maxHeartbeats 2000000 in
set_option maxRecDepth 100000 in
theorem step_stop {w : World} {L : Lay8} {s : St8} {m : Mem8} (h : Mach w L s m) (hp : s.pc % 4 = 0) (hm : (mayT m 4 4 s.pc).2 = true) (v : Int) (hv : wordT s m = v) (hw : isWord v = true) (d a b : Nat) (hcd : cD v = d) (hca : cA v = a) (hcb : cB v = b)
    (s' : St8) (m' : Mem8) (k c x n u : Int) (hdo : doT s m (v % 256) d a b (cM v) = (s', m', ⟨k, c, x, n, u⟩)) (hk : k ≠ 0) :
    Calls Try.prog 27 #[.pointer (some ⟨L.C, 0, none⟩)] w (MachOut L (s', m', ⟨k, c, x, n, u⟩) w) := by
  have H := Lib.hid h
  have p0 := h.core.ok.p0
  have p1 := h.core.ok.p1
  have HL := fun o => Lib.hid (cload_yes8 (h.malloc o).flat (h.malloc o).core s.pc 4 4 p0 p1 (by omega) hm)
  have hmay : mayB (v % 256) (cD v) (cA v) (cB v) (cM v) = true := by unfold isWord at hw; simp only [Bool.and_eq_true] at hw; exact hw.1
  obtain ⟨q1, q2, q3, q4, q5, -, -⟩ := may_parts hmay
  rw [hcd, hca, hcb] at hmay
  have hd16 : d < 16 := by omega
  have ha16 : a < 16 := by omega
  have hb16 : b < 16 := by omega
  have hwf : (Lit.int .i64 (v % 256)).wf = true := by simp [Lit.wf]; exact ⟨(by omega : -9223372036854775808 ≤ v % 256), (by omega : v % 256 ≤ 9223372036854775807)⟩
  have hi6 : v % 256 = 6 → 0 ≤ cM v ∧ cM v ≤ 65535 := fun e => by
    refine ⟨?_, q5.2⟩
    unfold mayB at hmay
    simp only [Bool.and_eq_true, Bool.or_eq_true, decide_eq_true_eq] at hmay
    have := hmay.2.2.2.2
    rw [e] at this
    rcases this with e2 | ⟨-, e2, -⟩
    · omega
    · simpa [leastOf] using e2
  have HDO := fun (W : World) (hW : Mach W L s m) => Lib.hid (do_any8 hW (v % 256) (cM v) d a b hd16 ha16 hb16 hwf hi6)
  rw [hdo] at HDO
  unfold wordT at hv
  obtain ⟨xa, xb, xc, xd, hl, ga, gb, gc, gd⟩ := load4 h.flat.ok s.pc
  rw [hl] at HL hv
  rw [sum8_four] at hv
  have hE0 : oE (fourOf xa xb xc xd) = 0 := by rw [hv]; unfold oE; rw [hw]; rfl
  have hE1 : oOp (fourOf xa xb xc xd) = v % 256 := by rw [hv]; unfold oOp; rw [hw]; rfl
  have hE2 : oD (fourOf xa xb xc xd) = d := by rw [hv]; unfold oD; rw [hw, ← hcd]; rfl
  have hE3 : oA (fourOf xa xb xc xd) = a := by rw [hv]; unfold oA; rw [hw, ← hca]; rfl
  have hE4 : oB (fourOf xa xb xc xd) = b := by rw [hv]; unfold oB; rw [hw, ← hcb]; rfl
  have hE5 : oM (fourOf xa xb xc xd) = cM v := by rw [hv]; unfold oM; rw [hw]; rfl
  have HE := Lib.hid (And.intro hE0 (And.intro hE1 (And.intro hE2 (And.intro hE3 (And.intro hE4 hE5)))))
  obtain ⟨op, hop⟩ : ∃ op, v % 256 = op := ⟨_, rfl⟩
  obtain ⟨imm, him⟩ : ∃ imm, cM v = imm := ⟨_, rfl⟩
  rw [hop, him] at HE HDO
  obtain ⟨C, F, B, mp, lo, hi, ad, rc, bc, tp⟩ := L
  have hC : C < w.heap.size := h.core.lt
  have hTp : tp ≤ w.heap.size := h.ht
  have rp : w.cell? ⟨C, 16, none⟩ = some (.int .u32 s.pc) := h.core.pc
  have hp2 : (s.pc % 4 != 0) = false := by simpa using hp
  have GA := Lib.hid ga
  have GB := Lib.hid gb
  have GC := Lib.hid gc
  have GD := Lib.hid gd
  clear h hp hm hl hw ga gb gc gd hE0 hE1 hE2 hE3 hE4 hE5 hop him hv hcd hca hcb hmay q1 q2 q3 q4 q5 hwf hi6 hdo
  dsimp only at *
  have hk1 : (k == 0) = false := by simpa using hk
  clear hk
  go_enter Try.func27, Try.ntmps27
  go_wp2_with (first
    | (go_at_call 48; refine (HL _).out.mono ?_; rintro e w1 ⟨g, rfl, hr, hg, hb⟩; have HH := Lib.hid (new5 hb); obtain ⟨d0, d1, d2, d3, d4, d5, d6⟩ := five_of HH.out; have HM1 := Lib.hid ((H.out.malloc _).below hb); have hC1 : C < w1.heap.size := HM1.out.core.lt; have HT1 := Lib.hid (show Turned w w1 [C, B] from Turned.of_below _ (((Below.refl _ w).alloc (Nat.le_refl _) _).trans (hb.mono (by simp)))); have HR := Lib.hid hr; clear hb hr)
    | (go_at_call 49; refine (read_four g 0 4 xa xb xc xd _ (cell_alloc8 _ (HR.out.cell 0 (by simp))) (cell_alloc8 _ (HR.out.cell 1 (by simp))) (cell_alloc8 _ (HR.out.cell 2 (by simp))) (cell_alloc8 _ (HR.out.cell 3 (by simp))) GA.out GB.out GC.out GD.out).mono ?_; rw [HE.out.1, HE.out.2.1, HE.out.2.2.1, HE.out.2.2.2.1, HE.out.2.2.2.2.1, HE.out.2.2.2.2.2]; rintro e w2 ⟨rfl, hb2⟩; have HM2 := Lib.hid ((HM1.out.malloc _).below hb2); have hC2 : C < w2.heap.size := HM2.out.core.lt; have hs2 : w.heap.size < w2.heap.size := (by have q := hb2.size; simp at q; omega); have hs3 : w1.heap.size < w2.heap.size := (by have q := hb2.size; simp at q; omega); have HH2 := Lib.hid ((hb2.block w.heap.size (by simp; omega)).trans ((Below.heap_alloc w1 _ _ d6).trans HH.out)); have HJ2 := Lib.hid ((hb2.block w1.heap.size (by simp)).trans (heap_alloc_new w1 _)); have HT2 := Lib.hid ((HT1.out.talloc _).tbelow hb2); clear hb2)
    | (go_at_call 50; refine (HDO _ (HM2.out.malloc _)).out.mono ?_; rintro e w3 ⟨rfl, hM, hT⟩; have hC3 : C < w3.heap.size := hM.core.lt; have hs4 : w2.heap.size < w3.heap.size := (by have q := hT.size; simp at q; omega); have HH3 := Lib.hid ((hT.block w.heap.size (by simp; omega) (by have := H.out.flat.bl; simp at *; omega)).trans ((Below.heap_alloc w2 _ _ hs2).trans HH2.out)); have HJ3 := Lib.hid ((hT.block w1.heap.size (by simp; omega) (by have := H.out.flat.bl; simp at *; omega)).trans ((Below.heap_alloc w2 _ _ hs3).trans HJ2.out)); have HK3 := Lib.hid ((hT.block w2.heap.size (by simp) (by have := H.out.flat.bl; simp at *; omega)).trans (heap_alloc_new w2 _)); obtain ⟨e0, e1, e2, e3, e4, e5, e6⟩ := five_of HH3.out; obtain ⟨f0, f1, f2, f3, f4, f5, f6⟩ := five_of HJ3.out; obtain ⟨i0, i1, i2, i3, i4, i5, i6⟩ := five_of HK3.out; have HM3 := Lib.hid hM; have HT3 := Lib.hid ((HT2.out.talloc _).trans hT); clear hM hT))
  all_goals
    refine bodyPost_ret (v := stp8 k c x n u) (by simp [results, Try.results27, go_sem, e0, e1, e2, e3, e4, e6]) rfl (MachOut.ends (t := ⟨k, c, x, n, u⟩) rfl ?_ ?_)
    · repeat (first | (with_reducible exact HM3.out) | (with_reducible refine Mach.mdrew ?_) | (with_reducible refine Mach.mdrewN ?_ _) | (with_reducible refine Mach.malloc ?_ _) | ((with_reducible refine Mach.mset (hg := ?hg) ?_ _ _); case hg => dsimp only; omega))
    · dsimp only
      repeat (first | (with_reducible exact HT3.out) | (with_reducible refine Turned.tdrew ?_) | (with_reducible refine Turned.tdrewN ?_ _) | (with_reducible refine Turned.talloc ?_ _) | ((with_reducible refine Turned.tset (hg := ?hg) ?_ _ _); case hg => first | (right; omega) | (left; simp; done)))
end Go.Proofs.Ytknepljmbpdpkaa
