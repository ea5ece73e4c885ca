/- The core's step, where it goes on. -/
import Derived.Test.YtknepljmbpdpkaaCpR
namespace Go.Proofs.Ytknepljmbpdpkaa
open Go.RowKit

theorem nextT_01 {s : St8} (h : St8Ok s) (op : Int) (d a : Nat) (imm : Int) : 0 ≤ nextT s op d a imm ∧ nextT s op d a imm < 4294967296 := by
  unfold nextT
  split
  · exact ⟨h.r0 a, h.r1 a⟩
  split
  · exact m32_01 _
  · exact m32_01 _
theorem five_set {w : World} {N : Nat} {a0 a1 a2 a3 a4 b0 b1 b2 b3 b4 : Value} {t : TypeId} (h : w.heap[N]? = some (.cells #[a0, a1, a2, a3, a4] t (0, 0))) :
    (((((w.setCell ⟨N, 0, none⟩ b0).setCell ⟨N, 1, none⟩ b1).setCell ⟨N, 2, none⟩ b2).setCell ⟨N, 3, none⟩ b3).setCell ⟨N, 4, none⟩ b4).heap[N]? = some (.cells #[b0, b1, b2, b3, b4] t (0, 0)) :=
  heap_setCell_same _ N 4 _ t b4 (heap_setCell_same _ N 3 _ t b3 (heap_setCell_same _ N 2 _ t b2 (heap_setCell_same _ N 1 _ t b1 (heap_setCell_same _ N 0 _ t b0 h))))
theorem five_far {b0 b1 b2 b3 b4 : Value} (w : World) {N k : Nat} (hk : k ≠ N) :
    (((((w.setCell ⟨N, 0, none⟩ b0).setCell ⟨N, 1, none⟩ b1).setCell ⟨N, 2, none⟩ b2).setCell ⟨N, 3, none⟩ b3).setCell ⟨N, 4, none⟩ b4).heap[k]? = w.heap[k]? :=
  (Below.heap_setCell _ _ _ k hk).trans ((Below.heap_setCell _ _ _ k hk).trans ((Below.heap_setCell _ _ _ k hk).trans ((Below.heap_setCell _ _ _ k hk).trans (Below.heap_setCell _ _ _ k hk))))
set_option maxHeartbeats 2000000 in
set_option maxRecDepth 100000 in
theorem step_go {w : World} {L : Lay8} {s : St8} {m : Mem8} (h : Mach w L s m) (hp : s.pc % 4 = 0) (hm : (mayT m 4 4 s.pc).2 = true) (v : Int) (hv : wordT s m = v) (hw : isWord v = true) (d a b : Nat) (hcd : cD v = d) (hca : cA v = a) (hcb : cB v = b)
    (s' : St8) (m' : Mem8) (c x n u : Int) (hdo : doT s m (v % 256) d a b (cM v) = (s', m', ⟨0, c, x, n, u⟩)) :
    Calls Try.prog 27 #[.pointer (some ⟨L.C, 0, none⟩)] w (MachOut L ({ s' with pc := nextT s' (v % 256) d a (cM v) }, m', ⟨0, c, x, n, u⟩) w) := by
  have H := Lib.hid h
  have p0 := h.core.ok.p0
  have p1 := h.core.ok.p1
  have HL := fun o => Lib.hid (cload_yes8 (h.malloc o).flat (h.malloc o).core s.pc 4 4 p0 p1 (by omega) hm)
  have hmay : mayB (v % 256) (cD v) (cA v) (cB v) (cM v) = true := by unfold isWord at hw; simp only [Bool.and_eq_true] at hw; exact hw.1
  obtain ⟨q1, q2, q3, q4, q5, -, -⟩ := may_parts hmay
  rw [hcd, hca, hcb] at hmay
  have hd16 : d < 16 := by omega
  have ha16 : a < 16 := by omega
  have hb16 : b < 16 := by omega
  have hwf : (Lit.int .i64 (v % 256)).wf = true := by simp [Lit.wf]; exact ⟨(by omega : -9223372036854775808 ≤ v % 256), (by omega : v % 256 ≤ 9223372036854775807)⟩
  have hi6 : v % 256 = 6 → 0 ≤ cM v ∧ cM v ≤ 65535 := fun e => by
    refine ⟨?_, q5.2⟩
    unfold mayB at hmay
    simp only [Bool.and_eq_true, Bool.or_eq_true, decide_eq_true_eq] at hmay
    have := hmay.2.2.2.2
    rw [e] at this
    rcases this with e2 | ⟨-, e2, -⟩
    · omega
    · simpa [leastOf] using e2
  have HDO := fun (W : World) (hW : Mach W L s m) => Lib.hid (do_any8 hW (v % 256) (cM v) d a b hd16 ha16 hb16 hwf hi6)
  rw [hdo] at HDO
  unfold wordT at hv
  obtain ⟨xa, xb, xc, xd, hl, ga, gb, gc, gd⟩ := load4 h.flat.ok s.pc
  rw [hl] at HL hv
  rw [sum8_four] at hv
  have hE0 : oE (fourOf xa xb xc xd) = 0 := by rw [hv]; unfold oE; rw [hw]; rfl
  have hE1 : oOp (fourOf xa xb xc xd) = v % 256 := by rw [hv]; unfold oOp; rw [hw]; rfl
  have hE2 : oD (fourOf xa xb xc xd) = d := by rw [hv]; unfold oD; rw [hw, ← hcd]; rfl
  have hE3 : oA (fourOf xa xb xc xd) = a := by rw [hv]; unfold oA; rw [hw, ← hca]; rfl
  have hE4 : oB (fourOf xa xb xc xd) = b := by rw [hv]; unfold oB; rw [hw, ← hcb]; rfl
  have hE5 : oM (fourOf xa xb xc xd) = cM v := by rw [hv]; unfold oM; rw [hw]; rfl
  have HE := Lib.hid (And.intro hE0 (And.intro hE1 (And.intro hE2 (And.intro hE3 (And.intro hE4 hE5)))))
  obtain ⟨op, hop⟩ : ∃ op, v % 256 = op := ⟨_, rfl⟩
  obtain ⟨imm, him⟩ : ∃ imm, cM v = imm := ⟨_, rfl⟩
  rw [hop, him] at HE HDO hmay ⊢
  have HMAY := Lib.hid hmay
  obtain ⟨C, F, B, mp, lo, hi, ad, rc, bc, tp⟩ := L
  have hC : C < w.heap.size := h.core.lt
  have hTp : tp ≤ w.heap.size := h.ht
  have rp : w.cell? ⟨C, 16, none⟩ = some (.int .u32 s.pc) := h.core.pc
  have hp2 : (s.pc % 4 != 0) = false := by simpa using hp
  have GA := Lib.hid ga
  have GB := Lib.hid gb
  have GC := Lib.hid gc
  have GD := Lib.hid gd
  clear h hp hm hl hw ga gb gc gd hE0 hE1 hE2 hE3 hE4 hE5 hop him hv hcd hca hcb hmay q1 q2 q3 q4 q5 hwf hi6 hdo
  dsimp only at *
  go_enter Try.func27, Try.ntmps27
  go_wp2_with (first
    | (go_at_call 48; refine (HL _).out.mono ?_; rintro e w1 ⟨g, rfl, hr, hg, hb⟩; have HH := Lib.hid (new5 hb); obtain ⟨d0, d1, d2, d3, d4, d5, d6⟩ := five_of HH.out; have HM1 := Lib.hid ((H.out.malloc _).below hb); have hC1 : C < w1.heap.size := HM1.out.core.lt; have hT1 : tp ≤ w1.heap.size := HM1.out.ht; have HT1 := Lib.hid (show Turned w w1 [C, B] from Turned.of_below _ (((Below.refl _ w).alloc (Nat.le_refl _) _).trans (hb.mono (by simp)))); have HR := Lib.hid hr; clear hb hr)
    | (go_at_call 49; refine (read_four g 0 4 xa xb xc xd _ (cell_alloc8 _ (HR.out.cell 0 (by simp))) (cell_alloc8 _ (HR.out.cell 1 (by simp))) (cell_alloc8 _ (HR.out.cell 2 (by simp))) (cell_alloc8 _ (HR.out.cell 3 (by simp))) GA.out GB.out GC.out GD.out).mono ?_; rw [HE.out.1, HE.out.2.1, HE.out.2.2.1, HE.out.2.2.2.1, HE.out.2.2.2.2.1, HE.out.2.2.2.2.2]; rintro e w2 ⟨rfl, hb2⟩; have HM2 := Lib.hid ((HM1.out.malloc _).below hb2); have hC2 : C < w2.heap.size := HM2.out.core.lt; have hs2 : w.heap.size < w2.heap.size := (by have q := hb2.size; simp at q; omega); have hs3 : w1.heap.size < w2.heap.size := (by have q := hb2.size; simp at q; omega); have HH2 := Lib.hid ((hb2.block w.heap.size (by simp; omega)).trans ((Below.heap_alloc w1 _ _ d6).trans HH.out)); have HJ2 := Lib.hid ((hb2.block w1.heap.size (by simp)).trans (heap_alloc_new w1 _)); have HT2 := Lib.hid ((HT1.out.talloc _).tbelow hb2); clear hb2)
    | (go_at_call 50; refine (HDO _ (HM2.out.malloc _)).out.mono ?_; rintro e w3 ⟨rfl, hM, hT⟩; have hC3 : C < w3.heap.size := hM.core.lt; have hs4 : w2.heap.size < w3.heap.size := (by have q := hT.size; simp at q; omega); have HH3 := Lib.hid ((hT.block w.heap.size (by simp; omega) (by have := H.out.flat.bl; simp at *; omega)).trans ((Below.heap_alloc w2 _ _ hs2).trans HH2.out)); have HJ3 := Lib.hid ((hT.block w1.heap.size (by simp; omega) (by have := H.out.flat.bl; simp at *; omega)).trans ((Below.heap_alloc w2 _ _ hs3).trans HJ2.out)); have HK3 := Lib.hid ((hT.block w2.heap.size (by simp) (by have := H.out.flat.bl; simp at *; omega)).trans (heap_alloc_new w2 _)); obtain ⟨e0, e1, e2, e3, e4, e5, e6⟩ := five_of HH3.out; obtain ⟨f0, f1, f2, f3, f4, f5, f6⟩ := five_of HJ3.out; obtain ⟨i0, i1, i2, i3, i4, i5, i6⟩ := five_of HK3.out; have HM3 := Lib.hid hM; have n1 : ¬ w1.heap.size = w2.heap.size := (by omega); have n2 : ¬ w2.heap.size = w1.heap.size := (by omega); have n3 : ¬ w1.heap.size = C := (by omega); have n4 : ¬ C = w1.heap.size := (by omega); have HM4 := Lib.hid (show Mach (((((w3.setCell ⟨w1.heap.size, 0, none⟩ (.int .i64 0)).setCell ⟨w1.heap.size, 1, none⟩ (.int .i64 c)).setCell ⟨w1.heap.size, 2, none⟩ (.int .u32 x)).setCell ⟨w1.heap.size, 3, none⟩ (.int .i64 n)).setCell ⟨w1.heap.size, 4, none⟩ (.int .i64 u)) ⟨C, F, B, mp, lo, hi, ad, rc, bc, tp⟩ s' m' from (((((hM.mset _ _ hT1).mset _ _ hT1).mset _ _ hT1).mset _ _ hT1).mset _ _ hT1)); have HT4 := Lib.hid (show Turned w (((((w3.setCell ⟨w1.heap.size, 0, none⟩ (.int .i64 0)).setCell ⟨w1.heap.size, 1, none⟩ (.int .i64 c)).setCell ⟨w1.heap.size, 2, none⟩ (.int .u32 x)).setCell ⟨w1.heap.size, 3, none⟩ (.int .i64 n)).setCell ⟨w1.heap.size, 4, none⟩ (.int .i64 u)) [C, B] from (((((((HT2.out.talloc _).trans hT).tset _ _ (.inr (by omega))).tset _ _ (.inr (by omega))).tset _ _ (.inr (by omega))).tset _ _ (.inr (by omega))).tset _ _ (.inr (by omega)))); have HJ4 := Lib.hid (five_set (b0 := .int .i64 0) (b1 := .int .i64 c) (b2 := .int .u32 x) (b3 := .int .i64 n) (b4 := .int .i64 u) HJ3.out); have HH4 := Lib.hid ((five_far (b0 := .int .i64 0) (b1 := .int .i64 c) (b2 := .int .u32 x) (b3 := .int .i64 n) (b4 := .int .i64 u) w3 (show w.heap.size ≠ w1.heap.size by omega)).trans HH3.out); clear hM hT)
    | (go_at_call 51; refine (next_any HM4.out op imm b d a hd16 ha16 HMAY.out).mono ?_; rintro e w4 ⟨rfl, hb4⟩; have hs5 : w3.heap.size ≤ w4.heap.size := (by have q := hb4.size; simp [World.setCell] at q; exact q); obtain ⟨j0, j1, j2, j3, j4, j5, j6⟩ := five_of ((hb4.block w1.heap.size (by simp [World.setCell]; omega)).trans HJ4.out); obtain ⟨l0, l1, l2, l3, l4, l5, l6⟩ := five_of ((hb4.block w.heap.size (by simp [World.setCell]; omega)).trans HH4.out); have HM5 := Lib.hid (HM4.out.below hb4); have hC5 : C < w4.heap.size := HM5.out.core.lt; have rp5 : w4.cell? ⟨C, 16, none⟩ = some (.int .u32 s'.pc) := HM5.out.core.pc; have fp5 : w4.frozen? ⟨C, 16, none⟩ = false := HM5.out.core.fz 16; have HT5 := Lib.hid (HT4.out.tbelow hb4); clear hb4))
  obtain ⟨nx, hnx⟩ : ∃ nx, nextT s' op d a imm = nx := ⟨_, rfl⟩
  have hn0 := nextT_01 HM5.out.core.ok op d a imm
  rw [hnx] at hn0 ⊢
  refine bodyPost_ret (v := stp8 0 c x n u) (by simp [results, Try.results27, go_sem, l0, l1, l2, l3, l4, l6]) rfl (MachOut.ends (t := ⟨0, c, x, n, u⟩) rfl ?_ ?_)
  · repeat (first | (with_reducible exact HM5.out) | (with_reducible refine Mach.mdrew ?_) | (with_reducible refine Mach.mdrewN ?_ _) | (with_reducible refine Mach.malloc ?_ _) | ((with_reducible refine Mach.mset (hg := ?hg) ?_ _ _); case hg => dsimp only; omega))
    refine Mach.setPc (L := ⟨C, F, B, mp, lo, hi, ad, rc, bc, tp⟩) ?_ _ hn0.1 hn0.2
    repeat (first | (with_reducible exact HM5.out) | (with_reducible refine Mach.mdrew ?_) | (with_reducible refine Mach.mdrewN ?_ _) | (with_reducible refine Mach.malloc ?_ _) | ((with_reducible refine Mach.mset (hg := ?hg) ?_ _ _); case hg => dsimp only; omega))
  · dsimp only
    repeat (first | (with_reducible exact HT5.out) | (with_reducible refine Turned.tdrew ?_) | (with_reducible refine Turned.tdrewN ?_ _) | (with_reducible refine Turned.talloc ?_ _) | ((with_reducible refine Turned.tset (hg := ?hg) ?_ _ _); case hg => first | (right; omega) | (left; simp; done)))
end Go.Proofs.Ytknepljmbpdpkaa
