/- The core's do. -/
import Derived.Test.YtknepljmbpdpkaaCpO0
namespace Go.Proofs.Ytknepljmbpdpkaa
open Go.RowKit

theorem MachOut.ends {L : Lay8} {s' : St8} {m' : Mem8} {w w' : World} {t : Stop8} {e : Ending} (he : e = .returned (stp8 t.kind t.call t.at' t.need t.used)) (hM : Mach w' L s' m') (ht : Turned w w' [L.C, L.B]) : MachOut L (s', m', t) w e w' := ⟨he, hM, ht⟩
theorem high8 (x y : Int) (x0 : 0 ≤ x) (x1 : x < 4294967296) (y0 : 0 ≤ y) (y1 : y ≤ 65535) : bits .or .u32 (bits .and .u32 x 65535) (y * 65536) = x % 65536 + y * 65536 := by
  rw [show bits .and .u32 x 65535 = x % 65536 from and_mask 16 (by omega) x x0 x1, or_low 16 (x % 65536) (y * 65536) (by omega) (by omega) (by omega) (by omega) (by omega) (by omega)]

set_option maxHeartbeats 2000000 in
set_option maxRecDepth 100000 in
theorem do_call8 {w : World} {L : Lay8} {s : St8} {m : Mem8} (h : Mach w L s m) (imm : Int) (d a b : Nat) (hd : d < 16) (hA : a < 16) :
    Calls Try.prog 50 #[.pointer (some ⟨L.C, 0, none⟩), insV 3 d a b imm] w (MachOut L (s, m, { kind := 2, call := imm }) w) := by
  have H := Lib.hid h
  obtain ⟨C, F, B, mp, lo, hi, ad, rc, bc, tp⟩ := L
  have hC : C < w.heap.size := h.core.lt
  have hTp : tp ≤ w.heap.size := h.ht
  have ra : w.cell? ⟨C, a, none⟩ = some (.int .u32 (s.R a)) := h.core.reg a hA
  have rd : w.cell? ⟨C, d, none⟩ = some (.int .u32 (s.R d)) := h.core.reg d hd
  have fd : w.frozen? ⟨C, d, none⟩ = false := h.core.fz d
  have a0 := h.core.ok.r0 a
  have a1 := h.core.ok.r1 a
  have v0 := h.core.ok.r0 d
  have v1 := h.core.ok.r1 d
  have hd2 : (d : Int) < 16 := by omega
  have hA2 : (a : Int) < 16 := by omega
  clear h
  dsimp only
  go_enter Try.func50, Try.ntmps50
  go_wp2
  go_quiet (fail)
  go_wp2
  refine bodyPost_ret (v := stp8 2 imm 0 0 0) (by simp [results, Try.results50, go_sem]) rfl (MachOut.ends (t := { kind := 2, call := imm }) rfl ?_ ?_)
  · repeat (first | (with_reducible exact H.out) | (with_reducible refine Mach.mdrew ?_) | (with_reducible refine Mach.mdrewN ?_ _) | (with_reducible refine Mach.malloc ?_ _) | ((with_reducible refine Mach.mset (hg := ?hg) ?_ _ _); case hg => dsimp only; omega))
  · dsimp only
    repeat (first | (with_reducible exact Turned.refl _ _) | (with_reducible refine Turned.tdrew ?_) | (with_reducible refine Turned.tdrewN ?_ _) | (with_reducible refine Turned.talloc ?_ _) | ((with_reducible refine Turned.tset (hg := ?hg) ?_ _ _); case hg => first | (right; omega) | (left; simp; done)))

set_option maxHeartbeats 2000000 in
set_option maxRecDepth 100000 in
theorem do_back8 {w : World} {L : Lay8} {s : St8} {m : Mem8} (h : Mach w L s m) (imm : Int) (d a b : Nat) (hd : d < 16) (hA : a < 16) :
    Calls Try.prog 50 #[.pointer (some ⟨L.C, 0, none⟩), insV 4 d a b imm] w (MachOut L (s, m, { kind := 3 }) w) := by
  have H := Lib.hid h
  obtain ⟨C, F, B, mp, lo, hi, ad, rc, bc, tp⟩ := L
  have hC : C < w.heap.size := h.core.lt
  have hTp : tp ≤ w.heap.size := h.ht
  have ra : w.cell? ⟨C, a, none⟩ = some (.int .u32 (s.R a)) := h.core.reg a hA
  have rd : w.cell? ⟨C, d, none⟩ = some (.int .u32 (s.R d)) := h.core.reg d hd
  have fd : w.frozen? ⟨C, d, none⟩ = false := h.core.fz d
  have a0 := h.core.ok.r0 a
  have a1 := h.core.ok.r1 a
  have v0 := h.core.ok.r0 d
  have v1 := h.core.ok.r1 d
  have hd2 : (d : Int) < 16 := by omega
  have hA2 : (a : Int) < 16 := by omega
  clear h
  dsimp only
  go_enter Try.func50, Try.ntmps50
  go_wp2
  go_quiet (fail)
  go_wp2
  refine bodyPost_ret (v := stp8 3 0 0 0 0) (by simp [results, Try.results50, go_sem]) rfl (MachOut.ends (t := { kind := 3 }) rfl ?_ ?_)
  · repeat (first | (with_reducible exact H.out) | (with_reducible refine Mach.mdrew ?_) | (with_reducible refine Mach.mdrewN ?_ _) | (with_reducible refine Mach.malloc ?_ _) | ((with_reducible refine Mach.mset (hg := ?hg) ?_ _ _); case hg => dsimp only; omega))
  · dsimp only
    repeat (first | (with_reducible exact Turned.refl _ _) | (with_reducible refine Turned.tdrew ?_) | (with_reducible refine Turned.tdrewN ?_ _) | (with_reducible refine Turned.talloc ?_ _) | ((with_reducible refine Turned.tset (hg := ?hg) ?_ _ _); case hg => first | (right; omega) | (left; simp; done)))

set_option maxHeartbeats 2000000 in
set_option maxRecDepth 100000 in
theorem do_stop8 {w : World} {L : Lay8} {s : St8} {m : Mem8} (h : Mach w L s m) (imm : Int) (d a b : Nat) (hd : d < 16) (hA : a < 16) :
    Calls Try.prog 50 #[.pointer (some ⟨L.C, 0, none⟩), insV 2 d a b imm] w (MachOut L (s, m, { kind := 4 }) w) := by
  have H := Lib.hid h
  obtain ⟨C, F, B, mp, lo, hi, ad, rc, bc, tp⟩ := L
  have hC : C < w.heap.size := h.core.lt
  have hTp : tp ≤ w.heap.size := h.ht
  have ra : w.cell? ⟨C, a, none⟩ = some (.int .u32 (s.R a)) := h.core.reg a hA
  have rd : w.cell? ⟨C, d, none⟩ = some (.int .u32 (s.R d)) := h.core.reg d hd
  have fd : w.frozen? ⟨C, d, none⟩ = false := h.core.fz d
  have a0 := h.core.ok.r0 a
  have a1 := h.core.ok.r1 a
  have v0 := h.core.ok.r0 d
  have v1 := h.core.ok.r1 d
  have hd2 : (d : Int) < 16 := by omega
  have hA2 : (a : Int) < 16 := by omega
  clear h
  dsimp only
  go_enter Try.func50, Try.ntmps50
  go_wp2
  go_quiet (fail)
  go_wp2
  refine bodyPost_ret (v := stp8 4 0 0 0 0) (by simp [results, Try.results50, go_sem]) rfl (MachOut.ends (t := { kind := 4 }) rfl ?_ ?_)
  · repeat (first | (with_reducible exact H.out) | (with_reducible refine Mach.mdrew ?_) | (with_reducible refine Mach.mdrewN ?_ _) | (with_reducible refine Mach.malloc ?_ _) | ((with_reducible refine Mach.mset (hg := ?hg) ?_ _ _); case hg => dsimp only; omega))
  · dsimp only
    repeat (first | (with_reducible exact Turned.refl _ _) | (with_reducible refine Turned.tdrew ?_) | (with_reducible refine Turned.tdrewN ?_ _) | (with_reducible refine Turned.talloc ?_ _) | ((with_reducible refine Turned.tset (hg := ?hg) ?_ _ _); case hg => first | (right; omega) | (left; simp; done)))

set_option maxHeartbeats 2000000 in
set_option maxRecDepth 100000 in
theorem do_const8 {w : World} {L : Lay8} {s : St8} {m : Mem8} (h : Mach w L s m) (imm : Int) (d a b : Nat) (hd : d < 16) (hA : a < 16) :
    Calls Try.prog 50 #[.pointer (some ⟨L.C, 0, none⟩), insV 5 d a b imm] w (MachOut L (s.put d (m32 imm), m, goOn) w) := by
  have H := Lib.hid h
  obtain ⟨C, F, B, mp, lo, hi, ad, rc, bc, tp⟩ := L
  have hC : C < w.heap.size := h.core.lt
  have hTp : tp ≤ w.heap.size := h.ht
  have ra : w.cell? ⟨C, a, none⟩ = some (.int .u32 (s.R a)) := h.core.reg a hA
  have rd : w.cell? ⟨C, d, none⟩ = some (.int .u32 (s.R d)) := h.core.reg d hd
  have fd : w.frozen? ⟨C, d, none⟩ = false := h.core.fz d
  have a0 := h.core.ok.r0 a
  have a1 := h.core.ok.r1 a
  have v0 := h.core.ok.r0 d
  have v1 := h.core.ok.r1 d
  have hd2 : (d : Int) < 16 := by omega
  have hA2 : (a : Int) < 16 := by omega
  clear h
  dsimp only
  go_enter Try.func50, Try.ntmps50
  go_wp2
  go_quiet (fail)
  go_wp2
  refine bodyPost_ret (v := stp8 0 0 0 0 0) (by simp [results, Try.results50, go_sem]) rfl (MachOut.ends (t := goOn) rfl ?_ ?_)
  · repeat (first | (with_reducible exact H.out) | (with_reducible refine Mach.mdrew ?_) | (with_reducible refine Mach.mdrewN ?_ _) | (with_reducible refine Mach.malloc ?_ _) | ((with_reducible refine Mach.mset (hg := ?hg) ?_ _ _); case hg => dsimp only; omega))
    refine Mach.put (L := ⟨C, F, B, mp, lo, hi, ad, rc, bc, tp⟩) ?_ d hd _ (m32_0 imm) (m32_1 imm)
    repeat (first | (with_reducible exact H.out) | (with_reducible refine Mach.mdrew ?_) | (with_reducible refine Mach.mdrewN ?_ _) | (with_reducible refine Mach.malloc ?_ _) | ((with_reducible refine Mach.mset (hg := ?hg) ?_ _ _); case hg => dsimp only; omega))
  · dsimp only
    repeat (first | (with_reducible exact Turned.refl _ _) | (with_reducible refine Turned.tdrew ?_) | (with_reducible refine Turned.tdrewN ?_ _) | (with_reducible refine Turned.talloc ?_ _) | ((with_reducible refine Turned.tset (hg := ?hg) ?_ _ _); case hg => first | (right; omega) | (left; simp; done)))

set_option maxHeartbeats 2000000 in
set_option maxRecDepth 100000 in
theorem do_copy8 {w : World} {L : Lay8} {s : St8} {m : Mem8} (h : Mach w L s m) (imm : Int) (d a b : Nat) (hd : d < 16) (hA : a < 16) :
    Calls Try.prog 50 #[.pointer (some ⟨L.C, 0, none⟩), insV 7 d a b imm] w (MachOut L (s.put d (s.R a), m, goOn) w) := by
  have H := Lib.hid h
  obtain ⟨C, F, B, mp, lo, hi, ad, rc, bc, tp⟩ := L
  have hC : C < w.heap.size := h.core.lt
  have hTp : tp ≤ w.heap.size := h.ht
  have ra : w.cell? ⟨C, a, none⟩ = some (.int .u32 (s.R a)) := h.core.reg a hA
  have rd : w.cell? ⟨C, d, none⟩ = some (.int .u32 (s.R d)) := h.core.reg d hd
  have fd : w.frozen? ⟨C, d, none⟩ = false := h.core.fz d
  have a0 := h.core.ok.r0 a
  have a1 := h.core.ok.r1 a
  have v0 := h.core.ok.r0 d
  have v1 := h.core.ok.r1 d
  have hd2 : (d : Int) < 16 := by omega
  have hA2 : (a : Int) < 16 := by omega
  clear h
  dsimp only
  go_enter Try.func50, Try.ntmps50
  go_wp2
  go_quiet (fail)
  go_wp2
  refine bodyPost_ret (v := stp8 0 0 0 0 0) (by simp [results, Try.results50, go_sem]) rfl (MachOut.ends (t := goOn) rfl ?_ ?_)
  · repeat (first | (with_reducible exact H.out) | (with_reducible refine Mach.mdrew ?_) | (with_reducible refine Mach.mdrewN ?_ _) | (with_reducible refine Mach.malloc ?_ _) | ((with_reducible refine Mach.mset (hg := ?hg) ?_ _ _); case hg => dsimp only; omega))
    refine Mach.put (L := ⟨C, F, B, mp, lo, hi, ad, rc, bc, tp⟩) ?_ d hd _ a0 a1
    repeat (first | (with_reducible exact H.out) | (with_reducible refine Mach.mdrew ?_) | (with_reducible refine Mach.mdrewN ?_ _) | (with_reducible refine Mach.malloc ?_ _) | ((with_reducible refine Mach.mset (hg := ?hg) ?_ _ _); case hg => dsimp only; omega))
  · dsimp only
    repeat (first | (with_reducible exact Turned.refl _ _) | (with_reducible refine Turned.tdrew ?_) | (with_reducible refine Turned.tdrewN ?_ _) | (with_reducible refine Turned.talloc ?_ _) | ((with_reducible refine Turned.tset (hg := ?hg) ?_ _ _); case hg => first | (right; omega) | (left; simp; done)))

set_option maxHeartbeats 2000000 in
set_option maxRecDepth 100000 in
theorem do_addi8 {w : World} {L : Lay8} {s : St8} {m : Mem8} (h : Mach w L s m) (imm : Int) (d a b : Nat) (hd : d < 16) (hA : a < 16) :
    Calls Try.prog 50 #[.pointer (some ⟨L.C, 0, none⟩), insV 18 d a b imm] w (MachOut L (s.put d (m32 (s.R a + imm)), m, goOn) w) := by
  have H := Lib.hid h
  obtain ⟨C, F, B, mp, lo, hi, ad, rc, bc, tp⟩ := L
  have hC : C < w.heap.size := h.core.lt
  have hTp : tp ≤ w.heap.size := h.ht
  have ra : w.cell? ⟨C, a, none⟩ = some (.int .u32 (s.R a)) := h.core.reg a hA
  have rd : w.cell? ⟨C, d, none⟩ = some (.int .u32 (s.R d)) := h.core.reg d hd
  have fd : w.frozen? ⟨C, d, none⟩ = false := h.core.fz d
  have a0 := h.core.ok.r0 a
  have a1 := h.core.ok.r1 a
  have v0 := h.core.ok.r0 d
  have v1 := h.core.ok.r1 d
  have hd2 : (d : Int) < 16 := by omega
  have hA2 : (a : Int) < 16 := by omega
  clear h
  dsimp only
  go_enter Try.func50, Try.ntmps50
  go_wp2
  go_quiet (fail)
  go_wp2
  refine bodyPost_ret (v := stp8 0 0 0 0 0) (by simp [results, Try.results50, go_sem]) rfl (MachOut.ends (t := goOn) rfl ?_ ?_)
  · repeat (first | (with_reducible exact H.out) | (with_reducible refine Mach.mdrew ?_) | (with_reducible refine Mach.mdrewN ?_ _) | (with_reducible refine Mach.malloc ?_ _) | ((with_reducible refine Mach.mset (hg := ?hg) ?_ _ _); case hg => dsimp only; omega))
    refine Mach.put (L := ⟨C, F, B, mp, lo, hi, ad, rc, bc, tp⟩) ?_ d hd _ (m32_0 (s.R a + imm)) (m32_1 (s.R a + imm))
    repeat (first | (with_reducible exact H.out) | (with_reducible refine Mach.mdrew ?_) | (with_reducible refine Mach.mdrewN ?_ _) | (with_reducible refine Mach.malloc ?_ _) | ((with_reducible refine Mach.mset (hg := ?hg) ?_ _ _); case hg => dsimp only; omega))
  · dsimp only
    repeat (first | (with_reducible exact Turned.refl _ _) | (with_reducible refine Turned.tdrew ?_) | (with_reducible refine Turned.tdrewN ?_ _) | (with_reducible refine Turned.talloc ?_ _) | ((with_reducible refine Turned.tset (hg := ?hg) ?_ _ _); case hg => first | (right; omega) | (left; simp; done)))

set_option maxHeartbeats 2000000 in
set_option maxRecDepth 100000 in
theorem do_high8 {w : World} {L : Lay8} {s : St8} {m : Mem8} (h : Mach w L s m) (imm : Int) (d a b : Nat) (hd : d < 16) (hA : a < 16) (i0 : 0 ≤ imm) (i1 : imm ≤ 65535) :
    Calls Try.prog 50 #[.pointer (some ⟨L.C, 0, none⟩), insV 6 d a b imm] w (MachOut L (s.put d (s.R d % 65536 + imm * 65536), m, goOn) w) := by
  have H := Lib.hid h
  obtain ⟨C, F, B, mp, lo, hi, ad, rc, bc, tp⟩ := L
  have hC : C < w.heap.size := h.core.lt
  have hTp : tp ≤ w.heap.size := h.ht
  have ra : w.cell? ⟨C, a, none⟩ = some (.int .u32 (s.R a)) := h.core.reg a hA
  have rd : w.cell? ⟨C, d, none⟩ = some (.int .u32 (s.R d)) := h.core.reg d hd
  have fd : w.frozen? ⟨C, d, none⟩ = false := h.core.fz d
  have a0 := h.core.ok.r0 a
  have a1 := h.core.ok.r1 a
  have v0 := h.core.ok.r0 d
  have v1 := h.core.ok.r1 d
  have hd2 : (d : Int) < 16 := by omega
  have hA2 : (a : Int) < 16 := by omega
  have HB := Lib.hid (high8 (s.R d) imm v0 v1 i0 i1)
  clear h
  dsimp only
  go_enter Try.func50, Try.ntmps50
  go_wp2
  go_quiet (fail)
  go_wp2
  refine bodyPost_ret (v := stp8 0 0 0 0 0) (by simp [results, Try.results50, go_sem]) rfl (MachOut.ends (t := goOn) rfl ?_ ?_)
  · repeat (first | (with_reducible exact H.out) | (with_reducible refine Mach.mdrew ?_) | (with_reducible refine Mach.mdrewN ?_ _) | (with_reducible refine Mach.malloc ?_ _) | ((with_reducible refine Mach.mset (hg := ?hg) ?_ _ _); case hg => dsimp only; omega))
    rw [HB.out]
    refine Mach.put (L := ⟨C, F, B, mp, lo, hi, ad, rc, bc, tp⟩) ?_ d hd _ (by omega) (by omega)
    repeat (first | (with_reducible exact H.out) | (with_reducible refine Mach.mdrew ?_) | (with_reducible refine Mach.mdrewN ?_ _) | (with_reducible refine Mach.malloc ?_ _) | ((with_reducible refine Mach.mset (hg := ?hg) ?_ _ _); case hg => dsimp only; omega))
  · dsimp only
    repeat (first | (with_reducible exact Turned.refl _ _) | (with_reducible refine Turned.tdrew ?_) | (with_reducible refine Turned.tdrewN ?_ _) | (with_reducible refine Turned.talloc ?_ _) | ((with_reducible refine Turned.tset (hg := ?hg) ?_ _ _); case hg => first | (right; omega) | (left; simp; done)))

set_option maxHeartbeats 2000000 in
set_option maxRecDepth 100000 in
theorem do_link8 {w : World} {L : Lay8} {s : St8} {m : Mem8} (h : Mach w L s m) (imm : Int) (d a b : Nat) (hd : d < 16) (hA : a < 16) :
    Calls Try.prog 50 #[.pointer (some ⟨L.C, 0, none⟩), insV 25 d a b imm] w (MachOut L (s.put d (m32 (s.pc + 4)), m, goOn) w) := by
  have H := Lib.hid h
  obtain ⟨C, F, B, mp, lo, hi, ad, rc, bc, tp⟩ := L
  have hC : C < w.heap.size := h.core.lt
  have hTp : tp ≤ w.heap.size := h.ht
  have ra : w.cell? ⟨C, a, none⟩ = some (.int .u32 (s.R a)) := h.core.reg a hA
  have rd : w.cell? ⟨C, d, none⟩ = some (.int .u32 (s.R d)) := h.core.reg d hd
  have fd : w.frozen? ⟨C, d, none⟩ = false := h.core.fz d
  have a0 := h.core.ok.r0 a
  have a1 := h.core.ok.r1 a
  have v0 := h.core.ok.r0 d
  have v1 := h.core.ok.r1 d
  have hd2 : (d : Int) < 16 := by omega
  have hA2 : (a : Int) < 16 := by omega
  have hpc := Try.fPc { s with pc := m32 (s.pc + 4) }
  clear h
  dsimp only
  go_enter Try.func50, Try.ntmps50
  go_wp2
  go_quiet (fail)
  have HW := Lib.hid (by repeat (first | (with_reducible exact H.out) | (with_reducible refine Mach.mdrew ?_) | (with_reducible refine Mach.mdrewN ?_ _) | (with_reducible refine Mach.malloc ?_ _) | ((with_reducible refine Mach.mset (hg := ?hg) ?_ _ _); case hg => dsimp only; omega)) : Mach (((w.alloc (.cells #[.int .i64 25, .int .i64 d, .int .i64 a, .int .i64 b, .int .i64 imm] 52)).alloc (.cells #[.int .i64 0, .int .i64 0, .int .u32 0, .int .i64 0, .int .i64 0] 38)).drewN nq) ⟨C, F, B, mp, lo, hi, ad, rc, bc, tp⟩ s m)
  go_wp2_with (first
    | (refine wpList_load_st rfl _ rfl C rfl s (core_range HW.out.core) ?_)
    | (go_at_call 25; refine (next8 s H.out.core.ok _).mono ?_; rintro e w1 ⟨rfl, hb⟩; have HM1 := Lib.hid (HW.out.below hb); have rd1 : w1.cell? ⟨C, d, none⟩ = some (.int .u32 (s.R d)) := HM1.out.core.reg d hd; have fd1 : w1.frozen? ⟨C, d, none⟩ = false := HM1.out.core.fz d; have hC1 : C < w1.heap.size := HM1.out.core.lt; have hsz : w.heap.size + 2 ≤ w1.heap.size := (by have q := hb.size; simp at q; omega); obtain ⟨d0, d1, d2, d3, d4, d5, d6⟩ := five_of ((hb.block (w.heap.size + 1) (by simp)).trans (heap_alloc_new1 w _ _)); have HT1 := Lib.hid (show Turned w w1 [C, B] from Turned.of_below _ ((Bl.drewN (Bl.alloc (Bl.alloc (Below.refl _ _) _) _) _).trans (hb.mono (by simp; omega)))); clear hb))

  refine bodyPost_ret (v := stp8 0 0 0 0 0) (by simp [results, Try.results50, go_sem, d0, d1, d2, d3, d4, d6]) rfl (MachOut.ends (t := goOn) rfl ?_ ?_)
  · repeat (first | (with_reducible exact HM1.out) | (with_reducible refine Mach.mdrew ?_) | (with_reducible refine Mach.mdrewN ?_ _) | (with_reducible refine Mach.malloc ?_ _) | ((with_reducible refine Mach.mset (hg := ?hg) ?_ _ _); case hg => dsimp only; omega))
    refine Mach.put (L := ⟨C, F, B, mp, lo, hi, ad, rc, bc, tp⟩) ?_ d hd _ (m32_0 (s.pc + 4)) (m32_1 (s.pc + 4))
    repeat (first | (with_reducible exact HM1.out) | (with_reducible refine Mach.mdrew ?_) | (with_reducible refine Mach.mdrewN ?_ _) | (with_reducible refine Mach.malloc ?_ _) | ((with_reducible refine Mach.mset (hg := ?hg) ?_ _ _); case hg => dsimp only; omega))
  · dsimp only
    repeat (first | (with_reducible exact HT1.out) | (with_reducible refine Turned.tdrew ?_) | (with_reducible refine Turned.tdrewN ?_ _) | (with_reducible refine Turned.talloc ?_ _) | ((with_reducible refine Turned.tset (hg := ?hg) ?_ _ _); case hg => first | (right; omega) | (left; simp; done)))

set_option maxHeartbeats 2000000 in
set_option maxRecDepth 100000 in
theorem do_load8 {w : World} {L : Lay8} {s : St8} {m : Mem8} (h : Mach w L s m) (imm : Int) (d a b : Nat) (hd : d < 16) (hA : a < 16) :
    Calls Try.prog 50 #[.pointer (some ⟨L.C, 0, none⟩), insV 19 d a b imm] w (MachOut L (fillT s m d (m32 (s.R a + imm)) 4) w) := by
  have H := Lib.hid h
  obtain ⟨C, F, B, mp, lo, hi, ad, rc, bc, tp⟩ := L
  have hC : C < w.heap.size := h.core.lt
  have hTp : tp ≤ w.heap.size := h.ht
  have ra : w.cell? ⟨C, a, none⟩ = some (.int .u32 (s.R a)) := h.core.reg a hA
  have rd : w.cell? ⟨C, d, none⟩ = some (.int .u32 (s.R d)) := h.core.reg d hd
  have fd : w.frozen? ⟨C, d, none⟩ = false := h.core.fz d
  have a0 := h.core.ok.r0 a
  have a1 := h.core.ok.r1 a
  have v0 := h.core.ok.r0 d
  have v1 := h.core.ok.r1 d
  have hd2 : (d : Int) < 16 := by omega
  have hA2 : (a : Int) < 16 := by omega
  obtain ⟨x, hx⟩ : ∃ x, m32 (s.R a + imm) = x := ⟨_, rfl⟩
  have hx0 : 0 ≤ x := hx ▸ m32_0 _
  have hx1 : x < 4294967296 := hx ▸ m32_1 _
  rw [hx]
  have HX := Lib.hid hx
  clear hx
  clear h
  dsimp only
  go_enter Try.func50, Try.ntmps50
  go_wp2
  go_quiet (fail)
  have HW := Lib.hid (by repeat (first | (with_reducible exact H.out) | (with_reducible refine Mach.mdrew ?_) | (with_reducible refine Mach.mdrewN ?_ _) | (with_reducible refine Mach.malloc ?_ _) | ((with_reducible refine Mach.mset (hg := ?hg) ?_ _ _); case hg => dsimp only; omega)) : Mach (((w.alloc (.cells #[.int .i64 19, .int .i64 d, .int .i64 a, .int .i64 b, .int .i64 imm] 52)).alloc (.cells #[.int .i64 0, .int .i64 0, .int .u32 0, .int .i64 0, .int .i64 0] 38)).drewN nq) ⟨C, F, B, mp, lo, hi, ad, rc, bc, tp⟩ s m)
  go_wp2_with (go_at_call 61; rw [show (s.R a + imm) % 4294967296 = x from HX.out]; refine (fill_any HW.out x d 4 hd (.inr rfl) hx0 hx1).mono ?_; rintro e w1 ⟨rfl, hM, hT⟩; have hC1 : C < w1.heap.size := hM.core.lt; have hsz : w.heap.size + 2 ≤ w1.heap.size := (by have q := hT.size; simp at q; omega); obtain ⟨d0, d1, d2, d3, d4, d5, d6⟩ := five_of ((hT.block (w.heap.size + 1) (by simp) (by have := H.out.flat.bl; simp at *; omega)).trans (heap_alloc_new1 w _ _)); have HM1 := Lib.hid hM; have HT1 := Lib.hid ((show Turned w _ [C, B] from Turned.of_below _ (Bl.drewN (Bl.alloc (Bl.alloc (Below.refl _ _) _) _) _)).trans hT); clear hM hT)

  refine bodyPost_ret (v := stp8 (fillT s m d x 4).2.2.kind (fillT s m d x 4).2.2.call (fillT s m d x 4).2.2.at' (fillT s m d x 4).2.2.need (fillT s m d x 4).2.2.used) (by simp [results, Try.results50, go_sem, d0, d1, d2, d3, d4, d6]) rfl ⟨rfl, ?_, ?_⟩
  · repeat (first | (with_reducible exact HM1.out) | (with_reducible refine Mach.mdrew ?_) | (with_reducible refine Mach.mdrewN ?_ _) | (with_reducible refine Mach.malloc ?_ _) | ((with_reducible refine Mach.mset (hg := ?hg) ?_ _ _); case hg => dsimp only; omega))
  · repeat (first | (with_reducible exact HT1.out) | (with_reducible refine Turned.tdrew ?_) | (with_reducible refine Turned.tdrewN ?_ _) | (with_reducible refine Turned.talloc ?_ _) | ((with_reducible refine Turned.tset (hg := ?hg) ?_ _ _); case hg => first | (right; omega) | (left; simp; done)))

set_option maxHeartbeats 2000000 in
set_option maxRecDepth 100000 in
theorem do_loadb8 {w : World} {L : Lay8} {s : St8} {m : Mem8} (h : Mach w L s m) (imm : Int) (d a b : Nat) (hd : d < 16) (hA : a < 16) :
    Calls Try.prog 50 #[.pointer (some ⟨L.C, 0, none⟩), insV 21 d a b imm] w (MachOut L (fillT s m d (m32 (s.R a + imm)) 1) w) := by
  have H := Lib.hid h
  obtain ⟨C, F, B, mp, lo, hi, ad, rc, bc, tp⟩ := L
  have hC : C < w.heap.size := h.core.lt
  have hTp : tp ≤ w.heap.size := h.ht
  have ra : w.cell? ⟨C, a, none⟩ = some (.int .u32 (s.R a)) := h.core.reg a hA
  have rd : w.cell? ⟨C, d, none⟩ = some (.int .u32 (s.R d)) := h.core.reg d hd
  have fd : w.frozen? ⟨C, d, none⟩ = false := h.core.fz d
  have a0 := h.core.ok.r0 a
  have a1 := h.core.ok.r1 a
  have v0 := h.core.ok.r0 d
  have v1 := h.core.ok.r1 d
  have hd2 : (d : Int) < 16 := by omega
  have hA2 : (a : Int) < 16 := by omega
  obtain ⟨x, hx⟩ : ∃ x, m32 (s.R a + imm) = x := ⟨_, rfl⟩
  have hx0 : 0 ≤ x := hx ▸ m32_0 _
  have hx1 : x < 4294967296 := hx ▸ m32_1 _
  rw [hx]
  have HX := Lib.hid hx
  clear hx
  clear h
  dsimp only
  go_enter Try.func50, Try.ntmps50
  go_wp2
  go_quiet (fail)
  have HW := Lib.hid (by repeat (first | (with_reducible exact H.out) | (with_reducible refine Mach.mdrew ?_) | (with_reducible refine Mach.mdrewN ?_ _) | (with_reducible refine Mach.malloc ?_ _) | ((with_reducible refine Mach.mset (hg := ?hg) ?_ _ _); case hg => dsimp only; omega)) : Mach (((w.alloc (.cells #[.int .i64 21, .int .i64 d, .int .i64 a, .int .i64 b, .int .i64 imm] 52)).alloc (.cells #[.int .i64 0, .int .i64 0, .int .u32 0, .int .i64 0, .int .i64 0] 38)).drewN nq) ⟨C, F, B, mp, lo, hi, ad, rc, bc, tp⟩ s m)
  go_wp2_with (go_at_call 61; rw [show (s.R a + imm) % 4294967296 = x from HX.out]; refine (fill_any HW.out x d 1 hd (.inl rfl) hx0 hx1).mono ?_; rintro e w1 ⟨rfl, hM, hT⟩; have hC1 : C < w1.heap.size := hM.core.lt; have hsz : w.heap.size + 2 ≤ w1.heap.size := (by have q := hT.size; simp at q; omega); obtain ⟨d0, d1, d2, d3, d4, d5, d6⟩ := five_of ((hT.block (w.heap.size + 1) (by simp) (by have := H.out.flat.bl; simp at *; omega)).trans (heap_alloc_new1 w _ _)); have HM1 := Lib.hid hM; have HT1 := Lib.hid ((show Turned w _ [C, B] from Turned.of_below _ (Bl.drewN (Bl.alloc (Bl.alloc (Below.refl _ _) _) _) _)).trans hT); clear hM hT)

  refine bodyPost_ret (v := stp8 (fillT s m d x 1).2.2.kind (fillT s m d x 1).2.2.call (fillT s m d x 1).2.2.at' (fillT s m d x 1).2.2.need (fillT s m d x 1).2.2.used) (by simp [results, Try.results50, go_sem, d0, d1, d2, d3, d4, d6]) rfl ⟨rfl, ?_, ?_⟩
  · repeat (first | (with_reducible exact HM1.out) | (with_reducible refine Mach.mdrew ?_) | (with_reducible refine Mach.mdrewN ?_ _) | (with_reducible refine Mach.malloc ?_ _) | ((with_reducible refine Mach.mset (hg := ?hg) ?_ _ _); case hg => dsimp only; omega))
  · repeat (first | (with_reducible exact HT1.out) | (with_reducible refine Turned.tdrew ?_) | (with_reducible refine Turned.tdrewN ?_ _) | (with_reducible refine Turned.talloc ?_ _) | ((with_reducible refine Turned.tset (hg := ?hg) ?_ _ _); case hg => first | (right; omega) | (left; simp; done)))

set_option maxHeartbeats 2000000 in
set_option maxRecDepth 100000 in
theorem do_store8 {w : World} {L : Lay8} {s : St8} {m : Mem8} (h : Mach w L s m) (imm : Int) (d a b : Nat) (hd : d < 16) (hA : a < 16) :
    Calls Try.prog 50 #[.pointer (some ⟨L.C, 0, none⟩), insV 20 d a b imm] w (MachOut L (putT s m (s.R d) (m32 (s.R a + imm)) 4) w) := by
  have H := Lib.hid h
  obtain ⟨C, F, B, mp, lo, hi, ad, rc, bc, tp⟩ := L
  have hC : C < w.heap.size := h.core.lt
  have hTp : tp ≤ w.heap.size := h.ht
  have ra : w.cell? ⟨C, a, none⟩ = some (.int .u32 (s.R a)) := h.core.reg a hA
  have rd : w.cell? ⟨C, d, none⟩ = some (.int .u32 (s.R d)) := h.core.reg d hd
  have fd : w.frozen? ⟨C, d, none⟩ = false := h.core.fz d
  have a0 := h.core.ok.r0 a
  have a1 := h.core.ok.r1 a
  have v0 := h.core.ok.r0 d
  have v1 := h.core.ok.r1 d
  have hd2 : (d : Int) < 16 := by omega
  have hA2 : (a : Int) < 16 := by omega
  obtain ⟨x, hx⟩ : ∃ x, m32 (s.R a + imm) = x := ⟨_, rfl⟩
  have hx0 : 0 ≤ x := hx ▸ m32_0 _
  have hx1 : x < 4294967296 := hx ▸ m32_1 _
  rw [hx]
  have HX := Lib.hid hx
  clear hx
  clear h
  dsimp only
  go_enter Try.func50, Try.ntmps50
  go_wp2
  go_quiet (fail)
  have HW := Lib.hid (by repeat (first | (with_reducible exact H.out) | (with_reducible refine Mach.mdrew ?_) | (with_reducible refine Mach.mdrewN ?_ _) | (with_reducible refine Mach.malloc ?_ _) | ((with_reducible refine Mach.mset (hg := ?hg) ?_ _ _); case hg => dsimp only; omega)) : Mach (((w.alloc (.cells #[.int .i64 20, .int .i64 d, .int .i64 a, .int .i64 b, .int .i64 imm] 52)).alloc (.cells #[.int .i64 0, .int .i64 0, .int .u32 0, .int .i64 0, .int .i64 0] 38)).drewN nq) ⟨C, F, B, mp, lo, hi, ad, rc, bc, tp⟩ s m)
  go_wp2_with (go_at_call 62; rw [show (s.R a + imm) % 4294967296 = x from HX.out]; refine (put_all HW.out (s.R d) x 4 (.inr rfl) v0 v1 hx0 hx1).mono ?_; rintro e w1 ⟨rfl, hM, hT⟩; have hC1 : C < w1.heap.size := hM.core.lt; have hsz : w.heap.size + 2 ≤ w1.heap.size := (by have q := hT.size; simp at q; omega); obtain ⟨d0, d1, d2, d3, d4, d5, d6⟩ := five_of ((hT.block (w.heap.size + 1) (by simp) (by have := H.out.flat.bl; simp at *; omega)).trans (heap_alloc_new1 w _ _)); have HM1 := Lib.hid hM; have HT1 := Lib.hid ((show Turned w _ [C, B] from Turned.of_below _ (Bl.drewN (Bl.alloc (Bl.alloc (Below.refl _ _) _) _) _)).trans hT); clear hM hT)

  refine bodyPost_ret (v := stp8 (putT s m (s.R d) x 4).2.2.kind (putT s m (s.R d) x 4).2.2.call (putT s m (s.R d) x 4).2.2.at' (putT s m (s.R d) x 4).2.2.need (putT s m (s.R d) x 4).2.2.used) (by simp [results, Try.results50, go_sem, d0, d1, d2, d3, d4, d6]) rfl ⟨rfl, ?_, ?_⟩
  · repeat (first | (with_reducible exact HM1.out) | (with_reducible refine Mach.mdrew ?_) | (with_reducible refine Mach.mdrewN ?_ _) | (with_reducible refine Mach.malloc ?_ _) | ((with_reducible refine Mach.mset (hg := ?hg) ?_ _ _); case hg => dsimp only; omega))
  · repeat (first | (with_reducible exact HT1.out) | (with_reducible refine Turned.tdrew ?_) | (with_reducible refine Turned.tdrewN ?_ _) | (with_reducible refine Turned.talloc ?_ _) | ((with_reducible refine Turned.tset (hg := ?hg) ?_ _ _); case hg => first | (right; omega) | (left; simp; done)))

set_option maxHeartbeats 2000000 in
set_option maxRecDepth 100000 in
theorem do_storeb8 {w : World} {L : Lay8} {s : St8} {m : Mem8} (h : Mach w L s m) (imm : Int) (d a b : Nat) (hd : d < 16) (hA : a < 16) :
    Calls Try.prog 50 #[.pointer (some ⟨L.C, 0, none⟩), insV 22 d a b imm] w (MachOut L (putT s m (s.R d) (m32 (s.R a + imm)) 1) w) := by
  have H := Lib.hid h
  obtain ⟨C, F, B, mp, lo, hi, ad, rc, bc, tp⟩ := L
  have hC : C < w.heap.size := h.core.lt
  have hTp : tp ≤ w.heap.size := h.ht
  have ra : w.cell? ⟨C, a, none⟩ = some (.int .u32 (s.R a)) := h.core.reg a hA
  have rd : w.cell? ⟨C, d, none⟩ = some (.int .u32 (s.R d)) := h.core.reg d hd
  have fd : w.frozen? ⟨C, d, none⟩ = false := h.core.fz d
  have a0 := h.core.ok.r0 a
  have a1 := h.core.ok.r1 a
  have v0 := h.core.ok.r0 d
  have v1 := h.core.ok.r1 d
  have hd2 : (d : Int) < 16 := by omega
  have hA2 : (a : Int) < 16 := by omega
  obtain ⟨x, hx⟩ : ∃ x, m32 (s.R a + imm) = x := ⟨_, rfl⟩
  have hx0 : 0 ≤ x := hx ▸ m32_0 _
  have hx1 : x < 4294967296 := hx ▸ m32_1 _
  rw [hx]
  have HX := Lib.hid hx
  clear hx
  clear h
  dsimp only
  go_enter Try.func50, Try.ntmps50
  go_wp2
  go_quiet (fail)
  have HW := Lib.hid (by repeat (first | (with_reducible exact H.out) | (with_reducible refine Mach.mdrew ?_) | (with_reducible refine Mach.mdrewN ?_ _) | (with_reducible refine Mach.malloc ?_ _) | ((with_reducible refine Mach.mset (hg := ?hg) ?_ _ _); case hg => dsimp only; omega)) : Mach (((w.alloc (.cells #[.int .i64 22, .int .i64 d, .int .i64 a, .int .i64 b, .int .i64 imm] 52)).alloc (.cells #[.int .i64 0, .int .i64 0, .int .u32 0, .int .i64 0, .int .i64 0] 38)).drewN nq) ⟨C, F, B, mp, lo, hi, ad, rc, bc, tp⟩ s m)
  go_wp2_with (go_at_call 62; rw [show (s.R a + imm) % 4294967296 = x from HX.out]; refine (put_all HW.out (s.R d) x 1 (.inl rfl) v0 v1 hx0 hx1).mono ?_; rintro e w1 ⟨rfl, hM, hT⟩; have hC1 : C < w1.heap.size := hM.core.lt; have hsz : w.heap.size + 2 ≤ w1.heap.size := (by have q := hT.size; simp at q; omega); obtain ⟨d0, d1, d2, d3, d4, d5, d6⟩ := five_of ((hT.block (w.heap.size + 1) (by simp) (by have := H.out.flat.bl; simp at *; omega)).trans (heap_alloc_new1 w _ _)); have HM1 := Lib.hid hM; have HT1 := Lib.hid ((show Turned w _ [C, B] from Turned.of_below _ (Bl.drewN (Bl.alloc (Bl.alloc (Below.refl _ _) _) _) _)).trans hT); clear hM hT)

  refine bodyPost_ret (v := stp8 (putT s m (s.R d) x 1).2.2.kind (putT s m (s.R d) x 1).2.2.call (putT s m (s.R d) x 1).2.2.at' (putT s m (s.R d) x 1).2.2.need (putT s m (s.R d) x 1).2.2.used) (by simp [results, Try.results50, go_sem, d0, d1, d2, d3, d4, d6]) rfl ⟨rfl, ?_, ?_⟩
  · repeat (first | (with_reducible exact HM1.out) | (with_reducible refine Mach.mdrew ?_) | (with_reducible refine Mach.mdrewN ?_ _) | (with_reducible refine Mach.malloc ?_ _) | ((with_reducible refine Mach.mset (hg := ?hg) ?_ _ _); case hg => dsimp only; omega))
  · repeat (first | (with_reducible exact HT1.out) | (with_reducible refine Turned.tdrew ?_) | (with_reducible refine Turned.tdrewN ?_ _) | (with_reducible refine Turned.talloc ?_ _) | ((with_reducible refine Turned.tset (hg := ?hg) ?_ _ _); case hg => first | (right; omega) | (left; simp; done)))
end Go.Proofs.Ytknepljmbpdpkaa
