/- The core's next. -/
import Derived.Test.YtknepljmbpdpkaaCpP
import Derived.Test.YtknepljmbpdpkaaIsaW
import Derived.Deep.RegionWith
namespace Go.Proofs.Ytknepljmbpdpkaa
open Go.RowKit

set_option maxHeartbeats 2000000 in
set_option maxRecDepth 100000 in
theorem next_r8 {w : World} {L : Lay8} {s : St8} {m : Mem8} (h : Mach w L s m) (imm b : Int) (d a : Nat) (hd : d < 16) (hA : a < 16) (hm : mayB 24 d a b imm = true)  :
    Calls Try.prog 51 #[.pointer (some ⟨L.C, 0, none⟩), insV 24 d a b imm] w fun e w' => e = .returned (.int .u32 (s.R a)) ∧ Below w.heap.size w w' := by
  have H := Lib.hid h
  have HM := Lib.hid hm
  obtain ⟨C, F, B, mp, lo, hi, ad, rc, bc, tp⟩ := L
  have hC : C < w.heap.size := h.core.lt
  have hTp : tp ≤ w.heap.size := h.ht
  have ra : w.cell? ⟨C, a, none⟩ = some (.int .u32 (s.R a)) := h.core.reg a hA
  have rd : w.cell? ⟨C, d, none⟩ = some (.int .u32 (s.R d)) := h.core.reg d hd
  have rp : w.cell? ⟨C, 16, none⟩ = some (.int .u32 s.pc) := h.core.pc
  have p0 := h.core.ok.p0
  have p1 := h.core.ok.p1
  have hd2 : (d : Int) < 16 := by omega
  have hA2 : (a : Int) < 16 := by omega
  clear h hm
  dsimp only
  go_enter Try.func51, Try.ntmps51
  go_wp2
  go_quiet (fail)
  go_wp2
  have HMW := Lib.hid ((H.out.malloc (.cells #[.int .i64 24, .int .i64 d, .int .i64 a, .int .i64 b, .int .i64 imm] 52)).mdrewN nq)
  have hbl : Below w.heap.size w ((w.alloc (.cells #[.int .i64 24, .int .i64 d, .int .i64 a, .int .i64 b, .int .i64 imm] 52)).drewN nq) := Bl.drewN (Bl.alloc (Below.refl _ _) _) _
  obtain ⟨i0, i1, i2, i3, i4, i5, i6⟩ := five_of (show ((w.alloc (.cells #[.int .i64 24, .int .i64 d, .int .i64 a, .int .i64 b, .int .i64 imm] 52)).drewN nq).heap[w.heap.size]? = _ from heap_alloc_new w _)
  have hins : ((w.alloc (.cells #[.int .i64 24, .int .i64 d, .int .i64 a, .int .i64 b, .int .i64 imm] 52)).drewN nq).heap[w.heap.size]? = _ := heap_alloc_new w _
  generalize (w.alloc (.cells #[.int .i64 24, .int .i64 d, .int .i64 a, .int .i64 b, .int .i64 imm] 52)).drewN nq = W at *
  have HI := Lib.hid hins
  have HBL := Lib.hid hbl
  have rpW : W.cell? ⟨C, 16, none⟩ = some (.int .u32 s.pc) := HMW.out.core.pc
  have hCW : C < W.heap.size := HMW.out.core.lt
  clear hins hbl
  go_region_with (go_at_call 64; refine (leads_yes _ _ _ _ _ _ _ HM.out p0 p1).mono ?_; rintro e w1 ⟨rfl, hb⟩; have HB1 := Lib.hid hb; obtain ⟨d0, d1, d2, d3, d4, d5, d6⟩ := five_of ((hb.block w.heap.size i6).trans HI.out); have hC1 : C < w1.heap.size := Nat.lt_of_lt_of_le hCW hb.size; have HM1 := Lib.hid ((show Mach _ ⟨C, F, B, mp, lo, hi, ad, rc, bc, tp⟩ s m from HMW.out.mdrew).below hb); clear hb)
  all_goals
    go_wp2
    go_ret
    exact ⟨ret_int (by rfl), Bl.step (Bl.drew HBL.out) HB1.out⟩

set_option maxHeartbeats 2000000 in
set_option maxRecDepth 100000 in
theorem next_beq_y {w : World} {L : Lay8} {s : St8} {m : Mem8} (h : Mach w L s m) (imm b : Int) (d a : Nat) (hd : d < 16) (hA : a < 16) (hm : mayB 26 d a b imm = true) (hz : s.R d = s.R a) :
    Calls Try.prog 51 #[.pointer (some ⟨L.C, 0, none⟩), insV 26 d a b imm] w fun e w' => e = .returned (.int .u32 (m32 (s.pc + 4 * imm))) ∧ Below w.heap.size w w' := by
  have H := Lib.hid h
  have HM := Lib.hid hm
  obtain ⟨C, F, B, mp, lo, hi, ad, rc, bc, tp⟩ := L
  have hC : C < w.heap.size := h.core.lt
  have hTp : tp ≤ w.heap.size := h.ht
  have ra : w.cell? ⟨C, a, none⟩ = some (.int .u32 (s.R a)) := h.core.reg a hA
  have rd : w.cell? ⟨C, d, none⟩ = some (.int .u32 (s.R d)) := h.core.reg d hd
  have rp : w.cell? ⟨C, 16, none⟩ = some (.int .u32 s.pc) := h.core.pc
  have p0 := h.core.ok.p0
  have p1 := h.core.ok.p1
  have hd2 : (d : Int) < 16 := by omega
  have hA2 : (a : Int) < 16 := by omega
  obtain ⟨x, hx⟩ : ∃ x, s.R d = x := ⟨_, rfl⟩
  obtain ⟨y, hy⟩ : ∃ y, s.R a = y := ⟨_, rfl⟩
  rw [hx] at rd hz
  rw [hy] at ra hz
  have hz2 : (x == y) = true := by simpa using hz
  clear hz
  clear h hm
  dsimp only
  go_enter Try.func51, Try.ntmps51
  go_wp2
  go_quiet (fail)
  go_wp2
  have HMW := Lib.hid ((H.out.malloc (.cells #[.int .i64 26, .int .i64 d, .int .i64 a, .int .i64 b, .int .i64 imm] 52)).mdrewN nq)
  have hbl : Below w.heap.size w ((w.alloc (.cells #[.int .i64 26, .int .i64 d, .int .i64 a, .int .i64 b, .int .i64 imm] 52)).drewN nq) := Bl.drewN (Bl.alloc (Below.refl _ _) _) _
  obtain ⟨i0, i1, i2, i3, i4, i5, i6⟩ := five_of (show ((w.alloc (.cells #[.int .i64 26, .int .i64 d, .int .i64 a, .int .i64 b, .int .i64 imm] 52)).drewN nq).heap[w.heap.size]? = _ from heap_alloc_new w _)
  have hins : ((w.alloc (.cells #[.int .i64 26, .int .i64 d, .int .i64 a, .int .i64 b, .int .i64 imm] 52)).drewN nq).heap[w.heap.size]? = _ := heap_alloc_new w _
  generalize (w.alloc (.cells #[.int .i64 26, .int .i64 d, .int .i64 a, .int .i64 b, .int .i64 imm] 52)).drewN nq = W at *
  have HI := Lib.hid hins
  have HBL := Lib.hid hbl
  have rpW : W.cell? ⟨C, 16, none⟩ = some (.int .u32 s.pc) := HMW.out.core.pc
  have hCW : C < W.heap.size := HMW.out.core.lt
  clear hins hbl
  go_region_with (go_at_call 64; refine (leads_yes _ _ _ _ _ _ _ HM.out p0 p1).mono ?_; rintro e w1 ⟨rfl, hb⟩; have HB1 := Lib.hid hb; obtain ⟨d0, d1, d2, d3, d4, d5, d6⟩ := five_of ((hb.block w.heap.size i6).trans HI.out); have hC1 : C < w1.heap.size := Nat.lt_of_lt_of_le hCW hb.size; have HM1 := Lib.hid ((show Mach _ ⟨C, F, B, mp, lo, hi, ad, rc, bc, tp⟩ s m from HMW.out.mdrew).below hb); clear hb)
  all_goals
    go_wp2
    go_ret
    exact ⟨ret_int (by show ldV 26 imm s.pc = _; unfold ldV; rw [if_pos (by decide)]), Bl.step (Bl.drew HBL.out) HB1.out⟩

set_option maxHeartbeats 2000000 in
set_option maxRecDepth 100000 in
theorem next_beq_n {w : World} {L : Lay8} {s : St8} {m : Mem8} (h : Mach w L s m) (imm b : Int) (d a : Nat) (hd : d < 16) (hA : a < 16) (hm : mayB 26 d a b imm = true) (hz : s.R d ≠ s.R a) :
    Calls Try.prog 51 #[.pointer (some ⟨L.C, 0, none⟩), insV 26 d a b imm] w fun e w' => e = .returned (.int .u32 (m32 (s.pc + 4))) ∧ Below w.heap.size w w' := by
  have H := Lib.hid h
  have HM := Lib.hid hm
  obtain ⟨C, F, B, mp, lo, hi, ad, rc, bc, tp⟩ := L
  have hC : C < w.heap.size := h.core.lt
  have hTp : tp ≤ w.heap.size := h.ht
  have ra : w.cell? ⟨C, a, none⟩ = some (.int .u32 (s.R a)) := h.core.reg a hA
  have rd : w.cell? ⟨C, d, none⟩ = some (.int .u32 (s.R d)) := h.core.reg d hd
  have rp : w.cell? ⟨C, 16, none⟩ = some (.int .u32 s.pc) := h.core.pc
  have p0 := h.core.ok.p0
  have p1 := h.core.ok.p1
  have hd2 : (d : Int) < 16 := by omega
  have hA2 : (a : Int) < 16 := by omega
  obtain ⟨x, hx⟩ : ∃ x, s.R d = x := ⟨_, rfl⟩
  obtain ⟨y, hy⟩ : ∃ y, s.R a = y := ⟨_, rfl⟩
  rw [hx] at rd hz
  rw [hy] at ra hz
  have hz2 : (x == y) = false := by simpa using hz
  clear hz
  have hpc := Try.fPc { s with pc := m32 (s.pc + 4) }
  clear h hm
  dsimp only
  go_enter Try.func51, Try.ntmps51
  go_wp2
  go_quiet (fail)
  go_wp2
  have HMW := Lib.hid ((H.out.malloc (.cells #[.int .i64 26, .int .i64 d, .int .i64 a, .int .i64 b, .int .i64 imm] 52)).mdrewN nq)
  have hbl : Below w.heap.size w ((w.alloc (.cells #[.int .i64 26, .int .i64 d, .int .i64 a, .int .i64 b, .int .i64 imm] 52)).drewN nq) := Bl.drewN (Bl.alloc (Below.refl _ _) _) _
  obtain ⟨i0, i1, i2, i3, i4, i5, i6⟩ := five_of (show ((w.alloc (.cells #[.int .i64 26, .int .i64 d, .int .i64 a, .int .i64 b, .int .i64 imm] 52)).drewN nq).heap[w.heap.size]? = _ from heap_alloc_new w _)
  have hins : ((w.alloc (.cells #[.int .i64 26, .int .i64 d, .int .i64 a, .int .i64 b, .int .i64 imm] 52)).drewN nq).heap[w.heap.size]? = _ := heap_alloc_new w _
  generalize (w.alloc (.cells #[.int .i64 26, .int .i64 d, .int .i64 a, .int .i64 b, .int .i64 imm] 52)).drewN nq = W at *
  have HI := Lib.hid hins
  have HBL := Lib.hid hbl
  have rpW : W.cell? ⟨C, 16, none⟩ = some (.int .u32 s.pc) := HMW.out.core.pc
  have hCW : C < W.heap.size := HMW.out.core.lt
  clear hins hbl
  go_region_with (go_at_call 64; refine (leads_yes _ _ _ _ _ _ _ HM.out p0 p1).mono ?_; rintro e w1 ⟨rfl, hb⟩; have HB1 := Lib.hid hb; obtain ⟨d0, d1, d2, d3, d4, d5, d6⟩ := five_of ((hb.block w.heap.size i6).trans HI.out); have hC1 : C < w1.heap.size := Nat.lt_of_lt_of_le hCW hb.size; have HM1 := Lib.hid ((show Mach _ ⟨C, F, B, mp, lo, hi, ad, rc, bc, tp⟩ s m from HMW.out.mdrew).below hb); clear hb)
  all_goals
    go_wp2_with (first
    | (refine wpList_load_st rfl _ rfl C rfl s (core_range HM1.out.core) ?_)
    | (go_at_call 25; refine (next8 s H.out.core.ok _).mono ?_; rintro e w2 ⟨rfl, hb2⟩; have HB2 := Lib.hid hb2; clear hb2))
    go_ret
    exact ⟨ret_int (by rfl), Bl.step (Bl.step (Bl.drew HBL.out) HB1.out) HB2.out⟩

set_option maxHeartbeats 2000000 in
set_option maxRecDepth 100000 in
theorem next_bne_y {w : World} {L : Lay8} {s : St8} {m : Mem8} (h : Mach w L s m) (imm b : Int) (d a : Nat) (hd : d < 16) (hA : a < 16) (hm : mayB 27 d a b imm = true) (hz : s.R d ≠ s.R a) :
    Calls Try.prog 51 #[.pointer (some ⟨L.C, 0, none⟩), insV 27 d a b imm] w fun e w' => e = .returned (.int .u32 (m32 (s.pc + 4 * imm))) ∧ Below w.heap.size w w' := by
  have H := Lib.hid h
  have HM := Lib.hid hm
  obtain ⟨C, F, B, mp, lo, hi, ad, rc, bc, tp⟩ := L
  have hC : C < w.heap.size := h.core.lt
  have hTp : tp ≤ w.heap.size := h.ht
  have ra : w.cell? ⟨C, a, none⟩ = some (.int .u32 (s.R a)) := h.core.reg a hA
  have rd : w.cell? ⟨C, d, none⟩ = some (.int .u32 (s.R d)) := h.core.reg d hd
  have rp : w.cell? ⟨C, 16, none⟩ = some (.int .u32 s.pc) := h.core.pc
  have p0 := h.core.ok.p0
  have p1 := h.core.ok.p1
  have hd2 : (d : Int) < 16 := by omega
  have hA2 : (a : Int) < 16 := by omega
  obtain ⟨x, hx⟩ : ∃ x, s.R d = x := ⟨_, rfl⟩
  obtain ⟨y, hy⟩ : ∃ y, s.R a = y := ⟨_, rfl⟩
  rw [hx] at rd hz
  rw [hy] at ra hz
  have hz2 : (x != y) = true := by simpa using hz
  clear hz
  clear h hm
  dsimp only
  go_enter Try.func51, Try.ntmps51
  go_wp2
  go_quiet (fail)
  go_wp2
  have HMW := Lib.hid ((H.out.malloc (.cells #[.int .i64 27, .int .i64 d, .int .i64 a, .int .i64 b, .int .i64 imm] 52)).mdrewN nq)
  have hbl : Below w.heap.size w ((w.alloc (.cells #[.int .i64 27, .int .i64 d, .int .i64 a, .int .i64 b, .int .i64 imm] 52)).drewN nq) := Bl.drewN (Bl.alloc (Below.refl _ _) _) _
  obtain ⟨i0, i1, i2, i3, i4, i5, i6⟩ := five_of (show ((w.alloc (.cells #[.int .i64 27, .int .i64 d, .int .i64 a, .int .i64 b, .int .i64 imm] 52)).drewN nq).heap[w.heap.size]? = _ from heap_alloc_new w _)
  have hins : ((w.alloc (.cells #[.int .i64 27, .int .i64 d, .int .i64 a, .int .i64 b, .int .i64 imm] 52)).drewN nq).heap[w.heap.size]? = _ := heap_alloc_new w _
  generalize (w.alloc (.cells #[.int .i64 27, .int .i64 d, .int .i64 a, .int .i64 b, .int .i64 imm] 52)).drewN nq = W at *
  have HI := Lib.hid hins
  have HBL := Lib.hid hbl
  have rpW : W.cell? ⟨C, 16, none⟩ = some (.int .u32 s.pc) := HMW.out.core.pc
  have hCW : C < W.heap.size := HMW.out.core.lt
  clear hins hbl
  go_region_with (go_at_call 64; refine (leads_yes _ _ _ _ _ _ _ HM.out p0 p1).mono ?_; rintro e w1 ⟨rfl, hb⟩; have HB1 := Lib.hid hb; obtain ⟨d0, d1, d2, d3, d4, d5, d6⟩ := five_of ((hb.block w.heap.size i6).trans HI.out); have hC1 : C < w1.heap.size := Nat.lt_of_lt_of_le hCW hb.size; have HM1 := Lib.hid ((show Mach _ ⟨C, F, B, mp, lo, hi, ad, rc, bc, tp⟩ s m from HMW.out.mdrew).below hb); clear hb)
  all_goals
    go_wp2
    go_ret
    exact ⟨ret_int (by show ldV 27 imm s.pc = _; unfold ldV; rw [if_pos (by decide)]), Bl.step (Bl.drew HBL.out) HB1.out⟩

set_option maxHeartbeats 2000000 in
set_option maxRecDepth 100000 in
theorem next_bne_n {w : World} {L : Lay8} {s : St8} {m : Mem8} (h : Mach w L s m) (imm b : Int) (d a : Nat) (hd : d < 16) (hA : a < 16) (hm : mayB 27 d a b imm = true) (hz : s.R d = s.R a) :
    Calls Try.prog 51 #[.pointer (some ⟨L.C, 0, none⟩), insV 27 d a b imm] w fun e w' => e = .returned (.int .u32 (m32 (s.pc + 4))) ∧ Below w.heap.size w w' := by
  have H := Lib.hid h
  have HM := Lib.hid hm
  obtain ⟨C, F, B, mp, lo, hi, ad, rc, bc, tp⟩ := L
  have hC : C < w.heap.size := h.core.lt
  have hTp : tp ≤ w.heap.size := h.ht
  have ra : w.cell? ⟨C, a, none⟩ = some (.int .u32 (s.R a)) := h.core.reg a hA
  have rd : w.cell? ⟨C, d, none⟩ = some (.int .u32 (s.R d)) := h.core.reg d hd
  have rp : w.cell? ⟨C, 16, none⟩ = some (.int .u32 s.pc) := h.core.pc
  have p0 := h.core.ok.p0
  have p1 := h.core.ok.p1
  have hd2 : (d : Int) < 16 := by omega
  have hA2 : (a : Int) < 16 := by omega
  obtain ⟨x, hx⟩ : ∃ x, s.R d = x := ⟨_, rfl⟩
  obtain ⟨y, hy⟩ : ∃ y, s.R a = y := ⟨_, rfl⟩
  rw [hx] at rd hz
  rw [hy] at ra hz
  have hz2 : (x != y) = false := by simpa using hz
  clear hz
  have hpc := Try.fPc { s with pc := m32 (s.pc + 4) }
  clear h hm
  dsimp only
  go_enter Try.func51, Try.ntmps51
  go_wp2
  go_quiet (fail)
  go_wp2
  have HMW := Lib.hid ((H.out.malloc (.cells #[.int .i64 27, .int .i64 d, .int .i64 a, .int .i64 b, .int .i64 imm] 52)).mdrewN nq)
  have hbl : Below w.heap.size w ((w.alloc (.cells #[.int .i64 27, .int .i64 d, .int .i64 a, .int .i64 b, .int .i64 imm] 52)).drewN nq) := Bl.drewN (Bl.alloc (Below.refl _ _) _) _
  obtain ⟨i0, i1, i2, i3, i4, i5, i6⟩ := five_of (show ((w.alloc (.cells #[.int .i64 27, .int .i64 d, .int .i64 a, .int .i64 b, .int .i64 imm] 52)).drewN nq).heap[w.heap.size]? = _ from heap_alloc_new w _)
  have hins : ((w.alloc (.cells #[.int .i64 27, .int .i64 d, .int .i64 a, .int .i64 b, .int .i64 imm] 52)).drewN nq).heap[w.heap.size]? = _ := heap_alloc_new w _
  generalize (w.alloc (.cells #[.int .i64 27, .int .i64 d, .int .i64 a, .int .i64 b, .int .i64 imm] 52)).drewN nq = W at *
  have HI := Lib.hid hins
  have HBL := Lib.hid hbl
  have rpW : W.cell? ⟨C, 16, none⟩ = some (.int .u32 s.pc) := HMW.out.core.pc
  have hCW : C < W.heap.size := HMW.out.core.lt
  clear hins hbl
  go_region_with (go_at_call 64; refine (leads_yes _ _ _ _ _ _ _ HM.out p0 p1).mono ?_; rintro e w1 ⟨rfl, hb⟩; have HB1 := Lib.hid hb; obtain ⟨d0, d1, d2, d3, d4, d5, d6⟩ := five_of ((hb.block w.heap.size i6).trans HI.out); have hC1 : C < w1.heap.size := Nat.lt_of_lt_of_le hCW hb.size; have HM1 := Lib.hid ((show Mach _ ⟨C, F, B, mp, lo, hi, ad, rc, bc, tp⟩ s m from HMW.out.mdrew).below hb); clear hb)
  all_goals
    go_wp2_with (first
    | (refine wpList_load_st rfl _ rfl C rfl s (core_range HM1.out.core) ?_)
    | (go_at_call 25; refine (next8 s H.out.core.ok _).mono ?_; rintro e w2 ⟨rfl, hb2⟩; have HB2 := Lib.hid hb2; clear hb2))
    go_ret
    exact ⟨ret_int (by rfl), Bl.step (Bl.step (Bl.drew HBL.out) HB1.out) HB2.out⟩

set_option maxHeartbeats 2000000 in
set_option maxRecDepth 100000 in
theorem next_blt_y {w : World} {L : Lay8} {s : St8} {m : Mem8} (h : Mach w L s m) (imm b : Int) (d a : Nat) (hd : d < 16) (hA : a < 16) (hm : mayB 28 d a b imm = true) (hz : s.R d < s.R a) :
    Calls Try.prog 51 #[.pointer (some ⟨L.C, 0, none⟩), insV 28 d a b imm] w fun e w' => e = .returned (.int .u32 (m32 (s.pc + 4 * imm))) ∧ Below w.heap.size w w' := by
  have H := Lib.hid h
  have HM := Lib.hid hm
  obtain ⟨C, F, B, mp, lo, hi, ad, rc, bc, tp⟩ := L
  have hC : C < w.heap.size := h.core.lt
  have hTp : tp ≤ w.heap.size := h.ht
  have ra : w.cell? ⟨C, a, none⟩ = some (.int .u32 (s.R a)) := h.core.reg a hA
  have rd : w.cell? ⟨C, d, none⟩ = some (.int .u32 (s.R d)) := h.core.reg d hd
  have rp : w.cell? ⟨C, 16, none⟩ = some (.int .u32 s.pc) := h.core.pc
  have p0 := h.core.ok.p0
  have p1 := h.core.ok.p1
  have hd2 : (d : Int) < 16 := by omega
  have hA2 : (a : Int) < 16 := by omega
  obtain ⟨x, hx⟩ : ∃ x, s.R d = x := ⟨_, rfl⟩
  obtain ⟨y, hy⟩ : ∃ y, s.R a = y := ⟨_, rfl⟩
  rw [hx] at rd hz
  rw [hy] at ra hz
  have hz2 : decide (x < y) = true := by simpa using hz
  clear hz
  clear h hm
  dsimp only
  go_enter Try.func51, Try.ntmps51
  go_wp2
  go_quiet (fail)
  go_wp2
  have HMW := Lib.hid ((H.out.malloc (.cells #[.int .i64 28, .int .i64 d, .int .i64 a, .int .i64 b, .int .i64 imm] 52)).mdrewN nq)
  have hbl : Below w.heap.size w ((w.alloc (.cells #[.int .i64 28, .int .i64 d, .int .i64 a, .int .i64 b, .int .i64 imm] 52)).drewN nq) := Bl.drewN (Bl.alloc (Below.refl _ _) _) _
  obtain ⟨i0, i1, i2, i3, i4, i5, i6⟩ := five_of (show ((w.alloc (.cells #[.int .i64 28, .int .i64 d, .int .i64 a, .int .i64 b, .int .i64 imm] 52)).drewN nq).heap[w.heap.size]? = _ from heap_alloc_new w _)
  have hins : ((w.alloc (.cells #[.int .i64 28, .int .i64 d, .int .i64 a, .int .i64 b, .int .i64 imm] 52)).drewN nq).heap[w.heap.size]? = _ := heap_alloc_new w _
  generalize (w.alloc (.cells #[.int .i64 28, .int .i64 d, .int .i64 a, .int .i64 b, .int .i64 imm] 52)).drewN nq = W at *
  have HI := Lib.hid hins
  have HBL := Lib.hid hbl
  have rpW : W.cell? ⟨C, 16, none⟩ = some (.int .u32 s.pc) := HMW.out.core.pc
  have hCW : C < W.heap.size := HMW.out.core.lt
  clear hins hbl
  go_region_with (go_at_call 64; refine (leads_yes _ _ _ _ _ _ _ HM.out p0 p1).mono ?_; rintro e w1 ⟨rfl, hb⟩; have HB1 := Lib.hid hb; obtain ⟨d0, d1, d2, d3, d4, d5, d6⟩ := five_of ((hb.block w.heap.size i6).trans HI.out); have hC1 : C < w1.heap.size := Nat.lt_of_lt_of_le hCW hb.size; have HM1 := Lib.hid ((show Mach _ ⟨C, F, B, mp, lo, hi, ad, rc, bc, tp⟩ s m from HMW.out.mdrew).below hb); clear hb)
  all_goals
    go_wp2
    go_ret
    exact ⟨ret_int (by show ldV 28 imm s.pc = _; unfold ldV; rw [if_pos (by decide)]), Bl.step (Bl.drew HBL.out) HB1.out⟩

set_option maxHeartbeats 2000000 in
set_option maxRecDepth 100000 in
theorem next_blt_n {w : World} {L : Lay8} {s : St8} {m : Mem8} (h : Mach w L s m) (imm b : Int) (d a : Nat) (hd : d < 16) (hA : a < 16) (hm : mayB 28 d a b imm = true) (hz : s.R a ≤ s.R d) :
    Calls Try.prog 51 #[.pointer (some ⟨L.C, 0, none⟩), insV 28 d a b imm] w fun e w' => e = .returned (.int .u32 (m32 (s.pc + 4))) ∧ Below w.heap.size w w' := by
  have H := Lib.hid h
  have HM := Lib.hid hm
  obtain ⟨C, F, B, mp, lo, hi, ad, rc, bc, tp⟩ := L
  have hC : C < w.heap.size := h.core.lt
  have hTp : tp ≤ w.heap.size := h.ht
  have ra : w.cell? ⟨C, a, none⟩ = some (.int .u32 (s.R a)) := h.core.reg a hA
  have rd : w.cell? ⟨C, d, none⟩ = some (.int .u32 (s.R d)) := h.core.reg d hd
  have rp : w.cell? ⟨C, 16, none⟩ = some (.int .u32 s.pc) := h.core.pc
  have p0 := h.core.ok.p0
  have p1 := h.core.ok.p1
  have hd2 : (d : Int) < 16 := by omega
  have hA2 : (a : Int) < 16 := by omega
  obtain ⟨x, hx⟩ : ∃ x, s.R d = x := ⟨_, rfl⟩
  obtain ⟨y, hy⟩ : ∃ y, s.R a = y := ⟨_, rfl⟩
  rw [hx] at rd hz
  rw [hy] at ra hz
  have hz2 : decide (x < y) = false := by simpa using hz
  clear hz
  have hpc := Try.fPc { s with pc := m32 (s.pc + 4) }
  clear h hm
  dsimp only
  go_enter Try.func51, Try.ntmps51
  go_wp2
  go_quiet (fail)
  go_wp2
  have HMW := Lib.hid ((H.out.malloc (.cells #[.int .i64 28, .int .i64 d, .int .i64 a, .int .i64 b, .int .i64 imm] 52)).mdrewN nq)
  have hbl : Below w.heap.size w ((w.alloc (.cells #[.int .i64 28, .int .i64 d, .int .i64 a, .int .i64 b, .int .i64 imm] 52)).drewN nq) := Bl.drewN (Bl.alloc (Below.refl _ _) _) _
  obtain ⟨i0, i1, i2, i3, i4, i5, i6⟩ := five_of (show ((w.alloc (.cells #[.int .i64 28, .int .i64 d, .int .i64 a, .int .i64 b, .int .i64 imm] 52)).drewN nq).heap[w.heap.size]? = _ from heap_alloc_new w _)
  have hins : ((w.alloc (.cells #[.int .i64 28, .int .i64 d, .int .i64 a, .int .i64 b, .int .i64 imm] 52)).drewN nq).heap[w.heap.size]? = _ := heap_alloc_new w _
  generalize (w.alloc (.cells #[.int .i64 28, .int .i64 d, .int .i64 a, .int .i64 b, .int .i64 imm] 52)).drewN nq = W at *
  have HI := Lib.hid hins
  have HBL := Lib.hid hbl
  have rpW : W.cell? ⟨C, 16, none⟩ = some (.int .u32 s.pc) := HMW.out.core.pc
  have hCW : C < W.heap.size := HMW.out.core.lt
  clear hins hbl
  go_region_with (go_at_call 64; refine (leads_yes _ _ _ _ _ _ _ HM.out p0 p1).mono ?_; rintro e w1 ⟨rfl, hb⟩; have HB1 := Lib.hid hb; obtain ⟨d0, d1, d2, d3, d4, d5, d6⟩ := five_of ((hb.block w.heap.size i6).trans HI.out); have hC1 : C < w1.heap.size := Nat.lt_of_lt_of_le hCW hb.size; have HM1 := Lib.hid ((show Mach _ ⟨C, F, B, mp, lo, hi, ad, rc, bc, tp⟩ s m from HMW.out.mdrew).below hb); clear hb)
  all_goals
    go_wp2_with (first
    | (refine wpList_load_st rfl _ rfl C rfl s (core_range HM1.out.core) ?_)
    | (go_at_call 25; refine (next8 s H.out.core.ok _).mono ?_; rintro e w2 ⟨rfl, hb2⟩; have HB2 := Lib.hid hb2; clear hb2))
    go_ret
    exact ⟨ret_int (by rfl), Bl.step (Bl.step (Bl.drew HBL.out) HB1.out) HB2.out⟩

set_option maxHeartbeats 2000000 in
set_option maxRecDepth 100000 in
theorem next_lead {w : World} {L : Lay8} {s : St8} {m : Mem8} (h : Mach w L s m) (op imm b : Int) (d a : Nat) (hd : d < 16) (hA : a < 16) (hm : mayB op d a b imm = true) (h4 : (op == 24) = false) (h6 : (op == 26) = false) (h7 : (op == 27) = false) (h8 : (op == 28) = false) (hl : ldB op = true) :
    Calls Try.prog 51 #[.pointer (some ⟨L.C, 0, none⟩), insV op d a b imm] w fun e w' => e = .returned (.int .u32 (m32 (s.pc + 4 * imm))) ∧ Below w.heap.size w w' := by
  have H := Lib.hid h
  have HM := Lib.hid hm
  obtain ⟨C, F, B, mp, lo, hi, ad, rc, bc, tp⟩ := L
  have hC : C < w.heap.size := h.core.lt
  have hTp : tp ≤ w.heap.size := h.ht
  have ra : w.cell? ⟨C, a, none⟩ = some (.int .u32 (s.R a)) := h.core.reg a hA
  have rd : w.cell? ⟨C, d, none⟩ = some (.int .u32 (s.R d)) := h.core.reg d hd
  have rp : w.cell? ⟨C, 16, none⟩ = some (.int .u32 s.pc) := h.core.pc
  have p0 := h.core.ok.p0
  have p1 := h.core.ok.p1
  have hd2 : (d : Int) < 16 := by omega
  have hA2 : (a : Int) < 16 := by omega
  clear h hm
  dsimp only
  go_enter Try.func51, Try.ntmps51
  go_wp2
  go_quiet (fail)
  go_wp2
  have HMW := Lib.hid ((H.out.malloc (.cells #[.int .i64 op, .int .i64 d, .int .i64 a, .int .i64 b, .int .i64 imm] 52)).mdrewN nq)
  have hbl : Below w.heap.size w ((w.alloc (.cells #[.int .i64 op, .int .i64 d, .int .i64 a, .int .i64 b, .int .i64 imm] 52)).drewN nq) := Bl.drewN (Bl.alloc (Below.refl _ _) _) _
  obtain ⟨i0, i1, i2, i3, i4, i5, i6⟩ := five_of (show ((w.alloc (.cells #[.int .i64 op, .int .i64 d, .int .i64 a, .int .i64 b, .int .i64 imm] 52)).drewN nq).heap[w.heap.size]? = _ from heap_alloc_new w _)
  have hins : ((w.alloc (.cells #[.int .i64 op, .int .i64 d, .int .i64 a, .int .i64 b, .int .i64 imm] 52)).drewN nq).heap[w.heap.size]? = _ := heap_alloc_new w _
  generalize (w.alloc (.cells #[.int .i64 op, .int .i64 d, .int .i64 a, .int .i64 b, .int .i64 imm] 52)).drewN nq = W at *
  have HI := Lib.hid hins
  have HBL := Lib.hid hbl
  have rpW : W.cell? ⟨C, 16, none⟩ = some (.int .u32 s.pc) := HMW.out.core.pc
  have hCW : C < W.heap.size := HMW.out.core.lt
  clear hins hbl
  go_region_with (go_at_call 64; refine (leads_yes _ _ _ _ _ _ _ HM.out p0 p1).mono ?_; rintro e w1 ⟨rfl, hb⟩; have HB1 := Lib.hid hb; obtain ⟨d0, d1, d2, d3, d4, d5, d6⟩ := five_of ((hb.block w.heap.size i6).trans HI.out); have hC1 : C < w1.heap.size := Nat.lt_of_lt_of_le hCW hb.size; have HM1 := Lib.hid ((show Mach _ ⟨C, F, B, mp, lo, hi, ad, rc, bc, tp⟩ s m from HMW.out.mdrew).below hb); clear hb)
  all_goals
    go_wp2
    go_ret
    exact ⟨ret_int (by show ldV op imm s.pc = _; unfold ldV; rw [if_pos hl]), Bl.step (Bl.drew HBL.out) HB1.out⟩

set_option maxHeartbeats 2000000 in
set_option maxRecDepth 100000 in
theorem next_on {w : World} {L : Lay8} {s : St8} {m : Mem8} (h : Mach w L s m) (op imm b : Int) (d a : Nat) (hd : d < 16) (hA : a < 16) (hm : mayB op d a b imm = true) (h4 : (op == 24) = false) (h6 : (op == 26) = false) (h7 : (op == 27) = false) (h8 : (op == 28) = false) (hl : ldB op = false) :
    Calls Try.prog 51 #[.pointer (some ⟨L.C, 0, none⟩), insV op d a b imm] w fun e w' => e = .returned (.int .u32 (m32 (s.pc + 4))) ∧ Below w.heap.size w w' := by
  have H := Lib.hid h
  have HM := Lib.hid hm
  obtain ⟨C, F, B, mp, lo, hi, ad, rc, bc, tp⟩ := L
  have hC : C < w.heap.size := h.core.lt
  have hTp : tp ≤ w.heap.size := h.ht
  have ra : w.cell? ⟨C, a, none⟩ = some (.int .u32 (s.R a)) := h.core.reg a hA
  have rd : w.cell? ⟨C, d, none⟩ = some (.int .u32 (s.R d)) := h.core.reg d hd
  have rp : w.cell? ⟨C, 16, none⟩ = some (.int .u32 s.pc) := h.core.pc
  have p0 := h.core.ok.p0
  have p1 := h.core.ok.p1
  have hd2 : (d : Int) < 16 := by omega
  have hA2 : (a : Int) < 16 := by omega
  have hpc := Try.fPc { s with pc := m32 (s.pc + 4) }
  clear h hm
  dsimp only
  go_enter Try.func51, Try.ntmps51
  go_wp2
  go_quiet (fail)
  go_wp2
  have HMW := Lib.hid ((H.out.malloc (.cells #[.int .i64 op, .int .i64 d, .int .i64 a, .int .i64 b, .int .i64 imm] 52)).mdrewN nq)
  have hbl : Below w.heap.size w ((w.alloc (.cells #[.int .i64 op, .int .i64 d, .int .i64 a, .int .i64 b, .int .i64 imm] 52)).drewN nq) := Bl.drewN (Bl.alloc (Below.refl _ _) _) _
  obtain ⟨i0, i1, i2, i3, i4, i5, i6⟩ := five_of (show ((w.alloc (.cells #[.int .i64 op, .int .i64 d, .int .i64 a, .int .i64 b, .int .i64 imm] 52)).drewN nq).heap[w.heap.size]? = _ from heap_alloc_new w _)
  have hins : ((w.alloc (.cells #[.int .i64 op, .int .i64 d, .int .i64 a, .int .i64 b, .int .i64 imm] 52)).drewN nq).heap[w.heap.size]? = _ := heap_alloc_new w _
  generalize (w.alloc (.cells #[.int .i64 op, .int .i64 d, .int .i64 a, .int .i64 b, .int .i64 imm] 52)).drewN nq = W at *
  have HI := Lib.hid hins
  have HBL := Lib.hid hbl
  have rpW : W.cell? ⟨C, 16, none⟩ = some (.int .u32 s.pc) := HMW.out.core.pc
  have hCW : C < W.heap.size := HMW.out.core.lt
  clear hins hbl
  go_region_with (go_at_call 64; refine (leads_yes _ _ _ _ _ _ _ HM.out p0 p1).mono ?_; rintro e w1 ⟨rfl, hb⟩; have HB1 := Lib.hid hb; obtain ⟨d0, d1, d2, d3, d4, d5, d6⟩ := five_of ((hb.block w.heap.size i6).trans HI.out); have hC1 : C < w1.heap.size := Nat.lt_of_lt_of_le hCW hb.size; have HM1 := Lib.hid ((show Mach _ ⟨C, F, B, mp, lo, hi, ad, rc, bc, tp⟩ s m from HMW.out.mdrew).below hb); clear hb)
  all_goals
    go_wp2_with (first
    | (refine wpList_load_st rfl _ rfl C rfl s (core_range HM1.out.core) ?_)
    | (go_at_call 25; refine (next8 s H.out.core.ok _).mono ?_; rintro e w2 ⟨rfl, hb2⟩; have HB2 := Lib.hid hb2; clear hb2))
    go_ret
    exact ⟨ret_int (by rfl), Bl.step (Bl.step (Bl.drew HBL.out) HB1.out) HB2.out⟩

theorem next_any {w : World} {L : Lay8} {s : St8} {m : Mem8} (h : Mach w L s m) (op imm b : Int) (d a : Nat) (hd : d < 16) (hA : a < 16) (hm : mayB op d a b imm = true) :
    Calls Try.prog 51 #[.pointer (some ⟨L.C, 0, none⟩), insV op d a b imm] w fun e w' => e = .returned (.int .u32 (nextT s op d a imm)) ∧ Below w.heap.size w w' := by
  unfold nextT
  by_cases q4 : op = 24
  · subst q4; exact next_r8 h imm b d a hd hA hm
  rw [if_neg q4]
  by_cases q6 : op = 26
  · subst q6
    by_cases hz : s.R d = s.R a
    · rw [if_pos (by simp [hz])]; exact next_beq_y h imm b d a hd hA hm hz
    · rw [if_neg (by simp [hz])]; exact next_beq_n h imm b d a hd hA hm hz
  by_cases q7 : op = 27
  · subst q7
    by_cases hz : s.R d = s.R a
    · rw [if_neg (by simp [hz])]; exact next_bne_n h imm b d a hd hA hm hz
    · rw [if_pos (by simp [hz])]; exact next_bne_y h imm b d a hd hA hm hz
  by_cases q8 : op = 28
  · subst q8
    by_cases hz : s.R d < s.R a
    · rw [if_pos (by simp [hz])]; exact next_blt_y h imm b d a hd hA hm hz
    · rw [if_neg (by simp; omega)]; exact next_blt_n h imm b d a hd hA hm (by omega)
  have h4 : (op == 24) = false := by simpa using q4
  have h6 : (op == 26) = false := by simpa using q6
  have h7 : (op == 27) = false := by simpa using q7
  have h8 : (op == 28) = false := by simpa using q8
  cases hl : ldB op with
  | true =>
    have : op = 23 ∨ op = 25 := by unfold ldB at hl; simp at hl; omega
    rw [if_pos (by rcases this with e | e <;> simp [e])]
    exact next_lead h op imm b d a hd hA hm h4 h6 h7 h8 hl
  | false =>
    have : ¬ (op = 23 ∨ op = 25) := by unfold ldB at hl; simp at hl; omega
    rw [if_neg (by simp [q6, q7, q8]; omega)]
    exact next_on h op imm b d a hd hA hm h4 h6 h7 h8 hl
end Go.Proofs.Ytknepljmbpdpkaa
