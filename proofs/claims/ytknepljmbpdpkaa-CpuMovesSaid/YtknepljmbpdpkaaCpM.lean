/- The core's combine. -/
import Derived.Test.YtknepljmbpdpkaaCpL
import Derived.Deep.RegionWith
namespace Go.Proofs.Ytknepljmbpdpkaa
open Go.RowKit

abbrev insV (op d a b m : Int) : Value := .agg #[.int .i64 op, .int .i64 d, .int .i64 a, .int .i64 b, .int .i64 m]
/-- What a part of the core hands back: a stop, the core's state. -/
def CoreOut (C F mp : Nat) (s : St8) (t : Stop8) (w : World) (e : Ending) (w' : World) : Prop := e = .returned (stp8 t.kind t.call t.at' t.need t.used) ∧ CoreAt w' C s F mp ∧ Turned w w' [C]
def opsL : List Int := [8, 9, 10, 11, 12, 13, 14, 15, 16, 17]
theorem isAns_mem (op : Int) : isAns op = true ↔ op ∈ opsL := by
  unfold isAns opsL; simp; omega
theorem ansB_no {op b : Int} (ho : op = 11 ∨ op = 12) (hb : b = 0) : ansB op b = false := by subst hb; unfold ansB; simp [ho]
theorem ansB_yes {op b : Int} (h : ¬ (op = 11 ∨ op = 12) ∨ b ≠ 0) : ansB op b = true := by
  unfold ansB; rcases h with h | h <;> simp [h]
theorem CoreAt.cdrewN {w : World} {C : Nat} {s : St8} {F mp : Nat} (h : CoreAt w C s F mp) (n : Nat) : CoreAt (w.drewN n) C s F mp := h.keep rfl
theorem Turned.tdrewN {w w' : World} {gs : List Nat} (h : Turned w w' gs) (n : Nat) : Turned w (w'.drewN n) gs := ⟨h.os, h.tape, h.output, h.size, h.block⟩
theorem m32_01 (x : Int) : 0 ≤ m32 x ∧ m32 x < 4294967296 := ⟨m32_0 x, m32_1 x⟩
theorem div_01 {a b : Int} (a0 : 0 ≤ a) (a1 : a < 4294967296) (b0 : 0 ≤ b) : 0 ≤ a / b ∧ a / b < 4294967296 :=
  ⟨Int.ediv_nonneg a0 b0, Int.lt_of_le_of_lt (Int.ediv_le_self b a0) a1⟩
theorem ansV_01 (op : Int) {a b : Int} (a0 : 0 ≤ a) (a1 : a < 4294967296) (b0 : 0 ≤ b) (b1 : b < 4294967296) : 0 ≤ ansV op a b ∧ ansV op a b < 4294967296 := by
  unfold ansV
  split
  · exact m32_01 _
  split
  · exact m32_01 _
  split
  · exact m32_01 _
  split
  · exact div_01 a0 a1 b0
  split
  · by_cases hb : b = 0
    · subst hb; rw [Int.emod_zero]; exact ⟨a0, a1⟩
    · have := Int.emod_lt_of_pos a (show 0 < b by omega)
      have := Int.emod_nonneg a hb
      omega
  split
  · unfold bits; rw [IntKind.wrap_u32]; omega
  split
  · unfold bits; rw [IntKind.wrap_u32]; omega
  split
  · unfold bits; rw [IntKind.wrap_u32]; omega
  split
  · exact m32_01 _
  · exact div_01 a0 a1 (Int.le_of_lt (Int.pow_pos (by omega)))
theorem ansV_0 (op : Int) {a b : Int} (a0 : 0 ≤ a) (a1 : a < 4294967296) (b0 : 0 ≤ b) (b1 : b < 4294967296) : 0 ≤ ansV op a b := (ansV_01 op a0 a1 b0 b1).1
theorem ansV_1 (op : Int) {a b : Int} (a0 : 0 ≤ a) (a1 : a < 4294967296) (b0 : 0 ≤ b) (b1 : b < 4294967296) : ansV op a b < 4294967296 := (ansV_01 op a0 a1 b0 b1).2
set_option maxHeartbeats 1000000 in
set_option maxRecDepth 100000 in
theorem comb_none {w : World} {F C mp lo : Nat} {s : St8} {D : DataW Unit} (hc : CoreAt w C s F mp) (ha : AnsUp w lo mp D 10 opsL) (op d a b m : Int) (ho : isAns op = false) (hw : (Lit.int .i64 op).wf = true) :
    Calls Try.prog 63 #[.pointer (some ⟨C, 0, none⟩), insV op d a b m] w (CoreOut C F mp s goOn w) := by
  have hC := hc.lt
  have cn := hc.ans
  have ho' : op ∉ opsL := fun h => by rw [(isAns_mem op).2 h] at ho; cases ho
  have hl := look_no8 ((ha.alloc (.cells #[.int .i64 op, .int .i64 d, .int .i64 a, .int .i64 b, .int .i64 m] 52)).alloc (.cells #[.int .i64 0, .int .i64 0, .int .u32 0, .int .i64 0, .int .i64 0] 38)).cdrew op ho' hw
  have HC := Lib.hid hc
  clear hc ha ho ho' hw
  go_enter Try.func63, Try.ntmps63
  go_wp2
  go_region
  go_wp2
  refine bodyPost_ret (v := stp8 0 0 0 0 0) (by simp [results, Try.results63, go_sem]) rfl ⟨rfl, ?_, ?_⟩
  · repeat (first | (with_reducible refine CoreAt.cdrew ?_) | (with_reducible refine CoreAt.calloc ?_ _) | ((with_reducible refine CoreAt.far (hg := ?hg) ?_ _ _); case hg => omega))
    exact HC.out
  · repeat (first | (with_reducible exact Turned.refl _ _) | (with_reducible refine Turned.tdrew ?_) | (with_reducible refine Turned.tdrewN ?_ _) | (with_reducible refine Turned.talloc ?_ _) | ((with_reducible refine Turned.tset (hg := ?hg) ?_ _ _); case hg => first | (right; omega) | (left; simp; done)))

set_option maxHeartbeats 1000000 in
set_option maxRecDepth 100000 in
theorem comb_always {w : World} {F C mp lo : Nat} {s : St8} {D : DataW Unit} (hc : CoreAt w C s F mp) (ha : AnsUp w lo mp D 10 opsL) (op m : Int) (d a b : Nat) (hd : d < 16) (hA : a < 16) (hB : b < 16) (ho : op = 8 ∨ op = 9 ∨ op = 10 ∨ op = 13 ∨ op = 14 ∨ op = 15 ∨ op = 16 ∨ op = 17) :
    Calls Try.prog 63 #[.pointer (some ⟨C, 0, none⟩), insV op d a b m] w (CoreOut C F mp (s.put d (ansV op (s.R a) (s.R b))) goOn w) := by
  have hC := hc.lt
  have cn := hc.ans
  have ho' : op ∈ opsL := (isAns_mem op).1 (by unfold isAns; simp; omega)
  have hw : (Lit.int .i64 op).wf = true := by simp [Lit.wf]; exact ⟨(by omega : -9223372036854775808 ≤ op), (by omega : op ≤ 9223372036854775807)⟩
  obtain ⟨g, hg, hgl, -, -, hgc⟩ := ha.val op ho'
  have hl := look_yes8 ((ha.alloc (.cells #[.int .i64 op, .int .i64 d, .int .i64 a, .int .i64 b, .int .i64 m] 52)).alloc (.cells #[.int .i64 0, .int .i64 0, .int .u32 0, .int .i64 0, .int .i64 0] 38)).cdrew op ho' hw (outF op) g hg
  rw [show outF op = 57 from if_neg (by omega)] at hl
  have ra := hc.reg a hA
  have rb := hc.reg b hB
  have rd := hc.reg d hd
  have fd := hc.fz d
  have a0 := hc.ok.r0 a
  have a1 := hc.ok.r1 a
  have b0 := hc.ok.r0 b
  have b1 := hc.ok.r1 b
  have HC := Lib.hid hc
  have hd2 : (d : Int) < 16 := by omega
  have hA2 : (a : Int) < 16 := by omega
  have hB2 : (b : Int) < 16 := by omega
  obtain ⟨x, hx⟩ : ∃ x, s.R a = x := ⟨_, rfl⟩
  obtain ⟨y, hy⟩ : ∃ y, s.R b = y := ⟨_, rfl⟩
  rw [hx] at ra a0 a1
  rw [hy] at rb b0 b1
  have hgc1 : ((w.alloc (.cells #[.int .i64 op, .int .i64 d, .int .i64 a, .int .i64 b, .int .i64 m] 52)).alloc (.cells #[.int .i64 0, .int .i64 0, .int .u32 0, .int .i64 0, .int .i64 0] 38)).drew.cell? ⟨g, 0, none⟩ = some (.func (.func (litF op)) #[] #[]) :=
    ((World.cell?_of_block (w := w.alloc (.cells #[.int .i64 op, .int .i64 d, .int .i64 a, .int .i64 b, .int .i64 m] 52)) (a := ⟨g, 0, none⟩) (Below.heap_alloc _ _ g (by simp; omega))).trans (World.cell?_of_block (w := w) (a := ⟨g, 0, none⟩) (Below.heap_alloc w _ g hgl))).trans hgc
  have HG := Lib.hid hgc1
  have HX := Lib.hid hx
  have HY := Lib.hid hy
  have HO := Lib.hid ho
  clear hc ha ho ho' hw hg hgc hgc1 hx hy
  go_enter Try.func63, Try.ntmps63
  go_wp2
  go_region
  go_wp2
  go_quiet ((go_at_call 57; exact (always1_any op x y g _ a0 a1 b0 b1 HO.out (by exact HG.out)).mono fun _ _ h => ⟨h.1, _, h.2.symm⟩))
  go_wp2
  go_region
  go_wp2
  refine bodyPost_ret (v := stp8 0 0 0 0 0) (by simp [results, Try.results63, go_sem]) rfl ⟨rfl, ?_, ?_⟩
  · repeat (first | (with_reducible refine CoreAt.cdrew ?_) | (with_reducible refine CoreAt.cdrewN ?_ _) | (with_reducible refine CoreAt.calloc ?_ _) | ((with_reducible refine CoreAt.far (hg := ?hg) ?_ _ _); case hg => omega))
    rw [HX.out, HY.out]
    refine CoreAt.put ?_ d hd _ (ansV_0 _ a0 a1 (by omega) b1) (ansV_1 _ a0 a1 (by omega) b1)
    repeat (first | (with_reducible refine CoreAt.cdrew ?_) | (with_reducible refine CoreAt.cdrewN ?_ _) | (with_reducible refine CoreAt.calloc ?_ _) | ((with_reducible refine CoreAt.far (hg := ?hg) ?_ _ _); case hg => omega))
    exact HC.out
  · repeat (first | (with_reducible exact Turned.refl _ _) | (with_reducible refine Turned.tdrew ?_) | (with_reducible refine Turned.tdrewN ?_ _) | (with_reducible refine Turned.talloc ?_ _) | ((with_reducible refine Turned.tset (hg := ?hg) ?_ _ _); case hg => first | (right; omega) | (left; simp; done)))

set_option maxHeartbeats 1000000 in
set_option maxRecDepth 100000 in
theorem comb_unless {w : World} {F C mp lo : Nat} {s : St8} {D : DataW Unit} (hc : CoreAt w C s F mp) (ha : AnsUp w lo mp D 10 opsL) (op m : Int) (d a b : Nat) (hd : d < 16) (hA : a < 16) (hB : b < 16) (ho : op = 11 ∨ op = 12) (hz : s.R b ≠ 0) :
    Calls Try.prog 63 #[.pointer (some ⟨C, 0, none⟩), insV op d a b m] w (CoreOut C F mp (s.put d (ansV op (s.R a) (s.R b))) goOn w) := by
  have hC := hc.lt
  have cn := hc.ans
  have ho' : op ∈ opsL := (isAns_mem op).1 (by unfold isAns; simp; omega)
  have hw : (Lit.int .i64 op).wf = true := by simp [Lit.wf]; exact ⟨(by omega : -9223372036854775808 ≤ op), (by omega : op ≤ 9223372036854775807)⟩
  obtain ⟨g, hg, hgl, -, -, hgc⟩ := ha.val op ho'
  have hl := look_yes8 ((ha.alloc (.cells #[.int .i64 op, .int .i64 d, .int .i64 a, .int .i64 b, .int .i64 m] 52)).alloc (.cells #[.int .i64 0, .int .i64 0, .int .u32 0, .int .i64 0, .int .i64 0] 38)).cdrew op ho' hw (outF op) g hg
  rw [show outF op = 58 from if_pos ho] at hl
  have ra := hc.reg a hA
  have rb := hc.reg b hB
  have rd := hc.reg d hd
  have fd := hc.fz d
  have a0 := hc.ok.r0 a
  have a1 := hc.ok.r1 a
  have b0 := hc.ok.r0 b
  have b1 := hc.ok.r1 b
  have HC := Lib.hid hc
  have hd2 : (d : Int) < 16 := by omega
  have hA2 : (a : Int) < 16 := by omega
  have hB2 : (b : Int) < 16 := by omega
  obtain ⟨x, hx⟩ : ∃ x, s.R a = x := ⟨_, rfl⟩
  obtain ⟨y, hy⟩ : ∃ y, s.R b = y := ⟨_, rfl⟩
  rw [hx] at ra a0 a1
  rw [hy] at rb b0 b1
  rw [hy] at hz
  have hgc1 : ((w.alloc (.cells #[.int .i64 op, .int .i64 d, .int .i64 a, .int .i64 b, .int .i64 m] 52)).alloc (.cells #[.int .i64 0, .int .i64 0, .int .u32 0, .int .i64 0, .int .i64 0] 38)).drew.cell? ⟨g, 0, none⟩ = some (.func (.func (litF op)) #[] #[]) :=
    ((World.cell?_of_block (w := w.alloc (.cells #[.int .i64 op, .int .i64 d, .int .i64 a, .int .i64 b, .int .i64 m] 52)) (a := ⟨g, 0, none⟩) (Below.heap_alloc _ _ g (by simp; omega))).trans (World.cell?_of_block (w := w) (a := ⟨g, 0, none⟩) (Below.heap_alloc w _ g hgl))).trans hgc
  have HG := Lib.hid hgc1
  have HX := Lib.hid hx
  have HY := Lib.hid hy
  have HO := Lib.hid ho
  clear hc ha ho ho' hw hg hgc hgc1 hx hy
  go_enter Try.func63, Try.ntmps63
  go_wp2
  go_region
  go_wp2
  go_quiet ((go_at_call 58; exact (unless1_yes op x y g _ a0 a1 (by omega) b1 HO.out (by exact HG.out)).mono fun _ _ h => ⟨h.1, _, h.2.symm⟩))
  go_wp2
  go_region
  go_wp2
  refine bodyPost_ret (v := stp8 0 0 0 0 0) (by simp [results, Try.results63, go_sem]) rfl ⟨rfl, ?_, ?_⟩
  · repeat (first | (with_reducible refine CoreAt.cdrew ?_) | (with_reducible refine CoreAt.cdrewN ?_ _) | (with_reducible refine CoreAt.calloc ?_ _) | ((with_reducible refine CoreAt.far (hg := ?hg) ?_ _ _); case hg => omega))
    rw [HX.out, HY.out]
    refine CoreAt.put ?_ d hd _ (ansV_0 _ a0 a1 (by omega) b1) (ansV_1 _ a0 a1 (by omega) b1)
    repeat (first | (with_reducible refine CoreAt.cdrew ?_) | (with_reducible refine CoreAt.cdrewN ?_ _) | (with_reducible refine CoreAt.calloc ?_ _) | ((with_reducible refine CoreAt.far (hg := ?hg) ?_ _ _); case hg => omega))
    exact HC.out
  · repeat (first | (with_reducible exact Turned.refl _ _) | (with_reducible refine Turned.tdrew ?_) | (with_reducible refine Turned.tdrewN ?_ _) | (with_reducible refine Turned.talloc ?_ _) | ((with_reducible refine Turned.tset (hg := ?hg) ?_ _ _); case hg => first | (right; omega) | (left; simp; done)))

set_option maxHeartbeats 1000000 in
set_option maxRecDepth 100000 in
theorem comb_zero {w : World} {F C mp lo : Nat} {s : St8} {D : DataW Unit} (hc : CoreAt w C s F mp) (ha : AnsUp w lo mp D 10 opsL) (op m : Int) (d a b : Nat) (hd : d < 16) (hA : a < 16) (hB : b < 16) (ho : op = 11 ∨ op = 12) (hz : s.R b = 0) :
    Calls Try.prog 63 #[.pointer (some ⟨C, 0, none⟩), insV op d a b m] w (CoreOut C F mp s { kind := 7 } w) := by
  have hC := hc.lt
  have cn := hc.ans
  have ho' : op ∈ opsL := (isAns_mem op).1 (by unfold isAns; simp; omega)
  have hw : (Lit.int .i64 op).wf = true := by simp [Lit.wf]; exact ⟨(by omega : -9223372036854775808 ≤ op), (by omega : op ≤ 9223372036854775807)⟩
  obtain ⟨g, hg, hgl, -, -, hgc⟩ := ha.val op ho'
  have hl := look_yes8 ((ha.alloc (.cells #[.int .i64 op, .int .i64 d, .int .i64 a, .int .i64 b, .int .i64 m] 52)).alloc (.cells #[.int .i64 0, .int .i64 0, .int .u32 0, .int .i64 0, .int .i64 0] 38)).cdrew op ho' hw (outF op) g hg
  rw [show outF op = 58 from if_pos ho] at hl
  have ra := hc.reg a hA
  have rb := hc.reg b hB
  have rd := hc.reg d hd
  have fd := hc.fz d
  have a0 := hc.ok.r0 a
  have a1 := hc.ok.r1 a
  have b0 := hc.ok.r0 b
  have b1 := hc.ok.r1 b
  have HC := Lib.hid hc
  have hd2 : (d : Int) < 16 := by omega
  have hA2 : (a : Int) < 16 := by omega
  have hB2 : (b : Int) < 16 := by omega
  obtain ⟨x, hx⟩ : ∃ x, s.R a = x := ⟨_, rfl⟩
  obtain ⟨y, hy⟩ : ∃ y, s.R b = y := ⟨_, rfl⟩
  rw [hx] at ra a0 a1
  rw [hy] at rb b0 b1
  obtain rfl : y = 0 := by rw [← hy]; exact hz
  clear hz
  have hgc1 : ((w.alloc (.cells #[.int .i64 op, .int .i64 d, .int .i64 a, .int .i64 b, .int .i64 m] 52)).alloc (.cells #[.int .i64 0, .int .i64 0, .int .u32 0, .int .i64 0, .int .i64 0] 38)).drew.cell? ⟨g, 0, none⟩ = some (.func (.func (litF op)) #[] #[]) :=
    ((World.cell?_of_block (w := w.alloc (.cells #[.int .i64 op, .int .i64 d, .int .i64 a, .int .i64 b, .int .i64 m] 52)) (a := ⟨g, 0, none⟩) (Below.heap_alloc _ _ g (by simp; omega))).trans (World.cell?_of_block (w := w) (a := ⟨g, 0, none⟩) (Below.heap_alloc w _ g hgl))).trans hgc
  have HG := Lib.hid hgc1
  have HX := Lib.hid hx
  have HY := Lib.hid hy
  have HO := Lib.hid ho
  clear hc ha ho ho' hw hg hgc hgc1 hx hy
  go_enter Try.func63, Try.ntmps63
  go_wp2
  go_region
  go_wp2
  go_quiet ((go_at_call 58; exact (unless1_no x g _).mono fun _ _ h => ⟨h.1, _, h.2.symm⟩))
  go_wp2
  refine bodyPost_ret (v := stp8 7 0 0 0 0) (by simp [results, Try.results63, go_sem]) rfl ⟨rfl, ?_, ?_⟩
  · repeat (first | (with_reducible refine CoreAt.cdrew ?_) | (with_reducible refine CoreAt.cdrewN ?_ _) | (with_reducible refine CoreAt.calloc ?_ _) | ((with_reducible refine CoreAt.far (hg := ?hg) ?_ _ _); case hg => omega))
    exact HC.out
  · repeat (first | (with_reducible exact Turned.refl _ _) | (with_reducible refine Turned.tdrew ?_) | (with_reducible refine Turned.tdrewN ?_ _) | (with_reducible refine Turned.talloc ?_ _) | ((with_reducible refine Turned.tset (hg := ?hg) ?_ _ _); case hg => first | (right; omega) | (left; simp; done)))
end Go.Proofs.Ytknepljmbpdpkaa
