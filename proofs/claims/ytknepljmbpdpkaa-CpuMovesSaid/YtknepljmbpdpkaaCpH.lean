/- A core's fill of four bytes. -/
import Derived.Test.YtknepljmbpdpkaaCpG
namespace Go.Proofs.Ytknepljmbpdpkaa
open Go.RowKit

theorem loadL_four (m : Mem8) (x : Int) : loadL m x 4 = [m.bt (m32 (x + ((0 : Nat) : Int))).toNat, m.bt (m32 (x + ((1 : Nat) : Int))).toNat, m.bt (m32 (x + ((2 : Nat) : Int))).toNat, m.bt (m32 (x + ((3 : Nat) : Int))).toNat] := rfl
theorem or_f1 {a b : Int} (a0 : 0 ≤ a) (a1 : a < 256) (b0 : 0 ≤ b) (b1 : b < 256) : bits .or .u32 a (b * 256) = a + b * 256 := or_low 8 a (b * 256) (by omega) (by omega) (by omega) (by omega) (by omega) (by omega)
theorem or_f2 {a b : Int} (a0 : 0 ≤ a) (a1 : a < 65536) (b0 : 0 ≤ b) (b1 : b < 256) : bits .or .u32 a (b * 65536) = a + b * 65536 := or_low 16 a (b * 65536) (by omega) (by omega) (by omega) (by omega) (by omega) (by omega)
theorem or_f3 {a b : Int} (a0 : 0 ≤ a) (a1 : a < 16777216) (b0 : 0 ≤ b) (b1 : b < 256) : bits .or .u32 a (b * 16777216) = a + b * 16777216 := or_low 24 a (b * 16777216) (by omega) (by omega) (by omega) (by omega) (by omega) (by omega)
set_option maxHeartbeats 2000000 in
set_option maxRecDepth 100000 in
theorem fill_four8 {w : World} {F B C mp : Nat} {ra : Option Addr} {rc bc : Nat} {m : Mem8} {s : St8} (h : FlatAt w F B ra rc bc m) (hc : CoreAt w C s F mp) (x : Int) (d : Nat) (hd : d < 16) (h0 : 0 ≤ x) (h1 : x < 4294967296) (hm : (mayT m 1 4 x).2 = true) :
    Calls Try.prog 61 #[.pointer (some ⟨C, 0, none⟩), .pointer (some ⟨C, d, none⟩), .int .u32 x, .int .i64 4] w (FillOut C F mp (s.put d (sum8 (loadL m x 4))) w) := by
  have hC := hc.lt
  have H := fun o => Lib.hid (cload_yes8 (h.below ((Below.refl _ w).alloc (Nat.le_refl _) o)) (hc.below ((Below.refl _ w).alloc (Nat.le_refl _) o)) x 1 4 h0 h1 (by omega) hm)
  rw [loadL_four] at H ⊢
  obtain ⟨va, hva, a0, a1⟩ : ∃ v, m.bt (m32 (x + ((0 : Nat) : Int))).toNat = v ∧ 0 ≤ v ∧ v < 256 := ⟨_, rfl, h.ok.b0 _, h.ok.b1 _⟩
  obtain ⟨vb, hvb, b0, b1⟩ : ∃ v, m.bt (m32 (x + ((1 : Nat) : Int))).toNat = v ∧ 0 ≤ v ∧ v < 256 := ⟨_, rfl, h.ok.b0 _, h.ok.b1 _⟩
  obtain ⟨vc, hvc, c0, c1⟩ : ∃ v, m.bt (m32 (x + ((2 : Nat) : Int))).toNat = v ∧ 0 ≤ v ∧ v < 256 := ⟨_, rfl, h.ok.b0 _, h.ok.b1 _⟩
  obtain ⟨vd, hvd, e0, e1⟩ : ∃ v, m.bt (m32 (x + ((3 : Nat) : Int))).toNat = v ∧ 0 ≤ v ∧ v < 256 := ⟨_, rfl, h.ok.b0 _, h.ok.b1 _⟩
  rw [hva, hvb, hvc, hvd] at H ⊢
  have HC := Lib.hid hc
  clear h hc hm hva hvb hvc hvd
  have hss := fun (w : World) (u v : Value) => set_set8 w C d u v
  go_enter Try.func61, Try.ntmps61
  go_wp2_with (go_at_call 48; refine (H _).out.mono ?_; rintro e w1 ⟨g, rfl, hr, hg, hb⟩; obtain ⟨d0, d1, d2, d3, d4, d5, d6⟩ := five_of (new5 hb); have r0 := hr.cell 0 (by simp); have r1 := hr.cell 1 (by simp); have r2 := hr.cell 2 (by simp); have r3 := hr.cell 3 (by simp); have rz := hr.fz; have hrl := hr.lt; have hC1 : C < w1.heap.size := (by have q := hb.size; simp at q; omega); have g1 : ¬ g = C := (by simp at hg; omega); have g2 : ¬ C = g := (by omega); have HB := Lib.hid (((Below.refl _ w).alloc (Nat.le_refl _) _).trans (hb.mono (by simp))); have HC1 := Lib.hid (HC.out.below HB.out); have cr := HC1.out.reg d hd; have cf := HC1.out.fz d; clear hb hr hg)
  refine wp_loop_rounds 5 ?_
  iterate 4
    rw [rounds_succ]
    go_wp2
    go_region
    go_wp2
  rw [rounds_succ]
  go_wp2
  refine bodyPost_ret (v := stp8 0 0 0 0 0) (by simp [results, Try.results61, go_sem, d0, d1, d2, d3, d4, d6]) rfl ⟨rfl, ?_, ?_⟩
  · repeat (first | (with_reducible refine CoreAt.cdrew ?_) | (with_reducible refine CoreAt.calloc ?_ _) | ((with_reducible refine CoreAt.far (hg := ?hg) ?_ _ _); case hg => omega))
    rw [or_0 va a0 a1, or_f1 a0 a1 b0 b1, or_f2 (a := va + vb * 256) (by omega) (by omega) c0 c1, or_f3 (a := va + vb * 256 + vc * 65536) (by omega) (by omega) e0 e1, sum8_four]
    have hf := HC1.out.put d hd (fourOf va vb vc vd) (by unfold fourOf; omega) (by unfold fourOf; omega)
    exact hf
  · repeat (first | (with_reducible exact Turned.of_below _ HB.out) | (with_reducible refine Turned.tdrew ?_) | (with_reducible refine Turned.talloc ?_ _) | ((with_reducible refine Turned.tset (hg := ?hg) ?_ _ _); case hg => first | (right; omega) | (left; simp; done)))
end Go.Proofs.Ytknepljmbpdpkaa
