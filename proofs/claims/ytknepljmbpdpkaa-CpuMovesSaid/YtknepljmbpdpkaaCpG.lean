/- A core's fill. -/
import Derived.Test.YtknepljmbpdpkaaCpF
import Derived.RegionTactic
import Derived.BigRegion
namespace Go.Proofs.Ytknepljmbpdpkaa
open Go.RowKit

theorem St8.put_put (s : St8) (d : Nat) (a b : Int) : (s.put d a).put d b = s.put d b := by
  unfold St8.put; simp only; congr 1; funext i; split <;> rfl
theorem Turned.tset {w w' : World} {gs : List Nat} (h : Turned w w' gs) {g : Nat} (o : Nat) (v : Value) (hg : g ∈ gs ∨ w.heap.size ≤ g) : Turned w (w'.setCell ⟨g, o, none⟩ v) gs := by
  refine ⟨h.os, h.tape, h.output, by simpa [World.setCell] using h.size, fun k hk hn => ?_⟩
  rw [Below.heap_setCell _ ⟨g, o, none⟩ _ k (by
    show k ≠ g
    rcases hg with e | e
    · exact fun q => hn (q ▸ e)
    · omega)]
  exact h.block k hk hn
theorem Turned.tdrew {w w' : World} {gs : List Nat} (h : Turned w w' gs) : Turned w w'.drew gs := ⟨h.os, h.tape, h.output, h.size, h.block⟩
theorem Turned.tbelow {w w' w2 : World} {gs : List Nat} (h : Turned w w' gs) (hb : Below w'.heap.size w' w2) : Turned w w2 gs :=
  ⟨hb.os.trans h.os, hb.tape.trans h.tape, hb.output.trans h.output, Nat.le_trans h.size hb.size, fun k hk hn => (hb.block k (Nat.lt_of_lt_of_le hk h.size)).trans (h.block k hk hn)⟩
theorem CoreAt.far {w : World} {C : Nat} {s : St8} {F mp : Nat} (h : CoreAt w C s F mp) {g : Nat} (o : Nat) (v : Value) (hg : C ≠ g) : CoreAt (w.setCell ⟨g, o, none⟩ v) C s F mp := h.keep (Below.heap_setCell _ ⟨g, o, none⟩ _ C hg)
theorem CoreAt.again {w : World} {C : Nat} {s : St8} {F mp d : Nat} {a : Int} (h : CoreAt w C (s.put d a) F mp) (hd : d < 16) (v : Int) (h0 : 0 ≤ v) (h1 : v < 4294967296) : CoreAt (w.setCell ⟨C, d, none⟩ (.int .u32 v)) C (s.put d v) F mp := by
  have := h.put d hd v h0 h1
  rwa [St8.put_put] at this
theorem CoreAt.cdrew {w : World} {C : Nat} {s : St8} {F mp : Nat} (h : CoreAt w C s F mp) : CoreAt w.drew C s F mp := h.keep rfl

theorem CoreAt.calloc {w : World} {C : Nat} {s : St8} {F mp : Nat} (h : CoreAt w C s F mp) (o : Obj) : CoreAt (w.alloc o) C s F mp := h.below ((Below.refl _ _).alloc (Nat.le_refl _) o)
theorem Turned.talloc {w w' : World} {gs : List Nat} (h : Turned w w' gs) (o : Obj) : Turned w (w'.alloc o) gs := h.tbelow ((Below.refl _ _).alloc (Nat.le_refl _) o)
theorem or_0 (v : Int) (h0 : 0 ≤ v) (h1 : v < 256) : bits .or .u32 0 v = v := by rw [or_low 0 0 v (by omega) (by omega) (by omega) (by omega) (by omega) (by omega)]; omega
theorem sum8_four (a b c d : Int) : sum8 [a, b, c, d] = fourOf a b c d := by simp only [sum8]; unfold fourOf; omega
theorem set_set8 (w : World) (b o : Nat) (v v' : Value) : (w.setCell ⟨b, o, none⟩ v).setCell ⟨b, o, none⟩ v' = w.setCell ⟨b, o, none⟩ v' := by
  unfold World.setCell
  simp only
  congr 1
  apply Array.ext_getElem?
  intro i
  simp only [Array.getElem?_modify]
  by_cases e : b = i
  · subst e
    simp only [if_pos]
    cases h : w.heap[b]? with
    | none => rfl
    | some x => cases x <;> simp
  · simp only [if_neg e]
theorem Bs {w W1 : World} (h : Below w.heap.size w W1) {g : Nat} (hg : w.heap.size ≤ g) (o : Nat) (u : Value) : Below w.heap.size w (W1.setCell ⟨g, o, none⟩ u) := h.setCell (p := ⟨g, o, none⟩) hg u
/-- What fill hands back. -/
def FillOut (C F mp : Nat) (s : St8) (w : World) (e : Ending) (w' : World) : Prop := e = .returned (stp8 0 0 0 0 0) ∧ CoreAt w' C s F mp ∧ Turned w w' [C]
set_option maxHeartbeats 1000000 in
set_option maxRecDepth 100000 in
theorem fill_no8 {w : World} {F B C mp : Nat} {ra : Option Addr} {rc bc : Nat} {m : Mem8} {s : St8} (h : FlatAt w F B ra rc bc m) (hc : CoreAt w C s F mp) (x : Int) (d n : Nat) (hd : d < 16) (h0 : 0 ≤ x) (h1 : x < 4294967296) (hn : n ≤ 65536) (hm : (mayT m 1 n x).2 = false) :
    Calls Try.prog 61 #[.pointer (some ⟨C, 0, none⟩), .pointer (some ⟨C, d, none⟩), .int .u32 x, .int .i64 n] w fun e w' => e = .returned (stp8 5 0 (mayT m 1 n x).1 1 0) ∧ Below w.heap.size w w' := by
  have hC := hc.lt
  have H := fun o => Lib.hid (cload_no8 (h.below ((Below.refl _ w).alloc (Nat.le_refl _) o)) (hc.below ((Below.refl _ w).alloc (Nat.le_refl _) o)) x 1 n h0 h1 hn hm)
  obtain ⟨y, hy⟩ : ∃ y, (mayT m 1 n x).1 = y := ⟨_, rfl⟩
  rw [hy] at H ⊢
  clear h hc hm hy
  go_enter Try.func61, Try.ntmps61
  go_wp2_with (go_at_call 48; refine (H _).out.mono ?_; rintro e w1 ⟨rfl, hb⟩; obtain ⟨d0, d1, d2, d3, d4, d5, d6⟩ := five_of (new5 hb); have HB := Lib.hid hb; clear hb)
  refine bodyPost_ret (v := stp8 5 0 y 1 0) (by simp [results, Try.results61, go_sem, d0, d1, d2, d3, d4, d6]) rfl ⟨rfl, ?_⟩
  repeat (first | exact Below.refl _ _ | refine Bs ?_ (by omega) _ _ | refine Bl.alloc ?_ _ | refine Bl.step ?_ HB.out)
set_option maxHeartbeats 1000000 in
set_option maxRecDepth 100000 in
theorem fill_one8 {w : World} {F B C mp : Nat} {ra : Option Addr} {rc bc : Nat} {m : Mem8} {s : St8} (h : FlatAt w F B ra rc bc m) (hc : CoreAt w C s F mp) (x : Int) (d : Nat) (hd : d < 16) (h0 : 0 ≤ x) (h1 : x < 4294967296) (hm : (mayT m 1 1 x).2 = true) :
    Calls Try.prog 61 #[.pointer (some ⟨C, 0, none⟩), .pointer (some ⟨C, d, none⟩), .int .u32 x, .int .i64 1] w (FillOut C F mp (s.put d (sum8 (loadL m x 1))) w) := by
  have hC := hc.lt
  have H := fun o => Lib.hid (cload_yes8 (h.below ((Below.refl _ w).alloc (Nat.le_refl _) o)) (hc.below ((Below.refl _ w).alloc (Nat.le_refl _) o)) x 1 1 h0 h1 (by omega) hm)
  obtain ⟨v, hv⟩ : ∃ v, loadL m x 1 = [v] := ⟨_, rfl⟩
  have hv01 : 0 ≤ v ∧ v < 256 := by
    have : v = m.bt (m32 (x + ((0 : Nat) : Int))).toNat := by have := hv; unfold loadL at this; simpa using this.symm
    rw [this]; exact ⟨h.ok.b0 _, h.ok.b1 _⟩
  rw [hv] at H ⊢
  obtain ⟨v0, v1⟩ := hv01
  have HC := Lib.hid hc
  clear h hc hm hv
  have hss := fun (w : World) (u v : Value) => set_set8 w C d u v
  go_enter Try.func61, Try.ntmps61
  go_wp2_with (go_at_call 48; refine (H _).out.mono ?_; rintro e w1 ⟨g, rfl, hr, hg, hb⟩; obtain ⟨d0, d1, d2, d3, d4, d5, d6⟩ := five_of (new5 hb); have r0 := hr.cell 0 (by simp); have rz := hr.fz 0; have hrl := hr.lt; have hC1 : C < w1.heap.size := (by have q := hb.size; simp at q; omega); have g1 : ¬ g = C := (by simp at hg; omega); have g2 : ¬ C = g := (by omega); have HB := Lib.hid (((Below.refl _ w).alloc (Nat.le_refl _) _).trans (hb.mono (by simp))); have HC1 := Lib.hid (HC.out.below HB.out); have cr := HC1.out.reg d hd; have cf := HC1.out.fz d; clear hb hr hg)
  refine wp_loop_rounds 2 ?_
  rw [rounds_succ]
  go_wp2
  go_region
  go_wp2
  rw [rounds_succ]
  go_wp2
  refine bodyPost_ret (v := stp8 0 0 0 0 0) (by simp [results, Try.results61, go_sem, d0, d1, d2, d3, d4, d6]) rfl ⟨rfl, ?_, ?_⟩
  · repeat (first | (with_reducible refine CoreAt.cdrew ?_) | (with_reducible refine CoreAt.calloc ?_ _) | ((with_reducible refine CoreAt.far (hg := ?hg) ?_ _ _); case hg => omega))
    rw [or_0 v v0 v1, show sum8 [v] = v by simp [sum8]]
    exact HC1.out.put d hd v (by omega) (by omega)
  · repeat (first | (with_reducible exact Turned.of_below _ HB.out) | (with_reducible refine Turned.tdrew ?_) | (with_reducible refine Turned.talloc ?_ _) | ((with_reducible refine Turned.tset (hg := ?hg) ?_ _ _); case hg => first | (right; omega) | (left; simp; done)))
end Go.Proofs.Ytknepljmbpdpkaa
