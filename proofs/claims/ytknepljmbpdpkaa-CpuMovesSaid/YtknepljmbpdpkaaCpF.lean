/- A core in memory; fault, load, fill, store of it. -/
import Derived.Test.YtknepljmbpdpkaaCpE
namespace Go.Proofs.Ytknepljmbpdpkaa
open Go.RowKit

/-- A core: a state, the memory that it runs on, the answers. -/
def coreL (s : St8) (F mp : Nat) : List Value := [.int .u32 (s.R 0), .int .u32 (s.R 1), .int .u32 (s.R 2), .int .u32 (s.R 3), .int .u32 (s.R 4), .int .u32 (s.R 5), .int .u32 (s.R 6), .int .u32 (s.R 7), .int .u32 (s.R 8), .int .u32 (s.R 9), .int .u32 (s.R 10), .int .u32 (s.R 11), .int .u32 (s.R 12), .int .u32 (s.R 13), .int .u32 (s.R 14), .int .u32 (s.R 15), .int .u32 s.pc, ifV F, .map (some mp)]
structure CoreAt (w : World) (C : Nat) (s : St8) (F mp : Nat) : Prop where
  ok : St8Ok s
  row : w.heap[C]? = some (.cells (coreL s F mp).toArray 73 (0, 0))
theorem CoreAt.cell {w : World} {C : Nat} {s : St8} {F mp : Nat} (h : CoreAt w C s F mp) (i : Nat) : w.cell? ⟨C, i, none⟩ = (coreL s F mp)[i]? := by
  rw [cell_of_row _ _ _ _ _ _ h.row]; simp
theorem CoreAt.reg {w : World} {C : Nat} {s : St8} {F mp : Nat} (h : CoreAt w C s F mp) (i : Nat) (hi : i < 16) : w.cell? ⟨C, i, none⟩ = some (.int .u32 (s.R i)) := by
  rw [h.cell]
  rcases (show i = 0 ∨ i = 1 ∨ i = 2 ∨ i = 3 ∨ i = 4 ∨ i = 5 ∨ i = 6 ∨ i = 7 ∨ i = 8 ∨ i = 9 ∨ i = 10 ∨ i = 11 ∨ i = 12 ∨ i = 13 ∨ i = 14 ∨ i = 15 by omega) with rfl | rfl | rfl | rfl | rfl | rfl | rfl | rfl | rfl | rfl | rfl | rfl | rfl | rfl | rfl | rfl <;> rfl
theorem CoreAt.pc {w : World} {C : Nat} {s : St8} {F mp : Nat} (h : CoreAt w C s F mp) : w.cell? ⟨C, 16, none⟩ = some (.int .u32 s.pc) := by rw [h.cell]; rfl
theorem CoreAt.mem {w : World} {C : Nat} {s : St8} {F mp : Nat} (h : CoreAt w C s F mp) : w.cell? ⟨C, 17, none⟩ = some (ifV F) := by rw [h.cell]; rfl
theorem CoreAt.ans {w : World} {C : Nat} {s : St8} {F mp : Nat} (h : CoreAt w C s F mp) : w.cell? ⟨C, 18, none⟩ = some (.map (some mp)) := by rw [h.cell]; rfl
theorem CoreAt.fz {w : World} {C : Nat} {s : St8} {F mp : Nat} (h : CoreAt w C s F mp) (o : Nat) : w.frozen? ⟨C, o, none⟩ = false := frozen_of_row _ _ _ _ _ h.row
theorem CoreAt.lt {w : World} {C : Nat} {s : St8} {F mp : Nat} (h : CoreAt w C s F mp) : C < w.heap.size := (Array.getElem?_eq_some_iff.1 h.row).1
theorem CoreAt.keep {w w' : World} {C : Nat} {s : St8} {F mp : Nat} (h : CoreAt w C s F mp) (e : w'.heap[C]? = w.heap[C]?) : CoreAt w' C s F mp := ⟨h.ok, e.trans h.row⟩
theorem CoreAt.below {w w' : World} {C : Nat} {s : St8} {F mp : Nat} (h : CoreAt w C s F mp) (hb : Below w.heap.size w w') : CoreAt w' C s F mp := h.keep (hb.block _ h.lt)
theorem st_put_ok {s : St8} (h : St8Ok s) (d : Nat) (v : Int) (h0 : 0 ≤ v) (h1 : v < 4294967296) : St8Ok (s.put d v) :=
  ⟨fun i => by unfold St8.put; simp only; split; exact h0; exact h.r0 i, fun i => by unfold St8.put; simp only; split; exact h1; exact h.r1 i, h.p0, h.p1⟩
theorem core_put (s : St8) (F mp d : Nat) (hd : d < 16) (v : Int) : (coreL s F mp).set d (.int .u32 v) = coreL (s.put d v) F mp := by
  rcases (show d = 0 ∨ d = 1 ∨ d = 2 ∨ d = 3 ∨ d = 4 ∨ d = 5 ∨ d = 6 ∨ d = 7 ∨ d = 8 ∨ d = 9 ∨ d = 10 ∨ d = 11 ∨ d = 12 ∨ d = 13 ∨ d = 14 ∨ d = 15 by omega) with rfl | rfl | rfl | rfl | rfl | rfl | rfl | rfl | rfl | rfl | rfl | rfl | rfl | rfl | rfl | rfl <;> rfl
theorem CoreAt.put {w : World} {C : Nat} {s : St8} {F mp : Nat} (h : CoreAt w C s F mp) (d : Nat) (hd : d < 16) (v : Int) (h0 : 0 ≤ v) (h1 : v < 4294967296) : CoreAt (w.setCell ⟨C, d, none⟩ (.int .u32 v)) C (s.put d v) F mp := by
  refine ⟨st_put_ok h.ok d v h0 h1, ?_⟩
  rw [heap_setCell_same _ _ _ _ _ _ h.row, ← core_put s F mp d hd v]
  simp
theorem CoreAt.setPc {w : World} {C : Nat} {s : St8} {F mp : Nat} (h : CoreAt w C s F mp) (v : Int) (h0 : 0 ≤ v) (h1 : v < 4294967296) : CoreAt (w.setCell ⟨C, 16, none⟩ (.int .u32 v)) C { s with pc := v } F mp := by
  refine ⟨⟨h.ok.r0, h.ok.r1, h0, h1⟩, ?_⟩
  rw [heap_setCell_same _ _ _ _ _ _ h.row]
  rfl
theorem FlatAt.other {w w' : World} {F B : Nat} {ra : Option Addr} {rc bc : Nat} {m : Mem8} {gs : List Nat} (h : FlatAt w F B ra rc bc m) (ht : Turned w w' gs) (hF : F ∉ gs) (hB : B ∉ gs) (hR : 0 < m.np → ∀ b o, ra = some ⟨b, o, none⟩ → b ∉ gs) : FlatAt w' F B ra rc bc m := by
  have hc : ∀ b o, b < w.heap.size → b ∉ gs → w'.cell? ⟨b, o, none⟩ = w.cell? ⟨b, o, none⟩ := fun b o hb hn => World.cell?_of_block (w := w) (ht.block b hb hn)
  refine ⟨h.ok, (hc _ _ h.fl hF).trans h.c0, (hc _ _ h.fl hF).trans h.c1, fun hp => ?_, fun k hk => (hc _ _ h.bl hB).trans (h.bs k hk), fun k => (World.frozen?_of_block (w := w) (ht.block B h.bl hB)).trans (h.fz k), h.ne, Nat.lt_of_lt_of_le h.fl ht.size, Nat.lt_of_lt_of_le h.bl ht.size⟩
  obtain ⟨Rb, ro, e, n, l, c⟩ := h.rr hp
  exact ⟨Rb, ro, e, n, Nat.lt_of_lt_of_le l ht.size, fun i hi => (hc _ _ l (hR hp _ _ e)).trans (c i hi)⟩

/-- A stop of five numbers. -/
abbrev stp8 (k c a n u : Int) : Value := .agg #[.int .i64 k, .int .i64 c, .int .u32 a, .int .i64 n, .int .i64 u]
theorem five_of {w : World} {B : Nat} {x y z u v : Value} {t : TypeId} (h : w.heap[B]? = some (.cells #[x, y, z, u, v] t (0, 0))) :
    w.cell? ⟨B, 0, none⟩ = some x ∧ w.cell? ⟨B, 1, none⟩ = some y ∧ w.cell? ⟨B, 2, none⟩ = some z ∧ w.cell? ⟨B, 3, none⟩ = some u ∧ w.cell? ⟨B, 4, none⟩ = some v ∧ (∀ o, w.frozen? ⟨B, o, none⟩ = false) ∧ B < w.heap.size :=
  ⟨by rw [cell_of_row _ _ _ _ _ _ h]; rfl, by rw [cell_of_row _ _ _ _ _ _ h]; rfl, by rw [cell_of_row _ _ _ _ _ _ h]; rfl, by rw [cell_of_row _ _ _ _ _ _ h]; rfl, by rw [cell_of_row _ _ _ _ _ _ h]; rfl, fun o => by simp [World.frozen?, h], (Array.getElem?_eq_some_iff.1 h).1⟩
theorem new5 {w w1 : World} {x y z u v : Value} {t : TypeId} (hb : Below (w.alloc (.cells #[x, y, z, u, v] t)).heap.size (w.alloc (.cells #[x, y, z, u, v] t)) w1) : w1.heap[w.heap.size]? = some (.cells #[x, y, z, u, v] t (0, 0)) :=
  (hb.block w.heap.size (by simp)).trans (heap_alloc_new w _)

set_option maxHeartbeats 1000000 in
theorem fault_any8 (x r : Int) (w : World) :
    Calls Try.prog 59 #[.int .u32 x, .int .i64 r] w fun e w' => e = .returned (stp8 5 0 x r 0) ∧ Below w.heap.size w w' := by
  go_enter Try.func59, Try.ntmps59
  go_wp2
  exact bodyPost_ret (v := stp8 5 0 x r 0) (by simp [results, Try.results59, go_sem]) rfl ⟨rfl, by
    repeat (first | exact Below.refl _ _ | (refine Below.setCell ?_ (by simp) _) | (refine Below.alloc ?_ (by simp) _))⟩

/-- What a core's load hands back. -/
def LoadOut (l : List Int) (w : World) (e : Ending) (w' : World) : Prop := ∃ g, e = .returned (.tuple #[.slice (some ⟨g, 0, none⟩) l.length l.length, stp8 0 0 0 0 0]) ∧ RowU8 w' g l ∧ w.heap.size ≤ g ∧ Below w.heap.size w w'
set_option maxHeartbeats 1000000 in
set_option maxRecDepth 100000 in
theorem cload_no8 {w : World} {F B C mp : Nat} {ra : Option Addr} {rc bc : Nat} {m : Mem8} {s : St8} (h : FlatAt w F B ra rc bc m) (hc : CoreAt w C s F mp) (x r : Int) (n : Nat) (h0 : 0 ≤ x) (h1 : x < 4294967296) (hn : n ≤ 65536) (hm : (mayT m r n x).2 = false) :
    Calls Try.prog 48 #[.pointer (some ⟨C, 0, none⟩), .int .u32 x, .int .i64 n, .int .i64 r] w fun e w' => e = .returned (.tuple #[.slice none 0 0, stp8 5 0 (mayT m r n x).1 r 0]) ∧ Below w.heap.size w w' := by
  have cm := hc.mem
  have hC := hc.lt
  have H := fun o => Lib.hid (load_no8 (h.below ((Below.refl _ w).alloc (Nat.le_refl _) o)) x r n h0 h1 hn hm)
  obtain ⟨y, hy⟩ : ∃ y, (mayT m r n x).1 = y := ⟨_, rfl⟩
  rw [hy] at H ⊢
  clear h hc hm hy
  go_enter Try.func48, Try.ntmps48
  go_wp2_with (first
    | (go_at_call 18; refine (H _).out.mono ?_; rintro e w' ⟨rfl, rfl⟩)
    | (go_at_call 59; refine (fault_any8 _ _ _).mono ?_; rintro e w1 ⟨rfl, hb⟩; obtain ⟨d0, d1, d2, d3, d4, d5, d6⟩ := five_of (new5 hb); have HB := Lib.hid hb; clear hb))
  refine bodyPost_ret (v := .tuple #[.slice none 0 0, stp8 5 0 y r 0]) (by simp [results, Try.results48, go_sem, d0, d1, d2, d3, d4]) rfl ⟨rfl, ?_⟩
  exact Below.setCell (Below.setCell (Below.setCell (Below.setCell (Below.setCell (((Below.refl _ w).alloc (Nat.le_refl _) _).trans (HB.out.mono (by simp))) (Nat.le_refl _) _) (Nat.le_refl _) _) (Nat.le_refl _) _) (Nat.le_refl _) _) (Nat.le_refl _) _

set_option maxHeartbeats 1000000 in
set_option maxRecDepth 100000 in
theorem cload_yes8 {w : World} {F B C mp : Nat} {ra : Option Addr} {rc bc : Nat} {m : Mem8} {s : St8} (h : FlatAt w F B ra rc bc m) (hc : CoreAt w C s F mp) (x r : Int) (n : Nat) (h0 : 0 ≤ x) (h1 : x < 4294967296) (hn : n ≤ 65536) (hm : (mayT m r n x).2 = true) :
    Calls Try.prog 48 #[.pointer (some ⟨C, 0, none⟩), .int .u32 x, .int .i64 n, .int .i64 r] w (LoadOut (loadL m x n) w) := by
  have cm := hc.mem
  have hC := hc.lt
  have H := fun o => Lib.hid (load_yes8 (h.below ((Below.refl _ w).alloc (Nat.le_refl _) o)) x r n h0 h1 hn hm (mayT_fst hm))
  obtain ⟨l, hl⟩ : ∃ l, loadL m x n = l := ⟨_, rfl⟩
  have hln : l.length = n := by rw [← hl]; exact loadL_len m x n
  rw [hl] at H ⊢
  have HL := Lib.hid hln
  clear h hc hm hl hln
  go_enter Try.func48, Try.ntmps48
  go_wp2_with (go_at_call 18; refine (H _).out.mono ?_; rintro e w1 ⟨rfl, hr, hb⟩; obtain ⟨d0, d1, d2, d3, d4, d5, d6⟩ := five_of (new5 hb); have HB := Lib.hid hb; have HR := Lib.hid hr; clear hb hr)
  refine bodyPost_ret (v := .tuple #[.slice (some ⟨w.heap.size + 1, 0, none⟩) n n, stp8 0 0 0 0 0]) (by simp [results, Try.results48, go_sem, d0, d1, d2, d3, d4]) rfl ⟨w.heap.size + 1, by rw [HL.out], ?_, by omega, ?_⟩
  · have hr := HR.out
    simp only [World.size_alloc] at hr
    refine hr.keep ?_
    repeat (refine (Below.heap_setCell _ _ _ _ (by show w.heap.size + 1 ≠ w.heap.size; omega)).trans ?_)
    rfl
  · exact Below.setCell (Below.setCell (Below.setCell (Below.setCell (Below.setCell (((Below.refl _ w).alloc (Nat.le_refl _) _).trans (HB.out.mono (by simp))) (Nat.le_refl _) _) (Nat.le_refl _) _) (Nat.le_refl _) _) (Nat.le_refl _) _) (Nat.le_refl _) _
end Go.Proofs.Ytknepljmbpdpkaa
