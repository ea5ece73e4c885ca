/- One step, Kind by Kind. -/
import Derived.Test.YtgkfejnjjoaihaaDoorPgDa
import Derived.Deep.RegionHeld3
namespace Go.Proofs.YtgkfejnjjoaihaaDoor
open Go.RowKit

def stepC (k a b c d : Int) (x : Nat) : Array Value := #[.int .i64 k, .int .i64 a, .int .i64 b, .int .i64 c, .int .i64 d, .int .u32 x]
theorem six_of {w : World} {n : Nat} {a b c d e f : Value} {ty : Nat} (h : w.heap[n]? = some (.cells #[a, b, c, d, e, f] ty (0, 0))) :
    w.cell? ⟨n, 0, none⟩ = some a ∧ w.cell? ⟨n, 1, none⟩ = some b ∧ w.cell? ⟨n, 2, none⟩ = some c ∧ w.cell? ⟨n, 3, none⟩ = some d ∧ w.cell? ⟨n, 4, none⟩ = some e ∧ w.cell? ⟨n, 5, none⟩ = some f := by
  refine ⟨?_, ?_, ?_, ?_, ?_, ?_⟩ <;> · rw [cell_of_row _ _ _ _ _ _ h]; rfl
section
variable {w0 w : World} {t b q N : Nat} {T U : Tb} {L : List (Nat × Obj)}
theorem stepCells {m : Nat} {k a b' c d : Int} {x : Nat} (h : Duo w0 w t b q N T U ((m, .cells (stepC k a b' c d x) 32 (0, 0)) :: L)) :
    w.cell? ⟨m, 0, none⟩ = some (.int .i64 k) ∧ w.cell? ⟨m, 1, none⟩ = some (.int .i64 a) ∧ w.cell? ⟨m, 2, none⟩ = some (.int .i64 b') ∧ w.cell? ⟨m, 3, none⟩ = some (.int .i64 c) ∧ w.cell? ⟨m, 4, none⟩ = some (.int .i64 d) ∧ w.cell? ⟨m, 5, none⟩ = some (.int .u32 x) := six_of (h.box (List.mem_cons_self ..))
set_option maxRecDepth 100000 in
set_option maxHeartbeats 1000000 in
theorem do_set (K : Duo w0 w t b q N T U L) (hN : N < 100000) (A B C D : Int) (x : Nat) :
    Calls Tryd.prog 12 #[.pointer (some ⟨t, 0, none⟩), .pointer (some ⟨q, 0, none⟩), .agg (stepC 1 A B C D x)] w fun e w' =>
      e = .returned (.tuple #[.pointer (some ⟨t, 0, none⟩), .pointer (some ⟨q, 0, none⟩), .bool (setE T A B C D == setE U A B C D)]) ∧ Duo w0 w' t b q (N + 1) (setO T A B C D) (setO U A B C D) L := by
  unfold stepC
  have HD := Lib.hid ((K.alloc (stepC 1 A B C D x) 32).same ((Below.refl _ _).drew))
  obtain ⟨e1, he1⟩ : ∃ e1, setE T A B C D = e1 := ⟨_, rfl⟩
  obtain ⟨e2, he2⟩ : ∃ e2, setE U A B C D = e2 := ⟨_, rfl⟩
  rw [he1, he2]
  clear K
  go_enter Tryd.func12, Tryd.ntmps12
  go_wp2_with fail
  go_region_held3 (fun W => W.cell? ⟨w.heap.size, 1, none⟩ = some (.int .i64 A) ∧ W.cell? ⟨w.heap.size, 2, none⟩ = some (.int .i64 B) ∧ W.cell? ⟨w.heap.size, 3, none⟩ = some (.int .i64 C) ∧ W.cell? ⟨w.heap.size, 4, none⟩ = some (.int .i64 D))
    (exact ⟨(stepCells HD.out).2.1, (stepCells HD.out).2.2.1, (stepCells HD.out).2.2.2.1, (stepCells HD.out).2.2.2.2.1⟩)
    (first
      | (go_at_call 23; refine (duo_set HD.out hN _ _ _ _).mono ?_; rintro e w2 ⟨rfl, hd⟩; have HD := Lib.hid hd; rw [he1]; clear hd)
      | (go_at_call 20; refine (num_any _ _).mono ?_; rintro e w2 ⟨rfl, rfl⟩)
      | (go_at_call 32; refine (duo_setQ HD.out _ _ _ _).mono ?_; rintro e w2 ⟨rfl, hd⟩; have HD := Lib.hid hd; rw [he2]; clear hd))
  all_goals
    go_wp2_with fail
    go_ret3
    exact ⟨rfl, HD.out.less (fun x hx => List.mem_cons_of_mem _ hx)⟩
set_option maxRecDepth 100000 in
set_option maxHeartbeats 1000000 in
theorem do_rights (K : Duo w0 w t b q N T U L) (A B C D : Int) (x : Nat) :
    Calls Tryd.prog 12 #[.pointer (some ⟨t, 0, none⟩), .pointer (some ⟨q, 0, none⟩), .agg (stepC 3 A B C D x)] w fun e w' =>
      e = .returned (.tuple #[.pointer (some ⟨t, 0, none⟩), .pointer (some ⟨q, 0, none⟩), .bool ((rightsO T A B D).2 == (rightsO U A B D).2)]) ∧ Duo w0 w' t b q N (rightsO T A B D).1 (rightsO U A B D).1 L := by
  unfold stepC
  have HD := Lib.hid ((K.alloc (stepC 3 A B C D x) 32).same ((Below.refl _ _).drew))
  obtain ⟨e1, he1⟩ : ∃ e1, (rightsO T A B D).2 = e1 := ⟨_, rfl⟩
  obtain ⟨e2, he2⟩ : ∃ e2, (rightsO U A B D).2 = e2 := ⟨_, rfl⟩
  rw [he1, he2]
  clear K
  go_enter Tryd.func12, Tryd.ntmps12
  go_wp2_with fail
  go_region_held3 (fun W => W.cell? ⟨w.heap.size, 1, none⟩ = some (.int .i64 A) ∧ W.cell? ⟨w.heap.size, 2, none⟩ = some (.int .i64 B) ∧ W.cell? ⟨w.heap.size, 4, none⟩ = some (.int .i64 D))
    (exact ⟨(stepCells HD.out).2.1, (stepCells HD.out).2.2.1, (stepCells HD.out).2.2.2.2.1⟩)
    (first
      | (go_at_call 35; refine (duo_rights HD.out _ _ _).mono ?_; rintro e w2 ⟨rfl, hd⟩; have HD := Lib.hid hd; rw [he1]; clear hd)
      | (go_at_call 20; refine (num_any _ _).mono ?_; rintro e w2 ⟨rfl, rfl⟩)
      | (go_at_call 36; refine (duo_rightsQ HD.out _ _ _).mono ?_; rintro e w2 ⟨rfl, hd⟩; have HD := Lib.hid hd; rw [he2]; clear hd))
  all_goals
    go_wp2_with fail
    go_ret3
    exact ⟨rfl, HD.out.less (fun x hx => List.mem_cons_of_mem _ hx)⟩
end
end Go.Proofs.YtgkfejnjjoaihaaDoor
