/- The document's disk, where nothing is pending: in, Seen, Read, Bytes. -/
import Derived.Test.YtbnfjceoogehmaaDkXa
import Derived.Test.YtbnfjceoogehmaaDkO
namespace Go.Proofs.Ytbnfjceoogehmaa
open Go.RowKit
open Go.Maps (Keyed)
attribute [local go_sem] Oper.semAt_some

def rowC (C : Nat → Sec) (n : Nat) : List Sec := (List.range n).map C
theorem rowC_len (C : Nat → Sec) (n : Nat) : (rowC C n).length = n := by simp [rowC]
theorem rowC_get (C : Nat → Sec) {n i : Nat} (h : i < n) : (rowC C n)[i]? = some (C i) := by
  unfold rowC; rw [List.getElem?_map, List.getElem?_range h]; rfl
theorem rowC_succ (C : Nat → Sec) (k : Nat) : rowV (rowC C (k + 1)) = rowV (rowC C k) ++ secL (C k) := by
  unfold rowC
  rw [List.range_succ, List.map_append, rowV_append]
  show _ ++ rowV [C k] = _
  rw [rowV_one]
section
variable {B n : Nat} {C : Nat → Sec} {v : Value} {b : Nat → Nat} {w : World}
theorem QdIs.row (h : QdIs B n n C v b w) (h1 : 1 ≤ n) : ∃ g c, v = .slice (some ⟨g, 0, none⟩) n c := by
  obtain ⟨g, c, e, -, -⟩ := h.own.form h1
  exact ⟨g, c, e⟩
theorem QdIs.c0 (h : QdIs B n n C v b w) : w.cell? ⟨B + 1, 0, none⟩ = some v := cell_of_row _ _ 0 _ _ _ h.disk
theorem QdIs.c1 (h : QdIs B n n C v b w) : w.cell? ⟨B + 1, 1, none⟩ = some (.slice (some ⟨B, 0, none⟩) n n) := cell_of_row _ _ 1 _ _ _ h.disk
theorem QdIs.p0 (h : QdIs B n n C v b w) {i : Nat} (hi : i < n) : w.cell? ⟨B, i, none⟩ = some (.slice none 0 0) := by
  rw [cell_of_row _ _ i _ _ _ h.pend, ← Array.getElem?_toList, toList_madeCells_one, List.getElem?_replicate, if_pos hi]
theorem QdIs.s0 {g c : Nat} (h : QdIs B n n C (.slice (some ⟨g, 0, none⟩) n c) b w) {i : Nat} (hi : i < n) : w.cell? ⟨g, i, none⟩ = some (secV (b i)) := by
  rw [h.own.cellAt i (by omega), secsV_get b hi]
end
theorem qin_any9 {w : World} {B n : Nat} {C : Nat → Sec} {v : Value} {b : Nat → Nat} (h : QdIs B n n C v b w) (h1 : 1 ≤ n) (h2 : n ≤ 4096) (s : Int) : Calls Try.prog 47 #[.pointer (some ⟨B + 1, 0, none⟩), .int .i64 s] w fun e w' => e = .returned (.bool (decide (0 ≤ s ∧ s < n))) ∧ w = w' := by
  obtain ⟨g, c, rfl⟩ := h.row h1
  have c0 := h.c0
  clear h
  obtain ⟨r, hr⟩ : ∃ r, decide (0 ≤ s ∧ s < n) = r := ⟨_, rfl⟩
  rw [hr]
  by_cases l1 : 0 ≤ s
  · have l1' : s ≥ 0 := l1
    by_cases l2 : s < n
    · obtain rfl : true = r := by rw [← hr, decide_eq_true (And.intro l1 l2)]
      clear hr
      go_enter Try.func47, Try.ntmps47
      go_wp2
      go_ret
      exact ⟨rfl, rfl⟩
    · obtain rfl : false = r := by rw [← hr, decide_eq_false (fun hh => l2 hh.2)]
      clear hr
      go_enter Try.func47, Try.ntmps47
      go_wp2
      go_ret
      exact ⟨rfl, rfl⟩
  · have l1' : ¬ s ≥ 0 := l1
    obtain rfl : false = r := by rw [← hr, decide_eq_false (fun hh => l1 hh.1)]
    clear hr
    go_enter Try.func47, Try.ntmps47
    go_wp2
    go_ret
    exact ⟨rfl, rfl⟩
set_option maxRecDepth 100000 in
set_option maxHeartbeats 1000000 in
theorem qseen_any9 {w : World} {B n : Nat} {C : Nat → Sec} {v : Value} {b : Nat → Nat} (h : QdIs B n n C v b w) (h2 : n ≤ 4096) (k : Nat) (hk : k < n) : Calls Try.prog 48 #[.pointer (some ⟨B + 1, 0, none⟩), .int .i64 (k : Int)] w fun e w' => e = .returned (secV (b k)) ∧ w = w' := by
  obtain ⟨g, c, rfl⟩ := h.row (by omega)
  have c0 := h.c0
  have c1 := h.c1
  have p0 := h.p0 hk
  have s0 := h.s0 hk
  have hk' : (k : Int) < n := by omega
  clear h
  go_enter Try.func48, Try.ntmps48
  go_wp2
  go_ret
  exact ⟨rfl, rfl⟩
theorem qread_no9 {w : World} {B n : Nat} {C : Nat → Sec} {v : Value} {b : Nat → Nat} (h : QdIs B n n C v b w) (h1 : 1 ≤ n) (h2 : n ≤ 4096) (s : Int) (hs : ¬ (0 ≤ s ∧ s < n)) : Calls Try.prog 33 #[.pointer (some ⟨B + 1, 0, none⟩), .int .i64 s] w fun e w' => e = .returned (.tuple #[.slice none 0 0, .int .i64 2]) ∧ w = w' := by
  have HI := Lib.hid (qin_any9 h h1 h2 s)
  clear h
  go_enter Try.func33, Try.ntmps33
  go_wp2_with (go_at_call 47; refine HI.out.mono ?_; rintro e w' ⟨rfl, rfl⟩; rw [decide_eq_false hs])
  go_ret2
  exact ⟨rfl, rfl⟩
theorem qread_yes9 {w : World} {B n : Nat} {C : Nat → Sec} {v : Value} {b : Nat → Nat} (h : QdIs B n n C v b w) (h2 : n ≤ 4096) (k : Nat) (hk : k < n) : Calls Try.prog 33 #[.pointer (some ⟨B + 1, 0, none⟩), .int .i64 (k : Int)] w fun e w' => e = .returned (.tuple #[secV (b k), .int .i64 0]) ∧ w = w' := by
  have HI := Lib.hid (qin_any9 h (by omega) h2 (k : Int))
  have HS := Lib.hid (qseen_any9 h h2 k hk)
  clear h
  go_enter Try.func33, Try.ntmps33
  go_wp2_with (first
    | (go_at_call 47; refine HI.out.mono ?_; rintro e w' ⟨rfl, rfl⟩; rw [decide_eq_true (show 0 ≤ (k : Int) ∧ (k : Int) < n by omega)])
    | (go_at_call 48; refine HS.out.mono ?_; rintro e w' ⟨rfl, rfl⟩))
  go_ret2
  exact ⟨rfl, rfl⟩
set_option maxRecDepth 100000 in
set_option maxHeartbeats 2000000 in
theorem qbytes_any9 {w : World} {B n : Nat} {C : Nat → Sec} {v : Value} {b : Nat → Nat} (h : QdIs B n n C v b w) (h1 : 1 ≤ n) (h2 : n ≤ 4096) (hC : ∀ i, i < n → SecOk (C i)) : Calls Try.prog 29 #[.pointer (some ⟨B + 1, 0, none⟩)] w (BytesOut w (rowC C n)) := by
  obtain ⟨i0, hi, hz0, hz1, hz2⟩ := info_parts Try.infoU8k
  have hz2 : i0.bytes = 1 := hz2
  obtain ⟨g, c, rfl⟩ := h.row h1
  have H := Lib.hid h
  have HCC := Lib.hid hC
  clear h hC
  go_enter Try.func29, Try.ntmps29
  go_wp2
  go_loopw [3, 4] (fun v i wr => ∃ k : Nat, k ≤ n ∧ i = .int .i64 (k : Int) ∧ wr.ownsRow w.heap.size 5 1 v (k * 128) (rowV (rowC C k)) ∧ Below w.heap.size w wr) (fun _ i _ => n - (intOf i).toNat)
  case atStart => exact ⟨0, Nat.zero_le _, rfl, ⟨rfl, .inl ⟨rfl, rfl⟩⟩, Below.refl _ w⟩
  case round =>
    obtain ⟨k, hk, rfl, ho, hb⟩ := hrel
    have HO := Lib.hid ho
    have HB := Lib.hid hb
    have H1 := H.out.keep hb
    have c0 := H1.c0
    by_cases hlt : k < n
    · have hlt' : (k : Int) < n := by omega
      have s0 := H1.s0 hlt
      have HOK := Lib.hid (HCC.out k hlt)
      have HNW := Lib.hid (show ∀ j u, (secL (C k))[j]? = some u → wr.cell? ((⟨b k, 0, none⟩ : Addr).add j) = some u from fun j u hj => by
        rw [Addr.add_mid, Nat.zero_add, cell_of_row _ _ _ _ _ _ (H1.sec k hlt).2.2.2]
        simpa using hj)
      have hs := hb.size
      clear H1 ho hb
      go_wp2_with (at_builtin; refine wpList_append_own _ rfl _ _ 35 rfl w.heap.size 5 i0 (.int .u8 0) 1 1 Try.underlying35 hi hz0 hz1 hz2 rfl (by decide) _ _ _ rfl HO.out ⟨b k, 0, none⟩ 128 128 (secL (C k)) rfl (by rw [secL_len HOK.out]) HNW.out secL_one (by unfold maxLen; omega) (by omega) hs ?_; intro v' w3 ho3 hg3 _; have HO3 := Lib.hid ho3; have HG3 := Lib.hid hg3; clear ho3 hg3)
      go_roundw
      case rel =>
        refine ⟨k + 1, hlt, by go_num, ?_, HB.out.grown HG3.out hs (fun r e => (HO.out.lt r e).1)⟩
        rw [rowC_succ, show (k + 1) * 128 = k * 128 + 128 by omega]
        exact HO3.out
      case measure => simp [intOf]; omega
    · have hlt' : ¬ (k : Int) < n := by omega
      obtain rfl : k = n := by omega
      clear H1 ho hb
      go_wp2
      go_ret
      exact ⟨_, rfl, by rw [rowC_len]; exact HO.out, HB.out⟩
end Go.Proofs.Ytbnfjceoogehmaa
