/- Disks' bytes, and the document's disk where nothing is pending. -/
import Derived.Test.YtgpdkfmneoggkaaExX
namespace Go.Proofs.Ytgpdkfmneoggkaa
open Go.RowKit
open Go.Maps (Keyed)
attribute [local go_sem] Oper.semAt_some

/-- All sectors' bytes. -/
def flat (L : List Sec) : List Int := L.flatMap id
theorem flat_map (L : List Sec) : (flat L).map (Value.int .u8) = rowV L := by
  unfold flat rowV
  rw [List.map_flatMap]
  rfl
theorem rowV_take {L : List Sec} {k : Nat} {c : Sec} (h : L[k]? = some c) : rowV (L.take (k + 1)) = rowV (L.take k) ++ secL c := by
  rw [List.take_add_one, h, rowV_append]
  show _ ++ rowV [c] = _
  rw [rowV_one]
theorem run_makeCap9 (n : Nat) (hn : n ≤ 1000000) (w : World) : (Instr.makeSlice 34 (.int .i64 0) (.int .i64 (n : Int))).run Try.prog w = .ok (.slice (some ⟨w.heap.size, 0, none⟩) 0 n) (w.alloc (.cells (madeCells #[.int .u8 0] n) 5)) := by
  obtain ⟨i, hi, hz, hs, hb⟩ := info_parts Try.infoU8k
  have := run_make (P := Try.prog) w 34 5 i (.int .u8 0) Try.underlying34 hi hz .i64 .i64 0 n (by omega) (by omega) (by rw [hb]; omega) (by omega)
  rw [hs] at this
  simpa [Value.cells] using this
/-- Bytes, handed out. -/
def BytesOut (w : World) (L : List Sec) (e : Ending) (w' : World) : Prop := ∃ v, e = .returned v ∧ w'.ownsRow w.heap.size 5 1 v (L.length * 128) (rowV L) ∧ Below w.heap.size w w'
set_option maxHeartbeats 2000000 in
set_option maxRecDepth 100000 in
theorem bytes_any9 {w : World} {O : Nat → Prop} {d : Nat} {L : Lay9} {s : Dk} (h : DkAt w O d L s) : Calls Try.prog 49 #[.pointer (some ⟨d, 0, none⟩)] w (BytesOut w s.fl) := by
  obtain ⟨i0, hi, hz0, hz1, hz2⟩ := info_parts Try.infoU8k
  have hz2 : i0.bytes = 1 := hz2
  have H := Lib.hid h
  have c0 := h.c0
  have hn2 := h.ok.n2
  have c0a := fun o => (h.step (w' := w.alloc o) ((Below.refl _ w).alloc (Nat.le_refl _) _)).c0
  obtain ⟨n, hn⟩ : ∃ n, s.fl.length = n := ⟨_, rfl⟩
  have HN := Lib.hid hn
  rw [hn] at c0 hn2 c0a
  obtain ⟨m, hm⟩ : ∃ m, n * 128 = m := ⟨_, rfl⟩
  have hw : IntKind.i64.wrap ((n : Int) * 128) = (m : Int) := by rw [IntWalk.i64_in _ (by omega)]; omega
  have hmk := run_makeCap9 m (by omega)
  clear h hn
  go_enter Try.func49, Try.ntmps49
  go_wp2_with (go_at_call 54; refine (there_any9 H.out).mono ?_; rintro e w' ⟨rfl, rfl⟩)
  go_loopw [3, 21] (fun v i wr => ∃ k : Nat, k ≤ n ∧ i = .int .i64 (k : Int) ∧ wr.ownsRow w.heap.size 5 1 v (k * 128) (rowV (s.fl.take k)) ∧ Below w.heap.size w wr) (fun _ i _ => n - (intOf i).toNat)
  case atStart => exact ⟨0, Nat.zero_le _, rfl, by have := World.ownsRow_made (base := w.heap.size) (e := 5) (size := 1) w (madeCells #[.int .u8 0] m) m (Nat.le_refl _) (by unfold maxLen; omega) (by simp [madeCells]); simpa [rowV] using this, (Below.refl _ w).alloc (Nat.le_refl _) _⟩
  case round =>
    obtain ⟨k, hk, rfl, ho, hb⟩ := hrel
    have HO := Lib.hid ho
    have HB := Lib.hid hb
    clear ho hb c0
    by_cases hlt : k < n
    · have hlt' : (k : Int) < n := by omega
      obtain ⟨c, hc⟩ : ∃ c, s.fl[k]? = some c := ⟨_, List.getElem?_eq_getElem (by rw [HN.out]; exact hlt)⟩
      have HC := Lib.hid hc
      have HOK := Lib.hid (H.out.ok.f c (List.mem_of_getElem? hc))
      have H1 := Lib.hid (H.out.step HB.out)
      have HRG := Lib.hid (row_range H1.out.row H1.out.ok.f hc)
      have hs := HB.out.size
      have hrow := setRow_heap (wr.alloc (.cells Try.zeroCells108 108)) wr.heap.size _ (secA c) _ _ (heap_alloc_new wr _)
      have HNW := Lib.hid (World.news_of_block hrow)
      have HO1 := Lib.hid (owns_eq HO.out (w' := (wr.alloc (.cells Try.zeroCells108 108)).setRow wr.heap.size (secA c)) (fun g e => by
        have := (HO.out.lt g e).2
        exact (setRow_other _ _ _ _ (by omega)).trans (Below.heap_alloc wr _ g this)))
      clear hc hrow
      go_wp2_with (first
        | (refine wpList_load_sec rfl _ rfl L.F (k * 128) rfl c HOK.out HRG.out ?_)
        | (refine wpList_store_sec rfl _ _ rfl rfl wr.heap.size c rfl rfl 108 _ (heap_alloc_new wr _) rfl HOK.out ?_)
        | (at_builtin; refine wpList_append_own _ rfl _ _ 34 rfl w.heap.size 5 i0 (.int .u8 0) 1 1 Try.underlying34 hi hz0 hz1 hz2 rfl (by decide) _ _ _ rfl HO1.out ⟨wr.heap.size, 0, none⟩ 128 128 (secL c) rfl (by rw [secL_len HOK.out]) HNW.out secL_one (by unfold maxLen; omega) (by omega) (by simp; omega) ?_; intro v' w3 ho3 hg3 _; have HO3 := Lib.hid ho3; have HG3 := Lib.hid hg3; clear ho3 hg3))
      go_roundw
      case rel =>
        refine ⟨k + 1, hlt, by go_num, ?_, ?_⟩
        · rw [rowV_take HC.out, show (k + 1) * 128 = k * 128 + 128 by omega]
          exact HO3.out
        · exact (below_setRow (HB.out.alloc hs _) hs _).grown HG3.out (by simp; omega) (fun r e => (HO1.out.lt r e).1)
      case measure => simp [intOf]; omega
    · have hlt' : ¬ (k : Int) < n := by omega
      obtain rfl : k = n := by omega
      go_wp2
      go_ret
      refine ⟨_, rfl, ?_, HB.out⟩
      have := HO.out
      rw [List.take_of_length_le (by rw [HN.out]; exact Nat.le_refl _)] at this
      rw [HN.out]
      exact this

def secV (b : Nat) : Value := .slice (some ⟨b, 0, none⟩) 128 128
def secsV (b : Nat → Nat) (k : Nat) : List Value := (List.range k).map fun i => secV (b i)
theorem secsV_len (b : Nat → Nat) (k : Nat) : (secsV b k).length = k := by simp [secsV]
theorem secsV_get (b : Nat → Nat) {k i : Nat} (h : i < k) : (secsV b k)[i]? = some (secV (b i)) := by
  unfold secsV; rw [List.getElem?_map, List.getElem?_range h]; rfl
theorem secsV_succ (b : Nat → Nat) (k g : Nat) : secsV b k ++ [secV g] = secsV (fun i => if i = k then g else b i) (k + 1) := by
  unfold secsV
  rw [List.range_succ, List.map_append]
  congr 1
  · refine List.map_congr_left (fun i hi => ?_)
    have := List.mem_range.1 hi
    simp only []
    rw [if_neg (by omega)]
  · simp
theorem zero_sec : madeCells #[.int .u8 0] 128 = (secL zeroS).toArray := by
  apply Array.ext'
  rw [toList_madeCells_one]
  simp [secL, zeroS]
/-- The document's disk, nothing pending: where what lies. -/
structure QdIs (B n k : Nat) (C : Nat → Sec) (v : Value) (b : Nat → Nat) (wr : World) : Prop where
  pend : wr.heap[B]? = some (.cells (madeCells #[.slice none 0 0] n) 93 (0, 0))
  disk : wr.heap[B + 1]? = some (.cells #[v, .slice (some ⟨B, 0, none⟩) n n, .int .i64 0] 96 (0, 0))
  own : wr.ownsRow (B + 2) 34 1 v k (secsV b k)
  sec : ∀ i : Nat, i < k → B + 2 ≤ b i ∧ b i < wr.heap.size ∧ v.ownBlock ≠ some (b i) ∧ wr.heap[b i]? = some (.cells (secL (C i)).toArray 5 (0, 0))
  apart : ∀ i j : Nat, i < k → j < k → b i = b j → i = j
def QdAt (B n k : Nat) (C : Nat → Sec) (wr : World) : Prop := ∃ v b, QdIs B n k C v b wr
theorem QdIs.keep {B n k : Nat} {C : Nat → Sec} {v : Value} {b : Nat → Nat} {w w' : World} (h : QdIs B n k C v b w) (hb : Below w.heap.size w w') : QdIs B n k C v b w' := by
  have lt1 := (Array.getElem?_eq_some_iff.1 h.pend).1
  have lt2 := (Array.getElem?_eq_some_iff.1 h.disk).1
  refine ⟨(hb.block _ lt1).trans h.pend, (hb.block _ lt2).trans h.disk, h.own.kept (row := none) ⟨hb.os, hb.tape, hb.output, hb.size, fun j hj _ => hb.block j hj⟩ ?_, fun i hi => ?_, h.apart⟩
  · by_cases e : v.ownBlock = none
    · exact .inl e
    · exact .inr e
  · obtain ⟨h1, h2, h3, h4⟩ := h.sec i hi
    exact ⟨h1, Nat.lt_of_lt_of_le h2 hb.size, h3, (hb.block _ h2).trans h4⟩
theorem Try.infoB3 : (Try.prog.info? 93).map (fun i => (i.zero, i.size, i.bytes)) = some (some (.slice none 0 0), 1, 24) := by kernel_rfl
theorem Try.infoB2 : (Try.prog.info? 34).map (fun i => (i.zero, i.size, i.bytes)) = some (some (.slice none 0 0), 1, 24) := by kernel_rfl
theorem run_b3 (n : Nat) (hn : n ≤ 4096) (w : World) : (Instr.makeSlice 94 (.int .i64 (n : Int)) (.int .i64 (n : Int))).run Try.prog w = .ok (.slice (some ⟨w.heap.size, 0, none⟩) n n) (w.alloc (.cells (madeCells #[.slice none 0 0] n) 93)) := by
  obtain ⟨i, hi, hz, hs, hb⟩ := info_parts Try.infoB3
  have := run_make (P := Try.prog) w 94 93 i (.slice none 0 0) Try.underlying94 hi hz .i64 .i64 n n (by omega) (Int.le_refl _) (by rw [hb]; omega) (by omega)
  rw [hs] at this
  simpa [Value.cells] using this
theorem qnew_no9 (n : Int) (h : n < 1 ∨ 4096 < n) (w : World) : Calls Try.prog 30 #[.int .i64 n] w fun e w' => e = .returned (.pointer none) ∧ w = w' := by
  by_cases h1 : n < 1
  · go_enter Try.func30, Try.ntmps30
    go_wp2
    go_ret
    exact ⟨rfl, rfl⟩
  · have h2 : 4096 < n := by omega
    go_enter Try.func30, Try.ntmps30
    go_wp2
    go_ret
    exact ⟨rfl, rfl⟩
theorem cell_one_two (w : World) (o : Obj) (a : Value) (t : TypeId) : ∀ j u, [a][j]? = some u → (((w.alloc o).alloc (.cells #[a] t)).drew).cell? ((⟨w.heap.size + 1, 0, none⟩ : Addr).add j) = some u := fun j u hj => by
  have hg : ((w.alloc o).alloc (.cells #[a] t)).heap[(w.alloc o).heap.size]? = some (.cells #[a] t (0, 0)) := heap_alloc_new _ _
  rw [show (w.alloc o).heap.size = w.heap.size + 1 by simp] at hg
  rw [Addr.add_mid, Nat.zero_add, World.cell?_drew, cell_of_row _ _ _ _ _ _ hg]
  simpa using hj
section
variable {n k : Nat} {w wr w3 : World} {v v' : Value} {b : Nat → Nat} {o : Obj}
theorem qnew_mid (hq : QdIs w.heap.size n k (fun _ => zeroS) v b wr) (hg : (((wr.alloc (.cells (madeCells #[.int .u8 0] 128) 5)).alloc o).drew).grownBy w3 v.ownBlock) :
    w3.heap[w.heap.size + 1]? = some (.cells #[v, .slice (some ⟨w.heap.size, 0, none⟩) n n, .int .i64 0] 96 (0, 0)) ∧ w3.cell? ⟨w.heap.size + 1, 0, none⟩ = some v ∧ ∀ j, w3.frozen? ⟨w.heap.size + 1, j, none⟩ = false := by
  have lt2 := (Array.getElem?_eq_some_iff.1 hq.disk).1
  have e1 : w3.heap[w.heap.size + 1]? = some (.cells #[v, .slice (some ⟨w.heap.size, 0, none⟩) n n, .int .i64 0] 96 (0, 0)) := by
    refine (hg.block _ (by simp; omega) (fun e => by have := (hq.own.lt _ e.symm).1; omega)).trans ?_
    exact ((Below.heap_alloc _ _ _ (by simp; omega)).trans (Below.heap_alloc _ _ _ lt2)).trans hq.disk
  exact ⟨e1, cell_of_row _ _ 0 _ _ _ e1, fun j => frozen_of_row _ _ _ _ _ e1⟩
theorem qnew_round (hq : QdIs w.heap.size n k (fun _ => zeroS) v b wr) (hb : Below w.heap.size w wr) (ho : w3.ownsRow (w.heap.size + 2) 34 1 v' (k + 1) (secsV b k ++ [secV wr.heap.size]))
    (hg : (((wr.alloc (.cells (madeCells #[.int .u8 0] 128) 5)).alloc o).drew).grownBy w3 v.ownBlock) :
    Below w.heap.size w (w3.setCell ⟨w.heap.size + 1, 0, none⟩ v') ∧ QdAt w.heap.size n (k + 1) (fun _ => zeroS) (w3.setCell ⟨w.heap.size + 1, 0, none⟩ v') := by
  have lt1 := (Array.getElem?_eq_some_iff.1 hq.pend).1
  have lt2 := (Array.getElem?_eq_some_iff.1 hq.disk).1
  have hs3 := hg.size
  have hs3' : wr.heap.size + 2 ≤ w3.heap.size := by simpa using hs3
  have hbs := hb.size
  have key : ∀ j, j < wr.heap.size → some j ≠ v.ownBlock → w3.heap[j]? = wr.heap[j]? := fun j hj hne =>
    (hg.block _ (by simp; omega) hne).trans ((Below.heap_alloc _ _ _ (by simp; omega)).trans (Below.heap_alloc _ _ _ hj))
  have hol := hq.own.lt
  have fresh : w3.heap[wr.heap.size]? = some (.cells (secL zeroS).toArray 5 (0, 0)) := by
    refine (hg.block _ (by simp; omega) (fun e => by have := (hol _ e.symm).2; omega)).trans ?_
    refine (Below.heap_alloc _ _ _ (by simp)).trans ?_
    rw [← zero_sec]
    exact heap_alloc_new wr _
  have hd := (qnew_mid hq hg).1
  refine ⟨?_, v', fun i => if i = k then wr.heap.size else b i, ?_, ?_, ?_, ?_, ?_⟩
  · refine Below.setCell ?_ (by simp) v'
    exact Below.grown (((hb.alloc hbs _).alloc (by simp; omega) _).drew) hg (by simp; omega) (fun j e => by have := (hol j e).1; omega)
  · refine (heap_setCell_other _ _ _ _ (by simp)).trans ((key _ lt1 (fun e => by have := (hol _ e.symm).1; omega)).trans hq.pend)
  · have := heap_setCell_same w3 (w.heap.size + 1) 0 _ _ v' hd
    simpa using this
  · rw [← secsV_succ]
    refine ho.kept (row := some (w.heap.size + 1)) ⟨rfl, rfl, rfl, by simp, fun j hj hne => heap_setCell_other _ _ _ _ (fun e => hne (by rw [e]))⟩ (.inr (fun e => ?_))
    have := (ho.lt _ e).1
    omega
  · have typ : ∀ g row, w3.heap[g]? = some (.cells row 5 (0, 0)) → v'.ownBlock ≠ some g := fun g row h1 e => by
      obtain ⟨cur, h2⟩ := own_ty ho e
      rw [h1] at h2
      cases h2
    intro i hi
    show w.heap.size + 2 ≤ (if i = k then wr.heap.size else b i) ∧ (if i = k then wr.heap.size else b i) < (w3.setCell _ v').heap.size ∧ v'.ownBlock ≠ some (if i = k then wr.heap.size else b i) ∧ (w3.setCell _ v').heap[if i = k then wr.heap.size else b i]? = _
    rw [show (w3.setCell ⟨w.heap.size + 1, 0, none⟩ v').heap.size = w3.heap.size by simp]
    by_cases e : i = k
    · rw [if_pos e]
      exact ⟨by omega, by omega, typ _ _ fresh, (heap_setCell_other _ _ _ _ (by simp; omega)).trans fresh⟩
    · rw [if_neg e]
      obtain ⟨s1, s2, s3, s4⟩ := hq.sec i (by omega)
      have s5 := (key _ s2 (fun e => s3 e.symm)).trans s4
      exact ⟨s1, by omega, typ _ _ s5, (heap_setCell_other _ _ _ _ (by simp; omega)).trans s5⟩
  · intro i j hi hj (e : (if i = k then wr.heap.size else b i) = (if j = k then wr.heap.size else b j))
    by_cases e1 : i = k
    · by_cases e2 : j = k
      · omega
      · rw [if_pos e1, if_neg e2] at e
        have := (hq.sec j (by omega)).2.1
        omega
    · by_cases e2 : j = k
      · rw [if_neg e1, if_pos e2] at e
        have := (hq.sec i (by omega)).2.1
        omega
      · rw [if_neg e1, if_neg e2] at e
        exact hq.apart i j (by omega) (by omega) e
end
set_option maxHeartbeats 4000000 in
set_option maxRecDepth 100000 in
theorem qnew_yes9 (n : Nat) (h1 : 1 ≤ n) (h2 : n ≤ 4096) (w : World) : Calls Try.prog 30 #[.int .i64 (n : Int)] w fun e w' => e = .returned (.pointer (some ⟨w.heap.size + 1, 0, none⟩)) ∧ QdAt w.heap.size n n (fun _ => zeroS) w' ∧ Below w.heap.size w w' := by
  have hmk := fun w => run_b3 n h2 w
  have hmk8 : ∀ w : World, (Instr.makeSlice 34 (.int .i64 128) (.int .i64 128)).run Try.prog w = .ok (.slice (some ⟨w.heap.size, 0, none⟩) 128 128) (w.alloc (.cells (madeCells #[.int .u8 0] 128) 5)) := fun w => run_make9 128 (by omega) w
  obtain ⟨i0, hi, hz0, hz1, hz2⟩ := info_parts Try.infoB2
  have hz2 : i0.bytes = 24 := hz2
  have l1 : ¬ (n : Int) < 1 := by omega
  have l2 : ¬ (4096 : Int) < n := by omega
  go_enter Try.func30, Try.ntmps30
  go_wp2
  go_loopw [4] (fun i wr => ∃ k : Nat, k ≤ n ∧ i = .int .i64 (k : Int) ∧ QdAt w.heap.size n k (fun _ => zeroS) wr ∧ Below w.heap.size w wr) (fun i _ => n - (intOf i).toNat)
  case atStart => 
    refine ⟨0, Nat.zero_le _, rfl, ⟨.slice none 0 0, fun i => i, ?_, ?_, ?_, fun i hi => absurd hi (by omega), fun i j hi => absurd hi (by omega)⟩, ?_⟩
    · exact (Below.heap_alloc _ _ _ (by simp)).trans (heap_alloc_new w _)
    · have := heap_alloc_new (w.alloc (.cells (madeCells #[.slice none 0 0] n) 93)) (.cells #[.slice none 0 0, .slice (some ⟨w.heap.size, 0, none⟩) n n, .int .i64 0] 96)
      simpa using this
    · exact ⟨rfl, .inl ⟨rfl, rfl⟩⟩
    · exact ((Below.refl _ w).alloc (Nat.le_refl _) _).alloc (by simp) _
  case round =>
    obtain ⟨k, hk, rfl, ⟨v, b, hq⟩, hb⟩ := hrel
    have hr := hq.disk
    have ho := hq.own
    have HQ := Lib.hid hq
    have HB := Lib.hid hb
    have HR := Lib.hid hr
    have HO := Lib.hid ho
    obtain ⟨va, vn, vc, hva⟩ : ∃ a n c, v = .slice a n c := by
      rcases owns_sl ho with e | ⟨g, n, c, e⟩
      · exact ⟨none, 0, 0, e⟩
      · exact ⟨_, n, c, e⟩
    subst hva
    have hrl := (Array.getElem?_eq_some_iff.1 hr).1
    have c0 : wr.cell? ⟨w.heap.size + 1, 0, none⟩ = some (.slice va vn vc) := cell_of_row _ _ 0 _ _ _ hr
    have f0 : ∀ j, wr.frozen? ⟨w.heap.size + 1, j, none⟩ = false := fun j => frozen_of_row _ _ _ _ _ hr
    have c1 : (wr.alloc (.cells (madeCells #[.int .u8 0] 128) 5)).cell? ⟨w.heap.size + 1, 0, none⟩ = some (.slice va vn vc) := (World.cell?_of_block (a := ⟨w.heap.size + 1, 0, none⟩) (Below.heap_alloc _ _ _ hrl)).trans c0
    have c2 : ((wr.alloc (.cells (madeCells #[.int .u8 0] 128) 5)).alloc (.cells #[.slice (some ⟨wr.heap.size, 0, none⟩) 128 128] 34)).cell? ⟨w.heap.size + 1, 0, none⟩ = some (.slice va vn vc) := (World.cell?_of_block (a := ⟨w.heap.size + 1, 0, none⟩) (Below.heap_alloc _ _ _ (by simp; omega))).trans c1
    clear hq hr ho hb
    by_cases hlt : k < n
    · have hlt' : (k : Int) < n := by omega
      go_wp2
      go_region_law (refine step_append_own rfl _ _ 93 rfl (w.heap.size + 2) 34 i0 (.slice none 0 0) 1 24 Try.underlying93 hi hz0 hz1 hz2 rfl (by decide) _ k (secsV b k) rfl ((HO.out.alloc (.cells (madeCells #[.int .u8 0] 128) 5)).alloc (.cells #[secV wr.heap.size] 34)) ⟨wr.heap.size + 1, 0, none⟩ 1 1 [secV wr.heap.size] rfl rfl (cell_one_two wr _ _ _) (by simp [Value.oneCell', secV]) (by unfold maxLen; omega) (by omega) (by simp; omega) ?_; intro v' w3 hown' hg3; obtain ⟨va', vn', vc', hva'⟩ := sl_of hown'; subst hva'; obtain ⟨hB3, hQ3⟩ := qnew_round HQ.out HB.out hown' hg3; have HB3 := Lib.hid hB3; have HQ3 := Lib.hid hQ3; have hw3 := (qnew_mid HQ.out hg3).1; have c3 := (qnew_mid HQ.out hg3).2.1; have f3 := (qnew_mid HQ.out hg3).2.2; clear hB3 hQ3 hg3 hown')
      all_goals go_wp2
      all_goals go_roundw
      all_goals first
        | exact ⟨k + 1, hlt, by go_num, HQ3.out, HB3.out⟩
        | (simp [intOf]; omega)
    · have hlt' : ¬ (k : Int) < n := by omega
      obtain rfl : k = n := by omega
      go_wp2
      go_ret
      exact ⟨rfl, ⟨_, b, HQ.out⟩, HB.out⟩

def rowC (C : Nat → Sec) (n : Nat) : List Sec := (List.range n).map C
theorem rowC_len (C : Nat → Sec) (n : Nat) : (rowC C n).length = n := by simp [rowC]
theorem rowC_get (C : Nat → Sec) {n i : Nat} (h : i < n) : (rowC C n)[i]? = some (C i) := by
  unfold rowC; rw [List.getElem?_map, List.getElem?_range h]; rfl
theorem rowC_succ (C : Nat → Sec) (k : Nat) : rowV (rowC C (k + 1)) = rowV (rowC C k) ++ secL (C k) := by
  unfold rowC
  rw [List.range_succ, List.map_append, rowV_append]
  show _ ++ rowV [C k] = _
  rw [rowV_one]
section
variable {B n : Nat} {C : Nat → Sec} {v : Value} {b : Nat → Nat} {w : World}
theorem QdIs.row (h : QdIs B n n C v b w) (h1 : 1 ≤ n) : ∃ g c, v = .slice (some ⟨g, 0, none⟩) n c := by
  obtain ⟨g, c, e, -, -⟩ := h.own.form h1
  exact ⟨g, c, e⟩
theorem QdIs.c0 (h : QdIs B n n C v b w) : w.cell? ⟨B + 1, 0, none⟩ = some v := cell_of_row _ _ 0 _ _ _ h.disk
theorem QdIs.c1 (h : QdIs B n n C v b w) : w.cell? ⟨B + 1, 1, none⟩ = some (.slice (some ⟨B, 0, none⟩) n n) := cell_of_row _ _ 1 _ _ _ h.disk
theorem QdIs.p0 (h : QdIs B n n C v b w) {i : Nat} (hi : i < n) : w.cell? ⟨B, i, none⟩ = some (.slice none 0 0) := by
  rw [cell_of_row _ _ i _ _ _ h.pend, ← Array.getElem?_toList, toList_madeCells_one, List.getElem?_replicate, if_pos hi]
theorem QdIs.s0 {g c : Nat} (h : QdIs B n n C (.slice (some ⟨g, 0, none⟩) n c) b w) {i : Nat} (hi : i < n) : w.cell? ⟨g, i, none⟩ = some (secV (b i)) := by
  rw [h.own.cellAt i (by omega), secsV_get b hi]
end
theorem qin_any9 {w : World} {B n : Nat} {C : Nat → Sec} {v : Value} {b : Nat → Nat} (h : QdIs B n n C v b w) (h1 : 1 ≤ n) (h2 : n ≤ 4096) (s : Int) : Calls Try.prog 79 #[.pointer (some ⟨B + 1, 0, none⟩), .int .i64 s] w fun e w' => e = .returned (.bool (decide (0 ≤ s ∧ s < n))) ∧ w = w' := by
  obtain ⟨g, c, rfl⟩ := h.row h1
  have c0 := h.c0
  clear h
  obtain ⟨r, hr⟩ : ∃ r, decide (0 ≤ s ∧ s < n) = r := ⟨_, rfl⟩
  rw [hr]
  by_cases l1 : 0 ≤ s
  · have l1' : s ≥ 0 := l1
    by_cases l2 : s < n
    · obtain rfl : true = r := by rw [← hr, decide_eq_true (And.intro l1 l2)]
      clear hr
      go_enter Try.func79, Try.ntmps79
      go_wp2
      go_ret
      exact ⟨rfl, rfl⟩
    · obtain rfl : false = r := by rw [← hr, decide_eq_false (fun hh => l2 hh.2)]
      clear hr
      go_enter Try.func79, Try.ntmps79
      go_wp2
      go_ret
      exact ⟨rfl, rfl⟩
  · have l1' : ¬ s ≥ 0 := l1
    obtain rfl : false = r := by rw [← hr, decide_eq_false (fun hh => l1 hh.1)]
    clear hr
    go_enter Try.func79, Try.ntmps79
    go_wp2
    go_ret
    exact ⟨rfl, rfl⟩
set_option maxRecDepth 100000 in
set_option maxHeartbeats 1000000 in
theorem qseen_any9 {w : World} {B n : Nat} {C : Nat → Sec} {v : Value} {b : Nat → Nat} (h : QdIs B n n C v b w) (h2 : n ≤ 4096) (k : Nat) (hk : k < n) : Calls Try.prog 80 #[.pointer (some ⟨B + 1, 0, none⟩), .int .i64 (k : Int)] w fun e w' => e = .returned (secV (b k)) ∧ w = w' := by
  obtain ⟨g, c, rfl⟩ := h.row (by omega)
  have c0 := h.c0
  have c1 := h.c1
  have p0 := h.p0 hk
  have s0 := h.s0 hk
  have hk' : (k : Int) < n := by omega
  clear h
  go_enter Try.func80, Try.ntmps80
  go_wp2
  go_ret
  exact ⟨rfl, rfl⟩
theorem qread_no9 {w : World} {B n : Nat} {C : Nat → Sec} {v : Value} {b : Nat → Nat} (h : QdIs B n n C v b w) (h1 : 1 ≤ n) (h2 : n ≤ 4096) (s : Int) (hs : ¬ (0 ≤ s ∧ s < n)) : Calls Try.prog 73 #[.pointer (some ⟨B + 1, 0, none⟩), .int .i64 s] w fun e w' => e = .returned (.tuple #[.slice none 0 0, .int .i64 2]) ∧ w = w' := by
  have HI := Lib.hid (qin_any9 h h1 h2 s)
  clear h
  go_enter Try.func73, Try.ntmps73
  go_wp2_with (go_at_call 79; refine HI.out.mono ?_; rintro e w' ⟨rfl, rfl⟩; rw [decide_eq_false hs])
  go_ret2
  exact ⟨rfl, rfl⟩
theorem qread_yes9 {w : World} {B n : Nat} {C : Nat → Sec} {v : Value} {b : Nat → Nat} (h : QdIs B n n C v b w) (h2 : n ≤ 4096) (k : Nat) (hk : k < n) : Calls Try.prog 73 #[.pointer (some ⟨B + 1, 0, none⟩), .int .i64 (k : Int)] w fun e w' => e = .returned (.tuple #[secV (b k), .int .i64 0]) ∧ w = w' := by
  have HI := Lib.hid (qin_any9 h (by omega) h2 (k : Int))
  have HS := Lib.hid (qseen_any9 h h2 k hk)
  clear h
  go_enter Try.func73, Try.ntmps73
  go_wp2_with (first
    | (go_at_call 79; refine HI.out.mono ?_; rintro e w' ⟨rfl, rfl⟩; rw [decide_eq_true (show 0 ≤ (k : Int) ∧ (k : Int) < n by omega)])
    | (go_at_call 80; refine HS.out.mono ?_; rintro e w' ⟨rfl, rfl⟩))
  go_ret2
  exact ⟨rfl, rfl⟩
set_option maxRecDepth 100000 in
set_option maxHeartbeats 2000000 in
theorem qbytes_any9 {w : World} {B n : Nat} {C : Nat → Sec} {v : Value} {b : Nat → Nat} (h : QdIs B n n C v b w) (h1 : 1 ≤ n) (h2 : n ≤ 4096) (hC : ∀ i, i < n → SecOk (C i)) : Calls Try.prog 50 #[.pointer (some ⟨B + 1, 0, none⟩)] w (BytesOut w (rowC C n)) := by
  obtain ⟨i0, hi, hz0, hz1, hz2⟩ := info_parts Try.infoU8k
  have hz2 : i0.bytes = 1 := hz2
  obtain ⟨g, c, rfl⟩ := h.row h1
  have H := Lib.hid h
  have HCC := Lib.hid hC
  clear h hC
  go_enter Try.func50, Try.ntmps50
  go_wp2
  go_loopw [3, 4] (fun v i wr => ∃ k : Nat, k ≤ n ∧ i = .int .i64 (k : Int) ∧ wr.ownsRow w.heap.size 5 1 v (k * 128) (rowV (rowC C k)) ∧ Below w.heap.size w wr) (fun _ i _ => n - (intOf i).toNat)
  case atStart => exact ⟨0, Nat.zero_le _, rfl, ⟨rfl, .inl ⟨rfl, rfl⟩⟩, Below.refl _ w⟩
  case round =>
    obtain ⟨k, hk, rfl, ho, hb⟩ := hrel
    have HO := Lib.hid ho
    have HB := Lib.hid hb
    have H1 := H.out.keep hb
    have c0 := H1.c0
    by_cases hlt : k < n
    · have hlt' : (k : Int) < n := by omega
      have s0 := H1.s0 hlt
      have HOK := Lib.hid (HCC.out k hlt)
      have HNW := Lib.hid (show ∀ j u, (secL (C k))[j]? = some u → wr.cell? ((⟨b k, 0, none⟩ : Addr).add j) = some u from fun j u hj => by
        rw [Addr.add_mid, Nat.zero_add, cell_of_row _ _ _ _ _ _ (H1.sec k hlt).2.2.2]
        simpa using hj)
      have hs := hb.size
      clear H1 ho hb
      go_wp2_with (at_builtin; refine wpList_append_own _ rfl _ _ 34 rfl w.heap.size 5 i0 (.int .u8 0) 1 1 Try.underlying34 hi hz0 hz1 hz2 rfl (by decide) _ _ _ rfl HO.out ⟨b k, 0, none⟩ 128 128 (secL (C k)) rfl (by rw [secL_len HOK.out]) HNW.out secL_one (by unfold maxLen; omega) (by omega) hs ?_; intro v' w3 ho3 hg3 _; have HO3 := Lib.hid ho3; have HG3 := Lib.hid hg3; clear ho3 hg3)
      go_roundw
      case rel =>
        refine ⟨k + 1, hlt, by go_num, ?_, HB.out.grown HG3.out hs (fun r e => (HO.out.lt r e).1)⟩
        rw [rowC_succ, show (k + 1) * 128 = k * 128 + 128 by omega]
        exact HO3.out
      case measure => simp [intOf]; omega
    · have hlt' : ¬ (k : Int) < n := by omega
      obtain rfl : k = n := by omega
      clear H1 ho hb
      go_wp2
      go_ret
      exact ⟨_, rfl, by rw [rowC_len]; exact HO.out, HB.out⟩
end Go.Proofs.Ytgpdkfmneoggkaa
