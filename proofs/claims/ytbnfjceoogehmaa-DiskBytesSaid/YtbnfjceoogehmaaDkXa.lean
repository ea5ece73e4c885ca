/- The document's disk, where nothing is pending: New. -/
import Derived.Test.YtbnfjceoogehmaaDkW
import Derived.Deep.RegionLaw
namespace Go.Proofs.Ytbnfjceoogehmaa
open Go.RowKit
open Go.Maps (Keyed)
attribute [local go_sem] Oper.semAt_some

def secV (b : Nat) : Value := .slice (some ⟨b, 0, none⟩) 128 128
def secsV (b : Nat → Nat) (k : Nat) : List Value := (List.range k).map fun i => secV (b i)
theorem secsV_len (b : Nat → Nat) (k : Nat) : (secsV b k).length = k := by simp [secsV]
theorem secsV_get (b : Nat → Nat) {k i : Nat} (h : i < k) : (secsV b k)[i]? = some (secV (b i)) := by
  unfold secsV; rw [List.getElem?_map, List.getElem?_range h]; rfl
theorem secsV_succ (b : Nat → Nat) (k g : Nat) : secsV b k ++ [secV g] = secsV (fun i => if i = k then g else b i) (k + 1) := by
  unfold secsV
  rw [List.range_succ, List.map_append]
  congr 1
  · refine List.map_congr_left (fun i hi => ?_)
    have := List.mem_range.1 hi
    simp only []
    rw [if_neg (by omega)]
  · simp
theorem zero_sec : madeCells #[.int .u8 0] 128 = (secL zeroS).toArray := by
  apply Array.ext'
  rw [toList_madeCells_one]
  simp [secL, zeroS]
/-- The document's disk, nothing pending: where what lies. -/
structure QdIs (B n k : Nat) (C : Nat → Sec) (v : Value) (b : Nat → Nat) (wr : World) : Prop where
  pend : wr.heap[B]? = some (.cells (madeCells #[.slice none 0 0] n) 64 (0, 0))
  disk : wr.heap[B + 1]? = some (.cells #[v, .slice (some ⟨B, 0, none⟩) n n, .int .i64 0] 66 (0, 0))
  own : wr.ownsRow (B + 2) 35 1 v k (secsV b k)
  sec : ∀ i : Nat, i < k → B + 2 ≤ b i ∧ b i < wr.heap.size ∧ v.ownBlock ≠ some (b i) ∧ wr.heap[b i]? = some (.cells (secL (C i)).toArray 5 (0, 0))
  apart : ∀ i j : Nat, i < k → j < k → b i = b j → i = j
def QdAt (B n k : Nat) (C : Nat → Sec) (wr : World) : Prop := ∃ v b, QdIs B n k C v b wr
theorem QdIs.keep {B n k : Nat} {C : Nat → Sec} {v : Value} {b : Nat → Nat} {w w' : World} (h : QdIs B n k C v b w) (hb : Below w.heap.size w w') : QdIs B n k C v b w' := by
  have lt1 := (Array.getElem?_eq_some_iff.1 h.pend).1
  have lt2 := (Array.getElem?_eq_some_iff.1 h.disk).1
  refine ⟨(hb.block _ lt1).trans h.pend, (hb.block _ lt2).trans h.disk, h.own.kept (row := none) ⟨hb.os, hb.tape, hb.output, hb.size, fun j hj _ => hb.block j hj⟩ ?_, fun i hi => ?_, h.apart⟩
  · by_cases e : v.ownBlock = none
    · exact .inl e
    · exact .inr e
  · obtain ⟨h1, h2, h3, h4⟩ := h.sec i hi
    exact ⟨h1, Nat.lt_of_lt_of_le h2 hb.size, h3, (hb.block _ h2).trans h4⟩
theorem Try.infoB3 : (Try.prog.info? 64).map (fun i => (i.zero, i.size, i.bytes)) = some (some (.slice none 0 0), 1, 24) := by kernel_rfl
theorem Try.infoB2 : (Try.prog.info? 35).map (fun i => (i.zero, i.size, i.bytes)) = some (some (.slice none 0 0), 1, 24) := by kernel_rfl
theorem run_b3 (n : Nat) (hn : n ≤ 4096) (w : World) : (Instr.makeSlice 63 (.int .i64 (n : Int)) (.int .i64 (n : Int))).run Try.prog w = .ok (.slice (some ⟨w.heap.size, 0, none⟩) n n) (w.alloc (.cells (madeCells #[.slice none 0 0] n) 64)) := by
  obtain ⟨i, hi, hz, hs, hb⟩ := info_parts Try.infoB3
  have := run_make (P := Try.prog) w 63 64 i (.slice none 0 0) Try.underlying63 hi hz .i64 .i64 n n (by omega) (Int.le_refl _) (by rw [hb]; omega) (by omega)
  rw [hs] at this
  simpa [Value.cells] using this
theorem qnew_no9 (n : Int) (h : n < 1 ∨ 4096 < n) (w : World) : Calls Try.prog 9 #[.int .i64 n] w fun e w' => e = .returned (.pointer none) ∧ w = w' := by
  by_cases h1 : n < 1
  · go_enter Try.func9, Try.ntmps9
    go_wp2
    go_ret
    exact ⟨rfl, rfl⟩
  · have h2 : 4096 < n := by omega
    go_enter Try.func9, Try.ntmps9
    go_wp2
    go_ret
    exact ⟨rfl, rfl⟩
/-- An append of a slice that the call itself has made, at the step of a region that draws its order. -/
theorem step_append_own {P : Program} {ops : Array Oper} {o : Oper} {a : Act} {w : World} {K : Act → World → Prop} {Q : Exit → Act → World → Prop} {E : Prop}
    (hg : o.guard = none) (s x : Operand) (t : TypeId) (hop : o.op = Op.call { callee := Callee.builtin Builtin.append, args := #[s, x], argTypes := #[t, t] })
    (base : Nat) (e : TypeId) (i : TypeInfo) (z : Value) (size bytes : Nat) (h1 : P.underlying t = some (.slice e)) (h2 : P.info? e = some i) (h3 : i.zero = some z) (h4 : i.size = size) (h5 : i.bytes = bytes) (h6 : z.cells.size = size) (h7 : 0 < size)
    (v : Value) (n : Nat) (xs : List Value) (hs : a.eval s = v) (hown : w.ownsRow base e size v n xs)
    (ad : Addr) (m c : Nat) (news : List Value) (hx : a.eval x = .slice (some ad) m c) (hn : news.length = m * size) (hc : ∀ j u, news[j]? = some u → w.cell? (ad.add j) = some u) (h1c : ∀ u ∈ news, u.oneCell' = true)
    (b1 : n + m ≤ maxLen) (b2 : (n + m) * bytes ≤ 140737488355328) (hbase : base ≤ w.heap.size)
    (hK : ∀ v' w', w'.ownsRow base e size v' (n + m) (xs ++ news) → w.grownBy w' v.ownBlock → K (a.put o.dst v') w') :
    if Region.wanted o (yielded ops a.tmps) = true then Oper.wp P o a w K Q else E := by
  have hw : Region.wanted o (yielded ops a.tmps) = true := by simp [Region.wanted, hg]
  rw [if_pos hw]
  obtain ⟨v', w', hrun, r1, r2, _⟩ := run_append_own (P := P) w base t o.type e i z size bytes h1 h2 h3 h4 h5 h6 h7 v n xs hown ad m c news hn hc h1c b1 b2 hbase
  unfold Oper.wp
  simp [execOp, hop, resolve, invoke, builtin, hs, hx, hrun, Result.andThen]
  exact hK v' w' r1 r2
theorem sl_of {w : World} {B : Nat} {e : TypeId} {m : Nat} {v : Value} {n : Nat} {xs : List Value} (h : w.ownsRow B e m v n xs) : ∃ a n c, v = .slice a n c := by
  rcases owns_sl h with e | ⟨g, n, c, e⟩
  · exact ⟨none, 0, 0, e⟩
  · exact ⟨_, n, c, e⟩
theorem own_ty {w : World} {B : Nat} {e : TypeId} {m : Nat} {v : Value} {n : Nat} {xs : List Value} (h : w.ownsRow B e m v n xs) {g : Nat} (hg : v.ownBlock = some g) : ∃ cur, w.heap[g]? = some (.cells cur e (0, 0)) := by
  obtain ⟨-, h2 | ⟨g', cap, cur, rfl, -, h4, -⟩⟩ := h
  · rw [h2.1] at hg; cases hg
  · cases hg; exact ⟨cur, h4⟩
theorem cell_one_two (w : World) (o : Obj) (a : Value) (t : TypeId) : ∀ j u, [a][j]? = some u → (((w.alloc o).alloc (.cells #[a] t)).drew).cell? ((⟨w.heap.size + 1, 0, none⟩ : Addr).add j) = some u := fun j u hj => by
  have hg : ((w.alloc o).alloc (.cells #[a] t)).heap[(w.alloc o).heap.size]? = some (.cells #[a] t (0, 0)) := heap_alloc_new _ _
  rw [show (w.alloc o).heap.size = w.heap.size + 1 by simp] at hg
  rw [Addr.add_mid, Nat.zero_add, World.cell?_drew, cell_of_row _ _ _ _ _ _ hg]
  simpa using hj
section
variable {n k : Nat} {w wr w3 : World} {v v' : Value} {b : Nat → Nat} {o : Obj}
theorem qnew_mid (hq : QdIs w.heap.size n k (fun _ => zeroS) v b wr) (hg : (((wr.alloc (.cells (madeCells #[.int .u8 0] 128) 5)).alloc o).drew).grownBy w3 v.ownBlock) :
    w3.heap[w.heap.size + 1]? = some (.cells #[v, .slice (some ⟨w.heap.size, 0, none⟩) n n, .int .i64 0] 66 (0, 0)) ∧ w3.cell? ⟨w.heap.size + 1, 0, none⟩ = some v ∧ ∀ j, w3.frozen? ⟨w.heap.size + 1, j, none⟩ = false := by
  have lt2 := (Array.getElem?_eq_some_iff.1 hq.disk).1
  have e1 : w3.heap[w.heap.size + 1]? = some (.cells #[v, .slice (some ⟨w.heap.size, 0, none⟩) n n, .int .i64 0] 66 (0, 0)) := by
    refine (hg.block _ (by simp; omega) (fun e => by have := (hq.own.lt _ e.symm).1; omega)).trans ?_
    exact ((Below.heap_alloc _ _ _ (by simp; omega)).trans (Below.heap_alloc _ _ _ lt2)).trans hq.disk
  exact ⟨e1, cell_of_row _ _ 0 _ _ _ e1, fun j => frozen_of_row _ _ _ _ _ e1⟩
theorem qnew_round (hq : QdIs w.heap.size n k (fun _ => zeroS) v b wr) (hb : Below w.heap.size w wr) (ho : w3.ownsRow (w.heap.size + 2) 35 1 v' (k + 1) (secsV b k ++ [secV wr.heap.size]))
    (hg : (((wr.alloc (.cells (madeCells #[.int .u8 0] 128) 5)).alloc o).drew).grownBy w3 v.ownBlock) :
    Below w.heap.size w (w3.setCell ⟨w.heap.size + 1, 0, none⟩ v') ∧ QdAt w.heap.size n (k + 1) (fun _ => zeroS) (w3.setCell ⟨w.heap.size + 1, 0, none⟩ v') := by
  have lt1 := (Array.getElem?_eq_some_iff.1 hq.pend).1
  have lt2 := (Array.getElem?_eq_some_iff.1 hq.disk).1
  have hs3 := hg.size
  have hs3' : wr.heap.size + 2 ≤ w3.heap.size := by simpa using hs3
  have hbs := hb.size
  have key : ∀ j, j < wr.heap.size → some j ≠ v.ownBlock → w3.heap[j]? = wr.heap[j]? := fun j hj hne =>
    (hg.block _ (by simp; omega) hne).trans ((Below.heap_alloc _ _ _ (by simp; omega)).trans (Below.heap_alloc _ _ _ hj))
  have hol := hq.own.lt
  have fresh : w3.heap[wr.heap.size]? = some (.cells (secL zeroS).toArray 5 (0, 0)) := by
    refine (hg.block _ (by simp; omega) (fun e => by have := (hol _ e.symm).2; omega)).trans ?_
    refine (Below.heap_alloc _ _ _ (by simp)).trans ?_
    rw [← zero_sec]
    exact heap_alloc_new wr _
  have hd := (qnew_mid hq hg).1
  refine ⟨?_, v', fun i => if i = k then wr.heap.size else b i, ?_, ?_, ?_, ?_, ?_⟩
  · refine Below.setCell ?_ (by simp) v'
    exact Below.grown (((hb.alloc hbs _).alloc (by simp; omega) _).drew) hg (by simp; omega) (fun j e => by have := (hol j e).1; omega)
  · refine (heap_setCell_other _ _ _ _ (by simp)).trans ((key _ lt1 (fun e => by have := (hol _ e.symm).1; omega)).trans hq.pend)
  · have := heap_setCell_same w3 (w.heap.size + 1) 0 _ _ v' hd
    simpa using this
  · rw [← secsV_succ]
    refine ho.kept (row := some (w.heap.size + 1)) ⟨rfl, rfl, rfl, by simp, fun j hj hne => heap_setCell_other _ _ _ _ (fun e => hne (by rw [e]))⟩ (.inr (fun e => ?_))
    have := (ho.lt _ e).1
    omega
  · have typ : ∀ g row, w3.heap[g]? = some (.cells row 5 (0, 0)) → v'.ownBlock ≠ some g := fun g row h1 e => by
      obtain ⟨cur, h2⟩ := own_ty ho e
      rw [h1] at h2
      cases h2
    intro i hi
    show w.heap.size + 2 ≤ (if i = k then wr.heap.size else b i) ∧ (if i = k then wr.heap.size else b i) < (w3.setCell _ v').heap.size ∧ v'.ownBlock ≠ some (if i = k then wr.heap.size else b i) ∧ (w3.setCell _ v').heap[if i = k then wr.heap.size else b i]? = _
    rw [show (w3.setCell ⟨w.heap.size + 1, 0, none⟩ v').heap.size = w3.heap.size by simp]
    by_cases e : i = k
    · rw [if_pos e]
      exact ⟨by omega, by omega, typ _ _ fresh, (heap_setCell_other _ _ _ _ (by simp; omega)).trans fresh⟩
    · rw [if_neg e]
      obtain ⟨s1, s2, s3, s4⟩ := hq.sec i (by omega)
      have s5 := (key _ s2 (fun e => s3 e.symm)).trans s4
      exact ⟨s1, by omega, typ _ _ s5, (heap_setCell_other _ _ _ _ (by simp; omega)).trans s5⟩
  · intro i j hi hj (e : (if i = k then wr.heap.size else b i) = (if j = k then wr.heap.size else b j))
    by_cases e1 : i = k
    · by_cases e2 : j = k
      · omega
      · rw [if_pos e1, if_neg e2] at e
        have := (hq.sec j (by omega)).2.1
        omega
    · by_cases e2 : j = k
      · rw [if_neg e1, if_pos e2] at e
        have := (hq.sec i (by omega)).2.1
        omega
      · rw [if_neg e1, if_neg e2] at e
        exact hq.apart i j (by omega) (by omega) e
end
set_option maxHeartbeats 4000000 in
set_option maxRecDepth 100000 in
theorem qnew_yes9 (n : Nat) (h1 : 1 ≤ n) (h2 : n ≤ 4096) (w : World) : Calls Try.prog 9 #[.int .i64 (n : Int)] w fun e w' => e = .returned (.pointer (some ⟨w.heap.size + 1, 0, none⟩)) ∧ QdAt w.heap.size n n (fun _ => zeroS) w' ∧ Below w.heap.size w w' := by
  have hmk := fun w => run_b3 n h2 w
  have hmk8 : ∀ w : World, (Instr.makeSlice 35 (.int .i64 128) (.int .i64 128)).run Try.prog w = .ok (.slice (some ⟨w.heap.size, 0, none⟩) 128 128) (w.alloc (.cells (madeCells #[.int .u8 0] 128) 5)) := fun w => run_make9 128 (by omega) w
  obtain ⟨i0, hi, hz0, hz1, hz2⟩ := info_parts Try.infoB2
  have hz2 : i0.bytes = 24 := hz2
  have l1 : ¬ (n : Int) < 1 := by omega
  have l2 : ¬ (4096 : Int) < n := by omega
  go_enter Try.func9, Try.ntmps9
  go_wp2
  go_loopw [4] (fun i wr => ∃ k : Nat, k ≤ n ∧ i = .int .i64 (k : Int) ∧ QdAt w.heap.size n k (fun _ => zeroS) wr ∧ Below w.heap.size w wr) (fun i _ => n - (intOf i).toNat)
  case atStart => 
    refine ⟨0, Nat.zero_le _, rfl, ⟨.slice none 0 0, fun i => i, ?_, ?_, ?_, fun i hi => absurd hi (by omega), fun i j hi => absurd hi (by omega)⟩, ?_⟩
    · exact (Below.heap_alloc _ _ _ (by simp)).trans (heap_alloc_new w _)
    · have := heap_alloc_new (w.alloc (.cells (madeCells #[.slice none 0 0] n) 64)) (.cells #[.slice none 0 0, .slice (some ⟨w.heap.size, 0, none⟩) n n, .int .i64 0] 66)
      simpa using this
    · exact ⟨rfl, .inl ⟨rfl, rfl⟩⟩
    · exact ((Below.refl _ w).alloc (Nat.le_refl _) _).alloc (by simp) _
  case round =>
    obtain ⟨k, hk, rfl, ⟨v, b, hq⟩, hb⟩ := hrel
    have hr := hq.disk
    have ho := hq.own
    have HQ := Lib.hid hq
    have HB := Lib.hid hb
    have HR := Lib.hid hr
    have HO := Lib.hid ho
    obtain ⟨va, vn, vc, hva⟩ : ∃ a n c, v = .slice a n c := by
      rcases owns_sl ho with e | ⟨g, n, c, e⟩
      · exact ⟨none, 0, 0, e⟩
      · exact ⟨_, n, c, e⟩
    subst hva
    have hrl := (Array.getElem?_eq_some_iff.1 hr).1
    have c0 : wr.cell? ⟨w.heap.size + 1, 0, none⟩ = some (.slice va vn vc) := cell_of_row _ _ 0 _ _ _ hr
    have f0 : ∀ j, wr.frozen? ⟨w.heap.size + 1, j, none⟩ = false := fun j => frozen_of_row _ _ _ _ _ hr
    have c1 : (wr.alloc (.cells (madeCells #[.int .u8 0] 128) 5)).cell? ⟨w.heap.size + 1, 0, none⟩ = some (.slice va vn vc) := (World.cell?_of_block (a := ⟨w.heap.size + 1, 0, none⟩) (Below.heap_alloc _ _ _ hrl)).trans c0
    have c2 : ((wr.alloc (.cells (madeCells #[.int .u8 0] 128) 5)).alloc (.cells #[.slice (some ⟨wr.heap.size, 0, none⟩) 128 128] 35)).cell? ⟨w.heap.size + 1, 0, none⟩ = some (.slice va vn vc) := (World.cell?_of_block (a := ⟨w.heap.size + 1, 0, none⟩) (Below.heap_alloc _ _ _ (by simp; omega))).trans c1
    clear hq hr ho hb
    by_cases hlt : k < n
    · have hlt' : (k : Int) < n := by omega
      go_wp2
      go_region_law (refine step_append_own rfl _ _ 64 rfl (w.heap.size + 2) 35 i0 (.slice none 0 0) 1 24 Try.underlying64 hi hz0 hz1 hz2 rfl (by decide) _ k (secsV b k) rfl ((HO.out.alloc (.cells (madeCells #[.int .u8 0] 128) 5)).alloc (.cells #[secV wr.heap.size] 35)) ⟨wr.heap.size + 1, 0, none⟩ 1 1 [secV wr.heap.size] rfl rfl (cell_one_two wr _ _ _) (by simp [Value.oneCell', secV]) (by unfold maxLen; omega) (by omega) (by simp; omega) ?_; intro v' w3 hown' hg3; obtain ⟨va', vn', vc', hva'⟩ := sl_of hown'; subst hva'; obtain ⟨hB3, hQ3⟩ := qnew_round HQ.out HB.out hown' hg3; have HB3 := Lib.hid hB3; have HQ3 := Lib.hid hQ3; have hw3 := (qnew_mid HQ.out hg3).1; have c3 := (qnew_mid HQ.out hg3).2.1; have f3 := (qnew_mid HQ.out hg3).2.2; clear hB3 hQ3 hg3 hown')
      all_goals go_wp2
      all_goals go_roundw
      all_goals first
        | exact ⟨k + 1, hlt, by go_num, HQ3.out, HB3.out⟩
        | (simp [intOf]; omega)
    · have hlt' : ¬ (k : Int) < n := by omega
      obtain rfl : k = n := by omega
      go_wp2
      go_ret
      exact ⟨rfl, ⟨_, b, HQ.out⟩, HB.out⟩
end Go.Proofs.Ytbnfjceoogehmaa
