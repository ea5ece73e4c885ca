/- New, clean. -/
import Derived.Test.YtgpdkfmneoggkaaDkB
import Derived.Laws.MakeOwn
namespace Go.Proofs.Ytgpdkfmneoggkaa
open Go.RowKit
open Go.Maps (Keyed)

def newD (fl : List Sec) (wr : Nat) : Dk := ⟨fl, fun _ => [], wr⟩
theorem newD_ok {fl : List Sec} {wr : Nat} (h1 : 1 ≤ fl.length) (h2 : fl.length ≤ 4096) (hf : ∀ c ∈ fl, SecOk c) (hw : wr ≤ 1000000) : DkOk (newD fl wr) :=
  ⟨h1, h2, hf, fun _ c hc => (List.not_mem_nil hc).elim, fun _ _ => rfl, fun _ => Nat.zero_le _, hw⟩
set_option maxRecDepth 100000 in
set_option maxHeartbeats 1000000 in
theorem clean_any {w : World} {F cap : Nat} {fl : List Sec} {wr : Nat} (ho : w.ownsRow 0 108 128 (.slice (some ⟨F, 0, none⟩) fl.length cap) fl.length (rowV fl)) (ok : DkOk (newD fl wr)) :
    Calls Try.prog 60 #[.slice (some ⟨F, 0, none⟩) fl.length cap, .int .i64 (wr : Int)] w fun e w' => e = .returned (.pointer (some ⟨w.heap.size + 1, 0, none⟩)) ∧
      DkAt w' (fun k => k = F ∨ (w.heap.size ≤ k ∧ k < w'.heap.size)) (w.heap.size + 1) ⟨F, cap, w.heap.size, fun _ => .slice none 0 0⟩ (newD fl wr) ∧ Below w.heap.size w w' := by
  have hmm := @run_makeMap Try.prog
  have HO := Lib.hid ho
  have hF := (ho.lt F rfl).2
  have OK := Lib.hid ok
  clear ho ok
  generalize hn : fl.length = n
  go_enter Try.func60, Try.ntmps60
  go_wp2_with fail
  go_ret
  have hb : ∀ o o' : Obj, Below w.heap.size w ((w.alloc o).alloc o') := fun o o' => ((Below.refl _ w).alloc (Nat.le_refl _) _).alloc (by rw [World.size_alloc]; omega) _
  refine ⟨rfl, ?_, hb _ _⟩
  subst hn
  have hd := heap_alloc_new (w.alloc (.map #[] 0)) (.cells #[.slice (some ⟨F, 0, none⟩) fl.length cap, .map (some w.heap.size), .int .i64 (wr : Int)] 105 (0, 0))
  rw [World.size_alloc] at hd
  refine ⟨OK.out, hd, owns_eq HO.out (fun g e => (hb _ _).block g (HO.out.lt g e).2), ⟨.map [], 0, Nat.zero_le _, ?_, Maps.tidy_empty, fun k hk => (by cases hk), fun i => rfl, fun i => rfl⟩,
    fun i => World.ownsRow_nil _ _ _ _, fun i e => (by cases e), fun i j k _ e => (by cases e), .inr ⟨by omega, by simp⟩, .inl rfl, .inr ⟨Nat.le_refl _, by simp only [World.size_alloc]; omega⟩, fun i k e => (by cases e), fun k hk => ?_⟩
  · exact ownsMap_eq9 (World.ownsMap_made w _ _ _) (Below.heap_alloc _ _ _ (by rw [World.size_alloc]; exact Nat.lt_succ_self _))
  · rcases hk with rfl | ⟨-, h⟩
    · simp; omega
    · exact h
theorem zero_row (n : Nat) : (madeCells (secA zeroS) (n * 128)).toList = rowV (List.replicate n zeroS) := by
  have hz : ∀ c ∈ List.replicate n zeroS, SecOk c := fun c hc => by rw [(List.mem_replicate.1 hc).2]; exact zeroS_ok
  have hl := rowV_len hz
  rw [List.length_replicate] at hl
  apply List.ext_getElem?
  intro k
  by_cases hk : k < n * 128
  · have h1 := rowV_get hz (i := k / 128) (c := zeroS) (by rw [List.getElem?_replicate, if_pos (by omega)]) (k % 128) (by omega)
    rw [show k / 128 * 128 + k % 128 = k by omega] at h1
    have h3 : (secL zeroS)[k % 128]? = some (.int .u8 0) := by
      unfold secL zeroS
      rw [List.map_replicate, List.getElem?_replicate, if_pos (by omega)]
    have h4 : (secA zeroS)[k % 128]? = some (.int .u8 0) := by unfold secA; rw [List.getElem?_toArray]; exact h3
    rw [h1, h3, Array.getElem?_toList]
    unfold madeCells
    rw [Array.getElem?_map, Array.getElem?_range, if_pos hk, secA_size zeroS_ok, Option.map_some, getElem!_def, h4]
  · rw [List.getElem?_eq_none (by rw [Array.length_toList]; simp [madeCells]; omega), List.getElem?_eq_none (by rw [hl]; omega)]
theorem run_conts (n : Nat) (hn : n ≤ 4096) (w : World) : (Instr.makeSlice 102 (.int .i64 (n : Int)) (.int .i64 (n : Int))).run Try.prog w = .ok (.slice (some ⟨w.heap.size, 0, none⟩) n n) (w.alloc (.cells (rowV (List.replicate n zeroS)).toArray 108)) := by
  obtain ⟨i, hi, hzz⟩ := Option.map_eq_some_iff.1 Try.zCont
  simp only [Prod.mk.injEq] at hzz
  obtain ⟨hz, hs, hb⟩ := hzz
  have := run_make (P := Try.prog) w 102 108 i _ Try.underlying102 hi hz .i64 .i64 n n (by omega) (Int.le_refl _) (by rw [hb]; omega) (by omega)
  rw [hs, Int.toNat_natCast, show (Value.agg (secA zeroS)).cells = secA zeroS from rfl] at this
  rw [this, ← zero_row, Array.toArray_toList]
theorem rep_ok (n : Nat) : ∀ c ∈ List.replicate n zeroS, SecOk c := fun c hc => by rw [(List.mem_replicate.1 hc).2]; exact zeroS_ok
/-- A disk that is new. -/
def NewOut9 (w : World) (s : Dk) (e : Ending) (w' : World) : Prop :=
  ∃ d O L, e = .returned (.tuple #[.pointer (some ⟨d, 0, none⟩), .int .i64 0]) ∧ DkAt w' O d L s ∧ (∀ k, O k → w.heap.size ≤ k) ∧ Below w.heap.size w w'
set_option maxRecDepth 100000 in
set_option maxHeartbeats 1000000 in
theorem new_yes9 (n : Nat) (h1 : 1 ≤ n) (h2 : n ≤ 4096) (w : World) : Calls Try.prog 19 #[.int .i64 (n : Int)] w (NewOut9 w (newD (List.replicate n zeroS) 0)) := by
  have hmk := fun w => run_conts n h2 w
  have ok : DkOk (newD (List.replicate n zeroS) 0) := newD_ok (by simp; omega) (by simp; omega) (rep_ok n) (by omega)
  have hc := clean_any (w := w.alloc (.cells (rowV (List.replicate n zeroS)).toArray 108)) (F := w.heap.size) (cap := n) (fl := List.replicate n zeroS) (wr := 0)
    (by
      have := World.ownsRow_lit (base := 0) (e := 108) (size := 128) w (rowV (List.replicate n zeroS)).toArray n (Nat.zero_le _) (by unfold maxLen; omega) (by rw [List.size_toArray, rowV_len (rep_ok n), List.length_replicate])
      rw [List.length_replicate]
      simpa using this) ok
  rw [List.length_replicate] at hc
  have HC := Lib.hid hc
  have l1 : ¬ (n : Int) < 1 := by omega
  have l2 : ¬ (4096 : Int) < n := by omega
  clear hc ok
  go_enter Try.func19, Try.ntmps19
  go_wp2_with fail
  refine HC.out.mono ?_
  rintro e w2 ⟨rfl, hD, hb⟩
  rw [World.size_alloc] at hD
  have HD := Lib.hid hD
  have HB := Lib.hid (((Below.refl _ w).alloc (Nat.le_refl _) (.cells (rowV (List.replicate n zeroS)).toArray 108)).trans (hb.mono (by simp)))
  clear hD hb
  go_wp2
  go_ret2
  refine ⟨_, _, _, rfl, HD.out, fun k hk => ?_, HB.out⟩
  rcases hk with rfl | ⟨h, -⟩
  · exact Nat.le_refl _
  · omega
theorem new_no9 (n : Int) (h : n < 1 ∨ 4096 < n) (w : World) : Calls Try.prog 19 #[.int .i64 n] w fun e w' => e = .returned (.tuple #[.pointer none, .int .i64 2]) ∧ w = w' := by
  by_cases h1 : n < 1
  · go_enter Try.func19, Try.ntmps19
    go_wp2
    go_ret2
    exact ⟨rfl, rfl⟩
  · have h2 : 4096 < n := by omega
    go_enter Try.func19, Try.ntmps19
    go_wp2
    go_ret2
    exact ⟨rfl, rfl⟩
end Go.Proofs.Ytgpdkfmneoggkaa
