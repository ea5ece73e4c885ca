/- Bytes; are rows of sectors alike; maps that are empty; Same, where nothing is pending. -/
import Derived.Test.YtbnfjceoogehmaaDkK
namespace Go.Proofs.Ytbnfjceoogehmaa
open Go.RowKit
open Go.Maps (Keyed)
attribute [local go_sem] Oper.semAt_some

/-- All sectors' bytes. -/
def flat (L : List Sec) : List Int := L.flatMap id
theorem flat_map (L : List Sec) : (flat L).map (Value.int .u8) = rowV L := by
  unfold flat rowV
  rw [List.map_flatMap]
  rfl
theorem rowV_take {L : List Sec} {k : Nat} {c : Sec} (h : L[k]? = some c) : rowV (L.take (k + 1)) = rowV (L.take k) ++ secL c := by
  rw [List.take_add_one, h, rowV_append]
  show _ ++ rowV [c] = _
  rw [rowV_one]
theorem run_makeCap9 (n : Nat) (hn : n ≤ 1000000) (w : World) : (Instr.makeSlice 35 (.int .i64 0) (.int .i64 (n : Int))).run Try.prog w = .ok (.slice (some ⟨w.heap.size, 0, none⟩) 0 n) (w.alloc (.cells (madeCells #[.int .u8 0] n) 5)) := by
  obtain ⟨i, hi, hz, hs, hb⟩ := info_parts Try.infoU8k
  have := run_make (P := Try.prog) w 35 5 i (.int .u8 0) Try.underlying35 hi hz .i64 .i64 0 n (by omega) (by omega) (by rw [hb]; omega) (by omega)
  rw [hs] at this
  simpa [Value.cells] using this
/-- Bytes, handed out. -/
def BytesOut (w : World) (L : List Sec) (e : Ending) (w' : World) : Prop := ∃ v, e = .returned v ∧ w'.ownsRow w.heap.size 5 1 v (L.length * 128) (rowV L) ∧ Below w.heap.size w w'
set_option maxHeartbeats 2000000 in
set_option maxRecDepth 100000 in
theorem bytes_any9 {w : World} {O : Nat → Prop} {d : Nat} {L : Lay9} {s : Dk} (h : DkAt w O d L s) : Calls Try.prog 24 #[.pointer (some ⟨d, 0, none⟩)] w (BytesOut w s.fl) := by
  obtain ⟨i0, hi, hz0, hz1, hz2⟩ := info_parts Try.infoU8k
  have hz2 : i0.bytes = 1 := hz2
  have H := Lib.hid h
  have c0 := h.c0
  have hn2 := h.ok.n2
  have c0a := fun o => (h.step (w' := w.alloc o) ((Below.refl _ w).alloc (Nat.le_refl _) _)).c0
  obtain ⟨n, hn⟩ : ∃ n, s.fl.length = n := ⟨_, rfl⟩
  have HN := Lib.hid hn
  rw [hn] at c0 hn2 c0a
  obtain ⟨m, hm⟩ : ∃ m, n * 128 = m := ⟨_, rfl⟩
  have hw : IntKind.i64.wrap ((n : Int) * 128) = (m : Int) := by rw [IntWalk.i64_in _ (by omega)]; omega
  have hmk := run_makeCap9 m (by omega)
  clear h hn
  go_enter Try.func24, Try.ntmps24
  go_wp2_with (go_at_call 39; refine (there_any9 H.out).mono ?_; rintro e w' ⟨rfl, rfl⟩)
  go_loopw [3, 21] (fun v i wr => ∃ k : Nat, k ≤ n ∧ i = .int .i64 (k : Int) ∧ wr.ownsRow w.heap.size 5 1 v (k * 128) (rowV (s.fl.take k)) ∧ Below w.heap.size w wr) (fun _ i _ => n - (intOf i).toNat)
  case atStart => exact ⟨0, Nat.zero_le _, rfl, by have := World.ownsRow_made (base := w.heap.size) (e := 5) (size := 1) w (madeCells #[.int .u8 0] m) m (Nat.le_refl _) (by unfold maxLen; omega) (by simp [madeCells]); simpa [rowV] using this, (Below.refl _ w).alloc (Nat.le_refl _) _⟩
  case round =>
    obtain ⟨k, hk, rfl, ho, hb⟩ := hrel
    have HO := Lib.hid ho
    have HB := Lib.hid hb
    clear ho hb c0
    by_cases hlt : k < n
    · have hlt' : (k : Int) < n := by omega
      obtain ⟨c, hc⟩ : ∃ c, s.fl[k]? = some c := ⟨_, List.getElem?_eq_getElem (by rw [HN.out]; exact hlt)⟩
      have HC := Lib.hid hc
      have HOK := Lib.hid (H.out.ok.f c (List.mem_of_getElem? hc))
      have H1 := Lib.hid (H.out.step HB.out)
      have HRG := Lib.hid (row_range H1.out.row H1.out.ok.f hc)
      have hs := HB.out.size
      have hrow := setRow_heap (wr.alloc (.cells Try.zeroCells85 85)) wr.heap.size _ (secA c) _ _ (heap_alloc_new wr _)
      have HNW := Lib.hid (World.news_of_block hrow)
      have HO1 := Lib.hid (owns_eq HO.out (w' := (wr.alloc (.cells Try.zeroCells85 85)).setRow wr.heap.size (secA c)) (fun g e => by
        have := (HO.out.lt g e).2
        exact (setRow_other _ _ _ _ (by omega)).trans (Below.heap_alloc wr _ g this)))
      clear hc hrow
      go_wp2_with (first
        | (refine wpList_load_sec rfl _ rfl L.F (k * 128) rfl c HOK.out HRG.out ?_)
        | (refine wpList_store_sec rfl _ _ rfl rfl wr.heap.size c rfl rfl 85 _ (heap_alloc_new wr _) rfl HOK.out ?_)
        | (at_builtin; refine wpList_append_own _ rfl _ _ 35 rfl w.heap.size 5 i0 (.int .u8 0) 1 1 Try.underlying35 hi hz0 hz1 hz2 rfl (by decide) _ _ _ rfl HO1.out ⟨wr.heap.size, 0, none⟩ 128 128 (secL c) rfl (by rw [secL_len HOK.out]) HNW.out secL_one (by unfold maxLen; omega) (by omega) (by simp; omega) ?_; intro v' w3 ho3 hg3 _; have HO3 := Lib.hid ho3; have HG3 := Lib.hid hg3; clear ho3 hg3))
      go_roundw
      case rel =>
        refine ⟨k + 1, hlt, by go_num, ?_, ?_⟩
        · rw [rowV_take HC.out, show (k + 1) * 128 = k * 128 + 128 by omega]
          exact HO3.out
        · exact (below_setRow (HB.out.alloc hs _) hs _).grown HG3.out (by simp; omega) (fun r e => (HO1.out.lt r e).1)
      case measure => simp [intOf]; omega
    · have hlt' : ¬ (k : Int) < n := by omega
      obtain rfl : k = n := by omega
      go_wp2
      go_ret
      refine ⟨_, rfl, ?_, HB.out⟩
      have := HO.out
      rw [List.take_of_length_le (by rw [HN.out]; exact Nat.le_refl _)] at this
      rw [HN.out]
      exact this
end Go.Proofs.Ytbnfjceoogehmaa
