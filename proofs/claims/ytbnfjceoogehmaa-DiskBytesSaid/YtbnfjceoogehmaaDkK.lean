/- The law's helpers: num, sector, reads; disks that are none: Bytes, Copy, Same, Dirty. -/
import Derived.Test.YtbnfjceoogehmaaDkJ
import Derived.Test.YtbnfjceoogehmaaFrmRange
import Derived.Laws.BytesString
import Derived.Laws.BytesArg
import Derived.WalkMore
namespace Go.Proofs.Ytbnfjceoogehmaa
open Go.RowKit Go.Shelf
open Go.Maps (Keyed)
attribute [local go_sem] Oper.semAt_some

theorem num_any9 (n : Int) (w : World) : Calls Try.prog 10 #[.int .i64 n] w fun e w' => e = .returned (.int .i64 n) ∧ w = w' := by
  go_enter Try.func10, Try.ntmps10
  go_wp2
  go_ret
  exact ⟨rfl, rfl⟩
theorem bytes_no9 {w : World} {v : Value} (h : NoDk w v) : Calls Try.prog 24 #[v] w fun e w' => e = .returned (.slice none 0 0) ∧ w = w' := by
  go_enter Try.func24, Try.ntmps24
  go_wp2_with (go_at_call 39; refine (there_no9 h).mono ?_; rintro e w' ⟨rfl, rfl⟩)
  go_ret
  exact ⟨rfl, rfl⟩
theorem copy_no9 {w : World} {v : Value} (h : NoDk w v) : Calls Try.prog 38 #[v] w fun e w' => e = .returned (.pointer none) ∧ w = w' := by
  go_enter Try.func38, Try.ntmps38
  go_wp2
  go_step3
  go_wp2_with (go_at_call 39; refine (there_no9 h).mono ?_; rintro e w' ⟨rfl, rfl⟩)
  try rw [Exit.noGoto_ret]
  go_ret
  exact ⟨rfl, rfl⟩
theorem there_nil9 (w : World) : Calls Try.prog 39 #[.pointer none] w fun e w' => e = .returned (.bool false) ∧ w = w' := there_no9 (.inl rfl)
theorem same_nil9 (w : World) : Calls Try.prog 17 #[.pointer none, .pointer none] w fun e w' => e = .returned (.bool true) ∧ w = w' := by
  go_enter Try.func17, Try.ntmps17
  go_wp2_with (go_at_call 39; refine (there_nil9 _).mono ?_; rintro e w' ⟨rfl, rfl⟩)
  go_ret
  exact ⟨rfl, rfl⟩
theorem same_one9 {w : World} {O : Nat → Prop} {d : Nat} {L : Lay9} {s : Dk} (h : DkAt w O d L s) : Calls Try.prog 17 #[.pointer none, .pointer (some ⟨d, 0, none⟩)] w fun e w' => e = .returned (.bool false) ∧ w = w' := by
  go_enter Try.func17, Try.ntmps17
  go_wp2_with (first
    | (with_reducible (go_at_call 39; refine (there_nil9 _).mono ?_); rintro e w' ⟨rfl, rfl⟩)
    | (with_reducible (go_at_call 39; refine (there_any9 h).mono ?_); rintro e w' ⟨rfl, rfl⟩))
  go_ret
  exact ⟨rfl, rfl⟩
theorem dirty_any9 (v : Value) (w : World) (h1 : v.oneCell' = true) : Calls Try.prog 34 #[v] w fun e w' => e = .returned (.func (.func 49) #[] #[.pointer (some ⟨w.heap.size, 0, none⟩)]) ∧ w' = w.alloc (.cells #[v] 23) := by
  go_enter Try.func34, Try.ntmps34
  go_wp2
  go_ret
  exact ⟨rfl, rfl⟩
theorem dirtyL_no9 {w : World} {v : Value} (h : NoDk w v) : Calls Try.prog 50 #[v] w fun e w' => e = .returned (.slice none 0 0) ∧ w = w' := by
  go_enter Try.func50, Try.ntmps50
  go_wp2_with (go_at_call 39; refine (there_no9 h).mono ?_; rintro e w' ⟨rfl, rfl⟩)
  go_ret
  exact ⟨rfl, rfl⟩

theorem Try.infoU8k : (Try.prog.info? 5).map (fun i => (i.zero, i.size, i.bytes)) = some (some (.int .u8 0), 1, 1) := by kernel_rfl
theorem run_make9 (n : Nat) (hn : n ≤ 1000000) (w : World) : (Instr.makeSlice 35 (.int .i64 (n : Int)) (.int .i64 (n : Int))).run Try.prog w = .ok (.slice (some ⟨w.heap.size, 0, none⟩) n n) (w.alloc (.cells (madeCells #[.int .u8 0] n) 5)) := by
  obtain ⟨i, hi, hz, hs, hb⟩ := info_parts Try.infoU8k
  have := run_make (P := Try.prog) w 35 5 i (.int .u8 0) Try.underlying35 hi hz .i64 .i64 n n (by omega) (Int.le_refl _) (by rw [hb]; omega) (by omega)
  rw [this, hs]
  simp [Value.cells]
/-- A sector full of a byte. -/
def fullS (c : Int) : Sec := List.replicate 128 c
theorem fullS_ok {c : Int} (h0 : 0 ≤ c) (h1 : c < 256) : SecOk (fullS c) := ⟨by simp [fullS], fun x hx => by rw [(List.mem_replicate.1 hx).2]; exact ⟨h0, h1⟩⟩
/-- A slice of a sector's bytes. -/
def SecSl (w : World) (c : Sec) (e : Ending) (w' : World) : Prop := ∃ g k, e = .returned (.slice (some ⟨g, 0, none⟩) 128 k) ∧ w.heap.size ≤ g ∧ w'.rangeAt g 0 (secL c) ∧ Below w.heap.size w w'
set_option maxHeartbeats 1000000 in
set_option maxRecDepth 100000 in
theorem sector_any9 (c : Int) (w : World) : Calls Try.prog 19 #[.int .u8 c] w (SecSl w (fullS c)) := by
  have hmk : ∀ w : World, (Instr.makeSlice 35 (.int .i64 128) (.int .i64 128)).run Try.prog w = .ok (.slice (some ⟨w.heap.size, 0, none⟩) 128 128) (w.alloc (.cells (madeCells #[.int .u8 0] 128) 5)) := fun w => run_make9 128 (by omega) w
  go_enter Try.func19, Try.ntmps19
  go_wp2
  go_loopw [4] (fun i wr => ∃ k : Nat, k ≤ 128 ∧ i = .int .i64 (k : Int) ∧ (∃ row, wr.heap[w.heap.size]? = some (.cells row 5 (0, 0)) ∧ row.size = 128 ∧ ∀ j, j < k → row[j]? = some (.int .u8 c)) ∧ Below w.heap.size w wr) (fun i _ => 128 - (intOf i).toNat)
  case atStart => exact ⟨0, by omega, rfl, ⟨_, heap_alloc_new w _, by simp [madeCells], fun j hj => by omega⟩, (Below.refl _ w).alloc (Nat.le_refl _) _⟩
  case round =>
    obtain ⟨k, hk, rfl, ⟨row, hr, hs, hv⟩, hb⟩ := hrel
    have HV := Lib.hid hv
    have HB := Lib.hid hb
    have HR := Lib.hid hr
    have hz := frozen_of_row _ _ k _ _ hr
    clear hv hb
    by_cases hlt : k < 128
    · have hlt' : (k : Int) < 128 := by omega
      have hcell : wr.cell? ⟨w.heap.size, k, none⟩ = some row[k] := by rw [cell_of_row _ _ _ _ _ _ hr, Array.getElem?_eq_getElem (by omega)]
      clear hr
      go_wp2
      go_roundw
      case rel =>
        refine ⟨k + 1, hlt, by go_num, ⟨_, heap_setCell_same _ _ _ _ _ _ HR.out, by simp [hs], fun j hj => ?_⟩, HB.out.setCell (Nat.le_refl _) _⟩
        rw [Array.getElem?_setIfInBounds]
        by_cases e : k = j
        · rw [if_pos e, if_pos (by omega)]
        · rw [if_neg e]; exact HV.out j (by omega)
      case measure => simp [intOf]; omega
    · obtain rfl : k = 128 := by omega
      go_wp2
      go_ret
      refine ⟨w.heap.size, 128, rfl, Nat.le_refl _, fun j v hj => ?_, HB.out⟩
      unfold secL fullS at hj
      rw [List.map_replicate, List.getElem?_replicate] at hj
      split at hj
      · rename_i hj2
        cases hj
        rw [Nat.zero_add, cell_of_row _ _ _ _ _ _ HR.out]
        exact HV.out j hj2
      · cases hj

/-- A sector's bytes as a text. -/
def strS (c : Sec) : Value := .string (strOfNums c)
theorem conv_sec {w : World} {g o : Nat} {c : Sec} (h : w.rangeAt g o (secL c)) (hok : SecOk c) (k : Nat) :
    (convert 35 9 (.slice (some ⟨g, o, none⟩) 128 k)).run Try.prog w = .ok (strS c) w := by
  have hl := hok.len
  exact run_convert_bytes_arg w 35 5 Try.underlying35 Try.underlying5 g o 128 k c hl (fun j hj => by
    rw [List.getD_eq_getElem?_getD, List.getElem?_eq_getElem (by omega)]
    exact h j (.int .u8 (c[j]'(by omega))) (by unfold secL; rw [List.getElem?_map, List.getElem?_eq_getElem (by omega)]; rfl)) 9 Try.underlying9
end Go.Proofs.Ytbnfjceoogehmaa
