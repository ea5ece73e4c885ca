/- Load and Store. -/
import Derived.Test.YtknepljmbpdpkaaCpC
import Derived.Laws.MakeOwn
namespace Go.Proofs.Ytknepljmbpdpkaa
open Go.RowKit

theorem Try.infoU8c : (Try.prog.info? 5).map (fun i => (i.zero, i.size, i.bytes)) = some (some (.int .u8 0), 1, 1) := by kernel_rfl
theorem run_make8 (n : Nat) (hn : n ≤ 1000000) (w : World) : (Instr.makeSlice 23 (.int .i64 (n : Int)) (.int .i64 (n : Int))).run Try.prog w = .ok (.slice (some ⟨w.heap.size, 0, none⟩) n n) (w.alloc (.cells (madeCells #[.int .u8 0] n) 5)) := by
  obtain ⟨i, hi, hz, hs, hb⟩ := info_parts Try.infoU8c
  have := run_make (P := Try.prog) w 23 5 i (.int .u8 0) Try.underlying23 hi hz .i64 .i64 n n (by omega) (Int.le_refl _) (by rw [hb]; omega) (by omega)
  rw [this, hs]
  simp [Value.cells]
theorem load_no8 {w : World} {F B : Nat} {ra : Option Addr} {rc bc : Nat} {m : Mem8} (h : FlatAt w F B ra rc bc m) (x r : Int) (n : Nat) (h0 : 0 ≤ x) (h1 : x < 4294967296) (hn : n ≤ 65536) (hm : (mayT m r n x).2 = false) :
    Calls Try.prog 18 #[ifV F, .int .u32 x, .int .i64 n, .int .i64 r] w fun e w' => e = .returned (.tuple #[.slice none 0 0, .int .u32 (mayT m r n x).1, .bool false]) ∧ w = w' := by
  have HC := Lib.hid (may_any8 h x r n h0 h1 hn)
  rw [hm] at HC
  obtain ⟨y, hy⟩ : ∃ y, (mayT m r n x).1 = y := ⟨_, rfl⟩
  rw [hy] at HC ⊢
  clear h hm hy
  unfold ifV at *
  go_enter Try.func18, Try.ntmps18
  go_wp2_with (go_at_call 34; refine HC.out.mono ?_; rintro e w' ⟨rfl, rfl⟩)
  go_ret3
  exact ⟨rfl, rfl⟩
set_option maxHeartbeats 1000000 in
set_option maxRecDepth 100000 in
theorem load_yes8 {w : World} {F B : Nat} {ra : Option Addr} {rc bc : Nat} {m : Mem8} (h : FlatAt w F B ra rc bc m) (x r : Int) (n : Nat) (h0 : 0 ≤ x) (h1 : x < 4294967296) (hn : n ≤ 65536) (hm : (mayT m r n x).2 = true) (hf : (mayT m r n x).1 = 0) :
    Calls Try.prog 18 #[ifV F, .int .u32 x, .int .i64 n, .int .i64 r] w fun e w' => e = .returned (.tuple #[.slice (some ⟨w.heap.size, 0, none⟩) n n, .int .u32 0, .bool true]) ∧ RowU8 w' w.heap.size (loadL m x n) ∧ Below w.heap.size w w' := by
  have HC := Lib.hid (may_any8 h x r n h0 h1 hn)
  rw [hm, hf] at HC
  have H := Lib.hid h
  have HM := Lib.hid (mayT_all h0 h1 hm)
  have hmk := run_make8 n (by omega)
  have hmt := Try.mGet
  clear h hm hf
  unfold ifV at *
  go_enter Try.func18, Try.ntmps18
  go_wp2_with (go_at_call 34; refine HC.out.mono ?_; rintro e w' ⟨rfl, rfl⟩)
  go_loopw [40] (fun i wr => ∃ k : Nat, k ≤ n ∧ i = .int .i64 k ∧ RowU8 wr w.heap.size (loadL m x k ++ List.replicate (n - k) 0) ∧ Below w.heap.size w wr) (fun i _ => n - (intOf i).toNat)
  case atStart => exact ⟨0, Nat.zero_le _, rfl, RowU8.made w n, (Below.refl _ _).alloc (Nat.le_refl _) _⟩
  case round =>
    obtain ⟨k, hk, rfl, hrow, hbl⟩ := hrel
    by_cases hlt : k < n
    · have hlt' : decide (k < n) = true := by simpa using hlt
      have hlt2 : (k : Int) < n := by omega
      have hk2 : (k : Int) ≤ 65536 := by omega
      have hrc := hrow.cell k (by rw [List.length_append, loadL_len, List.length_replicate]; omega)
      have hrf := hrow.fz k
      have HG := Lib.hid (get_any8 (H.out.below hbl) (m32 (x + (k : Int))) (m32_0 _) (m32_1 _) (may_has (HM.out k hlt)))
      have HR := Lib.hid hrow
      have HB := Lib.hid hbl
      clear hrow hbl
      go_wp2_with (go_at_call 24; refine HG.out.mono ?_; rintro e w' ⟨rfl, rfl⟩)
      go_roundw
      case rel =>
        refine ⟨k + 1, hlt, by go_num, ?_, HB.out.setCell (Nat.le_refl _) _⟩
        have := HR.out.set k (m.bt (m32 (x + (k : Int))).toNat)
        rw [loadL_set m x n k hlt] at this
        exact this
      case measure => simp [intOf]; omega
    · obtain rfl : k = n := by omega
      have hlt' : decide (k < k) = false := by simp
      rw [Nat.sub_self, List.replicate_zero, List.append_nil] at hrow
      have HR := Lib.hid hrow
      have HB := Lib.hid hbl
      clear hrow hbl
      go_wp2_with fail
      go_ret3
      exact ⟨rfl, HR.out, HB.out⟩
end Go.Proofs.Ytknepljmbpdpkaa
