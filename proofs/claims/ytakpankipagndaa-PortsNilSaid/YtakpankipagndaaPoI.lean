/- Open. -/
import Derived.Test.YtakpankipagndaaPoH
namespace Go.Proofs.Ytakpankipagndaa
open Go.RowKit (wrap64)
open Go.RowKit
open Go.Maps (Keyed)
attribute [local go_sem] Oper.semAt_some

theorem Try.inInt12 : (Try.prog.info? 3).map (fun i => (i.zero, i.size, i.bytes)) = some (some (.int .i64 0), 1, 8) := by kernel_rfl
def intL (l : List Nat) : List Value := l.map fun (x : Nat) => Value.int .i64 (x : Int)
theorem intL_len (l : List Nat) : (intL l).length = l.length := by simp [intL]
theorem intL_snoc (l : List Nat) (x : Nat) : intL (l ++ [x]) = intL l ++ [.int .i64 (x : Int)] := by simp [intL]
/-- The open ports. -/
def Ps.opens (s : Ps) (a : Int) (k : Nat) : List Nat := (List.range k).filter fun n => (s.c a (n : Int)).isSome
def Ps.openN (s : Ps) (a : Int) : List Nat := s.opens a (s.quota a)
theorem opens_succ (s : Ps) (a : Int) (k : Nat) : s.opens a (k + 1) = s.opens a k ++ (if (s.c a (k : Int)).isSome = true then [k] else []) := by
  unfold Ps.opens
  rw [List.range_succ, List.filter_append]
  congr 1
  by_cases h : (s.c a (k : Int)).isSome = true
  · rw [if_pos h]; simp only [List.filter_cons, h]; rfl
  · rw [if_neg h]; simp only [List.filter_cons, h]; rfl
theorem opens_len (s : Ps) (a : Int) (k : Nat) : (s.opens a k).length ≤ k := Nat.le_trans (List.length_filter_le _ _) (by simp)
theorem opens_mem {s : Ps} {a : Int} {k n : Nat} (h : n ∈ s.opens a k) : n < k ∧ (s.c a (n : Int)).isSome = true := by
  unfold Ps.opens at h
  rw [List.mem_filter, List.mem_range] at h
  exact h
theorem open_none12 {w : World} {v : Value} (h : NoPo w v) (a : Int) : Calls Try.prog 40 #[v, .int .i64 a] w fun e w' => e = .returned (.slice none 0 0) ∧ w = w' := by
  go_enter Try.func40, Try.ntmps40
  go_wp2_with (go_at_call 37; refine (quota_no12 h a).mono ?_; rintro e w' ⟨rfl, rfl⟩)
  go_loop [5, 12] (fun u v => u = .slice none 0 0 ∧ v = .int .i64 0) (fun _ _ => 0)
  case atStart => exact ⟨rfl, rfl⟩
  case round =>
    obtain ⟨rfl, rfl⟩ := hrel
    go_wp2
    go_ret
    exact ⟨rfl, rfl⟩
section
variable {w : World} {O R : Nat → Prop} {p : Nat} {L : Lay12} {s : Ps}
theorem PsOk.quota_le (h : PsOk s) (a : Int) : s.quota a ≤ 16 := by
  unfold Ps.quota
  split
  · exact h.qt_le ‹_›
  · omega
set_option maxHeartbeats 4000000 in
set_option maxRecDepth 100000 in
theorem open_any12 (h : PoAt w O R p L s) {a : Int} (ha : wf12 a) :
    Calls Try.prog 40 #[.pointer (some ⟨p, 0, none⟩), .int .i64 a] w (OwnOut w 3 1 (s.openN a).length (intL (s.openN a))) := by
  obtain ⟨i0, hi, hz0, hz1, hz2⟩ := info_parts Try.inInt12
  have hq16 := h.ok.quota_le a
  have H := Lib.hid h
  have HQ := Lib.hid (quota_any12 h a)
  have HWA := Lib.hid ha
  unfold Ps.openN
  generalize s.quota a = q at *
  clear h ha
  go_enter Try.func40, Try.ntmps40
  go_wp2_with (go_at_call 37; refine HQ.out.mono ?_; rintro e w' ⟨rfl, rfl⟩)
  go_loopw [5, 12] (fun v i W => ∃ k : Nat, k ≤ q ∧ i = .int .i64 (k : Int) ∧ W.ownsRow w.heap.size 3 1 v (s.opens a k).length (intL (s.opens a k)) ∧ Below w.heap.size w W) (fun _ i _ => q - (intOf i).toNat)
  case atStart => exact ⟨0, Nat.zero_le _, rfl, World.ownsRow_nil _ _ _ _, Below.refl _ _⟩
  case round =>
    obtain ⟨k, hk, rfl, ho, hb⟩ := hrel
    have HO := Lib.hid ho
    have HB := Lib.hid hb
    clear ho hb
    by_cases hlt : k < q
    · have hlt' : (k : Int) < q := by omega
      have hwk : wf12 (k : Int) := wf12_of (by omega)
      have HS := Lib.hid (opens_succ s a k)
      have HL := Lib.hid (opens_len s a k)
      cases hc : s.c a (k : Int) with
      | some X =>
        have HC := Lib.hid (of_yes12 (H.out.step HB.out) HWA.out hwk hc)
        have HS2 := Lib.hid (show s.opens a (k + 1) = s.opens a k ++ [k] by rw [HS.out, hc]; rfl)
        clear hc HS hwk
        generalize L.C a k = cb at *
        go_wp2_with (first
          | (go_at_call 55; refine HC.out.mono ?_; rintro e w' ⟨rfl, rfl⟩)
          | (at_builtin; refine wpList_append_own _ rfl _ _ 22 rfl w.heap.size 3 i0 (.int .i64 0) 1 8 Try.underlying22 hi hz0 hz1 hz2 rfl (by decide) _ _ _ rfl (HO.out.alloc _) ⟨wr.heap.size, 0, none⟩ 1 1 [.int .i64 (k : Int)] rfl rfl (cells_new wr [.int .i64 (k : Int)] 3) (by simp; rfl) (by have := HL.out; unfold maxLen; omega) (by have := HL.out; omega) (by have := HB.out.size; rw [World.size_alloc]; omega) ?_; intro v' w3 hown hgrow hnil; have HO3 := Lib.hid hown; have HG3 := Lib.hid hgrow; clear hown hgrow hnil))
        go_roundw
        case rel =>
          refine ⟨k + 1, by omega, by go_num, ?_, (HB.out.alloc HB.out.size _).grown HG3.out (by have := HB.out.size; rw [World.size_alloc]; omega) (fun b hb => (HO.out.lt b hb).1)⟩
          rw [HS2.out, intL_snoc, List.length_append]
          exact HO3.out
        case measure => simp [intOf]; omega
      | none =>
        have HC := Lib.hid (of_not12 (H.out.step HB.out) HWA.out hwk hc)
        have HS2 := Lib.hid (show s.opens a (k + 1) = s.opens a k by rw [HS.out, hc]; simp)
        have hw := why_bne s a
        have hw2 : (s.why a == 0) = false := by unfold Ps.why; split <;> rfl
        have hw3 : decide (s.why a = 0) = false := by unfold Ps.why; split <;> decide
        clear hc HS hwk
        go_wp2_with (go_at_call 55; refine HC.out.mono ?_; rintro e w' ⟨rfl, rfl⟩)
        go_roundw
        case rel =>
          refine ⟨k + 1, by omega, by go_num, ?_, HB.out⟩
          rw [HS2.out]
          exact HO.out
        case measure => simp [intOf]; omega
    · have hlt' : ¬ (k : Int) < q := by omega
      obtain rfl : k = q := by omega
      go_wp2_with fail
      go_ret
      exact ⟨_, rfl, HO.out, HB.out⟩
end
end Go.Proofs.Ytakpankipagndaa
