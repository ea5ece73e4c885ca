/- may, which asks a memory through the interface: the first of some addresses that may not be used so. -/
import Derived.Test.YtknepljmbpdpkaaCpB
import Derived.Deep.LoopGhost
import Derived.WalkMore
namespace Go.Proofs.Ytknepljmbpdpkaa
open Go.RowKit

theorem Try.mMay (t : Nat) (ht : 0 < t) (F : Nat) (w : World) : (method t 32 (.pointer (some ⟨F, 0, none⟩)) "May").run Try.prog w = .ok (21, .pointer (some ⟨F, 0, none⟩)) w := by
  obtain ⟨n, rfl⟩ : ∃ n, t = n + 1 := ⟨t - 1, by omega⟩
  kernel_rfl
theorem Try.mGet (t : Nat) (ht : 0 < t) (F : Nat) (w : World) : (method t 32 (.pointer (some ⟨F, 0, none⟩)) "Get").run Try.prog w = .ok (24, .pointer (some ⟨F, 0, none⟩)) w := by
  obtain ⟨n, rfl⟩ : ∃ n, t = n + 1 := ⟨t - 1, by omega⟩
  kernel_rfl
theorem Try.mSet (t : Nat) (ht : 0 < t) (F : Nat) (w : World) : (method t 32 (.pointer (some ⟨F, 0, none⟩)) "Set").run Try.prog w = .ok (23, .pointer (some ⟨F, 0, none⟩)) w := by
  obtain ⟨n, rfl⟩ : ∃ n, t = n + 1 := ⟨t - 1, by omega⟩
  kernel_rfl

theorem mayT_yes {m : Mem8} {r : Int} {n : Nat} {x : Int} (h : m.may x r = true) : mayT m r (n + 1) x = mayT m r n (m32 (x + 1)) := by
  show (if _ then _ else _) = _; rw [if_pos h]
theorem mayT_no {m : Mem8} {r : Int} {n : Nat} {x : Int} (h : m.may x r = false) : mayT m r (n + 1) x = (x, false) := by
  show (if _ then _ else _) = _; rw [h]; rfl
theorem ret_m8 {p q : Int × Bool} (h : p = q) : Ending.returned (.tuple #[.int .u32 p.1, .bool p.2]) = .returned (.tuple #[.int .u32 q.1, .bool q.2]) := by rw [h]

set_option maxHeartbeats 1000000 in
set_option maxRecDepth 100000 in
theorem may_any8 {w : World} {F B : Nat} {ra : Option Addr} {rc bc : Nat} {m : Mem8} (h : FlatAt w F B ra rc bc m) (x r : Int) (n : Nat) (h0 : 0 ≤ x) (h1 : x < 4294967296) (hn : n ≤ 65536) :
    Calls Try.prog 34 #[ifV F, .int .u32 x, .int .i64 n, .int .i64 r] w fun e w' => e = .returned (.tuple #[.int .u32 (mayT m r n x).1, .bool (mayT m r n x).2]) ∧ w = w' := by
  have H := Lib.hid h
  have hm := fun t ht => Try.mMay t ht F
  clear h
  unfold ifV
  obtain ⟨T, hT⟩ : ∃ T, mayT m r n x = T := ⟨_, rfl⟩
  rw [hT]
  have HT := Lib.hid hT
  clear hT
  go_enter Try.func34, Try.ntmps34
  go_wp2
  go_step3
  go_wp2
  go_step3
  go_wp2
  go_loop [1, 10] (fun a k => ∃ (j : Nat) (y : Int), j ≤ n ∧ k = .int .i64 j ∧ a = .int .u32 y ∧ 0 ≤ y ∧ y < 4294967296 ∧ mayT m r (n - j) y = T) (fun _ k => n - (intOf k).toNat)
  case atStart => exact ⟨0, x, Nat.zero_le _, rfl, rfl, h0, h1, HT.out⟩
  case round =>
    obtain ⟨j, y, hj, rfl, rfl, y0, y1, hT⟩ := hrel
    by_cases hlt : j < n
    · have hlt' : decide (j < n) = true := by simpa using hlt
      have hlt2 : (j : Int) < n := by omega
      obtain ⟨q, hq⟩ : ∃ q, n - j = q + 1 := ⟨n - j - 1, by omega⟩
      have HC := Lib.hid (fmay_any8 H.out y r y0 y1)
      cases hmy : m.may y r with
      | true =>
        have HN := Lib.hid (show mayT m r q (m32 (y + 1)) = T by rw [← mayT_yes hmy, ← hq]; exact hT)
        rw [hmy] at HC
        have HQ := Lib.hid hq
        clear hT hmy hq
        go_wp2_with (go_at_call 21; refine HC.out.mono ?_; rintro e w' ⟨rfl, rfl⟩)
        all_goals
          go_round
          case rel => exact ⟨j + 1, m32 (y + 1), hlt, by go_num, rfl, m32_0 _, m32_1 _, by rw [show n - (j + 1) = q by have := HQ.out; omega]; exact HN.out⟩
          case measure => simp [intOf]; omega
      | false =>
        have HN := Lib.hid (show (y, false) = T by rw [← mayT_no (n := q) hmy, ← hq]; exact hT)
        rw [hmy] at HC
        clear hT hmy hq
        go_wp2_with (go_at_call 21; refine HC.out.mono ?_; rintro e w' ⟨rfl, rfl⟩)
        try rw [Exit.noGoto_ret]
        go_ret2
        exact ⟨ret_m8 HN.out, rfl⟩
    · have HN := Lib.hid (show ((0 : Int), true) = T by rw [show n - j = 0 by omega] at hT; exact hT)
      have hlt' : decide (j < n) = false := by simpa using hlt
      clear hT
      go_wp2_with fail
      try rw [Exit.noGoto_ret]
      go_ret2
      exact ⟨ret_m8 HN.out, rfl⟩
end Go.Proofs.Ytknepljmbpdpkaa
