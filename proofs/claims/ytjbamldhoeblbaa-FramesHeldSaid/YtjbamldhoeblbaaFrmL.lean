/- FramesHeld: behind as many drops, and not ahead. -/
import Derived.Test.YtjbamldhoeblbaaFrmK
namespace Go.Proofs.Ytjbamldhoeblbaa
open Go.RowKit Go.Shelf

theorem held_out (n : Int) (w : World) (h : n < 0 ∨ 300 < n) : Calls Try.prog 6 #[.int .i64 n] w fun e w' => e = .returned (.bool true) ∧ Below w.heap.size w w' := by
  by_cases h0 : n < 0
  · clear h
    go_enter Try.func6, Try.ntmps6
    go_wp2_with (refine (known_any _).mono ?_; rintro e w1 ⟨rfl, hb⟩)
    go_ret
    exact ⟨rfl, hb⟩
  · have h1 : 300 < n := by omega
    clear h
    go_enter Try.func6, Try.ntmps6
    go_wp2_with (refine (known_any _).mono ?_; rintro e w1 ⟨rfl, hb⟩)
    go_ret
    exact ⟨rfl, hb⟩

set_option maxRecDepth 100000 in
set_option maxHeartbeats 2000000 in
theorem held_in (n : Nat) (w : World) (h : n ≤ 300) : Calls Try.prog 6 #[.int .i64 n] w fun e w' => e = .returned (.bool true) ∧ Below w.heap.size w w' := by
  have h0 : ¬ (n : Int) < 0 := by omega
  have h1 : ¬ (300 : Int) < n := by omega
  go_enter Try.func6, Try.ntmps6
  go_wp2_with fail
  refine (new_yes_at 1 _ 1 1 [1] rfl (ints_at _ _ 3 [1] (heap_alloc_new w _)) ok_1_1).mono ?_
  rintro e w1 ⟨p, F, Q, c, rfl, hp, hb, hF, -, -⟩
  have O := Lib.hid (PoolOwn.of_new (w0 := w) ((Below.refl _ w).alloc (Nat.le_refl _) _) (s := fresh 1 [1]) hp hb hF)
  clear hp hb hF
  go_wp2_with fail
  refine (grant_lit O.out.pool 0 0 0 0 rfl rfl (by decide) (by decide) (by decide) (by decide) (by decide)).mono ?_
  rintro e w2 ⟨rfl, hp, hg⟩
  have O2 := Lib.hid (O.out.next (s' := H1 1) (by rw [h1_one]; exact hp) hg)
  clear hp hg O
  go_wp2
  go_loopw [5] (fun i W => ∃ k : Nat, k ≤ n ∧ i = .int .i64 k ∧ PoolOwn w W p F Q c (H1 (k + 1))) (fun i _ => n - (intOf i).toNat)
  case atStart => exact ⟨0, Nat.zero_le _, rfl, O2.out⟩
  case round =>
    obtain ⟨k, hk, rfl, hO⟩ := hrel
    have O := Lib.hid hO
    clear hO
    by_cases hlt : k < n
    · have hlt' : (k : Int) < n := by omega
      have h1 := Lib.hid (show 0 < (H1 ((k : Int) + 1)).hold 0 by rw [h1_hold]; omega)
      have h2 := Lib.hid (show (H1 ((k : Int) + 1)).hold 0 < 65535 by rw [h1_hold]; omega)
      go_wp2_with (refine (hold_lit O.out.pool 0 0 (k + 1 + 1) rfl (by rw [h1_n]; decide) h1.out h2.out (by rw [h1_hold])).mono ?_; rintro e w3 ⟨rfl, hp, hg⟩; rw [h1_set] at hp; have O3 := Lib.hid (O.out.next hp hg); clear hp hg)
      go_roundw
      case rel => exact ⟨k + 1, by omega, by go_num, by rw [show ((k + 1 : Nat) : Int) + 1 = (k : Int) + 1 + 1 by omega]; exact O3.out⟩
      case measure => simp [intOf]; omega
    · obtain rfl : k = n := by omega
      obtain ⟨wm, rfl⟩ : ∃ wm : World, wm = wr := ⟨_, rfl⟩
      have O5 := O
      clear O O2
      go_wp2
      go_loopw [6] (fun i W => ∃ j : Nat, j ≤ k ∧ i = .int .i64 j ∧ PoolOwn w W p F Q c (H1 (k + 1 - j))) (fun i _ => k - (intOf i).toNat)
      case atStart => exact ⟨0, Nat.zero_le _, rfl, by rw [show (k : Int) + 1 - ((0 : Nat) : Int) = k + 1 by omega]; exact O5.out⟩
      case round =>
        obtain ⟨j, hj, rfl, hO⟩ := hrel
        have O := Lib.hid hO
        clear hO
        by_cases hlt2 : j < k
        · have hlt' : (j : Int) < k := by omega
          have h2 := Lib.hid (show 1 < (H1 ((k : Int) + 1 - j)).hold 0 by rw [h1_hold]; omega)
          have h3 := Lib.hid (show ((H1 ((k : Int) + 1 - j - 1)).n : Int) - (H1 ((k : Int) + 1 - j - 1)).held = 0 from h1_free _ (by omega))
          go_wp2_with (first
            | (refine (more_lit O.out.pool 0 0 (k + 1 - j - 1) rfl (by rw [h1_n]; decide) h2.out (by rw [h1_hold])).mono ?_; rintro e w3 ⟨rfl, hp, hg⟩; rw [h1_set] at hp; have O3 := Lib.hid (O.out.next hp hg); clear hp hg)
            | (refine (free_lit O3.out.pool 0 h3.out).mono ?_; rintro e w4 ⟨rfl, hb4⟩; have O4 := Lib.hid (O3.out.step hb4); clear hb4))
          go_roundw
          case rel => exact ⟨j + 1, by omega, by go_num, by rw [show (k : Int) + 1 - ((j + 1 : Nat) : Int) = (k : Int) + 1 - j - 1 by omega]; exact O4.out⟩
          case measure => simp [intOf]; omega
        · obtain rfl : j = k := by omega
          have hge : ¬ (j : Int) < j := by omega
          have e1 : (j : Int) + 1 - j = 1 := by omega
          rw [e1] at O
          have E1 := Lib.hid e1
          clear e1 hlt hlt2
          go_wp2_with (first
            | (refine (last_lit O.out.pool 0 0 rfl (by rw [h1_n]; decide) (h1_hold _)).mono ?_; rintro e w3 ⟨rfl, hp, hg⟩; have O3 := Lib.hid (O.out.next hp hg); clear hp hg)
            | (refine (free_lit O3.out.pool 1 (h1_freed _)).mono ?_; rintro e w4 ⟨rfl, hb4⟩; have O4 := Lib.hid (O3.out.step hb4); clear hb4)
            | (refine (known_any _).mono ?_; rintro e w5 ⟨rfl, hb5⟩; have O6 := Lib.hid (O4.out.step hb5); clear hb5))
          go_ret
          exact ⟨rfl, O6.out.below⟩
theorem held_any (n : Int) (w : World) : Calls Try.prog 6 #[.int .i64 n] w fun e w' => e = .returned (.bool true) ∧ Below w.heap.size w w' := by
  by_cases h : n < 0 ∨ 300 < n
  · exact held_out n w h
  · obtain ⟨m, rfl⟩ : ∃ m : Nat, (m : Int) = n := ⟨n.toNat, by omega⟩
    exact held_in m w (by omega)

end Go.Proofs.Ytjbamldhoeblbaa
