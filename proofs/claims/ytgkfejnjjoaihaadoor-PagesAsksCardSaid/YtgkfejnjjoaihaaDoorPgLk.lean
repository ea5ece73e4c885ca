/- The law PagesAsks. -/
import Derived.Test.YtgkfejnjjoaihaaDoorPgSt
namespace Go.Proofs.YtgkfejnjjoaihaaDoor
open Go.RowKit

set_option maxRecDepth 100000 in
set_option maxHeartbeats 2000000 in
theorem asks_law {w : World} {A A' : Option Addr} {n c n' c' : Nat} {R R' : Nat → Stp} (h : StepsOf7 w A n R) (h' : StepsOf7 w A' n' R') (hz : TzTab w) :
    Calls Tryd.prog 4 #[.slice A n c, .slice A' n' c'] w fun e w' => e = .returned (.bool true) ∧ Below w.heap.size w w' := by
  have H' := Lib.hid h'
  have HZ := Lib.hid hz
  have HG := Lib.hid (grown_any (c := c) h)
  clear h h' hz
  go_enter Tryd.func4, Tryd.ntmps4
  go_wp2_with fail
  refine HG.out.mono ?_
  rintro e w1 ⟨t, b, q, N, k1, rfl, -, hN, hd1⟩
  obtain ⟨T, hT⟩ : ∃ T, grownT R k1 = T := ⟨_, rfl⟩
  rw [hT] at hd1
  have D1 := Lib.hid hd1
  clear hd1 hT HG
  go_wp2_with fail
  go_loopw [5, 6, 8] (fun v5 v6 x wr => ∃ (k N' : Nat) (T' : Tb), k ≤ 100 ∧ v5 = .pointer (some ⟨t, 0, none⟩) ∧ v6 = .pointer (some ⟨q, 0, none⟩) ∧ x = .int .i64 k ∧ N' ≤ N + 32 * k ∧ Duo w wr t b q N' T' T' []) (fun _ _ x _ => 100 - (intOf x).toNat)
  case atStart => exact ⟨0, N, T, Nat.zero_le _, rfl, rfl, rfl, by omega, D1.out⟩
  case round =>
    obtain ⟨k, N', T', hk, rfl, rfl, rfl, hN', hd⟩ := hrel
    have D := Lib.hid hd
    clear hd
    by_cases hlt : k < n' ∧ k < 100
    · obtain ⟨hl1, hl2⟩ := hlt
      have hl1' : (k : Int) < n' := by omega
      have hl2' : (k : Int) < 100 := by omega
      obtain ⟨g, o, rfl, hc⟩ := (H'.out.below D.out.tr) (by omega)
      obtain ⟨hx, hc2⟩ := hc k hl1
      obtain ⟨c0, c1, c2, c3, c4, c5⟩ := six_cells hc2
      have gl := World.block_lt_of_cell? _ _ c0
      clear hc hc2
      obtain ⟨S, hS⟩ : ∃ S, R' k = S := ⟨_, rfl⟩
      rw [hS] at c0 c1 c2 c3 c4 c5 hx
      clear hS
      obtain ⟨kk, aa, bb, cc, dd, xx⟩ := S
      simp only at c0 c1 c2 c3 c4 c5 hx gl
      have HX := Lib.hid hx
      clear hx
      go_wp2_with fail
      refine (do_any (D.out.alloc #[.int .i64 4, .int .i64 aa, .int .i64 bb, .int .i64 cc, .int .i64 dd, .int .u32 xx] 32) (by omega) ⟨4, aa, bb, cc, dd, xx⟩ HX.out).mono ?_
      rintro e w2 ⟨t', b', r, rfl, hr, ht, hd⟩
      obtain ⟨rfl, rfl⟩ := ht (by simp)
      obtain rfl := hr rfl
      have D := Lib.hid hd
      clear hd
      go_wp2_with fail
      go_roundw
      case rel => exact ⟨k + 1, N' + 32, _, by omega, rfl, rfl, by go_num, by omega, D.out.less (fun x hx => by cases hx)⟩
      case measure => simp [intOf]; omega
    · by_cases hl1 : k < n'
      · have hl1' : (k : Int) < n' := by omega
        have hl2' : ¬ (k : Int) < 100 := by omega
        go_wp2_with fail
        refine (stands_any D.out.pt D.out.qt (HZ.out.below D.out.tr HZ.out.lt) 0).mono ?_
        rintro e w3 ⟨rfl, hb⟩
        have D := Lib.hid (D.out.same hb)
        clear hb
        go_wp2_with fail
        refine (known_any _ (HZ.out.below D.out.tr HZ.out.lt)).mono ?_
        rintro e w4 ⟨rfl, hb⟩
        have D := Lib.hid (D.out.same hb)
        clear hb
        go_wp2_with fail
        go_ret
        exact ⟨rfl, D.out.tr⟩
      · have hl1' : ¬ (k : Int) < n' := by omega
        go_wp2_with fail
        refine (stands_any D.out.pt D.out.qt (HZ.out.below D.out.tr HZ.out.lt) 0).mono ?_
        rintro e w3 ⟨rfl, hb⟩
        have D := Lib.hid (D.out.same hb)
        clear hb
        go_wp2_with fail
        refine (known_any _ (HZ.out.below D.out.tr HZ.out.lt)).mono ?_
        rintro e w4 ⟨rfl, hb⟩
        have D := Lib.hid (D.out.same hb)
        clear hb
        go_wp2_with fail
        go_ret
        exact ⟨rfl, D.out.tr⟩
end Go.Proofs.YtgkfejnjjoaihaaDoor
