/- The law PagesSteps. -/
import Derived.Test.YtgkfejnjjoaihaaDoorPgLk
namespace Go.Proofs.YtgkfejnjjoaihaaDoor
open Go.RowKit

set_option maxRecDepth 100000 in
set_option maxHeartbeats 2000000 in
theorem steps_law {w : World} {A : Option Addr} {n c : Nat} {R : Nat → Stp} (h : StepsOf7 w A n R) (lv : Int) (hz : TzTab w) :
    Calls Tryd.prog 3 #[.slice A n c, .int .i64 lv] w fun e w' => e = .returned (.bool true) ∧ Below w.heap.size w w' := by
  have H := Lib.hid h
  have HZ := Lib.hid hz
  clear h hz
  go_enter Tryd.func3, Tryd.ntmps3
  go_wp2_with fail
  refine (kn_new _).mono ?_
  rintro e w1 ⟨t, b, rfl, hk⟩
  have K := Lib.hid hk
  clear hk
  go_wp2_with fail
  refine (q_new _).mono ?_
  rintro e w2 ⟨rfl, hq, hb⟩
  have hlt := K.out.pt.ht
  have hlb := K.out.pt.hb
  have hD0 : Duo w w2 t b w1.heap.size 0 newT newT [] := by
    have k2 := K.out.same hb
    exact ⟨⟨k2.pt, k2.ht, k2.hb, k2.tr, fun x hx => by
      rcases List.mem_cons.1 hx with rfl | hx
      · exact ⟨hq.row.row, by show w1.heap.size ≠ t; omega, by show w1.heap.size ≠ b; omega⟩
      · cases hx⟩, hq.ok, K.out.tr.size, fun x hx => by cases hx⟩
  have D0 := Lib.hid hD0
  clear hD0 hb hq hlt hlb
  go_wp2_with fail
  refine (stands_any D0.out.pt D0.out.qt (HZ.out.below D0.out.tr HZ.out.lt) lv).mono ?_
  rintro e w3 ⟨rfl, hb⟩
  have D0 := Lib.hid (D0.out.same hb)
  clear hb
  go_wp2_with fail
  go_loopw [5, 6, 7] (fun x1 x2 x4 wr => ∃ k t b q N : Nat, ∃ T : Tb, k ≤ n ∧ k ≤ 100 ∧ x1 = .pointer (some ⟨t, 0, none⟩) ∧ x2 = .pointer (some ⟨q, 0, none⟩) ∧ x4 = .int .i64 k ∧ N ≤ 32 * k ∧ Duo w wr t b q N T T [])
    (fun _ _ x _ => 100 - (intOf x).toNat)
  case atStart => exact ⟨0, t, b, w1.heap.size, 0, newT, Nat.zero_le _, Nat.zero_le _, rfl, rfl, rfl, Nat.zero_le _, D0.out⟩
  case round =>
    obtain ⟨k, t, b, q, N, T, hk, hk60, rfl, rfl, rfl, hN, hd⟩ := hrel
    have HD := Lib.hid hd
    clear hd
    by_cases hlt : k < n ∧ k < 100
    · obtain ⟨hl1, hl2⟩ := hlt
      have hl1' : (k : Int) < n := by omega
      have hl2' : (k : Int) < 100 := by omega
      obtain ⟨g, o, rfl, hc⟩ := (H.out.below HD.out.tr) (by omega)
      obtain ⟨hx, hc2⟩ := hc k hl1
      obtain ⟨c0, c1, c2, c3, c4, c5⟩ := six_cells hc2
      have HX := Lib.hid hx
      clear hc hc2 hx
      obtain ⟨S, hS⟩ : ∃ S, R k = S := ⟨_, rfl⟩
      rw [hS] at c0 c1 c2 c3 c4 c5
      have HC := Lib.hid (do_any HD.out (by omega) S (hS ▸ HX.out))
      unfold Stp.cells stepC at HC
      clear hS
      go_wp2_with (go_at_call 12; refine HC.out.mono ?_; rintro e w3 ⟨t2, b2, r, rfl, hr, -, hd⟩; obtain rfl := hr rfl; have HD := Lib.hid hd; clear hd c0 c1 c2 c3 c4 c5)
      · refine (stands_any HD.out.pt HD.out.qt (HZ.out.below HD.out.tr HZ.out.lt) lv).mono ?_
        rintro e w5 ⟨rfl, hb⟩
        have HD := Lib.hid (HD.out.same hb)
        clear hb
        go_wp2_with fail
        go_roundw
        case rel => exact ⟨k + 1, t2, b2, q, N + 32, _, by omega, by omega, rfl, rfl, by go_num, by omega, HD.out⟩
        case measure => simp [intOf]; omega
      · go_roundw
        case rel => exact ⟨k + 1, t2, b2, q, N + 32, _, by omega, by omega, rfl, rfl, by go_num, by omega, HD.out⟩
        case measure => simp [intOf]; omega
    · by_cases hl1 : k < n
      · have hl2 : ¬ k < 100 := by omega
        have hl1' : (k : Int) < n := by omega
        have hl2' : ¬ (k : Int) < 100 := by omega
        go_wp2_with fail
        refine (stands_any HD.out.pt HD.out.qt (HZ.out.below HD.out.tr HZ.out.lt) lv).mono ?_
        rintro e w5 ⟨rfl, hb⟩
        have HD := Lib.hid (HD.out.same hb)
        clear hb
        go_wp2_with fail
        refine (known_any _ (HZ.out.below HD.out.tr HZ.out.lt)).mono ?_
        rintro e w6 ⟨rfl, hb⟩
        have HD := Lib.hid (HD.out.same hb)
        clear hb
        go_wp2_with fail
        go_ret
        exact ⟨rfl, HD.out.tr⟩
      · have hl1' : ¬ (k : Int) < n := by omega
        go_wp2_with fail
        refine (stands_any HD.out.pt HD.out.qt (HZ.out.below HD.out.tr HZ.out.lt) lv).mono ?_
        rintro e w5 ⟨rfl, hb⟩
        have HD := Lib.hid (HD.out.same hb)
        clear hb
        go_wp2_with fail
        refine (known_any _ (HZ.out.below HD.out.tr HZ.out.lt)).mono ?_
        rintro e w6 ⟨rfl, hb⟩
        have HD := Lib.hid (HD.out.same hb)
        clear hb
        go_wp2_with fail
        go_ret
        exact ⟨rfl, HD.out.tr⟩
end Go.Proofs.YtgkfejnjjoaihaaDoor
