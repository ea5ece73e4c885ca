/- Tables behind steps: grown; the law PagesSame. -/
import Derived.Test.YtgkfejnjjoaihaaDoorPgDf
namespace Go.Proofs.YtgkfejnjjoaihaaDoor
open Go.RowKit

/-- Steps that came in. -/
def StepsOf7 (w : World) (A : Option Addr) (n : Nat) (R : Nat → Stp) : Prop := 0 < n → ∃ g o, A = some ⟨g, o, none⟩ ∧ ∀ i, i < n → (R i).x < 4294967296 ∧ ∀ j, j < 6 → w.cell? ⟨g, o + i * 6 + j, none⟩ = (R i).cells[j]?
def grownT (R : Nat → Stp) : Nat → Tb
  | 0 => newT
  | k + 1 => stepT (R k) (grownT R k)
theorem StepsOf7.below {w w' : World} {A : Option Addr} {n : Nat} {R : Nat → Stp} (h : StepsOf7 w A n R) (hb : Below w.heap.size w w') : StepsOf7 w' A n R := fun hn => by
  obtain ⟨g, o, rfl, hc⟩ := h hn
  have hl : g < w.heap.size := World.block_lt_of_cell? w _ (hc 0 hn |>.2 0 (by omega))
  exact ⟨g, o, rfl, fun i hi => ⟨(hc i hi).1, fun j hj => (hb.cell (p := ⟨g, o + i * 6 + j, none⟩) hl).trans ((hc i hi).2 j hj)⟩⟩
theorem six_cells {w : World} {g o : Nat} {s : Stp} (h : ∀ j, j < 6 → w.cell? ⟨g, o + j, none⟩ = s.cells[j]?) :
    w.cell? ⟨g, o, none⟩ = some (.int .i64 s.k) ∧ w.cell? ⟨g, o + 1, none⟩ = some (.int .i64 s.a) ∧ w.cell? ⟨g, o + 2, none⟩ = some (.int .i64 s.b) ∧ w.cell? ⟨g, o + 3, none⟩ = some (.int .i64 s.c) ∧ w.cell? ⟨g, o + 4, none⟩ = some (.int .i64 s.d) ∧ w.cell? ⟨g, o + 5, none⟩ = some (.int .u32 s.x) :=
  ⟨h 0 (by omega), h 1 (by omega), h 2 (by omega), h 3 (by omega), h 4 (by omega), h 5 (by omega)⟩
/-- What grown answers. -/
structure Grown (w : World) (R : Nat → Stp) (e : Ending) (w' : World) : Prop where
  out : ∃ t b q N k : Nat, e = .returned (.tuple #[.pointer (some ⟨t, 0, none⟩), .pointer (some ⟨q, 0, none⟩), .bool true]) ∧ k ≤ 60 ∧ N ≤ 2000 ∧ Duo w w' t b q N (grownT R k) (grownT R k) []
set_option maxRecDepth 100000 in
set_option maxHeartbeats 1000000 in
theorem grown_any {w : World} {A : Option Addr} {n c : Nat} {R : Nat → Stp} (h : StepsOf7 w A n R) :
    Calls Tryd.prog 14 #[.slice A n c] w (Grown w R) := by
  have H := Lib.hid h
  clear h
  go_enter Tryd.func14, Tryd.ntmps14
  go_wp2_with fail
  refine (kn_new _).mono ?_
  rintro e w1 ⟨t, b, rfl, hk⟩
  have K := Lib.hid hk
  clear hk
  go_wp2_with fail
  refine (q_new _).mono ?_
  rintro e w2 ⟨rfl, hq, hb⟩
  have hlt := K.out.pt.ht
  have hlb := K.out.pt.hb
  have hD0 : Duo w w2 t b w1.heap.size 0 newT newT [] := by
    have k2 := K.out.same hb
    exact ⟨⟨k2.pt, k2.ht, k2.hb, k2.tr, fun x hx => by
      rcases List.mem_cons.1 hx with rfl | hx
      · exact ⟨hq.row.row, by show w1.heap.size ≠ t; omega, by show w1.heap.size ≠ b; omega⟩
      · cases hx⟩, hq.ok, K.out.tr.size, fun x hx => by cases hx⟩
  have D0 := Lib.hid hD0
  clear hD0 hb hq hlt hlb
  go_wp2_with fail
  go_loopw [5, 6, 7, 8] (fun x1 x2 x3 x4 wr => ∃ k t b q N : Nat, k ≤ n ∧ k ≤ 60 ∧ x1 = .pointer (some ⟨t, 0, none⟩) ∧ x2 = .pointer (some ⟨q, 0, none⟩) ∧ x3 = .bool true ∧ x4 = .int .i64 k ∧ N ≤ 32 * k ∧ Duo w wr t b q N (grownT R k) (grownT R k) [])
    (fun _ _ _ x _ => 60 - (intOf x).toNat)
  case atStart => exact ⟨0, t, b, w1.heap.size, 0, Nat.zero_le _, Nat.zero_le _, rfl, rfl, rfl, rfl, Nat.zero_le _, D0.out⟩
  case round =>
    obtain ⟨k, t, b, q, N, hk, hk60, rfl, rfl, rfl, rfl, hN, hd⟩ := hrel
    have HD := Lib.hid hd
    clear hd
    by_cases hlt : k < n ∧ k < 60
    · obtain ⟨hl1, hl2⟩ := hlt
      have hl1' : (k : Int) < n := by omega
      have hl2' : (k : Int) < 60 := by omega
      obtain ⟨g, o, rfl, hc⟩ := (H.out.below HD.out.tr) (by omega)
      obtain ⟨hx, hc2⟩ := hc k hl1
      obtain ⟨c0, c1, c2, c3, c4, c5⟩ := six_cells hc2
      have HX := Lib.hid hx
      clear hc hc2 hx
      obtain ⟨S, hS⟩ : ∃ S, R k = S := ⟨_, rfl⟩
      have HS := Lib.hid hS
      rw [hS] at c0 c1 c2 c3 c4 c5
      have HC := Lib.hid (do_any HD.out (by omega) S (hS ▸ HX.out))
      unfold Stp.cells stepC at HC
      clear hS
      go_wp2_with (go_at_call 12; refine HC.out.mono ?_; rintro e w3 ⟨t2, b2, r, rfl, hr, -, hd⟩; obtain rfl := hr rfl; have HD := Lib.hid hd; clear hd)
      go_roundw
      case rel => exact ⟨k + 1, t2, b2, q, N + 32, by omega, by omega, rfl, rfl, rfl, by go_num, by omega, by have h1 := HD.out; rw [← HS.out] at h1; exact h1⟩
      case measure => simp [intOf]; omega
    · by_cases hl1 : k < n
      · have hl2 : ¬ k < 60 := by omega
        have hl1' : (k : Int) < n := by omega
        have hl2' : ¬ (k : Int) < 60 := by omega
        go_wp2_with fail
        go_ret3
        exact ⟨⟨t, b, q, N, k, rfl, by omega, by omega, HD.out⟩⟩
      · have hl1' : ¬ (k : Int) < n := by omega
        go_wp2_with fail
        go_ret3
        exact ⟨⟨t, b, q, N, k, rfl, by omega, by omega, HD.out⟩⟩
end Go.Proofs.YtgkfejnjjoaihaaDoor
