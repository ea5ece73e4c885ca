/- CapsMay: the walk. -/
import Derived.Test.YtakgjakcbpdefaaCaqJ
namespace Go.Proofs.Ytakgjakcbpdefaa
open Go.RowKit

theorem newM_two (w : World) : Calls Try.prog 10 #[] w fun e w' => ∃ t b, e = .returned (.pointer (some ⟨t, 0, none⟩)) ∧ TabAt w' t b ⟨[], 0⟩ ∧ Below w.heap.size w w' ∧ w.heap.size ≤ t ∧ w.heap.size ≤ b := by
  refine (new_any w).mono ?_
  rintro e w' ⟨rfl, h1, h2⟩
  exact ⟨_, _, rfl, h1, h2, Nat.le_succ _, Nat.le_refl _⟩
/-- What stands at a round's head. -/
def MayRel (w : World) (t b q k : Nat) (W : World) : Prop := ∃ T, TabAt W t b T ∧ QAt W w.heap.size q T ∧ T.last ≤ k ∧ Below w.heap.size w W
theorem stepM_cell {w W : World} {A : Option Addr} {n : Nat} {R : Nat → StepS} (hA : StepsOf w A n R) (hb : Below w.heap.size w W) {k : Nat} (hk : k < n) : ∃ ba oa, A = some ⟨ba, oa, none⟩ ∧ W.cell? ⟨ba, oa + k * 7, none⟩ = some (.int .i64 (R k).kd) ∧ W.cell? ⟨ba, oa + k * 7 + 1, none⟩ = some (.int .i64 (R k).a) ∧
    W.cell? ⟨ba, oa + k * 7 + 2, none⟩ = some (.int .i64 (R k).dst) ∧ W.cell? ⟨ba, oa + k * 7 + 3, none⟩ = some (.int .i64 (R k).th) ∧ W.cell? ⟨ba, oa + k * 7 + 4, none⟩ = some (.int .i64 (R k).ob) ∧ W.cell? ⟨ba, oa + k * 7 + 5, none⟩ = some (.int .i64 (R k).ri) ∧ W.cell? ⟨ba, oa + k * 7 + 6, none⟩ = some (.int .i64 (R k).id) := by
  obtain ⟨ba, oa, rfl, hc⟩ := hA (by omega)
  have one : ∀ j, j < 7 → W.cell? ⟨ba, oa + k * 7 + j, none⟩ = (stepL (R k))[j]? := fun j hj => by
    have h1 := hc k hk j hj
    have hlt : ba < w.heap.size := by
      have h2 : (stepL (R k))[j]? = some ((stepL (R k))[j]'(by show j < 7; exact hj)) := List.getElem?_eq_getElem _
      rw [h2] at h1
      exact World.block_lt_of_cell? w _ h1
    exact (hb.cell (p := ⟨ba, oa + k * 7 + j, none⟩) hlt).trans h1
  exact ⟨ba, oa, rfl, one 0 (by omega), one 1 (by omega), one 2 (by omega), one 3 (by omega), one 4 (by omega), one 5 (by omega), one 6 (by omega)⟩
set_option maxRecDepth 100000 in
set_option maxHeartbeats 4000000 in
theorem may_law (w : World) (A : Option Addr) (n c : Nat) (R : Nat → StepS) (a k o r : Int) (hA : StepsOf w A n R) (hR : ∀ i, i < n → (R i).fits) (h63 : (n : Int) ≤ 9223372036854775807) :
    Calls Try.prog 4 #[.slice A n c, .int .i64 a, .int .i64 k, .int .i64 o, .int .i64 r] w fun e w' => e = .returned (.bool true) ∧ Below w.heap.size w w' := by
  have HA := Lib.hid hA
  have HR := Lib.hid hR
  clear hA hR
  by_cases hn : 60 < n
  · have hn' : (60 : Int) < n := by omega
    clear hn
    go_enter Try.func4, Try.ntmps4
    go_wp2_with (go_at_call 9; refine (known_any _).mono ?_; rintro e w1 ⟨rfl, hb⟩)
    go_ret
    exact ⟨rfl, hb⟩
  · have hn' : ¬ (60 : Int) < n := by omega
    have HN := Lib.hid hn
    clear hn
    go_enter Try.func4, Try.ntmps4
    go_wp2_with (go_at_call 10; refine (newM_two _).mono ?_; rintro e w1 ⟨t, b, rfl, hT, hB, ht, hb⟩; have HT := Lib.hid hT; have HB := Lib.hid hB; have HTB := Lib.hid (And.intro ht hb); clear hT hB ht hb)
    obtain ⟨q, hq⟩ : ∃ q, w1.heap.size = q := ⟨_, rfl⟩
    have HQ := Lib.hid hq
    have START := Lib.hid (show MayRel w t b q 0 (w1.alloc (.cells #[.slice none 0 0, .int .i64 0] 29)) from
      ⟨⟨[], 0⟩, HT.out.step ((Below.refl _ _).alloc (Nat.le_refl _) _), ⟨by rw [← hq]; exact HB.out.size, .slice none 0 0, by rw [← hq]; exact heap_alloc_new w1 _, World.ownsRow_nil _ _ _ _⟩, Nat.le_refl _, HB.out.alloc HB.out.size _⟩)
    rw [hq]
    clear hq
    go_loopg [13] n (fun g i W => ∃ j : Nat, j + g = n ∧ i = .int .i64 (j : Int) ∧ MayRel w t b q j W)
    case atStart => exact ⟨0, by omega, rfl, START.out⟩
    case round =>
      obtain ⟨j, hj, rfl, T, hT, hQ, hl, hB⟩ := hrel
      have HT2 := Lib.hid hT
      have HQ2 := Lib.hid hQ
      have HL := Lib.hid hl
      have HB2 := Lib.hid hB
      clear hT hQ hl hB
      by_cases hlt : j < n
      · have hlt2 : (j : Int) < n := by omega
        obtain ⟨ba, oa, rfl, s0, s1, s2, s3, s4, s5, s6⟩ := stepM_cell HA.out HB2.out hlt
        have LAST := Lib.hid (oneO_last HT2.out.ok (R j) (HR.out j hlt))
        have DOES := Lib.hid (does_any HT2.out HQ2.out HB2.out.size HTB.out.1 HTB.out.2 (by have := HL.out; have := HN.out; omega) (R j) (HR.out j hlt))
        go_wp2_with (go_at_call 13; refine DOES.out.mono ?_; rintro e w2 ⟨rfl, hT, hQ, hB⟩; have HT3 := Lib.hid hT; have HQ3 := Lib.hid hQ; have HB3 := Lib.hid (HB2.out.trans hB); clear hT hQ hB)
        go_roundg (n - (j + 1))
        case measure => omega
        case rel => exact ⟨j + 1, by omega, by go_num, _, HT3.out, HQ3.out, by have := HL.out; have := LAST.out; omega, HB3.out⟩
      · obtain rfl : n = j := by omega
        have hlt2 : ¬ (n : Int) < n := by omega
        have HLEN := Lib.hid (show T.caps.length ≤ 1000 by have := HT2.out.ok.len; have := HL.out; have := HN.out; omega)
        have MAY := Lib.hid (fun (W : World) (hb : Below wr.heap.size wr W) => may_any (HT2.out.step hb) a k o r)
        have QMAY := Lib.hid (fun (W : World) (hb : Below wr.heap.size wr W) => qmay_any (HQ2.out.step hb) HLEN.out a k o r)
        generalize mayB T.caps a k o r = m at MAY QMAY
        have HBX := Lib.hid (Below.refl wr.heap.size wr)
        go_wp2_with (first
          | (go_at_call 15; refine (MAY.out _ HBX.out).mono ?_; rintro e w2 ⟨rfl, hb⟩; have HBX := Lib.hid (HBX.out.trans (hb.mono HBX.out.size)); clear hb)
          | (go_at_call 16; refine (QMAY.out _ HBX.out).mono ?_; rintro e w2 ⟨rfl, hb⟩; have HBX := Lib.hid (HBX.out.trans (hb.mono HBX.out.size)); clear hb)
          | (go_at_call 9; refine (known_any _).mono ?_; rintro e w2 ⟨rfl, hb⟩; have HBX := Lib.hid (HBX.out.trans (hb.mono HBX.out.size)); clear hb))
        all_goals
          go_ret
          exact ⟨rfl, HB2.out.trans (HBX.out.mono HB2.out.size)⟩
end Go.Proofs.Ytakgjakcbpdefaa
