/- end, room. -/
import Derived.Test.YtgpdkfmneoggkaaExB
namespace Go.Proofs.Ytgpdkfmneoggkaa
open Go.RowKit

theorem Pt.has_nat (p : Pt) (i : Nat) : p.has (i : Int) = (decide (i < p.ct) && p.bit i) := by
  unfold Pt.has
  have h0 : decide ((0 : Int) ≤ (i : Int)) = true := by simp
  have h1 : decide ((i : Int) < (p.ct : Int)) = decide (i < p.ct) := by simp
  rw [h0, h1, Bool.true_and, Int.toNat_natCast]
theorem Pt.has_in (p : Pt) {i : Nat} (hi : i < p.ct) : p.has (i : Int) = p.bit i := by rw [Pt.has_nat, decide_eq_true hi, Bool.true_and]
/-- Where those that stand alike come to an end. -/
structure EndIs (p : Pt) (s e : Nat) : Prop where
  le : s ≤ e
  ct : e ≤ p.ct
  all : ∀ j, s ≤ j → j < e → p.bit j = p.bit s
  stop : e = p.ct ∨ p.bit e ≠ p.bit s
/-- So many that follow one another are free. -/
def Pt.free (p : Pt) (f n : Nat) : Prop := f + n ≤ p.ct ∧ ∀ j, f ≤ j → j < f + n → p.bit j = false
section
variable {w : World} {b o : Nat} {p : Pt}
set_option maxHeartbeats 2000000 in
set_option maxRecDepth 100000 in
theorem pend_any (h : w.rangeAt b o (ptL p)) (hp : PtOk p) (s : Nat) (hs : s ≤ p.ct) : Calls Try.prog 63 #[.pointer (some ⟨b, o, none⟩), .int .i64 (s : Int)] w fun e w' => ∃ k : Nat, EndIs p s k ∧ e = .returned (.int .i64 (k : Int)) ∧ w = w' := by
  have c1 := pt_c1 h
  have hct := hp.c1
  have H := Lib.hid h
  have HP := Lib.hid hp
  clear h hp
  go_enter Try.func63, Try.ntmps63
  go_wp2
  go_loopg [5] (p.ct - s) (fun g i wr => ∃ k : Nat, k + g = p.ct ∧ s ≤ k ∧ i = .int .i64 (k : Int) ∧ (∀ j, s ≤ j → j < k → p.bit j = p.bit s) ∧ wr = w)
  case atStart => exact ⟨s, by omega, Nat.le_refl _, rfl, fun j h1 h2 => by omega, rfl⟩
  case round =>
    obtain ⟨k, hk, hsk, rfl, hall, rfl⟩ := hrel
    have HA := Lib.hid hall
    clear hall
    by_cases hlt : k < p.ct
    · have hlt' : (k : Int) < (p.ct : Int) := by omega
      have e1 := p.has_in hlt
      have e2 := p.has_in (show s < p.ct by omega)
      obtain ⟨x, hx⟩ : ∃ x, p.bit k = x := ⟨_, rfl⟩
      obtain ⟨y, hy⟩ : ∃ y, p.bit s = y := ⟨_, rfl⟩
      rw [hx] at e1
      rw [hy] at e2
      have HX := Lib.hid hx
      have HY := Lib.hid hy
      clear hx hy
      have hE1 := Lib.hid e1
      have hE2 := Lib.hid e2
      clear e1 e2
      rcases x with _ | _ <;> rcases y with _ | _
      · skip
        go_wp2_with (go_at_call 62; refine (phas_any H.out HP.out _).mono ?_; rintro e w' ⟨rfl, rfl⟩; first | rw [hE1.out] | rw [hE2.out])
        go_roundg (p.ct - (k + 1))
        case measure => omega
        case rel => exact ⟨k + 1, by omega, by omega, by go_num, (fun j h1 h2 => by
          by_cases e : j = k
          · rw [e, HX.out, HY.out]
          · exact HA.out j h1 (by omega)), rfl⟩
      · skip
        go_wp2_with (go_at_call 62; refine (phas_any H.out HP.out _).mono ?_; rintro e w' ⟨rfl, rfl⟩; first | rw [hE1.out] | rw [hE2.out])
        go_ret
        exact ⟨k, ⟨hsk, by omega, HA.out, .inr (by rw [HX.out, HY.out]; decide)⟩, rfl, rfl⟩
      · skip
        go_wp2_with (go_at_call 62; refine (phas_any H.out HP.out _).mono ?_; rintro e w' ⟨rfl, rfl⟩; first | rw [hE1.out] | rw [hE2.out])
        go_ret
        exact ⟨k, ⟨hsk, by omega, HA.out, .inr (by rw [HX.out, HY.out]; decide)⟩, rfl, rfl⟩
      · skip
        go_wp2_with (go_at_call 62; refine (phas_any H.out HP.out _).mono ?_; rintro e w' ⟨rfl, rfl⟩; first | rw [hE1.out] | rw [hE2.out])
        go_roundg (p.ct - (k + 1))
        case measure => omega
        case rel => exact ⟨k + 1, by omega, by omega, by go_num, (fun j h1 h2 => by
          by_cases e : j = k
          · rw [e, HX.out, HY.out]
          · exact HA.out j h1 (by omega)), rfl⟩
    · obtain rfl : k = p.ct := by omega
      go_wp2
      go_ret
      exact ⟨_, ⟨hsk, Nat.le_refl _, HA.out, .inl rfl⟩, rfl, rfl⟩
set_option maxHeartbeats 2000000 in
set_option maxRecDepth 100000 in
theorem room_any (h : w.rangeAt b o (ptL p)) (hp : PtOk p) (n : Nat) (h1 : 1 ≤ n) (h2 : n ≤ 9223372036854775807) : Calls Try.prog 57 #[.pointer (some ⟨b, o, none⟩), .int .i64 (n : Int)] w fun e w' =>
    ((∃ f : Nat, e = .returned (.tuple #[.int .i64 (f : Int), .bool true]) ∧ p.free f n ∧ ∀ g, g < f → ¬ p.free g n) ∨ (e = .returned (.tuple #[.int .i64 0, .bool false]) ∧ ∀ g, ¬ p.free g n)) ∧ w = w' := by
  have c1 := pt_c1 h
  have hct := hp.c1
  have H := Lib.hid h
  have HP := Lib.hid hp
  clear h hp
  go_enter Try.func57, Try.ntmps57
  go_wp2
  go_step3
  go_wp2
  go_step3
  go_wp2
  go_loopg [6, 7] (p.ct + 1) (fun g i z wr => ∃ f : Nat, f + g = p.ct + 1 ∧ f ≤ p.ct ∧ i = .int .i64 (f : Int) ∧ (∀ k, k < f → ¬ p.free k n) ∧ wr = w)
  case atStart => exact ⟨0, by omega, by omega, rfl, fun j h1 => by omega, rfl⟩
  case round =>
    obtain ⟨f, hf, hfc, rfl, hno, rfl⟩ := hrel
    have HN := Lib.hid hno
    clear hno
    have hw : IntKind.i64.wrap ((p.ct : Int) - n) = (p.ct : Int) - n := IntWalk.i64_in _ (by omega)
    by_cases hlt : f + n ≤ p.ct
    · have hlt' : (f : Int) ≤ (p.ct : Int) - n := by omega
      have hw2 : IntKind.i64.wrap ((f : Int) + n) = (f : Int) + n := IntWalk.i64_in _ (by omega)
      go_wp2
      obtain ⟨wo, rfl⟩ : ∃ wo : World, wo = wr := ⟨_, rfl⟩
      go_loopg [6, 7] n (fun g2 z i W => ∃ j : Nat, j + g2 = f + n ∧ f ≤ j ∧ z = .int .i64 (f : Int) ∧ i = .int .i64 (j : Int) ∧ (∀ k, f ≤ k → k < j → p.bit k = false) ∧ W = wo)
      case atStart => exact ⟨f, rfl, Nat.le_refl _, rfl, rfl, fun j h1 h2 => by omega, rfl⟩
      case round =>
        obtain ⟨j, hj, hfj, rfl, rfl, hall, rfl⟩ := hrel
        have HA := Lib.hid hall
        clear hall
        by_cases hlt2 : j < f + n
        · have hlt2' : (j : Int) < (f : Int) + n := by omega
          have e1 := p.has_in (show j < p.ct by omega)
          cases hx : p.bit j with
          | true =>
            rw [hx] at e1
            have HX := Lib.hid hx
            have hE1 := Lib.hid e1
            clear e1 hx
            go_wp2_with (go_at_call 62; refine (phas_any H.out HP.out j).mono ?_; rintro e w' ⟨rfl, rfl⟩; rw [hE1.out])
            go_roundg (p.ct - j)
            case measure => omega
            case rel => exact ⟨j + 1, by omega, by omega, by go_num, (fun k hk hfr => by
              by_cases e : k < f
              · exact HN.out k e hfr
              · have := hfr.2 j (by omega) (by omega)
                rw [HX.out] at this
                exact absurd this (by decide)), rfl⟩
          | false =>
            rw [hx] at e1
            have HX := Lib.hid hx
            have hE1 := Lib.hid e1
            clear e1 hx
            go_wp2_with (go_at_call 62; refine (phas_any H.out HP.out j).mono ?_; rintro e w' ⟨rfl, rfl⟩; rw [hE1.out])
            go_roundg (f + n - (j + 1))
            case measure => omega
            case rel => exact ⟨j + 1, by omega, by omega, rfl, by go_num, fun k h1 h2 => by
              by_cases e : k = j
              · rw [e]; exact HX.out
              · exact HA.out k h1 (by omega), rfl⟩
        · obtain rfl : j = f + n := by omega
          have hlt2' : ¬ ((f + n : Nat) : Int) < (f : Int) + n := by omega
          go_wp2
          try rw [Exit.noGoto_ret]
          go_ret2
          exact ⟨.inl ⟨f, rfl, ⟨hlt, HA.out⟩, HN.out⟩, rfl⟩
    · have hlt' : ¬ (f : Int) ≤ (p.ct : Int) - n := by omega
      go_wp2
      try rw [Exit.noGoto_ret]
      go_ret2
      refine ⟨.inr ⟨rfl, fun g hg => ?_⟩, rfl⟩
      by_cases e : g < f
      · exact HN.out g e hg
      · have := hg.1; omega
end
end Go.Proofs.Ytgpdkfmneoggkaa
