/- turn. -/
import Derived.Test.YtgpdkfmneoggkaaExC
namespace Go.Proofs.Ytgpdkfmneoggkaa
open Go.RowKit

theorem xor_bits {v m : Nat} (hv : v < 2 ^ 64) (hm : m < 64) : bits .xor .u64 (v : Int) (IntKind.u64.wrap ((2 : Int) ^ m)) = ((v ^^^ 2 ^ m : Nat) : Int) := by
  have h1 : (2 : Nat) ^ m < 18446744073709551616 := Nat.pow_lt_pow_right (n := 64) (by decide) hm
  have e : ((2 : Int) ^ m) = ((2 ^ m : Nat) : Int) := by simp
  rw [e, show IntKind.u64.wrap ((2 ^ m : Nat) : Int) = ((2 ^ m : Nat) : Int) by simp only [IntKind.wrap, IntKind.bits, IntKind.signed]; generalize (2 : Nat) ^ m = q at *; simp; omega, u64_xor_nat _ _ hv h1]
theorem TurnO.setCell (O : Nat → Prop) (w : World) (b o : Nat) (v : Value) (h : O b) : TurnO O w (w.setCell ⟨b, o, none⟩ v) := by
  exact ⟨rfl, rfl, rfl, by simp [World.setCell], fun k hk hn => heap_setCell_other _ _ _ _ (fun e => hn (e ▸ h))⟩
theorem TurnO.drew {O : Nat → Prop} {w w' : World} (h : TurnO O w w') : TurnO O w w'.drew := h.trans (TurnO.of_below ((Below.refl _ w').drew) : TurnO O w' w'.drew) (fun b h => .inl h)
section
variable {w : World} {x d : Nat} {s : Xt}
set_option maxHeartbeats 2000000 in
set_option maxRecDepth 100000 in
theorem turn_any (h : ExIs w x d s) (a : Nat) (ha : a < 8) (f n : Nat) (hn : f + n ≤ (s.pt a).ct) : Calls Try.prog 58 #[.pointer (some ⟨x, 2 + a * 66, none⟩), .int .i64 (f : Int), .int .i64 (n : Int)] w fun e w' =>
    e = .returned (.tuple #[]) ∧ ExIs w' x d (s.set a ((s.pt a).turn f n)) ∧ TurnO (· = x) w w' := by
  have hct := (h.ok a).c1
  have H := Lib.hid h
  clear h
  have hw2 : IntKind.i64.wrap ((f : Int) + n) = (f : Int) + n := IntWalk.i64_in _ (by omega)
  go_enter Try.func58, Try.ntmps58
  go_wp2
  go_loopg [6] n (fun g i wr => ∃ k : Nat, k + g = n ∧ (∃ j, f + k = j ∧ i = .int .i64 (j : Int)) ∧ ExIs wr x d (s.set a ((s.pt a).turn f k)) ∧ TurnO (· = x) w wr)
  case atStart => exact ⟨0, by omega, ⟨f, rfl, rfl⟩, by rw [show (s.pt a).turn f 0 = s.pt a from rfl, Xt.set_self]; exact H.out, TurnO.refl _ _⟩
  case round =>
    obtain ⟨k, hk, ⟨j, hj, rfl⟩, hE, hT⟩ := hrel
    have HT := Lib.hid hT
    clear hT
    by_cases hlt : k < n
    · have hlt' : (j : Int) < (f : Int) + n := by omega
      obtain ⟨p, hp⟩ : ∃ p, (s.pt a).turn f k = p := ⟨_, rfl⟩
      have hpc := (Pt.turn_ct (s.pt a) f k).1
      rw [hp] at hpc hE
      have HP := Lib.hid hp
      have hpo := Lib.hid (hE.ok a)
      rw [Xt.set_same] at hpo
      have hj64 : (j : Int) / 64 < 64 := by omega
      have hc := hE.cp (a := a) (j := 2 + j / 64) ha (by omega)
      rw [Xt.set_same] at hc
      unfold pcell at hc
      rw [if_neg (by omega), if_neg (by omega), show 2 + j / 64 - 2 = j / 64 by omega, ← Nat.add_assoc] at hc
      have hx := xor_bits (hpo.out.w1 (j / 64)) (show j % 64 < 64 by omega)
      have hz := hE.fz (2 + a * 66 + 2 + j / 64)
      have hjc : j < ((s.set a p).pt a).ct := by rw [Xt.set_same, hpc]; omega
      have hfl := hE.flip ha hjc
      rw [Xt.set_same, ← Nat.add_assoc, Xt.set_set] at hfl
      have hfl2 : p.flip j = (s.pt a).turn f (k + 1) := by rw [← hp, ← hj]; rfl
      rw [hfl2] at hfl
      have HE := Lib.hid hfl
      clear hfl hfl2 hjc
      clear hp hE hpc
      go_wp2_with fail
      go_region
      all_goals go_wp2
      all_goals go_roundg (n - (k + 1))
      case measure => omega
      case rel => exact ⟨k + 1, by omega, ⟨j + 1, by omega, rfl⟩, HE.out.keep rfl, (HT.out.trans (TurnO.setCell (· = x) wr x _ _ rfl) (fun b h => .inl h)).drew⟩
    · have hlt' : ¬ (j : Int) < (f : Int) + n := by omega
      obtain rfl : k = n := by omega
      go_wp2
      go_end0
      exact ⟨rfl, hE, HT.out⟩
end
end Go.Proofs.Ytgpdkfmneoggkaa
