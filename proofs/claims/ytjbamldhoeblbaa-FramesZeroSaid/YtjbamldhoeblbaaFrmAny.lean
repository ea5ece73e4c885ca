/- Whatever number a step names, a pool stays one of which it is always so. -/
import Derived.Test.YtjbamldhoeblbaaFrmInv
namespace Go.Proofs.Ytjbamldhoeblbaa
open Go.RowKit Go.Shelf

/-- A call that hands back something, and leaves a pool. -/
def StepOut (p F Q c : Nat) (s : St) (w : World) (e : Ending) (w' : World) : Prop := ∃ v s', e = .returned v ∧ PoolAt w' p F Q c s' ∧ w.grownBy w' (some F) ∧ Next s s'
theorem grown_refl (w : World) (F : Nat) : w.grownBy w (some F) := grown_of_below (Below.refl _ w)
theorem gone_or {s : St} (h : StOk s) (f : Int) : s.gone f ∨ ∃ k : Nat, f = k ∧ k < s.n ∧ 0 < s.hold k := by
  by_cases h1 : f < 0 ∨ (s.n : Int) ≤ f
  · rcases h1 with h1 | h1
    · exact .inl (.inl h1)
    · exact .inl (.inr (.inl h1))
  · obtain ⟨k, rfl⟩ : ∃ k : Nat, (k : Int) = f := ⟨f.toNat, by omega⟩
    by_cases hz : s.hold k = 0
    · exact .inl (.inr (.inr ⟨k, rfl, by omega, hz⟩))
    · exact .inr ⟨k, rfl, by omega, by have := h.h0 k; omega⟩
theorem hold_next {w : World} {p F Q c : Nat} {s : St} (h : PoolAt w p F Q c s) (f : Int) : Calls Try.prog 18 #[.pointer (some ⟨p, 0, none⟩), .int .i64 f] w (StepOut p F Q c s w) := by
  rcases gone_or h.ok f with hg | ⟨k, rfl, hk, hp⟩
  · exact (hold_gone h f hg).mono fun e w' ⟨he, hw⟩ => by subst hw; exact ⟨_, s, he, h, grown_refl _ _, Next.refl s⟩
  · have h1 := h.ok.h1 k
    by_cases hm : s.hold k = 65535
    · exact (hold_full h k hk hm).mono fun e w' ⟨he, hw⟩ => by subst hw; exact ⟨_, s, he, h, grown_refl _ _, Next.refl s⟩
    · exact (hold_yes h k hk hp (by omega)).mono fun e w' ⟨he, hp', hg⟩ => ⟨_, _, he, hp', hg, next_withHold s k hk hp _ (by omega) (by omega)⟩
theorem drop_next {w : World} {p F Q c : Nat} {s : St} (h : PoolAt w p F Q c s) (f : Int) : Calls Try.prog 19 #[.pointer (some ⟨p, 0, none⟩), .int .i64 f] w (StepOut p F Q c s w) := by
  rcases gone_or h.ok f with hg | ⟨k, rfl, hk, hp⟩
  · exact (drop_gone h f hg).mono fun e w' ⟨he, hw⟩ => by subst hw; exact ⟨_, s, he, h, grown_refl _ _, Next.refl s⟩
  · have h1 := h.ok.h1 k
    by_cases hm : s.hold k = 1
    · exact (drop_last h k hk hm).mono fun e w' ⟨he, hp', hg⟩ => ⟨_, _, he, hp', hg, next_freed s k hk⟩
    · exact (drop_more h k hk (by omega)).mono fun e w' ⟨he, hp', hg⟩ => ⟨_, _, he, hp', hg, next_withHold s k hk hp _ (by omega) (by omega)⟩
theorem drops_next {w : World} {p F Q c : Nat} {s : St} (h : PoolAt w p F Q c s) (a : Int) : Calls Try.prog 20 #[.pointer (some ⟨p, 0, none⟩), .int .i64 a] w (StepOut p F Q c s w) := by
  by_cases ha : a < 0 ∨ (s.k : Int) ≤ a
  · exact (drops_arg h a ha).mono fun e w' ⟨he, hb⟩ => ⟨_, s, he, h.below hb, grown_of_below hb, Next.refl s⟩
  · obtain ⟨k, rfl⟩ : ∃ k : Nat, (k : Int) = a := ⟨a.toNat, by omega⟩
    exact (drops_yes h k (by omega)).mono fun e w' ⟨he, hp', hg⟩ => ⟨_, _, he, hp', hg, next_drops s k⟩
/-- Grant, where it grants. -/
def GrantOut (p F Q c : Nat) (s : St) (a : Nat) (w : World) (e : Ending) (w' : World) : Prop :=
  ∃ m : Nat, e = .returned (.tuple #[.int .i64 m, .int .i64 0]) ∧ m < s.n ∧ s.hold m = 0 ∧ PoolAt w' p F Q c (s.granted m a) ∧ w.grownBy w' (some F) ∧ Next s (s.granted m a)
theorem grant_next {w : World} {p F Q c : Nat} {s : St} (h : PoolAt w p F Q c s) (hi : Inv s) (a : Nat) (ha : a < s.k) (hf : (s.used a : Int) < s.quota a) :
    Calls Try.prog 17 #[.pointer (some ⟨p, 0, none⟩), .int .i64 a] w (GrantOut p F Q c s a w) := by
  obtain ⟨m, hm, hz, hl⟩ := hi.lowest a ha hf
  exact (grant_yes h a ha hf m hm hz hl).mono fun e w' ⟨he, hp', hg⟩ => ⟨m, he, hm, hz, hp', hg, next_granted s m a hm hz ha hf⟩

/-! ### Steps that came in -/
/-- Steps that stand in memory: kinds, numbers, places, and slices of bytes. -/
def stepV (kd nn mm : Nat → Int) (da : Nat → Option Addr) (dn dc : Nat → Nat) (i : Nat) : List Value := [.int .i64 (kd i), .int .i64 (nn i), .int .i64 (mm i), .slice (da i) (dn i) (dc i)]
def StepsOf (w : World) (A : Option Addr) (n : Nat) (kd nn mm : Nat → Int) (da : Nat → Option Addr) (dn dc : Nat → Nat) : Prop :=
  0 < n → ∃ b o, A = some ⟨b, o, none⟩ ∧ ∀ i, i < n → ∀ j, j < 4 → w.cell? ⟨b, o + i * 4 + j, none⟩ = (stepV kd nn mm da dn dc i)[j]?

end Go.Proofs.Ytjbamldhoeblbaa
