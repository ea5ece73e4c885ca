/- Where. -/
import Derived.Test.YtgkfejnjjoaihaaDoorPgY
namespace Go.Proofs.YtgkfejnjjoaihaaDoor
open Go.RowKit
attribute [local go_sem] Oper.semAt_some

/-! ### The pages of a mask, lowest first -/
def ofBits : List Nat → Nat
  | [] => 0
  | p :: l => 2 ^ p + ofBits l
theorem ofBits_high : ∀ (l : List Nat) (p : Nat), (∀ q ∈ l, p < q) → ∃ m, ofBits l = 2 ^ (p + 1) * m
  | [], p, _ => ⟨0, rfl⟩
  | q :: l, p, h => by
    obtain ⟨m, hm⟩ := ofBits_high l p (fun x hx => h x (List.mem_cons_of_mem _ hx))
    have hq := h q (List.mem_cons_self ..)
    refine ⟨2 ^ (q - (p + 1)) + m, ?_⟩
    unfold ofBits
    rw [hm, Nat.mul_add, ← Nat.pow_add, show p + 1 + (q - (p + 1)) = q by omega]
theorem ofBits_bit : ∀ (l : List Nat), l.Pairwise (· < ·) → ∀ i, (ofBits l).testBit i = decide (i ∈ l)
  | [], _, i => by simp [ofBits]
  | p :: l, h, i => by
    obtain ⟨h1, h2⟩ := List.pairwise_cons.1 h
    obtain ⟨m, hm⟩ := ofBits_high l p h1
    have ih := ofBits_bit l h2 i
    rw [hm] at ih
    unfold ofBits
    rw [hm, Nat.add_comm, Nat.testBit_two_pow_mul_add _ (Nat.pow_lt_pow_right (by decide) (Nat.lt_succ_self p))]
    rw [Nat.testBit_two_pow_mul] at ih
    by_cases hi : i < p + 1
    · rw [if_pos hi, Nat.testBit_two_pow]
      have hn : i ∉ l := fun hm => by have := h1 i hm; omega
      by_cases e : p = i
      · subst e; simp
      · simp [e, hn, Ne.symm e]
    · rw [if_neg hi]
      have e : decide (i ≥ p + 1) = true := by simp; omega
      rw [e, Bool.true_and] at ih
      rw [ih]
      have : i ≠ p := by omega
      simp [this]
theorem ofBits_clear (p : Nat) (l : List Nat) (h : ∀ q ∈ l, p < q) : ofBits (p :: l) &&& (ofBits (p :: l) - 1) = ofBits l := by
  obtain ⟨m, hm⟩ := ofBits_high l p h
  have hp : 0 < 2 ^ p := Nat.pow_pos (by decide)
  have hlt : 2 ^ p < 2 ^ (p + 1) := Nat.pow_lt_pow_right (by decide) (Nat.lt_succ_self p)
  show (2 ^ p + ofBits l) &&& (2 ^ p + ofBits l - 1) = ofBits l
  rw [hm, show 2 ^ p + 2 ^ (p + 1) * m = 2 ^ (p + 1) * m + 2 ^ p by omega, show 2 ^ (p + 1) * m + 2 ^ p - 1 = 2 ^ (p + 1) * m + (2 ^ p - 1) by omega]
  apply Nat.eq_of_testBit_eq
  intro i
  rw [Nat.testBit_and, Nat.testBit_two_pow_mul_add _ hlt, Nat.testBit_two_pow_mul_add _ (by omega), Nat.testBit_two_pow_mul]
  by_cases hi : i < p + 1
  · rw [if_pos hi, if_pos hi, Nat.testBit_two_pow, Nat.testBit_two_pow_sub_one]
    have : decide (i ≥ p + 1) = false := by simp; omega
    rw [this]
    by_cases e : p = i
    · subst e; simp
    · simp [e]
  · rw [if_neg hi, if_neg hi]
    have : decide (i ≥ p + 1) = true := by simp; omega
    rw [this]; simp
theorem ofBits_ctz (p : Nat) (l : List Nat) (h : ∀ q ∈ l, p < q) (hx : ofBits (p :: l) < 4294967296) : Lib.ctz 32 (ofBits (p :: l)) = p := by
  obtain ⟨m, hm⟩ := ofBits_high l p h
  have hp : 0 < 2 ^ p := Nat.pow_pos (by decide)
  have e : ofBits (p :: l) = 2 ^ p * (2 * m + 1) := by
    show 2 ^ p + ofBits l = _
    rw [hm, Nat.mul_add, Nat.pow_succ, Nat.mul_assoc]; omega
  have h0 : ofBits (p :: l) ≠ 0 := by show 2 ^ p + ofBits l ≠ 0; omega
  obtain ⟨h1, -⟩ := Lib.lowest_bit 32 _ h0 hx
  have h2 := Lib.and_neg 32 p m (by rw [← e]; exact hx)
  rw [← e] at h2
  have h3 : 2 ^ Lib.ctz 32 (ofBits (p :: l)) = 2 ^ p := h1.symm.trans h2
  exact (Nat.pow_right_inj (by decide)).1 h3
def hitsL (T : Tb) (f : Int) (s : Nat) : List Nat := (List.range 32).filter (hitB T f s)
theorem hitsL_sorted (T : Tb) (f : Int) (s : Nat) : (hitsL T f s).Pairwise (· < ·) := List.Pairwise.filter _ List.pairwise_lt_range
theorem hitsL_mask (T : Tb) (f : Int) (s : Nat) : mask T f s = ofBits (hitsL T f s) := by
  apply Nat.eq_of_testBit_eq
  intro i
  rw [mask_bit, ofBits_bit _ (hitsL_sorted T f s)]
  unfold hitsL
  simp only [List.mem_filter, List.mem_range]
  by_cases h : i < 32 <;> by_cases h2 : hitB T f s i = true <;> simp [h, h2]
theorem hitsL_lt {T : Tb} {f : Int} {s p : Nat} (h : p ∈ hitsL T f s) : p < 32 := List.mem_range.1 (List.mem_filter.1 h).1
def spotsTo (T : Tb) (f : Int) (k : Nat) : List (Nat × Nat) := (List.range k).flatMap fun s => (hitsL T f s).map fun p => (s, p)
theorem spotsTo_succ (T : Tb) (f : Int) (k : Nat) : spotsTo T f (k + 1) = spotsTo T f k ++ (hitsL T f k).map fun p => (k, p) := by
  unfold spotsTo
  rw [List.range_succ, List.flatMap_append, List.flatMap_singleton]
theorem hitsL_len (T : Tb) (f : Int) (s : Nat) : (hitsL T f s).length ≤ 32 := by
  have := List.length_filter_le (hitB T f s) (List.range 32)
  rwa [List.length_range] at this
theorem spotsTo_len (T : Tb) (f : Int) : ∀ k, (spotsTo T f k).length ≤ 32 * k
  | 0 => Nat.le_refl _
  | k + 1 => by
    rw [spotsTo_succ, List.length_append, List.length_map]
    have h1 := spotsTo_len T f k
    have h2 := hitsL_len T f k
    omega
theorem hitsL_none {T : Tb} {f : Int} {k : Nat} (h : hitE T f k = false) : hitsL T f k = [] := List.length_eq_zero_iff.1 (hitE_no h)
def spotC (x : Nat × Nat) : List Value := [.int .i64 x.1, .int .i64 x.2]
end Go.Proofs.YtgkfejnjjoaihaaDoor
