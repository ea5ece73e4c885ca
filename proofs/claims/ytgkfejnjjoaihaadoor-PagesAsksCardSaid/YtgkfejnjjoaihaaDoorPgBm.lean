/- All counts together are all entries. -/
import Derived.Test.YtgkfejnjjoaihaaDoorPgDg
namespace Go.Proofs.YtgkfejnjjoaihaaDoor
open Go.RowKit

def sumTo (g : Nat → Nat) : Nat → Nat
  | 0 => 0
  | n + 1 => sumTo g n + g n
theorem sumTo_add (g h : Nat → Nat) : ∀ n, sumTo (fun i => g i + h i) n = sumTo g n + sumTo h n
  | 0 => rfl
  | n + 1 => by simp only [sumTo, sumTo_add g h n]; omega
theorem sumTo_zero (g : Nat → Nat) (h : ∀ i, g i = 0) : ∀ n, sumTo g n = 0
  | 0 => rfl
  | n + 1 => by simp only [sumTo, sumTo_zero g h n, h]
theorem sumTo_ext {g h : Nat → Nat} (e : ∀ i, g i = h i) : ∀ n, sumTo g n = sumTo h n
  | 0 => rfl
  | n + 1 => by simp only [sumTo, sumTo_ext e n, e]
theorem sumTo_one (x : Nat) : ∀ n, sumTo (fun i => if x = i then 1 else 0) n = if x < n then 1 else 0
  | 0 => rfl
  | n + 1 => by
    simp only [sumTo, sumTo_one x n]
    by_cases h : x < n
    · rw [if_pos h, if_neg (by omega), if_pos (by omega)]
    · by_cases h2 : x = n
      · rw [if_neg h, if_pos h2, if_pos (by omega)]
      · rw [if_neg h, if_neg h2, if_neg (by omega)]
theorem sumTo_swap (g : Nat → Nat → Nat) (m : Nat) : ∀ n, sumTo (fun i => sumTo (g i) m) n = sumTo (fun j => sumTo (fun i => g i j) n) m
  | 0 => by
    show 0 = _
    rw [sumTo_zero]
    intro i; rfl
  | n + 1 => by
    show sumTo (fun i => sumTo (g i) m) n + sumTo (g n) m = sumTo (fun j => sumTo (fun i => g i j) n + g n j) m
    rw [sumTo_swap g m n, sumTo_add]
theorem sum_filter (isf : Nat → Bool) (fr : Nat → Nat) (M : Nat) (h : ∀ p, fr p < M) : ∀ l : List Nat, sumTo (fun f => (l.filter (fun p => isf p && decide (fr p = f))).length) M = (l.filter isf).length
  | [] => sumTo_zero _ (fun _ => rfl) M
  | p :: l => by
    have e : ∀ f, ((p :: l).filter (fun p => isf p && decide (fr p = f))).length = (l.filter (fun p => isf p && decide (fr p = f))).length + (if isf p then (if fr p = f then 1 else 0) else 0) := fun f => by
      rw [List.filter_cons]
      cases hp : isf p <;> by_cases hf : fr p = f <;> simp [hf]
    rw [sumTo_ext e, sumTo_add, sum_filter isf fr M h l, List.filter_cons]
    cases hp : isf p with
    | false => simp; exact sumTo_zero _ (fun _ => rfl) M
    | true => simp only [if_true]; rw [sumTo_one, if_pos (h p)]; rfl

/-- The entries of the first spaces; the counts of the first frames. -/
def entTo (T : Tb) (s : Nat) : Nat := sumTo (fun s => countK T s 32) s
def allTo (T : Tb) (f : Nat) : Nat := sumTo (fun f => countTo T f 16) f
theorem countTo_sum (T : Tb) (f : Int) : ∀ k, countTo T f k = sumTo (fun s => ((List.range 32).filter (hitB T f s)).length) k
  | 0 => rfl
  | k + 1 => by simp only [countTo, sumTo, countTo_sum T f k]
theorem all_is_ent {T : Tb} (hT : TbOk T) : allTo T 256 = entTo T 16 := by
  unfold allTo entTo
  rw [sumTo_ext (fun f => countTo_sum T f 16), sumTo_swap]
  apply sumTo_ext
  intro s
  have h := sum_filter (fun p => (T s p).is) (fun p => (T s p).fr.toNat) 256 (fun p => by have h1 := (hT.ok s p).f0; have h2 := (hT.ok s p).f1; omega) (List.range 32)
  show _ = ((List.range 32).filter (fun j => (T s j).is)).length
  rw [← h]
  apply sumTo_ext
  intro f
  congr 1
  apply List.filter_congr
  intro p _
  unfold hitB
  congr 1
  have h1 := (hT.ok s p).f0
  by_cases e : (T s p).fr = f
  · have e2 : (T s p).fr.toNat = f := by omega
    simp [e, e2]
  · have e2 : ¬ (T s p).fr.toNat = f := by omega
    simp [e, e2]
theorem spotsTo_count (T : Tb) (f : Int) : ∀ k, (spotsTo T f k).length = countTo T f k
  | 0 => rfl
  | k + 1 => by
    rw [spotsTo_succ, List.length_append, List.length_map, spotsTo_count T f k]
    rfl
theorem spotsTo_mem {T : Tb} {f : Int} {k s p : Nat} (h : (s, p) ∈ spotsTo T f k) : s < k ∧ p < 32 ∧ hitB T f s p = true := by
  unfold spotsTo at h
  simp only [List.mem_flatMap, List.mem_map, List.mem_range] at h
  obtain ⟨a, ha, b, hb, e⟩ := h
  obtain ⟨rfl, rfl⟩ := Prod.mk.inj e
  unfold hitsL at hb
  have := List.mem_filter.1 hb
  exact ⟨ha, List.mem_range.1 this.1, this.2⟩
theorem spots_at (l : List (Nat × Nat)) (i s p : Nat) (h : l[i]? = some (s, p)) : (l.flatMap spotC)[i * 2]? = some (.int .i64 s) ∧ (l.flatMap spotC)[i * 2 + 1]? = some (.int .i64 p) := by
  induction l generalizing i with
  | nil => simp at h
  | cons x l ih =>
    rw [List.flatMap_cons]
    cases i with
    | zero =>
      simp only [List.getElem?_cons_zero, Option.some.injEq] at h
      subst h
      exact ⟨rfl, rfl⟩
    | succ i =>
      have h2 := ih i (by simpa using h)
      have e : (spotC x).length = 2 := rfl
      rw [show (i + 1) * 2 = i * 2 + 2 by omega]
      constructor
      · rw [List.getElem?_append_right (by omega), e, Nat.add_sub_cancel]; exact h2.1
      · rw [List.getElem?_append_right (by omega), e, show i * 2 + 2 + 1 - 2 = i * 2 + 1 by omega]; exact h2.2
/-- A right asked for, among an entry's rights. -/
theorem right_bits {x r : Int} (h0 : 0 ≤ x) (h8 : x < 8) (hr : r = 1 ∨ r = 2 ∨ r = 4) : bits .and .i64 x r = 0 ∨ bits .and .i64 x r = r := by
  rcases (show x = 0 ∨ x = 1 ∨ x = 2 ∨ x = 3 ∨ x = 4 ∨ x = 5 ∨ x = 6 ∨ x = 7 by omega) with rfl | rfl | rfl | rfl | rfl | rfl | rfl | rfl <;> rcases hr with rfl | rfl | rfl <;> decide
end Go.Proofs.YtgkfejnjjoaihaaDoor
