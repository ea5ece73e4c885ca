/- The walk of IsaWords. -/
import Derived.Test.YtnkkomodpjgefaaGreatDoorIsaOfLaw
namespace Go.Proofs.YtnkkomodpjgefaaGreatDoor
open Go.RowKit Go.Sort

/-! ### Instructions in a row -/
def fiveV (o d a b m : Nat → Int) (k : Nat) : List Value := [.int .i64 (o k), .int .i64 (d k), .int .i64 (a k), .int .i64 (b k), .int .i64 (m k)]
def insL (o d a b m : Nat → Int) : Nat → List Value
  | 0 => []
  | k + 1 => insL o d a b m k ++ fiveV o d a b m k
theorem insL_len (o d a b m : Nat → Int) (k : Nat) : (insL o d a b m k).length = k * 5 := by
  induction k with
  | zero => rfl
  | succ k ih => rw [insL, List.length_append, ih]; simp [fiveV]; omega
theorem insL_at (o d a b m : Nat → Int) : ∀ (n k q : Nat), k < n → q < 5 → (insL o d a b m n)[k * 5 + q]? = (fiveV o d a b m k)[q]?
  | 0, _, _, h, _ => by omega
  | n + 1, k, q, h, hq => by
    have hl := insL_len o d a b m n
    rw [insL]
    rcases Nat.lt_or_ge k n with hk | hk
    · rw [List.getElem?_append_left (by omega)]; exact insL_at o d a b m n k q hk hq
    · obtain rfl : k = n := by omega
      rw [List.getElem?_append_right (by omega), hl, Nat.add_sub_cancel_left]
theorem insL_one (o d a b m : Nat → Int) : ∀ (n : Nat), ∀ u ∈ insL o d a b m n, u.oneCell' = true
  | 0, u, h => by cases h
  | n + 1, u, h => by
    rw [insL] at h
    rcases List.mem_append.1 h with h | h
    · exact insL_one o d a b m n u h
    · simp [fiveV] at h; rcases h with rfl | rfl | rfl | rfl | rfl <;> rfl
/-- A row of instructions that came in, nil or not. -/
def InsOf (w : World) (A : Option Addr) (n : Nat) (o d a b m : Nat → Int) : Prop := ∀ ad, A = some ad → ∀ j u, (insL o d a b m n)[j]? = some u → w.cell? (ad.add j) = some u
theorem InsOf.below {w w' : World} {A : Option Addr} {n : Nat} {o d a b m : Nat → Int} (h : InsOf w A n o d a b m) (hb : Below w.heap.size w w') : InsOf w' A n o d a b m := fun ad e j x hx => by
  have h1 := h ad e j x hx
  rw [hb.cell (World.block_lt_of_cell? w _ h1)]; exact h1
theorem plain_add (B off i : Nat) : (⟨B, off, none⟩ : Addr).add i = ⟨B, off + i, none⟩ := by
  unfold Addr.add; split
  · rename_i e; subst e; rfl
  · rfl
theorem InsAt.of_cells {w : World} {B off n : Nat} {o d a b m : Nat → Int} (h : ∀ j u, (insL o d a b m n)[j]? = some u → w.cell? ((⟨B, off, none⟩ : Addr).add j) = some u) : InsAt w B off n o d a b m := fun j hj => by
  have k := fun q hq v (e : (fiveV o d a b m j)[q]? = some v) => h (j * 5 + q) v ((insL_at o d a b m n j q hj hq).trans e)
  simp only [plain_add] at k
  refine ⟨k 0 (by omega) _ rfl, ?_, ?_, ?_, ?_⟩
  · have := k 1 (by omega) _ rfl; rwa [← Nat.add_assoc] at this
  · have := k 2 (by omega) _ rfl; rwa [← Nat.add_assoc] at this
  · have := k 3 (by omega) _ rfl; rwa [← Nat.add_assoc] at this
  · have := k 4 (by omega) _ rfl; rwa [← Nat.add_assoc] at this
theorem InsOf.plain {w : World} {A : Option Addr} {n : Nat} {o d a b m : Nat → Int} (h : InsOf w A n o d a b m) (hA : A ≠ none) (hn : 0 < n) : ∃ B off, A = some ⟨B, off, none⟩ ∧ InsAt w B off n o d a b m := by
  obtain ⟨ad, rfl⟩ := Option.ne_none_iff_exists'.1 hA
  have h0 := h ad rfl (0 * 5 + 0) (.int .i64 (o 0)) ((insL_at o d a b m n 0 0 hn (by omega)).trans rfl)
  obtain ⟨B, off, rfl⟩ := spot_none (show w.cell? ad = _ from h0)
  exact ⟨B, off, rfl, InsAt.of_cells (h _ rfl)⟩
theorem InsAt.of_own {w : World} {base g cap n N : Nat} {o d a b m : Nat → Int} {xs : List Value} (h : w.ownsRow base 31 5 (.slice (some ⟨g, 0, none⟩) N cap) N (insL o d a b m n ++ xs)) : InsAt w g 0 n o d a b m :=
  InsAt.of_cells fun j u hu => h.cells (g := g) rfl j u (by
    rw [List.getElem?_append_left (by rcases Nat.lt_or_ge j (insL o d a b m n).length with h | h; exact h; rw [List.getElem?_eq_none h] at hu; cases hu)]; exact hu)
theorem InsAt.last {w : World} {base g cap n N : Nat} {o d a b m : Nat → Int} {x : Value} {xs : List Value} (h : w.ownsRow base 31 5 (.slice (some ⟨g, 0, none⟩) N cap) N (insL o d a b m n ++ x :: xs)) : w.cell? ⟨g, n * 5, none⟩ = some x := by
  have := h.cells (g := g) rfl (n * 5) x (by rw [List.getElem?_append_right (by rw [insL_len]; omega), insL_len]; simp)
  rw [plain_add, Nat.zero_add] at this; exact this
theorem InsAt.below {w w' : World} {B off n : Nat} {o d a b m : Nat → Int} (h : InsAt w B off n o d a b m) {N : Nat} (hb : Below N w w') (hB : B < N) : InsAt w' B off n o d a b m := fun j hj => by
  have hc := fun o => hb.cell (p := ⟨B, o, none⟩) hB
  simp only [hc]; exact h j hj

theorem cells_five_new (w : World) (x0 x1 x2 x3 x4 : Value) (t : TypeId) : ∀ j u, [x0, x1, x2, x3, x4][j]? = some u → (w.alloc (.cells #[x0, x1, x2, x3, x4] t)).cell? ((⟨w.heap.size, 0, none⟩ : Addr).add j) = some u := by
  intro j u hu
  rw [plain_add, Nat.zero_add]
  have hj : j < 5 := by
    rcases Nat.lt_or_ge j 5 with h | h
    · exact h
    · rw [List.getElem?_eq_none (by simpa using h)] at hu; cases hu
  have : j = 0 ∨ j = 1 ∨ j = 2 ∨ j = 3 ∨ j = 4 := by omega
  rcases this with rfl | rfl | rfl | rfl | rfl <;> simpa using hu
theorem cells_four_new (w : World) (x0 x1 x2 x3 : Value) (t : TypeId) : ∀ j u, [x0, x1, x2, x3][j]? = some u → (w.alloc (.cells #[x0, x1, x2, x3] t)).cell? ((⟨w.heap.size, 0, none⟩ : Addr).add j) = some u := by
  intro j u hu
  rw [plain_add, Nat.zero_add]
  have hj : j < 4 := by
    rcases Nat.lt_or_ge j 4 with h | h
    · exact h
    · rw [List.getElem?_eq_none (by simpa using h)] at hu; cases hu
  have : j = 0 ∨ j = 1 ∨ j = 2 ∨ j = 3 := by omega
  rcases this with rfl | rfl | rfl | rfl <;> simpa using hu

/-- May the first k be? -/
def allM (o d a b m : Nat → Int) : Nat → Bool
  | 0 => true
  | k + 1 => allM o d a b m k && mayB (o k) (d k) (a k) (b k) (m k)
theorem allM_succ (o d a b m : Nat → Int) (k : Nat) : allM o d a b m (k + 1) = (allM o d a b m k && mayB (o k) (d k) (a k) (b k) (m k)) := rfl
theorem allM_all {o d a b m : Nat → Int} : ∀ {n : Nat}, allM o d a b m n = true → ∀ j, j < n → mayB (o j) (d j) (a j) (b j) (m j) = true
  | 0, _, j, hj => by omega
  | n + 1, h, j, hj => by
    unfold allM at h
    rw [Bool.and_eq_true] at h
    rcases Nat.lt_or_ge j n with hl | hl
    · exact allM_all h.1 j hl
    · obtain rfl : j = n := by omega
      exact h.2
theorem allM_not {o d a b m : Nat → Int} : ∀ {n : Nat}, allM o d a b m n = false → ∃ q, q < n ∧ (∀ j, j < q → mayB (o j) (d j) (a j) (b j) (m j) = true) ∧ mayB (o q) (d q) (a q) (b q) (m q) = false
  | 0, h => by cases h
  | n + 1, h => by
    cases hp : allM o d a b m n
    · obtain ⟨q, hq, h1, h2⟩ := allM_not hp
      exact ⟨q, by omega, h1, h2⟩
    · unfold allM at h
      rw [hp, Bool.true_and] at h
      exact ⟨n, by omega, allM_all hp, h⟩

theorem ten_below {N B g x y : Nat} {W w1 : World} {v0 v1 v2 v3 v4 u0 u1 u2 u3 u4 : Value} (hb : Below N W w1) (hB : B < N) (hg : g < N) (h : W.cell? ⟨B, x, none⟩ = some v0 ∧ W.cell? ⟨B, x + 1, none⟩ = some v1 ∧ W.cell? ⟨B, x + 2, none⟩ = some v2 ∧ W.cell? ⟨B, x + 3, none⟩ = some v3 ∧ W.cell? ⟨B, x + 4, none⟩ = some v4 ∧ W.cell? ⟨g, y, none⟩ = some u0 ∧ W.cell? ⟨g, y + 1, none⟩ = some u1 ∧ W.cell? ⟨g, y + 2, none⟩ = some u2 ∧ W.cell? ⟨g, y + 3, none⟩ = some u3 ∧ W.cell? ⟨g, y + 4, none⟩ = some u4) : w1.cell? ⟨B, x, none⟩ = some v0 ∧ w1.cell? ⟨B, x + 1, none⟩ = some v1 ∧ w1.cell? ⟨B, x + 2, none⟩ = some v2 ∧ w1.cell? ⟨B, x + 3, none⟩ = some v3 ∧ w1.cell? ⟨B, x + 4, none⟩ = some v4 ∧ w1.cell? ⟨g, y, none⟩ = some u0 ∧ w1.cell? ⟨g, y + 1, none⟩ = some u1 ∧ w1.cell? ⟨g, y + 2, none⟩ = some u2 ∧ w1.cell? ⟨g, y + 3, none⟩ = some u3 ∧ w1.cell? ⟨g, y + 4, none⟩ = some u4 := by
  have c1 := fun o => hb.cell (p := ⟨B, o, none⟩) hB
  have c2 := fun o => hb.cell (p := ⟨g, o, none⟩) hg
  simp only [c1, c2]; exact h

theorem Tryz.infoIns : (Tryz.prog.info? 31).map (fun i => (i.zero, i.size, i.bytes)) = some (some (.agg #[.int .i64 0, .int .i64 0, .int .i64 0, .int .i64 0, .int .i64 0]), 5, 40) := by kernel_rfl

end Go.Proofs.YtnkkomodpjgefaaGreatDoor
