/- Two sides beside; what an account sees of them. -/
import Derived.Test.YtgpdkfmneoggkaaExR
namespace Go.Proofs.Ytgpdkfmneoggkaa
open Go.RowKit
attribute [local go_sem] Oper.semAt_some

theorem i64_and1 (n : Int) : bits .and .i64 n 1 = n % 2 := by
  have h2 : (BitVec.ofInt 64 n &&& BitVec.ofInt 64 1).toNat = (n % 2).toNat := by
    rw [BitVec.toNat_and]
    have h1 : (BitVec.ofInt 64 (1 : Int)).toNat = 2 ^ 1 - 1 := by decide
    rw [h1, Nat.and_two_pow_sub_one_eq_mod, BitVec.toNat_ofInt]
    have := Int.emod_nonneg n (b := 18446744073709551616) (by decide)
    show (n % 18446744073709551616).toNat % 2 = _
    omega
  show IntKind.i64.wrap ((BitVec.ofInt 64 n &&& BitVec.ofInt 64 1).toNat : Int) = _
  rw [h2]
  exact (IntWalk.i64_in _ (by have := Int.emod_nonneg n (b := 2) (by decide); have := Int.emod_lt_of_pos n (b := 2) (by decide); omega)).trans (by have := Int.emod_nonneg n (b := 2) (by decide); omega)
/-- Two extents, each over its disk. -/
structure Two (w0 w : World) (O1 : Nat → Prop) (x d : Nat) (L1 : Lay9) (s1 : Xt) (k1 : Dk) (O2 : Nat → Prop) (y c : Nat) (L2 : Lay9) (s2 : Xt) (k2 : Dk) : Prop where
  a : ExDk w O1 x d L1 s1 k1
  b : ExDk w O2 y c L2 s2 k2
  ap : ∀ n, (O1 n ∨ n = x) → ¬ (O2 n ∨ n = y)
  lo1 : ∀ n, (O1 n ∨ n = x) → w0.heap.size ≤ n
  lo2 : ∀ n, (O2 n ∨ n = y) → w0.heap.size ≤ n
  bl : Below w0.heap.size w0 w
section
variable {w0 w : World} {O1 O2 : Nat → Prop} {x d y c : Nat} {L1 L2 : Lay9} {s1 s2 : Xt} {k1 k2 : Dk}
theorem Two.sym (h : Two w0 w O1 x d L1 s1 k1 O2 y c L2 s2 k2) : Two w0 w O2 y c L2 s2 k2 O1 x d L1 s1 k1 := ⟨h.b, h.a, fun n h2 h1 => h.ap n h1 h2, h.lo2, h.lo1, h.bl⟩
theorem Two.step {w' : World} (h : Two w0 w O1 x d L1 s1 k1 O2 y c L2 s2 k2) (hb : Below w.heap.size w w') : Two w0 w' O1 x d L1 s1 k1 O2 y c L2 s2 k2 := ⟨h.a.step hb, h.b.step hb, h.ap, h.lo1, h.lo2, h.bl.trans (hb.mono h.bl.size)⟩
theorem Two.left {w' : World} {v : Value} {s' : Xt} {k' : Dk} {e : Ending} (h : Two w0 w O1 x d L1 s1 k1 O2 y c L2 s2 k2) (hs : SideOut w O1 x d v s' k' e w') : e = .returned v ∧ ∃ O' L', Two w0 w' O' x d L' s' k' O2 y c L2 s2 k2 := by
  obtain ⟨rfl, O', L', hE, hO, hT⟩ := hs
  have h2 : ∀ n, (O2 n ∨ n = y) → n < w.heap.size := fun n hn => by
    rcases hn with hn | rfl
    · exact h.b.dk.lt n hn
    · exact h.b.ex.lt
  refine ⟨rfl, O', L', hE, h.b.other hT (fun b hb hh => h.ap b hh (.inl hb)) (fun hh => h.ap y hh (.inr rfl)), fun n h1 hn => ?_, fun n hn => ?_, h.lo2, h.bl.trans (hT.below h.bl.size h.lo1)⟩
  · rcases h1 with h1 | rfl
    · rcases hO n h1 with h3 | h3
      · exact h.ap n (.inl h3) hn
      · have := h2 n hn; omega
    · exact h.ap n (.inr rfl) hn
  · rcases hn with hn | rfl
    · rcases hO n hn with h3 | h3
      · exact h.lo1 n (.inl h3)
      · have := h.bl.size; omega
    · exact h.lo1 n (.inr rfl)
end
/-- How the three accounts' parts lie. -/
structure Shp (s : Xt) (k : Dk) : Prop where
  n : s.n = 3
  f : ∀ a, a < 3 → (s.pt a).fi = a * 8
  c : ∀ a, a < 3 → (s.pt a).ct = 8
  z : k.fl.length = 24
/-- What the account 1 can see is alike. -/
structure Alk (s1 : Xt) (k1 : Dk) (s2 : Xt) (k2 : Dk) : Prop where
  p : s1.pt 1 = s2.pt 1
  f : ∀ i : Nat, 8 ≤ i → i < 16 → k1.fl[i]? = k2.fl[i]?
  q : ∀ i : Nat, 8 ≤ i → i < 16 → k1.pd (i : Int) = k2.pd (i : Int)
theorem Alk.sym {s1 s2 : Xt} {k1 k2 : Dk} (h : Alk s1 k1 s2 k2) : Alk s2 k2 s1 k1 := ⟨h.p.symm, fun i a b => (h.f i a b).symm, fun i a b => (h.q i a b).symm⟩
theorem Alk.seen {s1 s2 : Xt} {k1 k2 : Dk} (h : Alk s1 k1 s2 k2) {i : Nat} (h1 : 8 ≤ i) (h2 : i < 16) : k1.seen i = k2.seen i := by
  unfold Dk.seen
  rw [h.q i h1 h2, List.getD_eq_getElem?_getD, List.getD_eq_getElem?_getD, h.f i h1 h2]
/-- The invariant of the law's loop. -/
def Inv10 (w0 w : World) (x d y c m : Nat) : Prop := ∃ O1 L1 s1 k1 O2 L2 s2 k2, Two w0 w O1 x d L1 s1 k1 O2 y c L2 s2 k2 ∧ Shp s1 k1 ∧ Shp s2 k2 ∧ Alk s1 k1 s2 k2 ∧ k1.wr ≤ m ∧ k2.wr ≤ m
theorem Inv10.sym {w0 w : World} {x d y c m : Nat} (h : Inv10 w0 w x d y c m) : Inv10 w0 w y c x d m := by
  obtain ⟨O1, L1, s1, k1, O2, L2, s2, k2, hT, h1, h2, hA, m1, m2⟩ := h
  exact ⟨O2, L2, s2, k2, O1, L1, s1, k1, hT.sym, h2, h1, hA.sym, m2, m1⟩
theorem Inv10.step {w0 w w' : World} {x d y c m : Nat} (h : Inv10 w0 w x d y c m) (hb : Below w.heap.size w w') : Inv10 w0 w' x d y c m := by
  obtain ⟨O1, L1, s1, k1, O2, L2, s2, k2, hT, hh⟩ := h
  exact ⟨O1, L1, s1, k1, O2, L2, s2, k2, hT.step hb, hh⟩
theorem Inv10.mono {w0 w : World} {x d y c m m' : Nat} (h : Inv10 w0 w x d y c m) (hm : m ≤ m') : Inv10 w0 w x d y c m' := by
  obtain ⟨O1, L1, s1, k1, O2, L2, s2, k2, hT, h1, h2, hA, m1, m2⟩ := h
  exact ⟨O1, L1, s1, k1, O2, L2, s2, k2, hT, h1, h2, hA, by omega, by omega⟩

/-! ### What is kept -/
theorem flushed_get (k : Dk) (a n : Nat) (hz : a + n ≤ k.fl.length) : (∀ i : Nat, (k.flushed a n).fl[i]? = if a ≤ i ∧ i < a + n then some (k.seen i) else k.fl[i]?) ∧ (∀ i : Int, (k.flushed a n).pd i = if (a : Int) ≤ i ∧ i < a + n then [] else k.pd i) ∧ (k.flushed a n).wr = k.wr := by
  induction n with
  | zero => exact ⟨fun i => by rw [if_neg (by omega)]; rfl, fun i => by rw [if_neg (by omega)]; rfl, rfl⟩
  | succ n ih =>
    obtain ⟨i1, i2, i3⟩ := ih (by omega)
    rw [Dk.flushed]
    unfold Dk.fl1
    refine ⟨fun i => ?_, fun i => ?_, i3⟩
    · dsimp only
      rw [List.getElem?_set]
      by_cases e : a + n = i
      · subst e
        rw [if_pos rfl, if_pos (by rw [Dk.flushed_len]; omega), if_pos (by omega)]
        congr 1
        unfold Dk.seen
        rw [i2, if_neg (by omega), List.getD_eq_getElem?_getD, List.getD_eq_getElem?_getD, i1, if_neg (by omega)]
      · rw [if_neg e, i1]
        by_cases h : a ≤ i ∧ i < a + n
        · rw [if_pos h, if_pos (by omega)]
        · rw [if_neg h, if_neg (by omega)]
    · dsimp only
      by_cases e : i = ((a + n : Nat) : Int)
      · rw [if_pos e, if_pos (by omega)]
      · rw [if_neg e, i2]
        by_cases h : (a : Int) ≤ i ∧ i < a + n
        · rw [if_pos h, if_pos (by omega)]
        · rw [if_neg h, if_neg (by omega)]
section
variable {s s1 s2 : Xt} {k k1 k2 : Dk}
theorem Shp.set (h : Shp s k) (a : Nat) (p : Pt) (hp : p.fi = (s.pt a).fi ∧ p.ct = (s.pt a).ct) : Shp (s.set a p) k :=
  ⟨h.n, fun b hb => by rw [(set_same_ct s a p hp b).1]; exact h.f b hb, fun b hb => by rw [(set_same_ct s a p hp b).2]; exact h.c b hb, h.z⟩
theorem Shp.disk (h : Shp s k) (k' : Dk) (hz : k'.fl.length = k.fl.length) : Shp s k' := ⟨h.n, h.f, h.c, hz.trans h.z⟩
theorem writeV_fl (p : Pt) (k : Dk) (i : Int) (l : Sec) : (writeV p k i l).2.fl = k.fl ∧ (writeV p k i l).2.wr ≤ k.wr + 1 := by
  unfold writeV
  split
  · exact ⟨rfl, by dsimp only; omega⟩
  · split
    · exact ⟨rfl, by dsimp only; omega⟩
    · exact ⟨rfl, Nat.le_refl _⟩
/-- Another account's step changes nothing of it. -/
theorem Alk.part (h : Alk s1 k1 s2 k2) {a : Nat} (ha : a ≠ 1) (p : Pt) : Alk (s1.set a p) k1 s2 k2 := ⟨by rw [Xt.set_other _ _ _ (Ne.symm ha)]; exact h.p, h.f, h.q⟩
theorem Alk.write (h : Alk s1 k1 s2 k2) (hs : Shp s1 k1) {a : Nat} (ha : a = 0 ∨ a = 2) (i : Int) (l : Sec) : Alk s1 (writeV (s1.pt a) k1 i l).2 s2 k2 := by
  refine ⟨h.p, fun j h1 h2 => by rw [(writeV_fl _ _ _ _).1]; exact h.f j h1 h2, fun j h1 h2 => ?_⟩
  unfold writeV
  split
  · exact h.q j h1 h2
  · rename_i hh
    split
    · exact h.q j h1 h2
    · have hi : (s1.pt a).has i = true := by simpa using hh
      unfold Pt.has at hi
      simp only [Bool.and_eq_true, decide_eq_true_eq] at hi
      have hf := hs.f a (by omega)
      have hc := hs.c a (by omega)
      unfold Dk.push
      dsimp only
      rw [if_neg (by omega)]
      exact h.q j h1 h2
theorem Alk.flush (h : Alk s1 k1 s2 k2) (hs : Shp s1 k1) {a : Nat} (ha : a = 0 ∨ a = 2) : Alk s1 (k1.flushed (s1.pt a).fi (s1.pt a).ct) s2 k2 := by
  have hf := hs.f a (by omega)
  have hc := hs.c a (by omega)
  have hz := hs.z
  obtain ⟨f1, f2, -⟩ := flushed_get k1 (s1.pt a).fi (s1.pt a).ct (by omega)
  refine ⟨h.p, fun j h1 h2 => ?_, fun j h1 h2 => ?_⟩
  · rw [f1, if_neg (by omega)]; exact h.f j h1 h2
  · rw [f2, if_neg (by omega)]; exact h.q j h1 h2
/-- The account's own step keeps both alike. -/
theorem Alk.part1 (h : Alk s1 k1 s2 k2) (p : Pt) : Alk (s1.set 1 p) k1 (s2.set 1 p) k2 := ⟨by rw [Xt.set_same, Xt.set_same], h.f, h.q⟩
theorem Alk.write1 (h : Alk s1 k1 s2 k2) (i : Int) (l : Sec) : (writeV (s1.pt 1) k1 i l).1 = (writeV (s2.pt 1) k2 i l).1 ∧ Alk s1 (writeV (s1.pt 1) k1 i l).2 s2 (writeV (s2.pt 1) k2 i l).2 := by
  rw [← h.p]
  unfold writeV
  split
  · exact ⟨rfl, h⟩
  · split
    · exact ⟨rfl, h⟩
    · refine ⟨rfl, h.p, h.f, fun j h1 h2 => ?_⟩
      unfold Dk.push
      dsimp only
      rw [h.q j h1 h2]
theorem Alk.flush1 (h : Alk s1 k1 s2 k2) (hs1 : Shp s1 k1) (hs2 : Shp s2 k2) : Alk s1 (k1.flushed (s1.pt 1).fi (s1.pt 1).ct) s2 (k2.flushed (s2.pt 1).fi (s2.pt 1).ct) := by
  have hf := hs1.f 1 (by omega)
  have hc := hs1.c 1 (by omega)
  have hz := hs1.z
  have hz2 := hs2.z
  rw [← h.p]
  obtain ⟨f1, f2, -⟩ := flushed_get k1 (s1.pt 1).fi (s1.pt 1).ct (by omega)
  obtain ⟨g1, g2, -⟩ := flushed_get k2 (s1.pt 1).fi (s1.pt 1).ct (by omega)
  refine ⟨h.p, fun j h1 h2 => ?_, fun j h1 h2 => ?_⟩
  · rw [f1, g1, if_pos (by omega), if_pos (by omega), h.seen h1 h2]
  · rw [f2, g2, if_pos (by omega), if_pos (by omega)]
end
end Go.Proofs.Ytgpdkfmneoggkaa
