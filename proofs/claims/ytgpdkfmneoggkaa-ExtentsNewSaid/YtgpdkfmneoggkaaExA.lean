/- Extents as the chapter says them: each account's part, and which of its sectors are taken; such extents' cells in memory. -/
import Derived.Test.YtgpdkfmneoggkaaDkH
import Derived.Laws.BitsAllLaws
import Derived.Deep.LoopGhost
namespace Go.Proofs.Ytgpdkfmneoggkaa
open Go.RowKit

/-- An account's part: where it begins, how many sectors it has, and its words of bits. -/
structure Pt where
  fi : Nat
  ct : Nat
  wd : Nat → Nat
def Pt.bit (p : Pt) (i : Nat) : Bool := (p.wd (i / 64)).testBit (i % 64)
structure PtOk (p : Pt) : Prop where
  c1 : p.fi + p.ct ≤ 4096
  w1 : ∀ k, p.wd k < 2 ^ 64
  hi : ∀ i, p.ct ≤ i → p.bit i = false
def Pt.has (p : Pt) (i : Int) : Bool := decide (0 ≤ i) && (decide (i < (p.ct : Int)) && p.bit i.toNat)
def Pt.flip (p : Pt) (i : Nat) : Pt := ⟨p.fi, p.ct, fun k => if k = i / 64 then p.wd k ^^^ 2 ^ (i % 64) else p.wd k⟩
def Pt.turn (p : Pt) (f : Nat) : Nat → Pt
  | 0 => p
  | k + 1 => (p.turn f k).flip (f + k)
def zeroP : Pt := ⟨0, 0, fun _ => 0⟩
def newP (f n : Nat) : Pt := ⟨f, n, fun _ => 0⟩
theorem newP_bit (f n i : Nat) : (newP f n).bit i = false := by simp [Pt.bit, newP]
theorem newP_ok {f n : Nat} (h : f + n ≤ 4096) : PtOk (newP f n) := ⟨h, fun _ => by show (0 : Nat) < _; decide, fun i _ => newP_bit f n i⟩
theorem zeroP_ok : PtOk zeroP := newP_ok (by decide)
theorem Pt.flip_bit (p : Pt) (i j : Nat) : (p.flip i).bit j = (if j = i then !p.bit j else p.bit j) := by
  unfold Pt.flip Pt.bit
  dsimp only
  by_cases h : j / 64 = i / 64
  · rw [if_pos h, Nat.testBit_xor, Nat.testBit_two_pow]
    by_cases h2 : i % 64 = j % 64
    · rw [if_pos (by omega), decide_eq_true h2]; simp
    · rw [if_neg (by omega), decide_eq_false h2]; simp
  · rw [if_neg h, if_neg (by intro e; rw [e] at h; exact h rfl)]
theorem Pt.flip_ok {p : Pt} (h : PtOk p) {i : Nat} (hi : i < p.ct) : PtOk (p.flip i) := by
  refine ⟨h.c1, fun k => ?_, fun j hj => ?_⟩
  · show (if k = i / 64 then p.wd k ^^^ 2 ^ (i % 64) else p.wd k) < _
    split
    · exact Nat.xor_lt_two_pow (h.w1 k) (Nat.pow_lt_pow_right (by decide) (by omega))
    · exact h.w1 k
  · have hj : p.ct ≤ j := hj
    rw [Pt.flip_bit, if_neg (by omega)]
    exact h.hi j hj
theorem Pt.turn_ct (p : Pt) (f k : Nat) : (p.turn f k).ct = p.ct ∧ (p.turn f k).fi = p.fi := by
  induction k with
  | zero => exact ⟨rfl, rfl⟩
  | succ k ih => exact ih
theorem Pt.turn_bit (p : Pt) (f k j : Nat) : (p.turn f k).bit j = (if f ≤ j ∧ j < f + k then !p.bit j else p.bit j) := by
  induction k with
  | zero => rw [if_neg (by omega)]; rfl
  | succ k ih =>
    show ((p.turn f k).flip (f + k)).bit j = _
    rw [Pt.flip_bit, ih]
    by_cases h : j = f + k
    · rw [if_pos h, if_neg (by omega), if_pos (by omega)]
    · rw [if_neg h]
      by_cases h2 : f ≤ j ∧ j < f + k
      · rw [if_pos h2, if_pos (by omega)]
      · rw [if_neg h2, if_neg (by omega)]
theorem Pt.turn_ok {p : Pt} (h : PtOk p) {f k : Nat} (hi : f + k ≤ p.ct) : PtOk (p.turn f k) := by
  induction k with
  | zero => exact h
  | succ k ih => exact Pt.flip_ok (ih (by omega)) (by rw [(Pt.turn_ct p f k).1]; omega)

/-- Extents: how many accounts, and each one's part. -/
structure Xt where
  n : Nat
  pt : Nat → Pt
def Xt.set (s : Xt) (a : Nat) (p : Pt) : Xt := ⟨s.n, fun b => if b = a then p else s.pt b⟩
theorem Xt.set_same (s : Xt) (a : Nat) (p : Pt) : (s.set a p).pt a = p := by simp [Xt.set]
theorem Xt.set_other (s : Xt) (a : Nat) (p : Pt) {b : Nat} (h : b ≠ a) : (s.set a p).pt b = s.pt b := by simp [Xt.set, h]
theorem Xt.set_set (s : Xt) (a : Nat) (p q : Pt) : (s.set a p).set a q = s.set a q := by
  unfold Xt.set
  congr 1
  funext b
  dsimp only
  split <;> rfl
theorem Xt.set_self (s : Xt) (a : Nat) : s.set a (s.pt a) = s := by
  unfold Xt.set
  obtain ⟨n, pt⟩ := s
  congr 1
  funext b
  dsimp only
  split
  · subst_vars; rfl
  · rfl

/-- A part's cells; all cells. -/
def pcell (p : Pt) (k : Nat) : Value := if k = 0 then .int .i64 (p.fi : Int) else if k = 1 then .int .i64 (p.ct : Int) else .int .u64 (p.wd (k - 2) : Int)
def ptL (p : Pt) : List Value := (List.range 66).map (pcell p)
def xcell (d : Nat) (s : Xt) (k : Nat) : Value := if k = 0 then .pointer (some ⟨d, 0, none⟩) else if k = 1 then .int .i64 (s.n : Int) else pcell (s.pt ((k - 2) / 66)) ((k - 2) % 66)
def xL (d : Nat) (s : Xt) : List Value := (List.range 530).map (xcell d s)
theorem ptL_len (p : Pt) : (ptL p).length = 66 := by simp [ptL]
theorem xL_len (d : Nat) (s : Xt) : (xL d s).length = 530 := by simp [xL]
theorem ptL_get (p : Pt) {k : Nat} (hk : k < 66) : (ptL p)[k]? = some (pcell p k) := by
  unfold ptL
  rw [List.getElem?_map, List.getElem?_range hk]
  rfl
theorem xL_get (d : Nat) (s : Xt) {k : Nat} (hk : k < 530) : (xL d s)[k]? = some (xcell d s k) := by
  unfold xL
  rw [List.getElem?_map, List.getElem?_range hk]
  rfl
theorem xcell_part (d : Nat) (s : Xt) {a j : Nat} (hj : j < 66) : xcell d s (2 + a * 66 + j) = pcell (s.pt a) j := by
  unfold xcell
  rw [if_neg (by omega), if_neg (by omega), show (2 + a * 66 + j - 2) / 66 = a by omega, show (2 + a * 66 + j - 2) % 66 = j by omega]

/-- Extents in memory, over the disk that lies at d. -/
structure ExIs (w : World) (x d : Nat) (s : Xt) : Prop where
  n8 : s.n ≤ 8
  ok : ∀ a, PtOk (s.pt a)
  row : w.heap[x]? = some (.cells (xL d s).toArray 70 (0, 0))

section
variable {w : World} {x d : Nat} {s : Xt}
theorem ExIs.cell (h : ExIs w x d s) {k : Nat} (hk : k < 530) : w.cell? ⟨x, k, none⟩ = some (xcell d s k) := by
  rw [cell_of_row _ _ _ _ _ _ h.row]
  simp only [List.getElem?_toArray]
  exact xL_get d s hk
theorem ExIs.c0 (h : ExIs w x d s) : w.cell? ⟨x, 0, none⟩ = some (.pointer (some ⟨d, 0, none⟩)) := h.cell (by decide)
theorem ExIs.c1 (h : ExIs w x d s) : w.cell? ⟨x, 1, none⟩ = some (.int .i64 (s.n : Int)) := h.cell (by decide)
theorem ExIs.cp (h : ExIs w x d s) {a j : Nat} (ha : a < 8) (hj : j < 66) : w.cell? ⟨x, 2 + a * 66 + j, none⟩ = some (pcell (s.pt a) j) := by
  rw [h.cell (by omega), xcell_part d s hj]
theorem ExIs.part (h : ExIs w x d s) {a : Nat} (ha : a < 8) : w.rangeAt x (2 + a * 66) (ptL (s.pt a)) := by
  intro j v hv
  have hj : j < 66 := by have := (List.getElem?_eq_some_iff.1 hv).1; rwa [ptL_len] at this
  rw [ptL_get _ hj] at hv
  rw [h.cp ha hj]
  exact hv
theorem ExIs.fz (h : ExIs w x d s) (o : Nat) : w.frozen? ⟨x, o, none⟩ = false := frozen_of_row _ _ _ _ _ h.row
theorem ExIs.lt (h : ExIs w x d s) : x < w.heap.size := (Array.getElem?_eq_some_iff.1 h.row).1
theorem ExIs.keep {w' : World} (h : ExIs w x d s) (e : w'.heap[x]? = w.heap[x]?) : ExIs w' x d s := ⟨h.n8, h.ok, e.trans h.row⟩
theorem ExIs.step {w' : World} (h : ExIs w x d s) (hb : Below w.heap.size w w') : ExIs w' x d s := h.keep (hb.block x h.lt)
/-- A word was written. -/
theorem ExIs.flip (h : ExIs w x d s) {a i : Nat} (ha : a < 8) (hi : i < (s.pt a).ct) :
    ExIs (w.setCell ⟨x, 2 + a * 66 + (2 + i / 64), none⟩ (.int .u64 (((s.pt a).wd (i / 64) ^^^ 2 ^ (i % 64) : Nat) : Int))) x d (s.set a ((s.pt a).flip i)) := by
  have hct := (h.ok a).c1
  refine ⟨h.n8, fun b => ?_, ?_⟩
  · by_cases hb : b = a
    · subst hb; rw [Xt.set_same]; exact Pt.flip_ok (h.ok b) hi
    · rw [Xt.set_other _ _ _ hb]; exact h.ok b
  · rw [heap_setCell_same _ _ _ _ _ _ h.row]
    have key : ∀ A B : Array Value, A = B → some (Obj.cells A 70 (0, 0)) = some (Obj.cells B 70 (0, 0)) := fun A B e => by rw [e]
    refine key _ _ ?_
    apply Array.ext_getElem?
    intro k
    rw [Array.getElem?_setIfInBounds]
    simp only [List.size_toArray, xL_len, List.getElem?_toArray]
    by_cases hk : k < 530
    · rw [xL_get _ _ hk, xL_get _ _ hk]
      by_cases c : 2 + a * 66 + (2 + i / 64) = k
      · subst c
        rw [if_pos rfl, if_pos (by omega), xcell_part _ _ (by omega), Xt.set_same]
        unfold pcell Pt.flip
        rw [if_neg (by omega), if_neg (by omega)]
        dsimp only
        rw [show 2 + i / 64 - 2 = i / 64 by omega, if_pos rfl]
      · rw [if_neg c]
        unfold xcell
        by_cases k0 : k = 0
        · rw [if_pos k0, if_pos k0]
        rw [if_neg k0, if_neg k0]
        by_cases k1 : k = 1
        · rw [if_pos k1, if_pos k1]; rfl
        rw [if_neg k1, if_neg k1]
        by_cases ka : (k - 2) / 66 = a
        · rw [ka, Xt.set_same]
          unfold pcell Pt.flip
          dsimp only
          split
          · rfl
          split
          · rfl
          · rw [if_neg (by omega)]
        · rw [Xt.set_other _ _ _ ka]
    · rw [if_neg (by omega), List.getElem?_eq_none (by rw [xL_len]; omega), List.getElem?_eq_none (by rw [xL_len]; omega)]
end
/-- A bit that is looked at. -/
theorem bit_and {v m : Nat} (hv : v < 2 ^ 64) : (bits .and .u64 ((v : Int) / 2 ^ m) 1 == 1) = v.testBit m := by
  have e : ((v : Int) / 2 ^ m) = ((v / 2 ^ m : Nat) : Int) := by push_cast; rfl
  have hlt : v / 2 ^ m < 18446744073709551616 := Nat.lt_of_le_of_lt (Nat.div_le_self _ _) hv
  rw [e, show (1 : Int) = ((1 : Nat) : Int) from rfl, u64_and_nat _ _ hlt (by decide), Nat.and_one_is_mod, Nat.testBit_eq_decide_div_mod_eq]
  generalize v / 2 ^ m % 2 = r
  by_cases h : r = 1
  · subst h; rfl
  · rw [decide_eq_false h]
    have : ¬ ((r : Nat) : Int) = ((1 : Nat) : Int) := by omega
    simp [this]
    omega
end Go.Proofs.Ytgpdkfmneoggkaa
