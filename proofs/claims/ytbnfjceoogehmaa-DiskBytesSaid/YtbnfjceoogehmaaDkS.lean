/- What sectors were, as texts, in memory. -/
import Derived.Test.YtbnfjceoogehmaaDkR
namespace Go.Proofs.Ytbnfjceoogehmaa
open Go.RowKit
open Go.Maps (Keyed)

/-- A slice of texts. -/
def StrAt (w : World) (v : Value) (l : List ByteArray) : Prop :=
  ∃ g off cap cur, v = .slice (some ⟨g, off, none⟩) l.length cap ∧ l.length ≤ cap ∧ cap ≤ maxLen ∧ w.heap[g]? = some (.cells cur 9 (0, 0)) ∧ off + cap ≤ cur.size ∧ ∀ j u, l[j]? = some u → cur[off + j]? = some (.string u)
theorem StrAt.keep {w w' : World} {v : Value} {l : List ByteArray} (h : StrAt w v l) (he : ∀ k, v.ownBlock = some k → w'.heap[k]? = w.heap[k]?) : StrAt w' v l := by
  obtain ⟨g, off, cap, cur, rfl, h1, h1', h2, h3⟩ := h
  exact ⟨g, off, cap, cur, rfl, h1, h1', (he g rfl).trans h2, h3⟩
/-- What all sectors were. -/
structure WasAt (w : World) (B : Nat) (O : Nat → Prop) (gw size : Nat) (V : Nat → Value) (hs : Nat → List ByteArray) : Prop where
  row : ∃ row, w.heap[gw]? = some (.cells row 48 (0, 0)) ∧ row.size = 16 ∧ ∀ j, j < size → row[j]? = some (V j)
  gO : ¬ O gw
  gB : B ≤ gw
  str : ∀ j, j < size → StrAt w (V j) (hs j)
  own : ∀ j k, j < size → (V j).ownBlock = some k → B ≤ k ∧ ¬ O k
  ap : ∀ i j k, i < size → j < size → i ≠ j → (V i).ownBlock = some k → (V j).ownBlock ≠ some k
section
variable {w w' : World} {B gw size : Nat} {O O' : Nat → Prop} {V : Nat → Value} {hs : Nat → List ByteArray}
theorem WasAt.gl (h : WasAt w B O gw size V hs) : gw < w.heap.size := by obtain ⟨row, h1, -⟩ := h.row; exact (Array.getElem?_eq_some_iff.1 h1).1
theorem WasAt.vl (h : WasAt w B O gw size V hs) {j k : Nat} (hj : j < size) (hk : (V j).ownBlock = some k) : k < w.heap.size ∧ k ≠ gw := by
  obtain ⟨g, off, cap, cur, hv, -, -, h2, -⟩ := h.str j hj
  rw [hv] at hk
  cases hk
  refine ⟨(Array.getElem?_eq_some_iff.1 h2).1, fun e => ?_⟩
  obtain ⟨row, h3, -⟩ := h.row
  rw [show (⟨g, off, none⟩ : Addr).block = g from rfl] at e
  rw [e, h3] at h2
  simp at h2
theorem WasAt.turn (h : WasAt w B O gw size V hs) (t : TurnO O w w') (ho : ∀ k, O' k → O k ∨ w.heap.size ≤ k) : WasAt w' B O' gw size V hs := by
  obtain ⟨row, r1, r2, r3⟩ := h.row
  refine ⟨⟨row, (t.block gw h.gl h.gO).trans r1, r2, r3⟩, fun e => (ho gw e).elim h.gO (fun e2 => by have := h.gl; omega), h.gB, fun j hj => (h.str j hj).keep (fun k hk => t.block k (h.vl hj hk).1 (h.own j k hj hk).2), fun j k hj hk => ⟨(h.own j k hj hk).1, fun e => (ho k e).elim (h.own j k hj hk).2 (fun e2 => by have := (h.vl hj hk).1; omega)⟩, h.ap⟩
theorem WasAt.step (h : WasAt w B O gw size V hs) (hb : Below w.heap.size w w') : WasAt w' B O gw size V hs := h.turn (TurnO.of_below hb) (fun k e => .inl e)
theorem WasAt.cell (h : WasAt w B O gw size V hs) {i : Nat} (hi : i < size) : w.cell? ⟨gw, i, none⟩ = some (V i) ∧ w.frozen? ⟨gw, i, none⟩ = false := by
  obtain ⟨row, r1, r2, r3⟩ := h.row
  exact ⟨by rw [cell_of_row _ _ _ _ _ _ r1]; exact r3 i hi, frozen_of_row _ _ _ _ _ r1⟩
def updV (V : Nat → Value) (i : Nat) (v : Value) : Nat → Value := fun j => if j = i then v else V j
def updH (hs : Nat → List ByteArray) (i : Nat) (l : List ByteArray) : Nat → List ByteArray := fun j => if j = i then l else hs j
/-- One sector's slice is another now. -/
theorem WasAt.set (h : WasAt w B O gw size V hs) {i : Nat} (hi : i < size) {w1 : World} {v : Value} {l : List ByteArray} (hv : StrAt w1 v l) (hz : w.heap.size ≤ w1.heap.size) (hg : w1.heap[gw]? = w.heap[gw]?)
    (hb : ∀ k, v.ownBlock = some k → ((V i).ownBlock = some k ∨ (w.heap.size ≤ k ∧ B ≤ k ∧ ¬ O k)))
    (he : ∀ j k, j < size → j ≠ i → (V j).ownBlock = some k → w1.heap[k]? = w.heap[k]?) : WasAt (w1.setCell ⟨gw, i, none⟩ v) B O gw size (updV V i v) (updH hs i l) := by
  obtain ⟨row, r1, r2, r3⟩ := h.row
  have hgl := h.gl
  have hvg : ∀ k, v.ownBlock = some k → k ≠ gw := fun k hk => by
    rcases hb k hk with e | ⟨e, -⟩
    · exact (h.vl hi e).2
    · omega
  refine ⟨⟨row.setIfInBounds i v, heap_setCell_same _ _ _ _ _ _ (hg.trans r1), by simpa using r2, fun j hj => ?_⟩, h.gO, h.gB, fun j hj => ?_, fun j k hj hk => ?_, fun a b k ha hb' hab e1 e2 => ?_⟩
  · unfold updV
    rw [Array.getElem?_setIfInBounds]
    by_cases e : i = j
    · subst e
      rw [if_pos rfl, if_pos rfl]
      have := (Array.getElem?_eq_some_iff.1 (r3 i hi)).1
      rw [if_pos this]
    · rw [if_neg e, if_neg (fun x => e x.symm)]; exact r3 j hj
  · unfold updV updH
    by_cases e : j = i
    · rw [if_pos e, if_pos e]
      exact hv.keep (fun k hk => heap_setCell_other w1 ⟨gw, i, none⟩ k _ (hvg k hk))
    · rw [if_neg e, if_neg e]
      exact (h.str j hj).keep (fun k hk => (heap_setCell_other w1 ⟨gw, i, none⟩ k _ (h.vl hj hk).2).trans (he j k hj e hk))
  · unfold updV at hk
    by_cases e : j = i
    · rw [if_pos e] at hk
      rcases hb k hk with e2 | ⟨-, e2⟩
      · exact h.own i k hi e2
      · exact e2
    · rw [if_neg e] at hk; exact h.own j k hj hk
  · unfold updV at e1 e2
    by_cases ea : a = i
    · rw [if_pos ea] at e1
      rw [if_neg (fun eb => hab (ea.trans eb.symm))] at e2
      rcases hb k e1 with e3 | ⟨e3, -⟩
      · exact h.ap i b k hi hb' (fun x => hab (ea.trans x)) e3 e2
      · have := (h.vl hb' e2).1; omega
    · rw [if_neg ea] at e1
      by_cases eb : b = i
      · rw [if_pos eb] at e2
        rcases hb k e2 with e3 | ⟨e3, -⟩
        · exact h.ap a i k ha hi ea e1 e3
        · have := (h.vl ha e1).1; omega
      · rw [if_neg eb] at e2
        exact h.ap a b k ha hb' hab e1 e2
end
/-- What a sector was since its last flush. -/
def histS (s : Dk) (j : Nat) : List ByteArray := (s.fl.getD j [] :: s.pd j).map strOfNums
theorem histS_push (s : Dk) (i : Nat) (c : Sec) (j : Nat) : histS (s.push i c) j = updH (histS s) i (histS s i ++ [strOfNums c]) j := by
  unfold histS updH Dk.push
  dsimp only
  by_cases e : j = i
  · subst e
    rw [if_pos rfl, if_pos rfl]; simp
  · rw [if_neg e, if_neg (by omega)]
theorem histS_fl1 (s : Dk) (i : Nat) (hi : i < s.fl.length) (j : Nat) : histS (s.fl1 i) j = updH (histS s) i [strOfNums (s.seen i)] j := by
  unfold histS updH Dk.fl1
  dsimp only
  by_cases e : j = i
  · subst e
    rw [if_pos rfl, if_pos rfl, List.getD_eq_getElem?_getD, List.getElem?_set, if_pos rfl, if_pos hi]; simp
  · rw [if_neg e, if_neg (by omega), List.getD_eq_getElem?_getD, List.getElem?_set, if_neg (fun x => e x.symm), ← List.getD_eq_getElem?_getD]
theorem histS_last (s : Dk) (i : Nat) (hi : i < s.fl.length) : (histS s i)[(histS s i).length - 1]? = some (strOfNums (s.seen i)) ∧ 0 < (histS s i).length := by
  unfold histS
  refine ⟨?_, by simp⟩
  rw [List.length_map, List.length_cons, Nat.add_sub_cancel, List.getElem?_map]
  by_cases hp : s.pd i = []
  · have := Dk.seen_none hp hi
    rw [hp, List.length_nil, List.getElem?_cons_zero, List.getD_eq_getElem?_getD, this]; rfl
  · have h1 := Dk.seen_some hp
    obtain ⟨n, hn⟩ : ∃ n, (s.pd i).length = n + 1 := ⟨(s.pd i).length - 1, by have := List.length_pos_iff.2 hp; omega⟩
    rw [hn] at h1 ⊢
    rw [List.getElem?_cons_succ]
    rw [Nat.add_sub_cancel] at h1
    rw [h1]; rfl
end Go.Proofs.Ytbnfjceoogehmaa
