/- DiskCrash: what sectors were at first; what a crash leaves. -/
import Derived.Test.YtbnfjceoogehmaaDkS
import Derived.Test.YtbnfjceoogehmaaDkM
namespace Go.Proofs.Ytbnfjceoogehmaa
open Go.RowKit
open Go.Maps (Keyed)

theorem WasAt.more {w : World} {B gw k : Nat} {O : Nat → Prop} {V : Nat → Value} {hs : Nat → List ByteArray} (h : WasAt w B O gw k V hs) (hk : k < 16) {w1 : World} {v : Value} (hv : StrAt w1 v (hs k)) (hz : w.heap.size ≤ w1.heap.size) (hg : w1.heap[gw]? = w.heap[gw]?)
    (hb : ∀ b, v.ownBlock = some b → w.heap.size ≤ b ∧ B ≤ b ∧ ¬ O b) (he : ∀ b, b < w.heap.size → w1.heap[b]? = w.heap[b]?) : WasAt (w1.setCell ⟨gw, k, none⟩ v) B O gw (k + 1) (updV V k v) hs := by
  obtain ⟨row, r1, r2, r3⟩ := h.row
  have hgl := h.gl
  refine ⟨⟨row.setIfInBounds k v, heap_setCell_same _ _ _ _ _ _ (hg.trans r1), by simpa using r2, fun j hj => ?_⟩, h.gO, h.gB, fun j hj => ?_, fun j b hj hk' => ?_, fun a b c ha hb' hab e1 e2 => ?_⟩
  · unfold updV
    rw [Array.getElem?_setIfInBounds]
    by_cases e : k = j
    · subst e
      rw [if_pos rfl, if_pos rfl, if_pos (by omega)]
    · rw [if_neg e, if_neg (fun x => e x.symm)]; exact r3 j (by omega)
  · unfold updV
    by_cases e : j = k
    · rw [if_pos e, e]
      exact hv.keep (fun b hb2 => heap_setCell_other w1 ⟨gw, k, none⟩ b _ (by have := hb b hb2; show b ≠ gw; omega))
    · rw [if_neg e]
      exact (h.str j (by omega)).keep (fun b hb2 => (heap_setCell_other w1 ⟨gw, k, none⟩ b _ (h.vl (by omega) hb2).2).trans (he b (h.vl (by omega) hb2).1))
  · unfold updV at hk'
    by_cases e : j = k
    · rw [if_pos e] at hk'; exact (hb b hk').2
    · rw [if_neg e] at hk'; exact h.own j b (by omega) hk'
  · unfold updV at e1 e2
    by_cases ea : a = k
    · rw [if_pos ea] at e1
      rw [if_neg (fun eb => hab (ea.trans eb.symm))] at e2
      have h1 := hb c e1
      have h2 := (h.vl (show b < k by omega) e2).1
      omega
    · rw [if_neg ea] at e1
      by_cases eb : b = k
      · rw [if_pos eb] at e2
        have h1 := hb c e2
        have h2 := (h.vl (show a < k by omega) e1).1
        omega
      · rw [if_neg eb] at e2
        exact h.ap a b c (by omega) (by omega) hab e1 e2

/-- Behind a crash a sector is what it was. -/
theorem crash_in {s : Dk} {KL : List Kp} {n : Nat} (ok : AllOk s KL n) (hn : n = KL.length) (j : Nat) (hj : j < s.fl.length) : ∀ k, k ≤ n → strOfNums ((s.crash KL k).fl.getD j []) ∈ histS s j := by
  intro k
  induction k with
  | zero => intro _; exact List.mem_map_of_mem (List.mem_cons_self ..)
  | succ k ih =>
    intro hk
    obtain ⟨x, hx⟩ : ∃ x, KL[k]? = some x := ⟨_, List.getElem?_eq_getElem (by omega)⟩
    obtain ⟨h1, h2, h3, -⟩ := ok k x (by omega) hx
    rw [Dk.crash_succ s hx]
    unfold keep1
    split
    · rename_i hpos
      obtain ⟨m, hm, hml⟩ := Dk.has_iff h1
      dsimp only
      rw [List.getD_eq_getElem?_getD, List.getElem?_set]
      by_cases e : x.1.toNat = j
      · rw [if_pos e, if_pos (by rw [(Dk.crash_len s KL k).1]; omega)]
        have h4 := kept_get hpos h3
        have h5 : x.1 = (j : Int) := by omega
        rw [h5] at h4 ⊢
        exact List.mem_map_of_mem (List.mem_cons_of_mem _ (List.mem_of_getElem? h4))
      · rw [if_neg e, ← List.getD_eq_getElem?_getD]; exact ih (by omega)
    · exact ih (by omega)
theorem crash_seen (s : Dk) (KL : List Kp) (k j : Nat) : (s.crash KL k).seen j = (s.crash KL k).fl.getD j [] := by
  unfold Dk.seen
  rw [(Dk.crash_len s KL k).2.1]; rfl
theorem flushed_pd (s : Dk) (a : Nat) (i : Int) : ∀ k, (s.flushed a k).pd i = if (a : Int) ≤ i ∧ i < a + k then [] else s.pd i := by
  intro k
  induction k with
  | zero => rw [if_neg (by omega)]; rfl
  | succ k ih =>
    show (if i = ((a + k : Nat) : Int) then [] else (s.flushed a k).pd i) = _
    rw [ih]
    by_cases e : i = ((a + k : Nat) : Int)
    · rw [if_pos e, if_pos (by omega)]
    · rw [if_neg e]
      by_cases e2 : (a : Int) ≤ i ∧ i < a + k
      · rw [if_pos e2, if_pos (by omega)]
      · rw [if_neg e2, if_neg (by omega)]
theorem flushed_none {s : Dk} (h : DkOk s) (n : Nat) (hn : s.fl.length = n) (i : Int) : (s.flushed 0 n).pd i = [] := by
  rw [flushed_pd]
  by_cases e : ((0 : Nat) : Int) ≤ i ∧ i < ((0 : Nat) : Int) + n
  · rw [if_pos e]
  · rw [if_neg e]; exact h.out i (by omega)
theorem conv_flat {w : World} {B : Nat} {v : Value} {l : List Sec} {n : Nat} (h : w.ownsRow B 5 1 v n (rowV l)) (hn : 0 < n) :
    (convert 35 9 v).run Try.prog w = .ok (.string (strOfNums (flat l))) w := by
  obtain ⟨g, cap, rfl, -⟩ := h.form hn
  have hl : (flat l).length = n := by have := h.1; rw [← flat_map, List.length_map] at this; omega
  exact run_convert_bytes_arg w 35 5 Try.underlying35 Try.underlying5 g 0 n cap (flat l) hl (fun j hj => by
    have := h.cells (g := g) rfl j (.int .u8 ((flat l)[j]'(by omega))) (by rw [← flat_map, List.getElem?_map, List.getElem?_eq_getElem (by omega)]; rfl)
    rw [Addr.add_lit] at this
    rw [List.getD_eq_getElem?_getD, List.getElem?_eq_getElem (by omega)]
    exact this) 9 Try.underlying9
end Go.Proofs.Ytbnfjceoogehmaa
