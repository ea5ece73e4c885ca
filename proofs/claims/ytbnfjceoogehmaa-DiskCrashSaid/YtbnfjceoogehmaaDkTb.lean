/- DiskCrash: a text more behind those that a sector was. -/
import Derived.Test.YtbnfjceoogehmaaDkT
import Derived.Deep.RegionLawGrows
namespace Go.Proofs.Ytbnfjceoogehmaa
open Go.RowKit
open Go.Maps (Keyed)

/-- What the script's rounds keep. -/
def CrI (w wr : World) (d gw sz k : Nat) : Prop := ∃ O L s V, Below w.heap.size w wr ∧ DkAt wr O d L s ∧ s.fl.length = sz ∧ s.wr ≤ k ∧ (∀ b, O b → w.heap.size ≤ b) ∧ WasAt wr w.heap.size O gw sz V (histS s)
/-- How the world stands behind an append. -/
structure AppAt (w w7 Wc : World) (O7 : Nat → Prop) (V : Nat → Value) (ia : Nat) (v' : Value) (l : List ByteArray) : Prop where
  str : StrAt Wc v' l
  size : w7.heap.size ≤ Wc.heap.size
  blk : ∀ b, b < w7.heap.size → (V ia).ownBlock ≠ some b → Wc.heap[b]? = w7.heap[b]?
  own : ∀ b, v'.ownBlock = some b → ((V ia).ownBlock = some b ∨ (w7.heap.size ≤ b ∧ w.heap.size ≤ b ∧ ¬ O7 b))
  os : Wc.os = w7.os
  tape : Wc.tape = w7.tape
  output : Wc.output = w7.output
theorem below_app {w w7 Wc : World} {O7 : Nat → Prop} {V : Nat → Value} {ia : Nat} {v' : Value} {l : List ByteArray} (hb : Below w.heap.size w w7) (h : AppAt w w7 Wc O7 V ia v' l) (hg : ∀ b, (V ia).ownBlock = some b → w.heap.size ≤ b) : Below w.heap.size w Wc :=
  ⟨h.os.trans hb.os, h.tape.trans hb.tape, h.output.trans hb.output, Nat.le_trans hb.size h.size, fun b hbl => (h.blk b (Nat.lt_of_lt_of_le hbl hb.size) (fun e => by have := hg b e; omega)).trans (hb.block b hbl)⟩
theorem app_end {w w7 Wc : World} {O7 : Nat → Prop} {d gw sz k ia : Nat} {L7 : Lay9} {s' : Dk} {V : Nat → Value} {hs : Nat → List ByteArray} {v' : Value} {l : List ByteArray} (hb : Below w.heap.size w w7) (hd : DkAt w7 O7 d L7 s') (hl : s'.fl.length = sz) (hwr : s'.wr ≤ k) (hO : ∀ b, O7 b → w.heap.size ≤ b)
    (hv : WasAt w7 w.heap.size O7 gw sz V hs) (hia : ia < sz) (h : AppAt w w7 Wc O7 V ia v' l) (hh : histS s' = updH hs ia l) : CrI w (Wc.setCell ⟨gw, ia, none⟩ v') d gw sz k := by
  have hVO : ∀ b, O7 b → (V ia).ownBlock ≠ some b := fun b hb e => (hv.own ia b hia e).2 hb
  have hgV : (V ia).ownBlock ≠ some gw := fun e => (hv.vl hia e).2 rfl
  refine ⟨O7, L7, s', updV V ia v', (below_app hb h (fun b e => (hv.own ia b hia e).1)).setCell (by show w.heap.size ≤ gw; exact hv.gB) _, hd.keep (by have := h.size; simpa [World.setCell] using this) (fun b hb2 => (heap_setCell_other Wc ⟨gw, ia, none⟩ b _ (fun e => hv.gO ((show b = gw from e) ▸ hb2))).trans (h.blk b (hd.lt b hb2) (hVO b hb2))), hl, hwr, hO, ?_⟩
  rw [hh]
  exact hv.set hia h.str h.size (h.blk gw hv.gl hgV) h.own (fun j b hj hji e => h.blk b (hv.vl hj e).1 (fun e2 => hv.ap j ia b hj hia hji e e2))
theorem app_room {w w7 : World} {ia g off N cap : Nat} {O7 : Nat → Prop} {V : Nat → Value} {hs : Nat → List ByteArray} {cur : Array Value} {S : ByteArray} (hV : V ia = .slice (some ⟨g, off, none⟩) N cap) (hN : (hs ia).length = N) (hroom : N + 1 ≤ cap) (hcm : cap ≤ maxLen) (hcur : w7.heap[g]? = some (.cells cur 9 (0, 0))) (hsz : off + cap ≤ cur.size)
    (hel : ∀ j u, (hs ia)[j]? = some u → cur[off + j]? = some (.string u)) :
    AppAt w w7 ((w7.drew.alloc (.cells #[.string S] 9)).setCells g (off + N * 1) [Value.string S]) O7 V ia (.slice (some ⟨g, off, none⟩) (N + 1) cap) (hs ia ++ [S]) := by
  have hgl := (Array.getElem?_eq_some_iff.1 hcur).1
  have h1 : (w7.drew.alloc (.cells #[.string S] 9)).heap[g]? = some (.cells cur 9 (0, 0)) := (Below.heap_alloc w7.drew _ g hgl).trans hcur
  show AppAt w w7 ((w7.drew.alloc (.cells #[.string S] 9)).setCell ⟨g, off + N * 1, none⟩ (Value.string S)) O7 V ia _ _
  refine ⟨⟨g, off, cap, cur.setIfInBounds (off + N * 1) (.string S), by rw [List.length_append, hN]; rfl, by rw [List.length_append, hN]; exact hroom, hcm, heap_setCell_same _ _ _ _ _ _ h1, by simpa using hsz, fun j u hj => ?_⟩, by simp [World.setCell], fun b hb hbV => ?_, fun b e => ?_, rfl, rfl, rfl⟩
  · rw [Array.getElem?_setIfInBounds]
    by_cases hjN : j < N
    · rw [if_neg (by omega)]
      rw [List.getElem?_append_left (by rw [hN]; exact hjN)] at hj
      exact hel j u hj
    · have hj2 := (List.getElem?_eq_some_iff.1 hj).1
      rw [List.length_append, hN, List.length_singleton] at hj2
      obtain rfl : j = N := by omega
      rw [List.getElem?_append_right (by rw [hN]; exact Nat.le_refl _), hN, Nat.sub_self] at hj
      cases hj
      rw [if_pos (by omega), if_pos (by omega)]
  · rw [hV] at hbV
    exact (heap_setCell_other _ ⟨g, off + N * 1, none⟩ b _ (fun e => hbV (by rw [show b = g from e]; rfl))).trans (Below.heap_alloc w7.drew _ b hb)
  · exact .inl (by rw [hV]; exact e)
theorem app_full {w w7 Wc : World} {ia N : Nat} {O7 : Nat → Prop} {V : Nat → Value} {hs : Nat → List ByteArray} {S : ByteArray} {v' : Value} (hN : (hs ia).length = N) (hw : w.heap.size ≤ w7.heap.size) (hO : ∀ b, O7 b → b < w7.heap.size)
    (ho : Wc.ownsRow (w7.drew.alloc (.cells #[.string S] 9)).heap.size 9 1 v' (N + 1) ((hs ia).map Value.string ++ [Value.string S])) (hg : (w7.drew.alloc (.cells #[.string S] 9)).grownBy Wc none) :
    AppAt w w7 Wc O7 V ia v' (hs ia ++ [S]) := by
  have hz := hg.size
  have hz0 : (w7.drew.alloc (.cells #[.string S] 9)).heap.size = w7.heap.size + 1 := by simp
  rw [hz0] at hz
  refine ⟨?_, by omega, fun b hb _ => (hg.block b (by rw [hz0]; omega) (by intro e; cases e)).trans (Below.heap_alloc w7.drew _ b hb), fun b e => ?_, hg.os, hg.tape, hg.output⟩
  · obtain ⟨hl, ⟨-, h0⟩ | ⟨g, cap, cur, rfl, hbg, hcg, hnc, hcm, hcs, htk⟩⟩ := ho
    · omega
    · refine ⟨g, 0, cap, cur, by rw [List.length_append, hN]; rfl, by rw [List.length_append, hN]; exact hnc, hcm, hcg, by omega, fun j u hj => ?_⟩
      have hj2 := (List.getElem?_eq_some_iff.1 hj).1
      rw [List.length_append, hN, List.length_singleton] at hj2
      have e1 : (cur.toList.take ((N + 1) * 1))[j]? = some (.string u) := by
        rw [htk, show (hs ia).map Value.string ++ [Value.string S] = (hs ia ++ [S]).map Value.string by simp, List.getElem?_map, hj]; rfl
      rw [List.getElem?_take_of_lt (by omega), Array.getElem?_toList] at e1
      rw [Nat.zero_add]; exact e1
  · have h1 := ho.lt b e
    rw [hz0] at h1
    exact .inr ⟨by omega, by omega, fun e2 => by have := hO b e2; omega⟩
/-- One sector's texts are the last of them now. -/
theorem app_last {w w7 : World} {gw sz ia g off N cap : Nat} {O7 : Nat → Prop} {V : Nat → Value} {hs : Nat → List ByteArray} {cur : Array Value} {S : ByteArray} (hV : V ia = .slice (some ⟨g, off, none⟩) (N + 1) cap) (hN : (hs ia).length = N + 1) (hnc : N + 1 ≤ cap) (hcm : cap ≤ maxLen) (hcur : w7.heap[g]? = some (.cells cur 9 (0, 0))) (hsz : off + cap ≤ cur.size)
    (hel : ∀ j u, (hs ia)[j]? = some u → cur[off + j]? = some (.string u)) (hS : (hs ia)[N]? = some S) (_ : gw = gw ∧ sz = sz) :
    AppAt w w7 w7.drew O7 V ia (.slice (some ⟨g, off + N, none⟩) 1 (cap - N)) [S] := by
  refine ⟨⟨g, off + N, cap - N, cur, rfl, by show 1 ≤ _; omega, by omega, hcur, by omega, fun j u hj => ?_⟩, Nat.le_refl _, fun _ _ _ => rfl, fun b e => .inl (by rw [hV]; exact e), rfl, rfl, rfl⟩
  obtain rfl : j = 0 := by have := (List.getElem?_eq_some_iff.1 hj).1; simp at this; exact this
  cases hj
  have := hel N S hS
  rwa [Nat.add_zero]
theorem was_end {w w7 Wc : World} {O7 : Nat → Prop} {d gw sz ia : Nat} {L7 : Lay9} {s' : Dk} {V : Nat → Value} {hs : Nat → List ByteArray} {v' : Value} {l : List ByteArray} (hb : Below w.heap.size w w7) (hd : DkAt w7 O7 d L7 s')
    (hv : WasAt w7 w.heap.size O7 gw sz V hs) (hia : ia < sz) (h : AppAt w w7 Wc O7 V ia v' l) :
    Below w.heap.size w (Wc.setCell ⟨gw, ia, none⟩ v') ∧ DkAt (Wc.setCell ⟨gw, ia, none⟩ v') O7 d L7 s' ∧ WasAt (Wc.setCell ⟨gw, ia, none⟩ v') w.heap.size O7 gw sz (updV V ia v') (updH hs ia l) := by
  have hVO : ∀ b, O7 b → (V ia).ownBlock ≠ some b := fun b hb e => (hv.own ia b hia e).2 hb
  have hgV : (V ia).ownBlock ≠ some gw := fun e => (hv.vl hia e).2 rfl
  exact ⟨(below_app hb h (fun b e => (hv.own ia b hia e).1)).setCell (by show w.heap.size ≤ gw; exact hv.gB) _, hd.keep (by have := h.size; simpa [World.setCell] using this) (fun b hb2 => (heap_setCell_other Wc ⟨gw, ia, none⟩ b _ (fun e => hv.gO ((show b = gw from e) ▸ hb2))).trans (h.blk b (hd.lt b hb2) (hVO b hb2))),
    hv.set hia h.str h.size (h.blk gw hv.gl hgV) h.own (fun j b hj hji e => h.blk b (hv.vl hj e).1 (fun e2 => hv.ap j ia b hj hia hji e e2))⟩
theorem flushed_wr (s : Dk) (a : Nat) : ∀ k, (s.flushed a k).wr = s.wr
  | 0 => rfl
  | k + 1 => flushed_wr s a k
theorem flushed_ok {s : Dk} (h : DkOk s) (a : Nat) : ∀ k, a + k ≤ s.fl.length → DkOk (s.flushed a k)
  | 0, _ => h
  | k + 1, hk => Dk.fl1_ok (flushed_ok h a k (by omega)) (by rw [Dk.flushed_len]; omega)
end Go.Proofs.Ytbnfjceoogehmaa
