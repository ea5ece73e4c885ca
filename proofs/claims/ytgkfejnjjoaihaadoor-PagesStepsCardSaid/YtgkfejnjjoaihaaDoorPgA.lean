/- Tables of pages as the chapter says them: what stands behind which page of which space; such a table's cells in memory. -/
import Derived.Test.YtgkfejnjjoaihaaDoorRows
import Derived.WalkKit
import Derived.OpenShut
import Derived.StillTailTactics
import Derived.BigRegion
import Derived.BigQuiet
import Derived.Deep.QuietTactic
import Derived.Deep.MidRow
import Derived.Lib.Hide
import Derived.Below
import Derived.Carry
namespace Go.Proofs.YtgkfejnjjoaihaaDoor
open Go.RowKit

/-- What stands behind a page: the frame, the rights, touched, written; and whether anything does. -/
structure Ent where
  fr : Int
  ri : Int
  tc : Bool
  wr : Bool
  is : Bool

def nilE : Ent := ⟨0, 0, false, false, false⟩
/-- Behind each page of each space. -/
abbrev Tb := Nat → Nat → Ent
def newT : Tb := fun _ _ => nilE
def setT (T : Tb) (s p : Nat) (e : Ent) : Tb := fun i j => if i = s ∧ j = p then e else T i j
theorem setT_same (T : Tb) (s p : Nat) (e : Ent) : setT T s p e s p = e := by simp [setT]
theorem setT_other (T : Tb) (s p : Nat) (e : Ent) (i j : Nat) (h : i ≠ s ∨ j ≠ p) : setT T s p e i j = T i j := by
  unfold setT; rw [if_neg (by omega)]
theorem setT_setT (T : Tb) (s p : Nat) (e e' : Ent) : setT (setT T s p e) s p e' = setT T s p e' := by
  funext i j; unfold setT; split <;> rfl

structure EntOk (e : Ent) : Prop where
  f0 : 0 ≤ e.fr
  f1 : e.fr < 256
  r0 : 0 ≤ e.ri
  r1 : e.ri < 8
  no : e.is = false → e = nilE
theorem nilE_ok : EntOk nilE := ⟨by decide, by decide, by decide, by decide, fun _ => rfl⟩
/-- What is always so of a table. -/
structure TbOk (T : Tb) : Prop where
  ok : ∀ s p, EntOk (T s p)
  out : ∀ s p, 16 ≤ s ∨ 32 ≤ p → T s p = nilE
theorem newT_ok : TbOk newT := ⟨fun _ _ => nilE_ok, fun _ _ _ => rfl⟩
theorem TbOk.set {T : Tb} (h : TbOk T) {s p : Nat} (hs : s < 16) (hp : p < 32) {e : Ent} (he : EntOk e) : TbOk (setT T s p e) :=
  ⟨fun i j => by unfold setT; split; exact he; exact h.ok i j, fun i j hij => by rw [setT_other T s p e i j (by omega)]; exact h.out i j hij⟩

/-- The project's cells of an entry; the document's. -/
def cvP (e : Ent) (m : Nat) : Value := if m = 0 then .int .i64 e.fr else if m = 1 then .int .i64 e.ri else if m = 2 then .bool e.tc else if m = 3 then .bool e.wr else .bool e.is
def cvD (e : Ent) (m : Nat) : Value := if m = 0 then .bool e.is else if m = 1 then .int .i64 e.fr else if m = 2 then .int .i64 e.ri else if m = 3 then .bool e.tc else .bool e.wr
/-- All cells of a table, of a space. -/
def tabL (cv : Ent → Nat → Value) (T : Tb) : List Value := (List.range 2560).map fun k => cv (T (k / 160) (k % 160 / 5)) (k % 5)
def rowL (cv : Ent → Nat → Value) (T : Tb) (s : Nat) : List Value := (List.range 160).map fun k => cv (T s (k / 5)) (k % 5)
theorem tabL_len (cv : Ent → Nat → Value) (T : Tb) : (tabL cv T).length = 2560 := by simp [tabL]
theorem rowL_len (cv : Ent → Nat → Value) (T : Tb) (s : Nat) : (rowL cv T s).length = 160 := by simp [rowL]
theorem tabL_get (cv : Ent → Nat → Value) (T : Tb) (s p m : Nat) (hs : s < 16) (hp : p < 32) (hm : m < 5) : (tabL cv T)[s * 160 + p * 5 + m]? = some (cv (T s p) m) := by
  unfold tabL
  rw [List.getElem?_map, List.getElem?_range (by omega)]
  simp only [Option.map_some]
  rw [show (s * 160 + p * 5 + m) / 160 = s by omega, show (s * 160 + p * 5 + m) % 160 / 5 = p by omega, show (s * 160 + p * 5 + m) % 5 = m by omega]
theorem rowL_get (cv : Ent → Nat → Value) (T : Tb) (s p m : Nat) (hp : p < 32) (hm : m < 5) : (rowL cv T s)[p * 5 + m]? = some (cv (T s p) m) := by
  unfold rowL
  rw [List.getElem?_map, List.getElem?_range (by omega)]
  simp only [Option.map_some]
  rw [show (p * 5 + m) / 5 = p by omega, show (p * 5 + m) % 5 = m by omega]

/-- A table's cells in a block. -/
structure RowIs (cv : Ent → Nat → Value) (w : World) (g ty : Nat) (tl : List Value) (T : Tb) : Prop where
  row : w.heap[g]? = some (.cells (tabL cv T ++ tl).toArray ty (0, 0))

section
variable {cv : Ent → Nat → Value} {w : World} {g ty : Nat} {tl : List Value} {T : Tb}
theorem RowIs.cell (h : RowIs cv w g ty tl T) (s p m : Nat) (hs : s < 16) (hp : p < 32) (hm : m < 5) : w.cell? ⟨g, s * 160 + p * 5 + m, none⟩ = some (cv (T s p) m) := by
  rw [cell_of_row _ _ _ _ _ _ h.row]
  have := tabL_get cv T s p m hs hp hm
  simp only [List.getElem?_toArray]
  rw [List.getElem?_append_left (by rw [tabL_len]; omega)]
  exact this
theorem RowIs.tail (h : RowIs cv w g ty tl T) (j : Nat) : w.cell? ⟨g, 2560 + j, none⟩ = tl[j]? := by
  rw [cell_of_row _ _ _ _ _ _ h.row]
  simp only [List.getElem?_toArray]
  rw [List.getElem?_append_right (by rw [tabL_len]; omega), tabL_len, show 2560 + j - 2560 = j by omega]
theorem RowIs.fz (h : RowIs cv w g ty tl T) (o : Nat) : w.frozen? ⟨g, o, none⟩ = false := frozen_of_row _ _ _ _ _ h.row
theorem RowIs.lt (h : RowIs cv w g ty tl T) : g < w.heap.size := (Array.getElem?_eq_some_iff.1 h.row).1
theorem RowIs.keep {w' : World} (h : RowIs cv w g ty tl T) (e : w'.heap[g]? = w.heap[g]?) : RowIs cv w' g ty tl T := ⟨e.trans h.row⟩
theorem RowIs.rangeRow (h : RowIs cv w g ty tl T) (s : Nat) (hs : s < 16) : w.rangeAt g (s * 160) (rowL cv T s) := by
  intro j v hj
  have hl : j < 160 := by have := (List.getElem?_eq_some_iff.1 hj).1; rw [rowL_len] at this; exact this
  have h1 := rowL_get cv T s (j / 5) (j % 5) (by omega) (by omega)
  rw [show j / 5 * 5 + j % 5 = j by omega, hj] at h1
  have h2 := h.cell s (j / 5) (j % 5) hs (by omega) (by omega)
  rw [show s * 160 + j / 5 * 5 + j % 5 = s * 160 + j by omega] at h2
  rw [h2, h1]
theorem RowIs.rangeAll (h : RowIs cv w g ty tl T) : w.rangeAt g 0 (tabL cv T) := by
  intro j v hj
  have hl : j < 2560 := by have := (List.getElem?_eq_some_iff.1 hj).1; rw [tabL_len] at this; exact this
  rw [cell_of_row _ _ _ _ _ _ h.row, Nat.zero_add]
  simp only [List.getElem?_toArray]
  rw [List.getElem?_append_left (by rw [tabL_len]; exact hl)]
  exact hj
/-- One cell was written. -/
theorem RowIs.set (h : RowIs cv w g ty tl T) (s p m : Nat) (hs : s < 16) (hp : p < 32) (hm : m < 5) (e : Ent) (v : Value) (hv : cv e m = v) (ho : ∀ m', m' < 5 → m' ≠ m → cv e m' = cv (T s p) m') :
    RowIs cv (w.setCell ⟨g, s * 160 + p * 5 + m, none⟩ v) g ty tl (setT T s p e) := by
  refine ⟨?_⟩
  rw [heap_setCell_same _ _ _ _ _ _ h.row]
  refine congrArg (fun c => some (Obj.cells c ty (0, 0))) ?_
  apply Array.ext_getElem?
  intro k
  rw [Array.getElem?_setIfInBounds]
  simp only [List.size_toArray, List.length_append, tabL_len, List.getElem?_toArray]
  by_cases hk : k < 2560
  · have e1 := tabL_get cv (setT T s p e) (k / 160) (k % 160 / 5) (k % 5) (by omega) (by omega) (by omega)
    have e2 := tabL_get cv T (k / 160) (k % 160 / 5) (k % 5) (by omega) (by omega) (by omega)
    rw [show k / 160 * 160 + k % 160 / 5 * 5 + k % 5 = k by omega] at e1 e2
    rw [List.getElem?_append_left (by rw [tabL_len]; exact hk), List.getElem?_append_left (by rw [tabL_len]; exact hk), e1, e2]
    by_cases c : s * 160 + p * 5 + m = k
    · subst c
      rw [if_pos rfl, if_pos (by omega), show (s * 160 + p * 5 + m) / 160 = s by omega, show (s * 160 + p * 5 + m) % 160 / 5 = p by omega, show (s * 160 + p * 5 + m) % 5 = m by omega, setT_same, hv]
    · rw [if_neg c]
      by_cases c2 : k / 160 = s ∧ k % 160 / 5 = p
      · rw [c2.1, c2.2, setT_same, ho (k % 5) (by omega) (by omega)]
      · rw [setT_other T s p e _ _ (by omega)]
  · rw [if_neg (by omega), List.getElem?_append_right (by rw [tabL_len]; omega), List.getElem?_append_right (by rw [tabL_len]; omega), tabL_len, tabL_len]
end

/-- What lies above block number B may turn, and block g. -/
structure Turned (w w' : World) (gs : List Nat) : Prop where
  os : w'.os = w.os
  tape : w'.tape = w.tape
  output : w'.output = w.output
  size : w.heap.size ≤ w'.heap.size
  block : ∀ k, k < w.heap.size → k ∉ gs → w'.heap[k]? = w.heap[k]?
theorem Turned.refl (w : World) (gs : List Nat) : Turned w w gs := ⟨rfl, rfl, rfl, Nat.le_refl _, fun _ _ _ => rfl⟩
theorem Turned.trans {w w1 w2 : World} {gs : List Nat} (h : Turned w w1 gs) (k : Turned w1 w2 gs) : Turned w w2 gs :=
  ⟨k.os.trans h.os, k.tape.trans h.tape, k.output.trans h.output, Nat.le_trans h.size k.size, fun i hi hg => (k.block i (Nat.lt_of_lt_of_le hi h.size) hg).trans (h.block i hi hg)⟩
theorem Turned.of_below {w w' : World} (gs : List Nat) (h : Below w.heap.size w w') : Turned w w' gs := ⟨h.os, h.tape, h.output, h.size, fun k hk _ => h.block k hk⟩
theorem Turned.below {w w' : World} {gs : List Nat} (h : Turned w w' gs) {B : Nat} (hB : B ≤ w.heap.size) (hg : ∀ g ∈ gs, B ≤ g) : Below B w w' :=
  ⟨h.os, h.tape, h.output, h.size, fun k hk => h.block k (by omega) (fun hm => by have := hg k hm; omega)⟩
theorem Turned.of_set {w : World} {g o : Nat} {gs : List Nat} (hg : g ∈ gs) (v : Value) : Turned w (w.setCell ⟨g, o, none⟩ v) gs :=
  ⟨rfl, rfl, rfl, by simp [World.setCell], fun k _ hk => Below.heap_setCell _ _ _ _ (fun e => hk (e ▸ hg))⟩
theorem Turned.of_grown {w w' : World} {b : Nat} {gs : List Nat} (hb : b ∈ gs) (h : w.grownBy w' (some b)) : Turned w w' gs :=
  ⟨h.os, h.tape, h.output, h.size, fun k hk hn => h.block k hk (fun e => hn (Option.some.inj e ▸ hb))⟩
theorem Turned.mono {w w' : World} {gs gs' : List Nat} (h : Turned w w' gs) (hs : ∀ g ∈ gs, g ∈ gs') : Turned w w' gs' := ⟨h.os, h.tape, h.output, h.size, fun k hk hn => h.block k hk (fun hm => hn (hs k hm))⟩

end Go.Proofs.YtgkfejnjjoaihaaDoor
