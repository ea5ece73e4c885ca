/- The document's Parse, some of the forms. -/
import Derived.Test.YtnkkomodpjgefaaDoorIsaIns
import Derived.Test.YtnkkomodpjgefaaDoorIsaRPMath
import Derived.Test.YtnkkomodpjgefaaDoorIsaRText
import Derived.Test.YtnkkomodpjgefaaDoorIsaTouches
namespace Go.Proofs.YtnkkomodpjgefaaDoor
open Go.RowKit Go.Sort

/-- The row of a text's parts, as the walk reads it. -/
theorem own_first {w : World} {B : Nat} {v : Value} {L : List (List UInt8)} (h : w.ownsRow B 9 1 v L.length (L.map strV)) (hne : L ≠ []) :
    ∃ g c, v = .slice (some ⟨g, 0, none⟩) L.length c ∧ 0 < L.length ∧ B ≤ g ∧ g < w.heap.size ∧ w.cell? ⟨g, 0, none⟩ = some (.string ⟨(L.getD 0 []).toArray⟩) := by
  have hpos : 0 < L.length := List.length_pos_iff.2 hne
  have h' := h
  rcases h.2 with ⟨_, hx⟩ | ⟨g, cap, cur, rfl, hb, hg, _⟩
  · exact absurd (by simpa using hx) hne
  · refine ⟨g, cap, rfl, hpos, hb, (Array.getElem?_eq_some_iff.1 hg).1, ?_⟩
    rw [h'.cellAt 0 (by omega)]; simp [List.getD, List.getElem?_eq_getElem hpos, strV]


/-- A part as a number, the row's length under a name. -/
theorem number_at {B n : Nat} {v : Value} {L : List (List UInt8)} {w : World} {pi ri : Int} (p r : Nat) (hn : L.length = n) (h : w.ownsRow B 9 1 v n (L.map strV)) (hl : n ≤ 9) (hx : ∀ x ∈ L, x.length ≤ 4000) (he : Env w) (hp : p ≤ 9) (hr : r ≤ 1) (hpi : pi = p) (hri : ri = r) :
    Calls Tryd.prog 48 #[v, .int .i64 pi, .int .i64 ri] w fun e w' => e = .returned (.int .i64 (numR L p r)) ∧ Below w.heap.size w w' := by
  subst hpi hri hn; exact number_walk h hl hx he p r hp hr

/-- What the document's Parse hands back of a candidate. -/
def rpV (op d a b m : Int) (s : ByteArray) : Value :=
  if mayB op d a b m && ((textOf op d a b m).toList == s.toList) then .tuple #[.agg #[.int .i64 op, .int .i64 d, .int .i64 a, .int .i64 b, .int .i64 m], .int .i64 0] else .tuple #[.agg #[.int .i64 0, .int .i64 0, .int .i64 0, .int .i64 0, .int .i64 0], .int .i64 4]
theorem rpV_yes {op d a b m : Int} {s : ByteArray} (h : mayB op d a b m = true) (ht : ((textOf op d a b m).toList == s.toList) = true) : rpV op d a b m s = .tuple #[.agg #[.int .i64 op, .int .i64 d, .int .i64 a, .int .i64 b, .int .i64 m], .int .i64 0] := by
  unfold rpV; rw [h, ht]; rfl
theorem rpV_may {op d a b m : Int} {s : ByteArray} (h : mayB op d a b m = false) : rpV op d a b m s = .tuple #[.agg #[.int .i64 0, .int .i64 0, .int .i64 0, .int .i64 0, .int .i64 0], .int .i64 4] := by
  unfold rpV; rw [h]; rfl
theorem rpV_txt {op d a b m : Int} {s : ByteArray} (ht : ((textOf op d a b m).toList == s.toList) = false) : rpV op d a b m s = .tuple #[.agg #[.int .i64 0, .int .i64 0, .int .i64 0, .int .i64 0, .int .i64 0], .int .i64 4] := by
  unfold rpV; rw [ht, Bool.and_false]; rfl
theorem rmay_at {op d a b m : Int} {x : Bool} (h : mayB op d a b m = x) (w : World) :
    Calls Tryd.prog 12 #[.agg #[.int .i64 op, .int .i64 d, .int .i64 a, .int .i64 b, .int .i64 m]] w fun e w' => e = .returned (.bool x) ∧ Below w.heap.size w w' := by
  rw [← h]; exact rmay_any op d a b m w
theorem ret_val {a b : Value} (h : a = b) : Ending.returned a = .returned b := by rw [h]

end Go.Proofs.YtnkkomodpjgefaaDoor
