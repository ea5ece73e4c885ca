/- A table of capabilities in memory. -/
import Derived.Test.YtakgjakcbpdefaaCapA
import Derived.Maps.OwnIn
import Derived.Maps.OwnOps
import Derived.Maps.Views
import Derived.Maps.RangeWalk
import Derived.Carry
namespace Go.Proofs.Ytakgjakcbpdefaa
open Go.RowKit
open Go.Maps (Keyed)

def capD (c : Cap) : DataW Unit := .agg [.lit (.int .i64 c.id), .lit (.int .i64 c.parent), .lit (.int .i64 c.account), .lit (.int .i64 c.maker), .lit (.int .i64 c.kind), .lit (.int .i64 c.object), .lit (.int .i64 c.rights)]
def capL (c : Cap) : List Value := [.int .i64 c.id, .int .i64 c.parent, .int .i64 c.account, .int .i64 c.maker, .int .i64 c.kind, .int .i64 c.object, .int .i64 c.rights]
def capV (c : Cap) : Value := .agg #[.int .i64 c.id, .int .i64 c.parent, .int .i64 c.account, .int .i64 c.maker, .int .i64 c.kind, .int .i64 c.object, .int .i64 c.rights]
def capR : List Value → Option (DataW Unit × List MemPlace)
  | [.int .i64 a, .int .i64 b, .int .i64 c, .int .i64 d, .int .i64 e, .int .i64 f, .int .i64 g] => some (capD ⟨a, b, c, d, e, f, g⟩, [])
  | _ => none
def capE (v : Value) : Option (DataW Unit × List MemPlace) := match v with
  | .agg cs => capR cs.toList
  | _ => none
theorem capE_mk (c : Cap) : capE (capV c) = some (capD c, []) := rfl
theorem capD_inj {c d : Cap} (h : capD c = capD d) : c = d := by
  obtain ⟨a, b, e, f, g, i, j⟩ := c
  obtain ⟨a', b', e', f', g', i', j'⟩ := d
  unfold capD at h
  simp at h
  obtain ⟨rfl, rfl, rfl, rfl, rfl, rfl, rfl⟩ := h
  rfl
theorem capE_inv {v : Value} {y : DataW Unit × List MemPlace} (h : capE v = some y) : ∃ c, v = capV c ∧ y.1 = capD c := by
  unfold capE at h
  split at h
  · rename_i cs
    obtain ⟨cs⟩ := cs
    unfold capR at h
    split at h
    · rename_i a b c d e f g hl
      have hl' : cs = _ := hl
      refine ⟨⟨a, b, c, d, e, f, g⟩, ?_, ?_⟩
      · rw [hl']; rfl
      · have := Option.some.inj h; rw [← this]
    · cases h
  · cases h
theorem capE_is {v : Value} {c : Cap} {ps : List MemPlace} (h : capE v = some (capD c, ps)) : v = capV c := by
  obtain ⟨d, rfl, e⟩ := capE_inv h
  rw [capD_inj e]

theorem Try.kid : Keyed Try.prog 2 := Maps.int_keyed Try.underlying2
theorem Try.zCap (w : World) : (zeroValue 43).run Try.prog w = .ok (capV nilC) w := by kernel_rfl
theorem wf64 {x : Int} (h : (Lit.int .i64 x).wf = true) : -9223372036854775808 ≤ x ∧ x ≤ 9223372036854775807 := by simp [Lit.wf] at h; exact h

/-- What a map reads as. -/
def MapIs (D : DataW Unit) (S : List Cap) : Prop := (∀ id, Maps.has D (.int .i64 id) = (findC S id).isSome) ∧ (∀ id, D.atKey (.int .i64 id) (capD nilC) = capD (getC S id)) ∧ Maps.size D = S.length ∧ Maps.Tidy D
theorem mapIs_new : MapIs (.map []) [] := ⟨fun _ => rfl, fun _ => rfl, rfl, Maps.tidy_empty⟩

theorem find_append (S : List Cap) (c : Cap) (id : Int) (h : ∀ d ∈ S, d.id ≠ c.id) : findC (S ++ [c]) id = if id = c.id then some c else findC S id := by
  unfold findC
  rw [List.find?_append]
  by_cases e : id = c.id
  · subst e
    have : List.find? (fun d => d.id == c.id) S = none := by rw [List.find?_eq_none]; intro d hd; simpa using h d hd
    rw [this, if_pos rfl]; simp
  · rw [if_neg e]
    cases hf : List.find? (fun d => d.id == id) S with
    | some y => rfl
    | none => simp [Ne.symm e]
theorem find_filter (S : List Cap) (hp : S.Pairwise (fun c d => c.id < d.id)) (p : Cap → Bool) (id : Int) : findC (S.filter p) id = (findC S id).filter p := by
  induction S with
  | nil => rfl
  | cons a S ih =>
    obtain ⟨h1, h2⟩ := List.pairwise_cons.1 hp
    have ih := ih h2
    unfold findC at *
    by_cases ha : (a.id == id) = true
    · have hn : List.find? (fun c => c.id == id) S = none := by
        rw [List.find?_eq_none]; intro d hd; have := h1 d hd; have := eq_of_beq ha; simp; omega
      rw [List.find?_cons_of_pos (p := fun c : Cap => c.id == id) ha]
      by_cases hpa : p a = true
      · rw [List.filter_cons_of_pos hpa, List.find?_cons_of_pos (p := fun c : Cap => c.id == id) ha]; simp [Option.filter, hpa]
      · rw [List.filter_cons_of_neg hpa, ih, hn]; simp [Option.filter, hpa]
    · rw [List.find?_cons_of_neg (p := fun c : Cap => c.id == id) ha]
      by_cases hpa : p a = true
      · rw [List.filter_cons_of_pos hpa, List.find?_cons_of_neg (p := fun c : Cap => c.id == id) ha, ih]
      · rw [List.filter_cons_of_neg hpa, ih]

theorem MapIs.put {D : DataW Unit} {S : List Cap} (h : MapIs D S) (c : Cap) (hn : ∀ d ∈ S, d.id ≠ c.id) (hw : (Lit.int .i64 c.id).wf = true) : MapIs (D.put (.int .i64 c.id) (capD c)) (S ++ [c]) := by
  obtain ⟨h1, h2, h3, h4⟩ := h
  have hk : WideAt.IsKeyLit (.int .i64 c.id) := Try.kid.key (Maps.keyOf_int_mk Try.underlying2 hw)
  have hnone : findC S c.id = none := find_none hn
  refine ⟨fun id => ?_, fun id => ?_, ?_, h4.put hk _⟩
  · rw [find_append S c id hn]
    by_cases e : id = c.id
    · subst e; rw [Maps.has_put_same h4.isMap hk, if_pos rfl]; rfl
    · rw [Maps.has_put_other (by simpa using e), if_neg e, h1]
  · unfold getC; rw [find_append S c id hn]
    by_cases e : id = c.id
    · subst e; rw [Maps.atKey_put_same h4.isMap hk, if_pos rfl]; rfl
    · rw [Maps.atKey_put_other (by simpa using e), if_neg e, h2]; rfl
  · rw [Maps.size_put h4, h1, hnone, h3]; simp
theorem filter_ne_len (S : List Cap) (hp : S.Pairwise (fun c d => c.id < d.id)) (id : Int) : (S.filter (fun c => !(c.id == id))).length + (if (findC S id).isSome then 1 else 0) = S.length := by
  induction S with
  | nil => rfl
  | cons a S ih =>
    obtain ⟨h1, h2⟩ := List.pairwise_cons.1 hp
    have ih := ih h2
    unfold findC at *
    by_cases ha : (a.id == id) = true
    · have hn : List.find? (fun c => c.id == id) S = none := by
        rw [List.find?_eq_none]; intro d hd; have := h1 d hd; have := eq_of_beq ha; simp; omega
      rw [hn] at ih
      rw [List.find?_cons_of_pos (p := fun c : Cap => c.id == id) ha, List.filter_cons_of_neg (by simp [ha])]
      simp at ih ⊢
      exact ih
    · rw [List.find?_cons_of_neg (p := fun c : Cap => c.id == id) ha, List.filter_cons_of_pos (by simpa using ha), List.length_cons, List.length_cons]
      omega
theorem MapIs.del {D : DataW Unit} {S : List Cap} (h : MapIs D S) (hp : S.Pairwise (fun c d => c.id < d.id)) (id : Int) : MapIs (D.del (.int .i64 id)) (S.filter (fun c => !(c.id == id))) := by
  obtain ⟨h1, h2, h3, h4⟩ := h
  have hf : ∀ x, findC (S.filter (fun c => !(c.id == id))) x = if x = id then none else findC S x := fun x => by
    rw [find_filter S hp]
    cases hx : findC S x with
    | none => split <;> rfl
    | some c =>
      obtain ⟨-, e⟩ := find_mem hx
      by_cases e' : x = id
      · rw [if_pos e']; simp [Option.filter, e, e']
      · rw [if_neg e']; simp [Option.filter, e, e']
  refine ⟨fun x => ?_, fun x => ?_, ?_, h4.del _⟩
  · rw [hf x]
    by_cases e : x = id
    · subst e; rw [Maps.has_del_same, if_pos rfl]; rfl
    · rw [Maps.has_del_other (by simpa using e), if_neg e, h1]
  · unfold getC; rw [hf x]
    by_cases e : x = id
    · subst e; rw [Maps.atKey_del_same, if_pos rfl]; rfl
    · rw [Maps.atKey_del_other (by simpa using e), if_neg e, h2]; rfl
  · have e1 := Maps.size_del h4 (k := .int .i64 id)
    have e2 := filter_ne_len S hp id
    rw [h1, h3] at e1
    omega

/-- A table in memory. -/
structure TabAt (w : World) (t b : Nat) (T : Tab) : Prop where
  ok : TabOk T
  tab : w.heap[t]? = some (.cells #[.map (some b), .int .i64 (T.last : Int)] 61 (0, 0))
  map : ∃ D : DataW Unit, w.ownsMap Try.prog 2 capE b T.last D ∧ MapIs D T.caps

/-- Below block number B all is as it was but for those two blocks. -/
structure Turned (t b : Nat) (w w' : World) : Prop where
  os : w'.os = w.os
  tape : w'.tape = w.tape
  output : w'.output = w.output
  size : w.heap.size ≤ w'.heap.size
  block : ∀ k, k < w.heap.size → k ≠ t → k ≠ b → w'.heap[k]? = w.heap[k]?

theorem Turned.refl (t b : Nat) (w : World) : Turned t b w w := ⟨rfl, rfl, rfl, Nat.le_refl _, fun _ _ _ _ => rfl⟩
theorem Turned.trans {t b : Nat} {w w1 w2 : World} (h : Turned t b w w1) (k : Turned t b w1 w2) : Turned t b w w2 :=
  ⟨k.os.trans h.os, k.tape.trans h.tape, k.output.trans h.output, Nat.le_trans h.size k.size, fun i hi ht hb => (k.block i (Nat.lt_of_lt_of_le hi h.size) ht hb).trans (h.block i hi ht hb)⟩
theorem Turned.of_below {t b : Nat} {w w' : World} (h : Below w.heap.size w w') : Turned t b w w' := ⟨h.os, h.tape, h.output, h.size, fun k hk _ _ => h.block k hk⟩
theorem Turned.below {t b B : Nat} {w w' : World} (h : Turned t b w w') (hB : B ≤ w.heap.size) (ht : B ≤ t) (hb : B ≤ b) : Below B w w' :=
  ⟨h.os, h.tape, h.output, h.size, fun k hk => h.block k (by omega) (by omega) (by omega)⟩
theorem Turned.of_set {t b o : Nat} (w : World) (v : Value) : Turned t b w (w.setCell ⟨t, o, none⟩ v) := ⟨rfl, rfl, rfl, by simp [World.setCell], fun k _ ht _ => Below.heap_setCell _ _ _ _ ht⟩
theorem Turned.of_grown {t b : Nat} {w w' : World} (h : w.grownBy w' (some b)) : Turned t b w w' := ⟨h.os, h.tape, h.output, h.size, fun k hk _ hb => h.block k hk (by simpa using hb)⟩

theorem TabAt.ht {w : World} {t b : Nat} {T : Tab} (h : TabAt w t b T) : t < w.heap.size := (Array.getElem?_eq_some_iff.1 h.tab).1
theorem TabAt.hb {w : World} {t b : Nat} {T : Tab} (h : TabAt w t b T) : b < w.heap.size := by obtain ⟨D, h1, -⟩ := h.map; exact h1.lt
theorem TabAt.ne {w : World} {t b : Nat} {T : Tab} (h : TabAt w t b T) : t ≠ b := by
  rintro rfl
  obtain ⟨D, ⟨es, clock, h1, -⟩, -⟩ := h.map
  have := h.tab
  rw [h1] at this
  cases this
theorem TabAt.c0 {w : World} {t b : Nat} {T : Tab} (h : TabAt w t b T) : w.cell? ⟨t, 0, none⟩ = some (.map (some b)) := by rw [cell_of_row _ _ _ _ _ _ h.tab]; rfl
theorem TabAt.c1 {w : World} {t b : Nat} {T : Tab} (h : TabAt w t b T) : w.cell? ⟨t, 1, none⟩ = some (.int .i64 (T.last : Int)) := by rw [cell_of_row _ _ _ _ _ _ h.tab]; rfl
theorem TabAt.fz {w : World} {t b : Nat} {T : Tab} (h : TabAt w t b T) (o : Nat) : w.frozen? ⟨t, o, none⟩ = false := by simp [World.frozen?, h.tab]
theorem ownsMap_eq {w w' : World} {b n : Nat} {D : DataW Unit} (h : w.ownsMap Try.prog 2 capE b n D) (e : w'.heap[b]? = w.heap[b]?) : w'.ownsMap Try.prog 2 capE b n D := by
  obtain ⟨es, clock, h1, F, hs, hD⟩ := h
  exact ⟨es, clock, e.trans h1, F, hs, hD⟩
/-- A table stays where neither block of it turns. -/
theorem TabAt.keep {w w' : World} {t b : Nat} {T : Tab} (h : TabAt w t b T) (et : w'.heap[t]? = w.heap[t]?) (eb : w'.heap[b]? = w.heap[b]?) : TabAt w' t b T := by
  obtain ⟨D, h1, h2⟩ := h.map
  exact ⟨h.ok, et.trans h.tab, D, ownsMap_eq h1 eb, h2⟩
theorem TabAt.below {w w' : World} {t b B : Nat} {T : Tab} (h : TabAt w t b T) (hb : Below B w w') (h1 : t < B) (h2 : b < B) : TabAt w' t b T := h.keep (hb.block _ h1) (hb.block _ h2)
theorem TabAt.step {w w' : World} {t b : Nat} {T : Tab} (h : TabAt w t b T) (hb : Below w.heap.size w w') : TabAt w' t b T := h.below hb h.ht h.hb
theorem TabAt.other {w w' : World} {t b t' b' : Nat} {T : Tab} (h : TabAt w t b T) (hb : Turned t' b' w w') (h1 : t ≠ t') (h2 : t ≠ b') (h3 : b ≠ t') (h4 : b ≠ b') : TabAt w' t b T :=
  h.keep (hb.block _ h.ht h1 h2) (hb.block _ h.hb h3 h4)
end Go.Proofs.Ytakgjakcbpdefaa
