/- The document's table of capabilities: a row of its own. -/
import Derived.Test.YtakgjakcbpdefaaCapP
import Derived.Laws.AppendOwn
import Derived.Laws.AppendOwnNone
import Derived.OwnWalk
namespace Go.Proofs.Ytakgjakcbpdefaa
open Go.RowKit

theorem Try.inCap : (Try.prog.info? 43).map (fun i => (i.zero, i.size, i.bytes)) = some (some (.agg #[.int .i64 0, .int .i64 0, .int .i64 0, .int .i64 0, .int .i64 0, .int .i64 0, .int .i64 0]), 7, 56) := by kernel_rfl
def rowC (S : List Cap) : List Value := S.flatMap capL
theorem rowC_append (A B : List Cap) : rowC (A ++ B) = rowC A ++ rowC B := by simp [rowC]
theorem capL_len (c : Cap) : (capL c).length = 7 := rfl
theorem rowC_len (L : List Cap) : (rowC L).length = L.length * 7 := by
  induction L with
  | nil => rfl
  | cons t L ih => unfold rowC at ih ⊢; rw [List.flatMap_cons, List.length_append, ih, capL_len, List.length_cons]; omega
theorem capL_one (c : Cap) : ∀ u ∈ capL c, u.oneCell' = true := fun u hu => by
  simp [capL] at hu
  rcases hu with rfl | rfl | rfl | rfl | rfl | rfl | rfl <;> rfl
theorem rowC_at : ∀ (L : List Cap) (i : Nat) (t : Cap) (q : Nat), L[i]? = some t → q < 7 → (rowC L)[i * 7 + q]? = (capL t)[q]?
  | [], _, _, _, h, _ => by simp at h
  | u :: L, 0, t, q, h, hq => by
    obtain rfl : u = t := by simpa using h
    unfold rowC
    rw [List.flatMap_cons, List.getElem?_append_left (by rw [capL_len]; omega), Nat.zero_mul, Nat.zero_add]
  | u :: L, i + 1, t, q, h, hq => by
    have ih := rowC_at L i t q (by simpa using h) hq
    unfold rowC at ih ⊢
    rw [List.flatMap_cons, List.getElem?_append_right (by rw [capL_len]; omega), ← ih]
    congr 1
    rw [capL_len]; omega
theorem add_plainC (B off i : Nat) : (⟨B, off, none⟩ : Addr).add i = ⟨B, off + i, none⟩ := by
  unfold Addr.add; split
  · rename_i e; subst e; rfl
  · rfl
theorem cells_newC (w : World) (l : List Value) (t : TypeId) : ∀ j u, l[j]? = some u → (w.alloc (.cells l.toArray t)).cell? ((⟨w.heap.size, 0, none⟩ : Addr).add j) = some u := by
  intro j u h
  rw [add_plainC, Nat.zero_add, cell_of_row _ _ _ _ _ _ (heap_alloc_new w _)]
  simpa using h
theorem owns_eqC {w w' : World} {B : Nat} {e : TypeId} {k : Nat} {v : Value} {n : Nat} {xs : List Value} (h : w.ownsRow B e k v n xs) (he : ∀ g, v.ownBlock = some g → w'.heap[g]? = w.heap[g]?) : w'.ownsRow B e k v n xs := by
  refine ⟨h.1, ?_⟩
  rcases h.2 with h2 | ⟨g, cap, cur, rfl, h1, h2, h3⟩
  · exact .inl h2
  · exact .inr ⟨g, cap, cur, rfl, h1, (he g rfl).trans h2, h3⟩
theorem own_formC {w : World} {B : Nat} {e : TypeId} {v : Value} {k n : Nat} {xs : List Value} (h : w.ownsRow B e k v n xs) :
    ∃ A c, v = .slice A n c ∧ (A = none → n = 0 ∧ c = 0) ∧ ∀ ad, A = some ad → ∃ g, ad = ⟨g, 0, none⟩ ∧ B ≤ g ∧ g < w.heap.size ∧ n ≤ c ∧ c ≤ maxLen ∧ ∃ cur, w.heap[g]? = some (.cells cur e (0, 0)) := by
  rcases h.2 with ⟨rfl, rfl⟩ | ⟨g, cap, cur, rfl, hb, hg, h1, h2, _⟩
  · exact ⟨none, 0, rfl, fun _ => ⟨rfl, rfl⟩, fun ad e => by cases e⟩
  · exact ⟨some ⟨g, 0, none⟩, cap, rfl, (fun e => by cases e), fun ad e => by cases e; exact ⟨g, rfl, hb, (Array.getElem?_eq_some_iff.1 hg).1, h1, h2, cur, hg⟩⟩

/-- A row of capabilities that is looked at. -/
def CsIn (w : World) (A : Option Addr) (S : List Cap) : Prop := ∀ i x, S[i]? = some x → ∃ g, A = some ⟨g, 0, none⟩ ∧ g < w.heap.size ∧ ∀ k, k < 7 → w.cell? ⟨g, i * 7 + k, none⟩ = (capL x)[k]?
theorem CsIn.below {w w' : World} {A : Option Addr} {S : List Cap} (h : CsIn w A S) (hb : Below w.heap.size w w') : CsIn w' A S := fun i x hx => by
  obtain ⟨g, e, hg, hc⟩ := h i x hx
  exact ⟨g, e, Nat.lt_of_lt_of_le hg hb.size, fun k hk => (hb.cell (p := ⟨g, _, none⟩) hg).trans (hc k hk)⟩
theorem CsIn.of_own {w : World} {B : Nat} {A : Option Addr} {n c : Nat} {S : List Cap} (h : w.ownsRow B 43 7 (.slice A n c) n (rowC S)) (hn : S.length = n) : CsIn w A S := fun i x hx => by
  have hlt : i < S.length := (List.getElem?_eq_some_iff.1 hx).1
  obtain ⟨A', c', e, h0, h1⟩ := own_formC h
  cases e
  cases A with
  | none => have := (h0 rfl).1; omega
  | some ad =>
    obtain ⟨g, rfl, -, hg, -⟩ := h1 ad rfl
    refine ⟨g, rfl, hg, fun k hk => ?_⟩
    have e := rowC_at S i x k hx hk
    have hk' : (capL x)[k]? = some ((capL x)[k]'(by rw [capL_len]; exact hk)) := List.getElem?_eq_getElem _
    rw [hk'] at e ⊢
    have := h.cells (g := g) rfl (i * 7 + k) _ e
    rwa [add_plainC, Nat.zero_add] at this

/-- The document's table in memory. -/
structure QAt (w : World) (B q : Nat) (T : Tab) : Prop where
  hq : B ≤ q
  tab : ∃ v, w.heap[q]? = some (.cells #[v, .int .i64 (T.last : Int)] 29 (0, 0)) ∧ w.ownsRow B 43 7 v T.caps.length (rowC T.caps)
/-- All but the document's table is as it was. -/
structure DK (B q : Nat) (w w' : World) : Prop where
  os : w'.os = w.os
  tape : w'.tape = w.tape
  output : w'.output = w.output
  size : w.heap.size ≤ w'.heap.size
  block : ∀ k o, w.heap[k]? = some o → k ≠ q → (B ≤ k → ∀ cur, o ≠ .cells cur 43 (0, 0)) → w'.heap[k]? = some o
theorem DK.refl (B q : Nat) (w : World) : DK B q w w := ⟨rfl, rfl, rfl, Nat.le_refl _, fun _ _ h _ _ => h⟩
theorem DK.trans {B q : Nat} {w w1 w2 : World} (h : DK B q w w1) (k : DK B q w1 w2) : DK B q w w2 :=
  ⟨k.os.trans h.os, k.tape.trans h.tape, k.output.trans h.output, Nat.le_trans h.size k.size, fun i o ho hn hc => k.block i o (h.block i o ho hn hc) hn hc⟩
theorem DK.of_below {B q : Nat} {w w' : World} (h : Below w.heap.size w w') : DK B q w w' := ⟨h.os, h.tape, h.output, h.size, fun k o ho _ _ => (h.block k (Array.getElem?_eq_some_iff.1 ho).1).trans ho⟩
theorem DK.of_set (B q o : Nat) (w : World) (v : Value) : DK B q w (w.setCell ⟨q, o, none⟩ v) := ⟨rfl, rfl, rfl, by simp [World.setCell], fun k _ ho hk _ => (Below.heap_setCell _ _ _ _ hk).trans ho⟩
theorem DK.of_grown {B q : Nat} {w w' : World} {v : Value} {n : Nat} {xs : List Value} (h : w.grownBy w' v.ownBlock) (hv : w.ownsRow B 43 7 v n xs) : DK B q w w' :=
  ⟨h.os, h.tape, h.output, h.size, fun k o ho _ hc => (h.block k (Array.getElem?_eq_some_iff.1 ho).1 (fun e => by
    rcases hv.2 with ⟨rfl, -⟩ | ⟨g, cap, cur, rfl, hb, hg, -⟩
    · simp [Value.ownBlock] at e
    · simp only [Value.ownBlock, Option.some.injEq] at e
      subst e
      rw [hg] at ho
      cases ho
      exact hc hb cur rfl)).trans ho⟩
theorem DK.below {B q : Nat} {w w' : World} (h : DK B q w w') (hB : B ≤ w.heap.size) (hq : B ≤ q) : Below B w w' :=
  ⟨h.os, h.tape, h.output, h.size, fun k hk => by
    have e : w.heap[k]? = some w.heap[k] := Array.getElem?_eq_getElem _
    exact (h.block k _ e (by omega) (fun h => by omega)).trans e.symm⟩
theorem QAt.lt {w : World} {B q : Nat} {T : Tab} (h : QAt w B q T) : q < w.heap.size := by obtain ⟨v, h1, -⟩ := h.tab; exact (Array.getElem?_eq_some_iff.1 h1).1
/-- The project's table stays where the document's turns. -/
theorem TabAt.dk {w w' : World} {B q t b : Nat} {T Q : Tab} (h : TabAt w t b T) (k : QAt w B q Q) (hd : DK B q w w') : TabAt w' t b T := by
  obtain ⟨v, k1, -⟩ := k.tab
  obtain ⟨D, ⟨es, clock, h1, h2⟩, h3⟩ := h.map
  have ht : t ≠ q := fun e => by have h1 := h.tab; rw [e, k1] at h1; simp at h1
  have hb : b ≠ q := fun e => by rw [e, k1] at h1; cases h1
  have et := hd.block t _ h.tab ht (fun _ cur e => by cases e)
  have eb := hd.block b _ h1 hb (fun _ cur e => by cases e)
  exact h.keep (et.trans h.tab.symm) (eb.trans h1.symm)
theorem QAt.step {w w' : World} {B q : Nat} {T : Tab} (h : QAt w B q T) (hb : Below w.heap.size w w') : QAt w' B q T := by
  obtain ⟨v, h1, h2⟩ := h.tab
  exact ⟨h.hq, v, (hb.block _ h.lt).trans h1, owns_eqC h2 fun g hg => hb.block g (h2.lt g hg).2⟩
/-- The document's table stays where the project's turns. -/
theorem QAt.other {w w' : World} {B q t b : Nat} {T Q : Tab} (h : QAt w B q Q) (k : TabAt w t b T) (hb : Turned t b w w') : QAt w' B q Q := by
  obtain ⟨v, h1, h2⟩ := h.tab
  obtain ⟨D, ⟨es, clock, k1, k2⟩, k3⟩ := k.map
  have ht : q ≠ t := fun e => by have h1' := k.tab; rw [← e, h1] at h1'; simp at h1'
  have hbq : q ≠ b := fun e => by rw [← e, h1] at k1; cases k1
  refine ⟨h.hq, v, (hb.block _ h.lt ht hbq).trans h1, owns_eqC h2 fun g hg => ?_⟩
  rcases h2.2 with ⟨rfl, -⟩ | ⟨g', cap, cur, rfl, -, hgc, -⟩
  · simp [Value.ownBlock] at hg
  · simp only [Value.ownBlock, Option.some.injEq] at hg
    subst hg
    refine hb.block _ (Array.getElem?_eq_some_iff.1 hgc).1 (fun e => ?_) (fun e => ?_)
    · have h1' := k.tab; rw [← e, hgc] at h1'; cases h1'
    · rw [← e, hgc] at k1; cases k1
/-- What a walk wants of it. -/
theorem QAt.out {w : World} {B q : Nat} {T : Tab} (h : QAt w B q T) : ∃ A c, w.heap[q]? = some (.cells #[.slice A T.caps.length c, .int .i64 (T.last : Int)] 29 (0, 0)) ∧ w.ownsRow B 43 7 (.slice A T.caps.length c) T.caps.length (rowC T.caps) ∧
    CsIn w A T.caps ∧ w.cell? ⟨q, 0, none⟩ = some (.slice A T.caps.length c) ∧ w.cell? ⟨q, 1, none⟩ = some (.int .i64 (T.last : Int)) ∧ (∀ o, w.frozen? ⟨q, o, none⟩ = false) ∧ q < w.heap.size := by
  obtain ⟨v, h1, h2⟩ := h.tab
  obtain ⟨A, c, rfl, -, -⟩ := own_formC h2
  exact ⟨A, c, h1, h2, CsIn.of_own h2 rfl, cell_of_row _ _ 0 _ _ _ h1, cell_of_row _ _ 1 _ _ _ h1, fun o => frozen_of_row _ _ o _ _ h1, h.lt⟩
end Go.Proofs.Ytakgjakcbpdefaa
