/- Both tables beside each other; the calls upon them. -/
import Derived.Test.YtgkfejnjjoaihaaDoorPgQh
import Derived.Test.YtgkfejnjjoaihaaDoorPgKc
namespace Go.Proofs.YtgkfejnjjoaihaaDoor
open Go.RowKit

/-- The project's table and the document's, and blocks beside them that keep. -/
structure Duo (w0 w : World) (t b q N : Nat) (T U : Tb) (L : List (Nat × Obj)) : Prop where
  kn : Kn w0 w t b N T ((q, .cells (tabL cvD U ++ []).toArray 70 (0, 0)) :: L)
  ok : TbOk U
  hq : w0.heap.size ≤ q
  ql : ∀ x ∈ L, x.1 ≠ q
section
variable {w0 w w' : World} {t b q N N' : Nat} {T T' U U' : Tb} {L : List (Nat × Obj)}
theorem Duo.qt (h : Duo w0 w t b q N T U L) : QT w q U := ⟨h.ok, ⟨(h.kn.box _ (List.mem_cons_self ..)).1⟩⟩
theorem Duo.pt (h : Duo w0 w t b q N T U L) : PT w t b N T := h.kn.pt
theorem Duo.qne (h : Duo w0 w t b q N T U L) : q ≠ t ∧ q ≠ b := (h.kn.box _ (List.mem_cons_self ..)).2
theorem Duo.box (h : Duo w0 w t b q N T U L) {g : Nat} {o : Obj} (hm : (g, o) ∈ L) : w.heap[g]? = some o := (h.kn.box _ (List.mem_cons_of_mem _ hm)).1
theorem Duo.p (h : Duo w0 w t b q N T U L) (hp : PT w' t b N' T') (ht : Turned w w' [t, b]) : Duo w0 w' t b q N' T' U L :=
  ⟨h.kn.step hp ht, h.ok, h.hq, h.ql⟩
theorem Duo.d (h : Duo w0 w t b q N T U L) (hq : QT w' q U') (ht : Turned w w' [q]) : Duo w0 w' t b q N T U' L := by
  have hb : Turned w w' [q] := ht
  refine ⟨⟨h.pt.other ht (by simpa using h.qne.1.symm) (by simpa using h.qne.2.symm), h.kn.ht, h.kn.hb, h.kn.tr.trans (ht.below h.kn.tr.size (fun g hg => by simp at hg; subst hg; exact h.hq)), fun x hx => ?_⟩, hq.ok, h.hq, h.ql⟩
  rcases List.mem_cons.1 hx with rfl | hx
  · exact ⟨hq.row.row, h.qne⟩
  · have h1 := h.kn.box x (List.mem_cons_of_mem _ hx)
    exact ⟨(ht.block _ (Array.getElem?_eq_some_iff.1 h1.1).1 (by simpa using h.ql x hx)).trans h1.1, h1.2⟩
theorem Duo.same (h : Duo w0 w t b q N T U L) (hb : Below w.heap.size w w') : Duo w0 w' t b q N T U L := ⟨h.kn.same hb, h.ok, h.hq, h.ql⟩
theorem Duo.alloc (h : Duo w0 w t b q N T U L) (c : Array Value) (ty : TypeId) : Duo w0 (w.alloc (.cells c ty)) t b q N T U ((w.heap.size, .cells c ty (0, 0)) :: L) := by
  have h1 := h.kn.alloc c ty
  have hl := h.qt.lt
  refine ⟨⟨h1.pt, h1.ht, h1.hb, h1.tr, fun x hx => h1.box x ?_⟩, h.ok, h.hq, fun x hx => ?_⟩
  · simp only [List.mem_cons] at hx ⊢
    rcases hx with h2 | h2 | h2
    · exact Or.inr (Or.inl h2)
    · exact Or.inl h2
    · exact Or.inr (Or.inr h2)
  · rcases List.mem_cons.1 hx with rfl | hx
    · show w.heap.size ≠ q; omega
    · exact h.ql x hx
theorem Duo.less (h : Duo w0 w t b q N T U L) {L' : List (Nat × Obj)} (hs : ∀ x ∈ L', x ∈ L) : Duo w0 w t b q N T U L' :=
  ⟨⟨h.kn.pt, h.kn.ht, h.kn.hb, h.kn.tr, fun x hx => h.kn.box x (by
    rcases List.mem_cons.1 hx with rfl | hx
    · exact List.mem_cons_self ..
    · exact List.mem_cons_of_mem _ (hs x hx))⟩, h.ok, h.hq, fun x hx => h.ql x (hs x hx)⟩
theorem Duo.tr (h : Duo w0 w t b q N T U L) : Below w0.heap.size w0 w := h.kn.tr
theorem Duo.mono (h : Duo w0 w t b q N T U L) (hN : N ≤ N') : Duo w0 w t b q N' T U L := ⟨h.kn.to rfl hN, h.ok, h.hq, h.ql⟩

theorem duo_set (K : Duo w0 w t b q N T U L) (hN : N < 100000) (s p f r : Int) :
    Calls Tryd.prog 23 #[.pointer (some ⟨t, 0, none⟩), .int .i64 s, .int .i64 p, .int .i64 f, .int .i64 r] w fun e w' => e = .returned (.int .i64 (setE T s p f r)) ∧ Duo w0 w' t b q (N + 1) (setO T s p f r) U L := by
  refine (set_any K.pt (room hN) s p f r).mono ?_
  rintro e w' ⟨rfl, h1, h2⟩
  exact ⟨rfl, K.p h1 h2⟩
theorem duo_setQ (K : Duo w0 w t b q N T U L) (s p f r : Int) :
    Calls Tryd.prog 32 #[.pointer (some ⟨q, 0, none⟩), .int .i64 s, .int .i64 p, .int .i64 f, .int .i64 r] w fun e w' => e = .returned (.int .i64 (setE U s p f r)) ∧ Duo w0 w' t b q N T (setO U s p f r) L := by
  refine (q_set K.qt s p f r).mono ?_
  rintro e w' ⟨rfl, h1, h2⟩
  exact ⟨rfl, K.d h1 h2⟩
theorem duo_rights (K : Duo w0 w t b q N T U L) (s p r : Int) :
    Calls Tryd.prog 35 #[.pointer (some ⟨t, 0, none⟩), .int .i64 s, .int .i64 p, .int .i64 r] w fun e w' => e = .returned (.int .i64 (rightsO T s p r).2) ∧ Duo w0 w' t b q N (rightsO T s p r).1 U L := by
  refine (rights_any K.pt s p r).mono ?_
  rintro e w' ⟨rfl, h1, h2⟩
  exact ⟨rfl, K.p h1 (h2.mono (by simp))⟩
theorem duo_rightsQ (K : Duo w0 w t b q N T U L) (s p r : Int) :
    Calls Tryd.prog 36 #[.pointer (some ⟨q, 0, none⟩), .int .i64 s, .int .i64 p, .int .i64 r] w fun e w' => e = .returned (.int .i64 (rightsO U s p r).2) ∧ Duo w0 w' t b q N T (rightsO U s p r).1 L := by
  refine (q_rights K.qt s p r).mono ?_
  rintro e w' ⟨rfl, h1, h2⟩
  exact ⟨rfl, K.d h1 h2⟩
theorem duo_ask (K : Duo w0 w t b q N T U L) (s : Int) (a : Nat) (r : Int) (ha : a < 4294967296) :
    Calls Tryd.prog 19 #[.pointer (some ⟨t, 0, none⟩), .int .i64 s, .int .u32 a, .int .i64 r] w fun e w' => e = .returned (.tuple #[.int .i64 (askF T s a r), .int .i64 (askP T s a r), .int .i64 (askE T s a r)]) ∧ Duo w0 w' t b q N (askT T s a r) U L := by
  refine (ask_any K.pt s a r ha).mono ?_
  rintro e w' ⟨rfl, h1, h2⟩
  exact ⟨rfl, K.p h1 (h2.mono (by simp))⟩
theorem duo_askQ (K : Duo w0 w t b q N T U L) (s : Int) (a : Nat) (r : Int) (ha : a < 4294967296) :
    Calls Tryd.prog 37 #[.pointer (some ⟨q, 0, none⟩), .int .i64 s, .int .u32 a, .int .i64 r] w fun e w' => e = .returned (.tuple #[.int .i64 (askF U s a r), .int .i64 (askP U s a r), .int .i64 (askE U s a r)]) ∧ Duo w0 w' t b q N T (askT U s a r) L := by
  refine (q_ask_any K.qt s a r ha).mono ?_
  rintro e w' ⟨rfl, h1, h2⟩
  exact ⟨rfl, K.d h1 h2⟩
theorem duo_clean (K : Duo w0 w t b q N T U L) (s p : Int) {E : Ent} {X : Int} (hE : getO T s p = E) (hX : takE T s p = X) :
    Calls Tryd.prog 38 #[.pointer (some ⟨t, 0, none⟩), .int .i64 s, .int .i64 p] w fun e w' => e = .returned (.tuple #[.agg #[.int .i64 E.fr, .int .i64 E.ri, .bool E.tc, .bool E.wr], .int .i64 X]) ∧ Duo w0 w' t b q N (cleanO T s p) U L := by
  subst hE; subst hX
  refine (clean_any K.pt s p).mono ?_
  rintro e w' ⟨rfl, h1, h2⟩
  exact ⟨rfl, K.p h1 (h2.mono (by simp))⟩
theorem duo_cleanQ (K : Duo w0 w t b q N T U L) (s p : Int) {E : Ent} {X : Int} (hE : getO U s p = E) (hX : takE U s p = X) :
    Calls Tryd.prog 39 #[.pointer (some ⟨q, 0, none⟩), .int .i64 s, .int .i64 p] w fun e w' => e = .returned (.tuple #[.agg #[.int .i64 E.fr, .int .i64 E.ri, .bool E.tc, .bool E.wr], .int .i64 X]) ∧ Duo w0 w' t b q N T (cleanO U s p) L := by
  subst hE; subst hX
  refine (q_clean K.qt s p).mono ?_
  rintro e w' ⟨rfl, h1, h2⟩
  exact ⟨rfl, K.d h1 h2⟩
theorem duo_clear (K : Duo w0 w t b q N T U L) (hN : N < 100000) (s p : Int) {E : Ent} {X : Int} (hE : getO T s p = E) (hX : takE T s p = X) :
    Calls Tryd.prog 33 #[.pointer (some ⟨t, 0, none⟩), .int .i64 s, .int .i64 p] w fun e w' => e = .returned (.tuple #[.agg #[.int .i64 E.fr, .int .i64 E.ri, .bool E.tc, .bool E.wr], .int .i64 X]) ∧ Duo w0 w' t b q (N + 1) (clearO T s p) U L := by
  subst hE; subst hX
  refine (clear_any K.pt (room hN) s p).mono ?_
  rintro e w' ⟨rfl, h1, h2⟩
  exact ⟨rfl, K.p h1 h2⟩
theorem duo_clearQ (K : Duo w0 w t b q N T U L) (s p : Int) {E : Ent} {X : Int} (hE : getO U s p = E) (hX : takE U s p = X) :
    Calls Tryd.prog 34 #[.pointer (some ⟨q, 0, none⟩), .int .i64 s, .int .i64 p] w fun e w' => e = .returned (.tuple #[.agg #[.int .i64 E.fr, .int .i64 E.ri, .bool E.tc, .bool E.wr], .int .i64 X]) ∧ Duo w0 w' t b q N T (clearO U s p) L := by
  subst hE; subst hX
  refine (q_clear K.qt s p).mono ?_
  rintro e w' ⟨rfl, h1, h2⟩
  exact ⟨rfl, K.d h1 h2⟩
theorem duo_share (K : Duo w0 w t b q N T U L) (hN : N < 100000) (f g : Int) :
    Calls Tryd.prog 24 #[.pointer (some ⟨t, 0, none⟩), .int .i64 f, .int .i64 g] w fun e w' => e = .returned (.tuple #[.int .i64 (shareN T f g), .int .i64 (shareE T f g)]) ∧ Duo w0 w' t b q (N + 32) (shareT T f g) U L := by
  refine (share_any K.pt (by unfold maxLen; omega) f g).mono ?_
  rintro e w' ⟨rfl, h1, h2⟩
  exact ⟨rfl, K.p h1 h2⟩
theorem duo_shareQ (K : Duo w0 w t b q N T U L) (f g : Int) :
    Calls Tryd.prog 40 #[.pointer (some ⟨q, 0, none⟩), .int .i64 f, .int .i64 g] w fun e w' => e = .returned (.tuple #[.int .i64 (shareN U f g), .int .i64 (shareE U f g)]) ∧ Duo w0 w' t b q N T (shareT U f g) L := by
  refine (q_share K.qt f g).mono ?_
  rintro e w' ⟨rfl, h1, h2⟩
  exact ⟨rfl, K.d h1 h2⟩
theorem dropR_len (T : Tb) (s : Int) : (dropR T s).length ≤ 32 := by
  unfold dropR
  split
  · exact picked_len _ _ 32
  · simp
theorem duo_drop (K : Duo w0 w t b q N T U L) (hN : N < 100000) (s : Int) :
    Calls Tryd.prog 41 #[.pointer (some ⟨t, 0, none⟩), .int .i64 s] w fun e w' => ∃ v : Value, e = .returned (.tuple #[v, .int .i64 (dropE s)]) ∧ w'.ownsRow w.heap.size 3 1 v (dropR T s).length ((dropR T s).map intV) ∧ Duo w0 w' t b q (N + 32) (dropT T s) U L := by
  refine (drop_any K.pt (by unfold maxLen; omega) s).mono ?_
  rintro e w' ⟨v, rfl, h0, h1, h2⟩
  exact ⟨v, rfl, h0, K.p h1 h2⟩
theorem duo_dropQ (K : Duo w0 w t b q N T U L) (s : Int) :
    Calls Tryd.prog 42 #[.pointer (some ⟨q, 0, none⟩), .int .i64 s] w fun e w' => ∃ v : Value, e = .returned (.tuple #[v, .int .i64 (dropE s)]) ∧ w'.ownsRow w.heap.size 3 1 v (dropR U s).length ((dropR U s).map intV) ∧ Duo w0 w' t b q N T (dropT U s) L ∧ Turned w w' [q] := by
  refine (q_drop K.qt s).mono ?_
  rintro e w' ⟨v, rfl, h0, h1, h2⟩
  exact ⟨v, rfl, h0, K.d h1 h2, h2⟩
end
end Go.Proofs.YtgkfejnjjoaihaaDoor
