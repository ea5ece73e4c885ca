/- What is kept while packets come and are taken; lists of texts. -/
import Derived.Test.YtakpankipagndaaPoX1
namespace Go.Proofs.Ytakpankipagndaa
open Go.RowKit (wrap64)
open Go.RowKit
open Go.Maps (Keyed)
attribute [local go_sem] Oper.semAt_some

theorem Try.inStr12 : (Try.prog.info? 9).map (fun i => (i.zero, i.size, i.bytes)) = some (some (.string ByteArray.empty), 1, 16) := by kernel_rfl
def strL (l : List (List Nat)) : List Value := l.map fun P => Value.string (strP P)
theorem strL_len (l : List (List Nat)) : (strL l).length = l.length := by simp [strL]
theorem strL_snoc (l : List (List Nat)) (P : List Nat) : strL (l ++ [P]) = strL l ++ [.string (strP P)] := by simp [strL]
/-- Ports made since w0, and two lists of texts apart. -/
def OrdAt (w0 W : World) (p : Nat) (s : Ps) (cm gt : List (List Nat)) (v u : Value) : Prop := ∃ O R L, KnP w0 W p s O R L ∧ W.ownsRow w0.heap.size 9 1 v cm.length (strL cm) ∧ W.ownsRow w0.heap.size 9 1 u gt.length (strL gt) ∧
  (∀ k, v.ownBlock = some k → ¬ O k ∧ ¬ R k ∧ u.ownBlock ≠ some k) ∧ (∀ k, u.ownBlock = some k → ¬ O k ∧ ¬ R k)
section
variable {w0 W W' : World} {p : Nat} {s s' : Ps} {cm gt : List (List Nat)} {v u : Value}
theorem OrdAt.step (h : OrdAt w0 W p s cm gt v u) (hb : Below W.heap.size W W') : OrdAt w0 W' p s cm gt v u := by
  obtain ⟨O, R, L, K, h1, h2, h3, h4⟩ := h
  exact ⟨O, R, L, K.step hb, own_stepF h1 hb, own_stepF h2 hb, h3, h4⟩
theorem OrdAt.bl (h : OrdAt w0 W p s cm gt v u) : Below w0.heap.size w0 W := by
  obtain ⟨O, R, L, K, -⟩ := h
  exact K.bl
theorem ord_to {O R : Nat → Prop} {L : Lay12} (K : KnP w0 W p s O R L) (h1 : W.ownsRow w0.heap.size 9 1 v cm.length (strL cm)) (h2 : W.ownsRow w0.heap.size 9 1 u gt.length (strL gt)) (h3 : ∀ k, v.ownBlock = some k → ¬ O k ∧ ¬ R k ∧ u.ownBlock ≠ some k) (h4 : ∀ k, u.ownBlock = some k → ¬ O k ∧ ¬ R k) (k : PoTo W O R p s' W') : OrdAt w0 W' p s' cm gt v u := by
  obtain ⟨O', R', L', hp, ho, hr, ht⟩ := k
  have hs := K.bl.size
  have no : ∀ b, b < W.heap.size → ¬ O b → ¬ R b → ¬ O' b ∧ ¬ R' b := fun b hb h1 h2 => ⟨fun h => (ho b h).elim h1 (fun h => by omega), fun h => (hr b h).elim h2 (fun h => by omega)⟩
  refine ⟨O', R', L', ⟨hp, fun b hb => ?_, K.bl.trans (ht.below hs (fun b hb => K.lo b (.inl hb)))⟩, owns_eq h1 (fun g hg => ht.block g (h1.lt g hg).2 (h3 g hg).1), owns_eq h2 (fun g hg => ht.block g (h2.lt g hg).2 (h4 g hg).1), fun b hb => ?_, fun b hb => no b (h2.lt b hb).2 (h4 b hb).1 (h4 b hb).2⟩
  · rcases hb with hb | hb
    · rcases ho b hb with h1 | h1
      · exact K.lo b (.inl h1)
      · omega
    · rcases hr b hb with h1 | h1
      · exact K.lo b (.inr h1)
      · omega
  · obtain ⟨n1, n2⟩ := no b (h1.lt b hb).2 (h3 b hb).1 (h3 b hb).2.1
    exact ⟨n1, n2, (h3 b hb).2.2⟩
theorem ord_come (h : OrdAt w0 W p s cm gt v u) {A : Option Addr} {n c : Nat} {P : List Nat} (hp : PkF W A n c P) (hfar : ∀ b o z, A = some ⟨b, o, z⟩ → P ≠ [] → b < w0.heap.size) :
    Calls Try.prog 19 #[.pointer (some ⟨p, 0, none⟩), .slice A n c] W fun e w' => ∃ l, e = .returned (.tuple #[l, .int .i64 (comeR s P).1]) ∧ w'.ownsRow W.heap.size 53 2 l (comeR s P).2.2.length (caL (comeR s P).2.2) ∧ OrdAt w0 w' p (comeR s P).2.1 cm gt v u := by
  obtain ⟨O, R, L, K, h1, h2, h3, h4⟩ := h
  refine (side_come K.po hp (fun hne => .inr (fun b o z e hb => by have := hfar b o z e hne; have := K.lo b (.inl hb); omega))).mono ?_
  rintro e w' ⟨l, rfl, ho, k⟩
  exact ⟨l, rfl, ho, ord_to K h1 h2 h3 h4 k.to⟩
theorem ord_take (h : OrdAt w0 W p s cm gt v u) :
    Calls Try.prog 21 #[.pointer (some ⟨p, 0, none⟩), .int .i64 0, .int .i64 0] W fun e w' => ∃ A c, e = .returned (.tuple #[.slice A (takeR s 0 0).2.1.length c, .int .i64 (takeR s 0 0).1]) ∧ PkIn w' A (takeR s 0 0).2.1 ∧ OrdAt w0 w' p (takeR s 0 0).2.2 cm gt v u := by
  obtain ⟨O, R, L, K, h1, h2, h3, h4⟩ := h
  have h8 := first_b8 K.po 0 0
  refine (side_take12 K.po (by decide) (by decide)).mono ?_
  rintro e w' ⟨x, rfl, ho, k⟩
  obtain ⟨A, c, rfl, hpf, -⟩ := PkF.of_own ho h8
  exact ⟨A, c, rfl, hpf.pk, ord_to K h1 h2 h3 h4 k.to⟩
theorem ord_len (h : OrdAt w0 W p s cm gt v u) : Calls Try.prog 20 #[.pointer (some ⟨p, 0, none⟩), .int .i64 0, .int .i64 0] W fun e w' => e = .returned (.int .i64 (s.len 0 0 : Int)) ∧ W = w' := by
  obtain ⟨O, R, L, K, -⟩ := h
  exact len_any12 K.po (by decide) (by decide)
theorem keep_grown {O R : Nat → Prop} {L : Lay12} (K : KnP w0 W p s O R L) {o : Obj} {row : Option Nat} (hg : (W.alloc o).grownBy W' row) (hn : ∀ k, row = some k → ¬ O k ∧ ¬ R k) (hl : ∀ k, row = some k → w0.heap.size ≤ k) : KnP w0 W' p s O R L := by
  have hs := hg.size
  rw [World.size_alloc] at hs
  have hs0 := K.bl.size
  refine ⟨K.po.keep (by omega) (fun k hk => ?_), K.lo, ⟨hg.os.trans K.bl.os, hg.tape.trans K.bl.tape, hg.output.trans K.bl.output, by omega, fun k hk => ?_⟩⟩
  · have hlt := K.po.lt hk
    refine (hg.block k (by rw [World.size_alloc]; omega) (fun e => ?_)).trans (Below.heap_alloc _ _ _ hlt)
    have := hn k e.symm
    rcases hk with hk | hk
    · exact this.1 hk
    · exact this.2 hk
  · exact ((hg.block k (by rw [World.size_alloc]; omega) (fun e => by have := hl k e.symm; omega)).trans (Below.heap_alloc _ _ _ (by omega))).trans (K.bl.block k hk)
/-- A text is told as came, as got. -/
theorem OrdAt.appV (h : OrdAt w0 W p s cm gt v u) {o : Obj} {P : List Nat} {g cap : Nat} (hown : W'.ownsRow w0.heap.size 9 1 (.slice (some ⟨g, 0, none⟩) (cm.length + 1) cap) (cm.length + 1) (strL cm ++ [.string (strP P)])) (hg : (W.alloc o).grownBy W' v.ownBlock) (hat : v.ownBlock = some g ∨ g = W.heap.size + 1) :
    OrdAt w0 W' p s (cm ++ [P]) gt (.slice (some ⟨g, 0, none⟩) (cm.length + 1) cap) u := by
  obtain ⟨O, R, L, K, h1, h2, h3, h4⟩ := h
  have K' := keep_grown K hg (fun k hk => ⟨(h3 k hk).1, (h3 k hk).2.1⟩) (fun k hk => (h1.lt k hk).1)
  refine ⟨O, R, L, K', by rw [List.length_append, strL_snoc]; exact hown, owns_eq h2 (fun b hb => ?_), fun k hk => ?_, h4⟩
  · have hlt := (h2.lt b hb).2
    exact (hg.block b (by rw [World.size_alloc]; omega) (fun e => (h3 b e.symm).2.2 hb)).trans (Below.heap_alloc _ _ _ hlt)
  · cases hk
    rcases hat with e | e
    · exact h3 _ e
    · exact ⟨fun hO => by have := K.po.lo _ hO; simp only at this; omega, fun hR => by have := K.po.lr _ hR; simp only at this; omega, fun hu => by have := (h2.lt _ hu).2; simp only at this; omega⟩
theorem OrdAt.appU (h : OrdAt w0 W p s cm gt v u) {o : Obj} {P : List Nat} {g cap : Nat} (hown : W'.ownsRow w0.heap.size 9 1 (.slice (some ⟨g, 0, none⟩) (gt.length + 1) cap) (gt.length + 1) (strL gt ++ [.string (strP P)])) (hg : (W.alloc o).grownBy W' u.ownBlock) (hat : u.ownBlock = some g ∨ g = W.heap.size + 1) :
    OrdAt w0 W' p s cm (gt ++ [P]) v (.slice (some ⟨g, 0, none⟩) (gt.length + 1) cap) := by
  obtain ⟨O, R, L, K, h1, h2, h3, h4⟩ := h
  have K' := keep_grown K hg (fun k hk => h4 k hk) (fun k hk => (h2.lt k hk).1)
  refine ⟨O, R, L, K', owns_eq h1 (fun b hb => ?_), by rw [List.length_append, strL_snoc]; exact hown, fun k hk => ?_, fun k hk => ?_⟩
  · have hlt := (h1.lt b hb).2
    exact (hg.block b (by rw [World.size_alloc]; omega) (fun e => (h3 b hb).2.2 e.symm)).trans (Below.heap_alloc _ _ _ hlt)
  · refine ⟨(h3 k hk).1, (h3 k hk).2.1, fun e => ?_⟩
    cases e
    rcases hat with e | e
    · exact (h3 _ hk).2.2 e
    · have := (h1.lt _ hk).2; simp only at this; omega
  · cases hk
    rcases hat with e | e
    · exact h4 _ e
    · exact ⟨fun hO => by have := K.po.lo _ hO; simp only at this; omega, fun hR => by have := K.po.lr _ hR; simp only at this; omega⟩
theorem OrdAt.rowV (h : OrdAt w0 W p s cm gt v u) : W.ownsRow w0.heap.size 9 1 v cm.length (strL cm) := by
  obtain ⟨O, R, L, K, h1, h2, h3, h4⟩ := h
  exact h1
theorem OrdAt.rowU (h : OrdAt w0 W p s cm gt v u) : W.ownsRow w0.heap.size 9 1 u gt.length (strL gt) := by
  obtain ⟨O, R, L, K, h1, h2, h3, h4⟩ := h
  exact h2
theorem str_cell {w : World} {B : Nat} {A : Option Addr} {n c : Nat} {l : List (List Nat)} (h : w.ownsRow B 9 1 (.slice A n c) n (strL l)) {k : Nat} {P : List Nat} (hk : l[k]? = some P) (hn : l.length = n) :
    ∃ g, A = some ⟨g, 0, none⟩ ∧ g < w.heap.size ∧ w.cell? ⟨g, k, none⟩ = some (.string (strP P)) := by
  have hlt : k < l.length := (List.getElem?_eq_some_iff.1 hk).1
  obtain ⟨A', c', e, h0, h1⟩ := own_form h
  cases e
  cases A with
  | none => have := (h0 rfl).1; omega
  | some ad =>
    obtain ⟨g, rfl, -, hg2, -⟩ := h1 ad rfl
    have k1 := h.cells (g := g) rfl k (.string (strP P)) (by unfold strL; rw [List.getElem?_map, hk]; rfl)
    rw [add_plain, Nat.zero_add] at k1
    exact ⟨g, rfl, hg2, k1⟩
end
end Go.Proofs.Ytakpankipagndaa
