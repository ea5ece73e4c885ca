/- The document's ports in memory; its New. -/
import Derived.Test.YtakpankipagndaaPoN
import Derived.Laws.MakeOwn
import Derived.Deep.RegionLaw
namespace Go.Proofs.Ytakpankipagndaa
open Go.RowKit (wrap64)
open Go.RowKit
open Go.Maps (Keyed)
attribute [local go_sem] Oper.semAt_some

/-- A document's ring: a slice of packets. -/
def RingIn (w : World) (R : Nat → Prop) (A : Option Addr) (c : Nat) (l : List (List Nat)) : Prop :=
  (A = none → l.length = 0 ∧ c = 0) ∧ Rd R A ∧ ∀ (i : Nat) (P : List Nat), l[i]? = some P → ∃ b o B d, A = some ⟨b, o, none⟩ ∧ b < w.heap.size ∧ w.cell? ⟨b, o + i, none⟩ = some (.slice B P.length d) ∧ PkF w B P.length d P ∧ Rd R B
def qpL (is : Bool) (F G : Value) (l : Int) : List Value := [.bool is, F, G, .int .i64 l]
/-- A document's port. -/
def QpIs (w : World) (R : Nat → Prop) (g n : Nat) : Option Cl → Prop
  | none => w.rangeAt g (n * 4) (qpL false (.slice none 0 0) (.slice none 0 0) 0)
  | some X => ∃ FA FC RA RC, w.rangeAt g (n * 4) (qpL true (.slice FA X.fl.length FC) (.slice RA X.rg.length RC) X.lo) ∧ FlIn w FA X.fl.length FC X.fl ∧ Rd R FA ∧ RingIn w R RA RC X.rg
structure LayQ where
  pb : Nat
  pc : Nat
  G : Nat → Nat
/-- A document's ports: R the blocks that are only read. -/
structure QAt (w : World) (R : Nat → Prop) (r : Nat) (Y : LayQ) (s : Ps) : Prop where
  ok : PsOk s
  rb : w.heap[r]? = some (.cells #[.slice (some ⟨Y.pb, 0, none⟩) s.q.length Y.pc] 101 (0, 0))
  rows : ∀ (a x : Nat), s.q[a]? = some x → w.cell? ⟨Y.pb, a, none⟩ = some (.slice (some ⟨Y.G a, 0, none⟩) x x)
  row : ∀ (a x : Nat), s.q[a]? = some x → ∃ cur, w.heap[Y.G a]? = some (.cells cur 87 (0, 0)) ∧ cur.size = x * 4
  po : ∀ (a x n : Nat), s.q[a]? = some x → n < x → QpIs w R (Y.G a) n (s.c a n)
  ne : ∀ (a b x y : Nat), s.q[a]? = some x → s.q[b]? = some y → Y.G a = Y.G b → a = b
  rr : R r
  rp : R Y.pb
  lr : ∀ k, R k → k < w.heap.size
  dis : ∀ (a x : Nat), s.q[a]? = some x → ¬ R (Y.G a)
/-- Its rows. -/
def QAt.own (Y : LayQ) (s : Ps) (k : Nat) : Prop := ∃ a x, s.q[a]? = some x ∧ k = Y.G a
theorem RingIn.keep {w w' : World} {R R' : Nat → Prop} {A : Option Addr} {c : Nat} {l : List (List Nat)} (h : RingIn w R A c l) (hs : w.heap.size ≤ w'.heap.size) (he : ∀ k, R k → w'.heap[k]? = w.heap[k]?) (hr : ∀ k, R k → R' k) : RingIn w' R' A c l :=
  ⟨h.1, h.2.1.mono hr, fun i P hi => by
    obtain ⟨b, o, B, d, e, l1, c1, hp, hd⟩ := h.2.2 i P hi
    exact ⟨b, o, B, d, e, Nat.lt_of_lt_of_le l1 hs, (World.cell?_of_block (a := ⟨b, _, none⟩) (he b (h.2.1 b o none e))).trans c1, hp.keepR hd hs he, hd.mono hr⟩⟩
theorem range_blk {w w' : World} {b o : Nat} {cs : List Value} (h : w.rangeAt b o cs) (e : w'.heap[b]? = w.heap[b]?) : w'.rangeAt b o cs := fun j v hv => (World.cell?_of_block (a := ⟨b, o + j, none⟩) e).trans (h j v hv)
theorem QpIs.keep {w w' : World} {R R' : Nat → Prop} {g n : Nat} {X : Option Cl} (h : QpIs w R g n X) (hs : w.heap.size ≤ w'.heap.size) (he : ∀ k, R k → w'.heap[k]? = w.heap[k]?) (hg : w'.heap[g]? = w.heap[g]?) (hr : ∀ k, R k → R' k) : QpIs w' R' g n X := by
  cases X with
  | none => exact range_blk (b := g) h hg
  | some X =>
    obtain ⟨FA, FC, RA, RC, h1, h2, h3, h4⟩ := h
    exact ⟨FA, FC, RA, RC, range_blk h1 hg, h2.keepR h3 hs he, h3.mono hr, h4.keep hs he hr⟩
section
variable {w w' : World} {R : Nat → Prop} {r : Nat} {Y : LayQ} {s : Ps}
theorem QAt.keep (h : QAt w R r Y s) (hs : w.heap.size ≤ w'.heap.size) (he : ∀ k, QAt.own Y s k ∨ R k → w'.heap[k]? = w.heap[k]?) : QAt w' R r Y s :=
  ⟨h.ok, (he r (.inr h.rr)).trans h.rb, fun a x hx => (World.cell?_of_block (a := ⟨_, a, none⟩) (he _ (.inr h.rp))).trans (h.rows a x hx), fun a x hx => by
      obtain ⟨cur, h1, h2⟩ := h.row a x hx
      exact ⟨cur, (he _ (.inl ⟨a, x, hx, rfl⟩)).trans h1, h2⟩,
    fun a x n hx hn => (h.po a x n hx hn).keep hs (fun k hk => he k (.inr hk)) (he _ (.inl ⟨a, x, hx, rfl⟩)) (fun _ hk => hk), h.ne, h.rr, h.rp, fun k hk => Nat.lt_of_lt_of_le (h.lr k hk) hs, h.dis⟩
theorem QAt.lt (h : QAt w R r Y s) {k : Nat} (hk : QAt.own Y s k ∨ R k) : k < w.heap.size := by
  rcases hk with ⟨a, x, hx, rfl⟩ | hk
  · obtain ⟨cur, h1, -⟩ := h.row a x hx
    exact (Array.getElem?_eq_some_iff.1 h1).1
  · exact h.lr k hk
theorem QAt.step (h : QAt w R r Y s) (hb : Below w.heap.size w w') : QAt w' R r Y s := h.keep hb.size (fun k hk => hb.block k (h.lt hk))
end

/-! ### New -/
def rowQ (b n : Nat) : Value := .slice (some ⟨b, 0, none⟩) n n
def rowsQ (b q : Nat → Nat) (k : Nat) : List Value := (List.range k).map fun i => rowQ (b i) (q i)
theorem rowsQ_succ (b q : Nat → Nat) (k g : Nat) : rowsQ b q k ++ [rowQ g (q k)] = rowsQ (fun i => if i = k then g else b i) q (k + 1) := by
  unfold rowsQ
  rw [List.range_succ, List.map_append]
  congr 1
  · refine List.map_congr_left (fun i hi => ?_)
    have := List.mem_range.1 hi
    simp only []
    rw [if_neg (by omega)]
  · simp
def zeroQ : Array Value := #[.bool false, .slice none 0 0, .slice none 0 0, .int .i64 0]
theorem Try.infoQL : (Try.prog.info? 102).map (fun i => (i.zero, i.size, i.bytes)) = some (some (.slice none 0 0), 1, 24) := by kernel_rfl
theorem Try.infoQP : (Try.prog.info? 87).map (fun i => (i.zero, i.size, i.bytes)) = some (some (.agg zeroQ), 4, 64) := by kernel_rfl
theorem run_makeQ (n : Nat) (hn : n ≤ 1000) (w : World) : (Instr.makeSlice 102 (.int .i64 (n : Int)) (.int .i64 (n : Int))).run Try.prog w = .ok (rowQ w.heap.size n) (w.alloc (.cells (madeCells zeroQ (n * 4)) 87)) := by
  obtain ⟨i, hi, hz, hs, hb⟩ := info_parts Try.infoQP
  have := run_make (P := Try.prog) w 102 87 i (.agg zeroQ) Try.underlying102 hi hz .i64 .i64 n n (by omega) (Int.le_refl _) (by rw [hb]; omega) (by omega)
  rw [hs] at this
  simpa [Value.cells, rowQ] using this
theorem made_size (z : Array Value) (n : Nat) : (madeCells z n).size = n := by simp [madeCells]
theorem made_at (n j : Nat) (h : j < n * 4) : (madeCells zeroQ (n * 4))[j]? = some (zeroQ[j % 4]!) := by
  unfold madeCells
  rw [Array.getElem?_map, Array.getElem?_range, if_pos h]
  rfl
theorem made_range {w : World} {g n : Nat} (h : w.heap[g]? = some (.cells (madeCells zeroQ (n * 4)) 87 (0, 0))) {k : Nat} (hk : k < n) : w.rangeAt g (k * 4) (qpL false (.slice none 0 0) (.slice none 0 0) 0) := fun j v hv => by
  have hj : j < 4 := (List.getElem?_eq_some_iff.1 hv).1
  rw [cell_of_row _ _ _ _ _ _ h, made_at n _ (by omega), show (k * 4 + j) % 4 = j by omega]
  rcases (show j = 0 ∨ j = 1 ∨ j = 2 ∨ j = 3 by omega) with rfl | rfl | rfl | rfl <;> exact hv
/-- An append of a slice that the call itself has made, at the step of a region that draws its order. -/
theorem step_append_own {P : Program} {ops : Array Oper} {o : Oper} {a : Act} {w : World} {K : Act → World → Prop} {Q : Exit → Act → World → Prop} {E : Prop}
    (hg : o.guard = none) (s x : Operand) (t : TypeId) (hop : o.op = Op.call { callee := Callee.builtin Builtin.append, args := #[s, x], argTypes := #[t, t] })
    (base : Nat) (e : TypeId) (i : TypeInfo) (z : Value) (size bytes : Nat) (h1 : P.underlying t = some (.slice e)) (h2 : P.info? e = some i) (h3 : i.zero = some z) (h4 : i.size = size) (h5 : i.bytes = bytes) (h6 : z.cells.size = size) (h7 : 0 < size)
    (v : Value) (n : Nat) (xs : List Value) (hs : a.eval s = v) (hown : w.ownsRow base e size v n xs)
    (ad : Addr) (m c : Nat) (news : List Value) (hx : a.eval x = .slice (some ad) m c) (hn : news.length = m * size) (hc : ∀ j u, news[j]? = some u → w.cell? (ad.add j) = some u) (h1c : ∀ u ∈ news, u.oneCell' = true)
    (b1 : n + m ≤ maxLen) (b2 : (n + m) * bytes ≤ 140737488355328) (hbase : base ≤ w.heap.size)
    (hK : ∀ v' w', w'.ownsRow base e size v' (n + m) (xs ++ news) → w.grownBy w' v.ownBlock → K (a.put o.dst v') w') :
    if Region.wanted o (yielded ops a.tmps) = true then Oper.wp P o a w K Q else E := by
  have hw : Region.wanted o (yielded ops a.tmps) = true := by simp [Region.wanted, hg]
  rw [if_pos hw]
  obtain ⟨v', w', hrun, r1, r2, _⟩ := run_append_own (P := P) w base t o.type e i z size bytes h1 h2 h3 h4 h5 h6 h7 v n xs hown ad m c news hn hc h1c b1 b2 hbase
  unfold Oper.wp
  simp [execOp, hop, resolve, invoke, builtin, hs, hx, hrun, Result.andThen]
  exact hK v' w' r1 r2
/-- Amid New. -/
structure QnIs (B k : Nat) (q : Nat → Nat) (v : Value) (b : Nat → Nat) (wr : World) : Prop where
  rb : wr.heap[B]? = some (.cells #[v] 101 (0, 0))
  own : wr.ownsRow (B + 1) 102 1 v k (rowsQ b q k)
  row : ∀ i : Nat, i < k → B + 1 ≤ b i ∧ b i < wr.heap.size ∧ v.ownBlock ≠ some (b i) ∧ wr.heap[b i]? = some (.cells (madeCells zeroQ (q i * 4)) 87 (0, 0))
  apart : ∀ i j : Nat, i < k → j < k → b i = b j → i = j
theorem own_ty12 {w : World} {B : Nat} {e : TypeId} {m : Nat} {v : Value} {n : Nat} {xs : List Value} (h : w.ownsRow B e m v n xs) {g : Nat} (hg : v.ownBlock = some g) : ∃ cur, w.heap[g]? = some (.cells cur e (0, 0)) := by
  obtain ⟨-, h2 | ⟨g', cap, cur, rfl, -, h4, -⟩⟩ := h
  · rw [h2.1] at hg; cases hg
  · cases hg; exact ⟨cur, h4⟩
theorem cell_one_two12 (w : World) (o : Obj) (a : Value) (t : TypeId) : ∀ j u, [a][j]? = some u → (((w.alloc o).alloc (.cells #[a] t)).drew).cell? ((⟨w.heap.size + 1, 0, none⟩ : Addr).add j) = some u := fun j u hj => by
  have hg : ((w.alloc o).alloc (.cells #[a] t)).heap[(w.alloc o).heap.size]? = some (.cells #[a] t (0, 0)) := heap_alloc_new _ _
  rw [show (w.alloc o).heap.size = w.heap.size + 1 by simp] at hg
  rw [Addr.add_mid, Nat.zero_add, World.cell?_drew, cell_of_row _ _ _ _ _ _ hg]
  simpa using hj
section
variable {k : Nat} {w wr w3 : World} {v v' : Value} {b q : Nat → Nat} {o : Obj}
theorem qn_mid (hq : QnIs w.heap.size k q v b wr) (hg : (((wr.alloc (.cells (madeCells zeroQ (q k * 4)) 87)).alloc o).drew).grownBy w3 v.ownBlock) :
    w3.heap[w.heap.size]? = some (.cells #[v] 101 (0, 0)) := by
  have lt2 := (Array.getElem?_eq_some_iff.1 hq.rb).1
  refine (hg.block _ (by simp; omega) (fun e => by have := (hq.own.lt _ e.symm).1; omega)).trans ?_
  exact ((Below.heap_alloc _ _ _ (by simp; omega)).trans (Below.heap_alloc _ _ _ lt2)).trans hq.rb
theorem qn_round (hq : QnIs w.heap.size k q v b wr) (hb : Below w.heap.size w wr) (ho : w3.ownsRow (w.heap.size + 1) 102 1 v' (k + 1) (rowsQ b q k ++ [rowQ wr.heap.size (q k)]))
    (hg : (((wr.alloc (.cells (madeCells zeroQ (q k * 4)) 87)).alloc o).drew).grownBy w3 v.ownBlock) :
    Below w.heap.size w (w3.setCell ⟨w.heap.size, 0, none⟩ v') ∧ ∃ b', QnIs w.heap.size (k + 1) q v' b' (w3.setCell ⟨w.heap.size, 0, none⟩ v') := by
  have lt2 := (Array.getElem?_eq_some_iff.1 hq.rb).1
  have hs3 := hg.size
  have hs3' : wr.heap.size + 2 ≤ w3.heap.size := by simpa using hs3
  have hbs := hb.size
  have key : ∀ j, j < wr.heap.size → some j ≠ v.ownBlock → w3.heap[j]? = wr.heap[j]? := fun j hj hne =>
    (hg.block _ (by simp; omega) hne).trans ((Below.heap_alloc _ _ _ (by simp; omega)).trans (Below.heap_alloc _ _ _ hj))
  have hol := hq.own.lt
  have fresh : w3.heap[wr.heap.size]? = some (.cells (madeCells zeroQ (q k * 4)) 87 (0, 0)) := by
    refine (hg.block _ (by simp; omega) (fun e => by have := (hol _ e.symm).2; omega)).trans ?_
    refine (Below.heap_alloc _ _ _ (by simp)).trans ?_
    exact heap_alloc_new wr _
  have hd := qn_mid hq hg
  refine ⟨?_, fun i => if i = k then wr.heap.size else b i, ?_, ?_, ?_, ?_⟩
  · refine Below.setCell ?_ (by simp) v'
    exact Below.grown (((hb.alloc hbs _).alloc (by simp; omega) _).drew) hg (by simp; omega) (fun j e => by have := (hol j e).1; omega)
  · have := heap_setCell_same w3 w.heap.size 0 _ _ v' hd
    simpa using this
  · rw [← rowsQ_succ]
    refine ho.kept (row := some w.heap.size) ⟨rfl, rfl, rfl, by simp, fun j hj hne => heap_setCell_other _ _ _ _ (fun e => hne (by rw [e]))⟩ (.inr (fun e => ?_))
    have := (ho.lt _ e).1
    omega
  · have typ : ∀ g row, w3.heap[g]? = some (.cells row 87 (0, 0)) → v'.ownBlock ≠ some g := fun g row h1 e => by
      obtain ⟨cur, h2⟩ := own_ty12 ho e
      rw [h1] at h2
      cases h2
    intro i hi
    show w.heap.size + 1 ≤ (if i = k then wr.heap.size else b i) ∧ (if i = k then wr.heap.size else b i) < (w3.setCell _ v').heap.size ∧ v'.ownBlock ≠ some (if i = k then wr.heap.size else b i) ∧ (w3.setCell _ v').heap[if i = k then wr.heap.size else b i]? = _
    rw [show (w3.setCell ⟨w.heap.size, 0, none⟩ v').heap.size = w3.heap.size by simp]
    by_cases e : i = k
    · subst e
      rw [if_pos rfl]
      exact ⟨by omega, by omega, typ _ _ fresh, (heap_setCell_other _ _ _ _ (by simp; omega)).trans fresh⟩
    · rw [if_neg e]
      obtain ⟨s1, s2, s3, s4⟩ := hq.row i (by omega)
      have s5 := (key _ s2 (fun e => s3 e.symm)).trans s4
      exact ⟨s1, by omega, typ _ _ s5, (heap_setCell_other _ _ _ _ (by simp; omega)).trans s5⟩
  · intro i j hi hj (e : (if i = k then wr.heap.size else b i) = (if j = k then wr.heap.size else b j))
    by_cases e1 : i = k
    · by_cases e2 : j = k
      · omega
      · rw [if_pos e1, if_neg e2] at e
        have := (hq.row j (by omega)).2.1
        omega
    · by_cases e2 : j = k
      · rw [if_neg e1, if_pos e2] at e
        have := (hq.row i (by omega)).2.1
        omega
      · rw [if_neg e1, if_neg e2] at e
        exact hq.apart i j (by omega) (by omega) e
end
end Go.Proofs.Ytakpankipagndaa
