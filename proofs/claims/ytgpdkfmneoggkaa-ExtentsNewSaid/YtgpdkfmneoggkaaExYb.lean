/- begin. -/
import Derived.Test.YtgpdkfmneoggkaaExYa
import Derived.Laws.AppendOwnNone
namespace Go.Proofs.Ytgpdkfmneoggkaa
open Go.RowKit
attribute [local go_sem] Oper.semAt_some

theorem app_opt8 {P : Program} {w : World} {ops : Array Oper} {rest : List Oper} {o : Oper} {a : Act} {Q : Exit → Act → World → Prop} (hgd : o.guard = none) (s x : Operand) (t : TypeId)
    (ho : o.op = .call { callee := .builtin .append, args := #[s, x], argTypes := #[t, t] })
    (base : Nat) (e : TypeId) (i : TypeInfo) (z : Value) (size bytes : Nat) (ht : P.underlying t = some (.slice e)) (hi : P.info? e = some i) (hz : i.zero = some z)
    (hsize : i.size = size) (hby : i.bytes = bytes) (hzs : z.cells.size = size) (hsz : 0 < size)
    (v : Value) (n : Nat) (xs : List Value) (hs : a.eval s = v) (hown : w.ownsRow base e size v n xs)
    (A : Option Addr) (m c : Nat) (news : List Value) (hx : a.eval x = .slice A m c) (hA : A = none → m = 0 ∧ c = 0) (hl : news.length = m * size) (hnews : ∀ ad, A = some ad → ∀ j u, news[j]? = some u → w.cell? (ad.add j) = some u) (h1 : ∀ u ∈ news, u.oneCell' = true)
    (h63 : n + m ≤ maxLen) (hbytes : (n + m) * bytes ≤ 140737488355328) (hbase : base ≤ w.heap.size)
    (h : ∀ v' w', w'.ownsRow base e size v' (n + m) (xs ++ news) → w.grownBy w' v.ownBlock → wpList P ops Q rest (a.put o.dst v') w') : wpList P ops Q (o :: rest) a w := by
  cases A with
  | none =>
    obtain ⟨rfl, rfl⟩ := hA rfl
    have hn : news = [] := List.eq_nil_of_length_eq_zero (by simpa using hl)
    subst hn
    exact wpList_append_own_none hgd s x t ho base e i size ht hi v n xs hs hown hx (h v w (by simpa using hown) (World.grownBy.refl w _))
  | some ad =>
    exact wpList_append_own _ hgd s x t ho base e i z size bytes ht hi hz hsize hby hzs hsz v n xs hs hown ad m c news hx hl (hnews ad rfl) h1 h63 hbytes hbase fun v' w' h2 h3 _ => h v' w' h2 h3

theorem ints_news {w : World} {A : Option Addr} {qs : List Int} (h : IntsIn w A qs) : ∀ ad, A = some ad → ∀ j u, (qs.map (Value.int .i64))[j]? = some u → w.cell? (ad.add j) = some u := fun ad e j u hu => by
  rw [List.getElem?_map] at hu
  obtain ⟨x, hx, rfl⟩ := Option.map_eq_some_iff.1 hu
  obtain ⟨g, o, e2, hc, -⟩ := h j x hx
  rw [e] at e2
  cases e2
  rw [Addr.add_mid]
  exact hc
theorem own_ints {w : World} {B g cap : Nat} {qs : List Int} {n k : Nat} {tl : List Value} (hb : ∀ q ∈ qs, -9223372036854775808 ≤ q ∧ q ≤ 9223372036854775807) (h : w.ownsRow B 3 1 (.slice (some ⟨g, 0, none⟩) k cap) k (qs.map (Value.int .i64) ++ tl)) (hn : qs.length = n) : IntsIn w (some ⟨g, 0, none⟩) qs := fun j v hj => by
  have hl := (List.getElem?_eq_some_iff.1 hj).1
  refine ⟨g, 0, rfl, ?_, hb v (List.mem_of_getElem? hj)⟩
  have := h.cells (g := g) rfl j (.int .i64 v) (by rw [List.getElem?_append_left (by simp; omega), List.getElem?_map, hj]; rfl)
  rw [Addr.add_mid] at this
  exact this
theorem ints_bound {w : World} {A : Option Addr} {qs : List Int} (h : IntsIn w A qs) : ∀ q ∈ qs, -9223372036854775808 ≤ q ∧ q ≤ 9223372036854775807 := fun q hq => by
  obtain ⟨m, hm, e⟩ := List.getElem_of_mem hq
  obtain ⟨-, -, -, -, h1⟩ := h m q (by rw [List.getElem?_eq_getElem hm, e])
  exact h1
section
variable {w : World} {dq z g0 cz : Nat}
theorem qxnew_arg (hd : w.cell? ⟨dq, 0, none⟩ = some (.slice (some ⟨g0, 0, none⟩) z cz)) (hz1 : 1 ≤ z) (hz2 : z ≤ 4096) (A : Option Addr) (qs : List Int) (n c : Nat) (hn : qs.length = n) (hn2 : n ≤ 9223372036854775807) (hq : IntsIn w A qs) (hb : qs.length < 1 ∨ 8 < qs.length ∨ ∃ q ∈ qs, q < 0) :
    Calls Try.prog 31 #[.pointer (some ⟨dq, 0, none⟩), .slice A n c] w fun e w' => e = .returned (.tuple #[.pointer none, .int .i64 2]) ∧ Below w.heap.size w w' := by
  refine (qxnew_any hd hz1 hz2 A qs n c hn hn2 hq).mono fun e w' hh => ?_
  rcases hh with ⟨-, h1⟩ | ⟨⟨h1, h2, h3, -⟩, -⟩ | ⟨⟨h1, h2, h3, -⟩, -⟩
  · exact h1
  all_goals
    rcases hb with hb | hb | ⟨q, hq, hb⟩
    · omega
    · omega
    · have := h3 q hq; omega
theorem qxnew_full (hd : w.cell? ⟨dq, 0, none⟩ = some (.slice (some ⟨g0, 0, none⟩) z cz)) (hz1 : 1 ≤ z) (hz2 : z ≤ 4096) (A : Option Addr) (qs : List Int) (n c : Nat) (hn : qs.length = n) (hn2 : n ≤ 9223372036854775807) (hq : IntsIn w A qs) (h1 : 1 ≤ qs.length) (h2 : qs.length ≤ 8) (h3 : ∀ q ∈ qs, 0 ≤ q) (h4 : z < sumQ qs qs.length) :
    Calls Try.prog 31 #[.pointer (some ⟨dq, 0, none⟩), .slice A n c] w fun e w' => e = .returned (.tuple #[.pointer none, .int .i64 5]) ∧ Below w.heap.size w w' := by
  refine (qxnew_any hd hz1 hz2 A qs n c hn hn2 hq).mono fun e w' hh => ?_
  rcases hh with ⟨hb, -⟩ | ⟨-, h1⟩ | ⟨⟨-, -, -, h5⟩, -⟩
  · rcases hb with hb | hb | ⟨q, hq, hb⟩
    · omega
    · omega
    · have := h3 q hq; omega
  · exact h1
  · omega
theorem qxnew_ok (hd : w.cell? ⟨dq, 0, none⟩ = some (.slice (some ⟨g0, 0, none⟩) z cz)) (hz1 : 1 ≤ z) (hz2 : z ≤ 4096) (A : Option Addr) (qs : List Int) (n c : Nat) (hn : qs.length = n) (hn2 : n ≤ 9223372036854775807) (hq : IntsIn w A qs) (h1 : 1 ≤ qs.length) (h2 : qs.length ≤ 8) (h3 : ∀ q ∈ qs, 0 ≤ q) (h4 : sumQ qs qs.length ≤ z) :
    Calls Try.prog 31 #[.pointer (some ⟨dq, 0, none⟩), .slice A n c] w fun e w' => ∃ q Y, e = .returned (.tuple #[.pointer (some ⟨q, 0, none⟩), .int .i64 0]) ∧ QxAt w' q dq Y (newXt qs qs.length) ∧ QxLo w.heap.size q Y (newXt qs qs.length).n ∧ Below w.heap.size w w' := by
  refine (qxnew_any hd hz1 hz2 A qs n c hn hn2 hq).mono fun e w' hh => ?_
  rcases hh with ⟨hb, -⟩ | ⟨⟨-, -, -, h5⟩, -⟩ | ⟨-, h1⟩
  · rcases hb with hb | hb | ⟨q, hq, hb⟩
    · omega
    · omega
    · have := h3 q hq; omega
  · omega
  · exact h1
end
theorem QdIs.keepOn {B n k : Nat} {C : Nat → Sec} {v : Value} {b : Nat → Nat} {w w' : World} (h : QdIs B n k C v b w) (hs : w.heap.size ≤ w'.heap.size) (he : ∀ j, B ≤ j → j < w.heap.size → w'.heap[j]? = w.heap[j]?) : QdIs B n k C v b w' := by
  have lt1 := (Array.getElem?_eq_some_iff.1 h.pend).1
  have lt2 := (Array.getElem?_eq_some_iff.1 h.disk).1
  refine ⟨(he _ (Nat.le_refl _) lt1).trans h.pend, (he _ (by omega) lt2).trans h.disk, owns_eq h.own (fun g e => he g (by have := (h.own.lt g e).1; omega) (h.own.lt g e).2), fun i hi => ?_, h.apart⟩
  obtain ⟨h1, h2, h3, h4⟩ := h.sec i hi
  exact ⟨h1, Nat.lt_of_lt_of_le h2 hs, h3, (he _ (by omega) h2).trans h4⟩
/-- The copy of the quotas, as it is overwritten. -/
structure OwnQ (W : World) (g n : Nat) (qs : List Int) (k : Nat) : Prop where
  row : ∃ cs, W.heap[g]? = some (.cells cs 3 (0, 0)) ∧ n ≤ cs.size ∧ ∀ j q, k ≤ j → qs[j]? = some q → cs[j]? = some (.int .i64 q)
theorem OwnQ.set {W : World} {g n : Nat} {qs : List Int} {k : Nat} (h : OwnQ W g n qs k) (v : Value) : OwnQ (W.setCell ⟨g, k, none⟩ v) g n qs (k + 1) := by
  obtain ⟨cs, h1, h2, h3⟩ := h.row
  refine ⟨_, heap_setCell_same W g k _ _ v h1, by simpa using h2, fun j q hj hq => ?_⟩
  rw [Array.getElem?_setIfInBounds, if_neg (by show ¬ k = j; omega)]
  exact h3 j q (by omega) hq
theorem OwnQ.of {W : World} {B g cap n : Nat} {qs : List Int} {tl : List Value} {k : Nat} (h : W.ownsRow B 3 1 (.slice (some ⟨g, 0, none⟩) k cap) k (qs.map (Value.int .i64) ++ tl)) (hn : qs.length = n) : OwnQ W g n qs 0 := by
  have hc := h.cells (g := g) rfl
  rcases h.2 with ⟨e, -⟩ | ⟨g', cap', cur, e, -, h2, h3, h4, h5, h6⟩
  · cases e
  · cases e
    have hl : k = n + tl.length := by have := h.1; rw [List.length_append, List.length_map] at this; omega
    refine ⟨cur, h2, by omega, fun j q _ hq => ?_⟩
    have hj := (List.getElem?_eq_some_iff.1 hq).1
    have := hc j (.int .i64 q) (by rw [List.getElem?_append_left (by simp; omega), List.getElem?_map, hq]; rfl)
    rw [Addr.add_mid, cell_of_row _ _ _ _ _ _ h2, Nat.zero_add] at this
    exact this
end Go.Proofs.Ytgpdkfmneoggkaa
