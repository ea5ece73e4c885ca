/- Least, Plain and Both of the document. -/
import Derived.Test.YtakpankipagndaaFiD
import Derived.Laws.AppendOwn
import Derived.Laws.AppendOwnNone
import Derived.OwnWalk
namespace Go.Proofs.Ytakpankipagndaa
open Go.RowKit

theorem Try.inU8t : (Try.prog.info? 5).map (fun i => (i.zero, i.size, i.bytes)) = some (some (.int .u8 0), 1, 1) := by kernel_rfl
theorem Try.inTest : (Try.prog.info? 74).map (fun i => (i.zero, i.size, i.bytes)) = some (some (.agg #[.int .i64 0, .int .i64 0, .int .i64 0]), 3, 24) := by kernel_rfl
theorem add_plain (B off i : Nat) : (⟨B, off, none⟩ : Addr).add i = ⟨B, off + i, none⟩ := by
  unfold Addr.add; split
  · rename_i e; subst e; rfl
  · rfl
theorem cells_new (w : World) (l : List Value) (t : TypeId) : ∀ j u, l[j]? = some u → (w.alloc (.cells l.toArray t)).cell? ((⟨w.heap.size, 0, none⟩ : Addr).add j) = some u := by
  intro j u h
  rw [add_plain, Nat.zero_add, cell_of_row _ _ _ _ _ _ (heap_alloc_new w _)]
  simpa using h
theorem least_at {N : List Tn} {q b : Nat} (h : ∀ j, j < b → byteN N q j = false) (hb : b < 256) (h1 : byteN N q b = true) : leastB N q = b := by
  unfold leastB
  have : (List.range 256).find? (byteN N q) = some b := by
    rw [List.find?_range_eq_some]
    exact ⟨h1, by simpa using hb, fun j hj => by simp [h j hj]⟩
  rw [this]; rfl
theorem least_no {N : List Tn} {q : Nat} (h : ∀ j, j < 256 → byteN N q j = false) : leastB N q = 256 := by
  unfold leastB
  have : (List.range 256).find? (byteN N q) = none := by
    rw [List.find?_eq_none]; intro j hj; rw [h j (by simpa using hj)]; simp
  rw [this]; rfl
theorem leastL_none {N : List Tn} {q : Nat} (hq : q < longN N) (h : leastB N q = 256) : leastL N = none := by
  unfold leastL
  rw [if_neg]
  intro ha
  rw [List.all_eq_true] at ha
  have := ha q (by simpa using hq)
  rw [h] at this; simp at this
theorem leastL_some {N : List Tn} (h : ∀ q, q < longN N → leastB N q < 256) : leastL N = some ((List.range (longN N)).map (leastB N)) := by
  unfold leastL
  rw [if_pos]
  rw [List.all_eq_true]
  intro q hq
  simpa using h q (by simpa using hq)
def byL (l : List Nat) : List Value := l.map fun (x : Nat) => Value.int .u8 (x : Int)
theorem byL_len (l : List Nat) : (byL l).length = l.length := by simp [byL]
/-- What Least answers: bytes of its own, or that there are none. -/
def LeastOut (o : Option (List Nat)) (w : World) (e : Ending) (w' : World) : Prop :=
  Below w.heap.size w w' ∧ match o with
  | none => e = .returned (.tuple #[.slice none 0 0, .bool false])
  | some l => ∃ v, e = .returned (.tuple #[v, .bool true]) ∧ w'.ownsRow w.heap.size 5 1 v l.length (byL l)
theorem own_stepF {w w' : World} {B : Nat} {e : TypeId} {k : Nat} {v : Value} {n : Nat} {xs : List Value} (h : w.ownsRow B e k v n xs) (hb : Below w.heap.size w w') : w'.ownsRow B e k v n xs := owns_eq h fun g hg => hb.block g (h.lt g hg).2
def leastTo (N : List Tn) (k : Nat) : List Nat := (List.range k).map (leastB N)
theorem leastTo_len (N : List Tn) (k : Nat) : (leastTo N k).length = k := by simp [leastTo]
theorem leastTo_succ (N : List Tn) (k : Nat) : leastTo N (k + 1) = leastTo N k ++ [leastB N k] := by unfold leastTo; rw [List.range_succ, List.map_append]; rfl
/-! ### Rows of tests -/
def rowT (L : List Ts) : List Value := L.flatMap tsL
theorem rowT_nil : rowT [] = [] := rfl
theorem rowT_append (A B : List Ts) : rowT (A ++ B) = rowT A ++ rowT B := by simp [rowT]
theorem rowT_len (L : List Ts) : (rowT L).length = L.length * 3 := by
  induction L with
  | nil => rfl
  | cons t L ih => unfold rowT at ih ⊢; rw [List.flatMap_cons, List.length_append, ih]; simp [tsL]; omega
theorem rowT_one (L : List Ts) : ∀ u ∈ rowT L, u.oneCell' = true := fun u hu => by
  obtain ⟨t, -, ht⟩ := List.mem_flatMap.1 hu
  simp [tsL] at ht
  rcases ht with rfl | rfl | rfl <;> rfl
theorem rowT_at : ∀ (L : List Ts) (i : Nat) (t : Ts) (q : Nat), L[i]? = some t → q < 3 → (rowT L)[i * 3 + q]? = (tsL t)[q]?
  | [], _, _, _, h, _ => by simp at h
  | u :: L, 0, t, q, h, hq => by
    obtain rfl : u = t := by simpa using h
    unfold rowT
    rw [List.flatMap_cons, List.getElem?_append_left (by simp [tsL]; omega), Nat.zero_mul, Nat.zero_add]
  | u :: L, i + 1, t, q, h, hq => by
    have ih := rowT_at L i t q (by simpa using h) hq
    unfold rowT at ih ⊢
    rw [List.flatMap_cons, List.getElem?_append_right (by simp [tsL]; omega), ← ih]
    congr 1
    simp [tsL]; omega
theorem TsIn.news {w : World} {A : Option Addr} {L : List Ts} (h : TsIn w A L) : ∀ ad, A = some ad → ∀ j u, (rowT L)[j]? = some u → w.cell? (ad.add j) = some u := fun ad e j u hu => by
  have hj : j < L.length * 3 := by
    rw [← rowT_len]
    exact (List.getElem?_eq_some_iff.1 hu).1
  have hl : j / 3 < L.length := by omega
  obtain ⟨b, o, e2, -, c0, c1, c2⟩ := h (j / 3) L[j / 3] (List.getElem?_eq_getElem hl)
  rw [e] at e2
  cases e2
  rw [add_plain]
  have hr := rowT_at L (j / 3) L[j / 3] (j % 3) (List.getElem?_eq_getElem hl) (by omega)
  rw [show j / 3 * 3 + j % 3 = j by omega, hu] at hr
  have h3 : j % 3 = 0 ∨ j % 3 = 1 ∨ j % 3 = 2 := by omega
  rcases h3 with h3 | h3 | h3
  · rw [h3] at hr; rw [show o + j = o + j / 3 * 3 by omega, c0]; exact hr.symm
  · rw [h3] at hr; rw [show o + j = o + j / 3 * 3 + 1 by omega, c1]; exact hr.symm
  · rw [h3] at hr; rw [show o + j = o + j / 3 * 3 + 2 by omega, c2]; exact hr.symm
/-- A row of the call's own, as a slice. -/
theorem own_form {w : World} {B : Nat} {e : TypeId} {v : Value} {k n : Nat} {xs : List Value} (h : w.ownsRow B e k v n xs) :
    ∃ A c, v = .slice A n c ∧ (A = none → n = 0 ∧ c = 0) ∧ ∀ ad, A = some ad → ∃ g, ad = ⟨g, 0, none⟩ ∧ B ≤ g ∧ g < w.heap.size ∧ n ≤ c ∧ c ≤ maxLen := by
  rcases h.2 with ⟨rfl, rfl⟩ | ⟨g, cap, cur, rfl, hb, hg, h1, h2, _⟩
  · exact ⟨none, 0, rfl, fun _ => ⟨rfl, rfl⟩, fun ad e => by cases e⟩
  · exact ⟨some ⟨g, 0, none⟩, cap, rfl, (fun e => by cases e), fun ad e => by cases e; exact ⟨g, rfl, hb, (Array.getElem?_eq_some_iff.1 hg).1, h1, h2⟩⟩
theorem TsIn.of_own {w : World} {B : Nat} {A : Option Addr} {n c : Nat} {L : List Ts} (h : w.ownsRow B 74 3 (.slice A n c) n (rowT L)) (hn : L.length = n) : TsIn w A L := fun i t ht => by
  have hlt : i < L.length := (List.getElem?_eq_some_iff.1 ht).1
  obtain ⟨A', c', e, h0, h1⟩ := own_form h
  cases e
  cases A with
  | none => have := (h0 rfl).1; omega
  | some ad =>
    obtain ⟨g, rfl, -, hg, -⟩ := h1 ad rfl
    have k := fun q hq v (e : (tsL t)[q]? = some v) => h.cells (g := g) rfl (i * 3 + q) v ((rowT_at L i t q ht hq).trans e)
    simp only [add_plain, Nat.zero_add] at k
    refine ⟨g, 0, rfl, hg, ?_, ?_, ?_⟩
    · rw [Nat.zero_add]; exact k 0 (by omega) _ rfl
    · rw [Nat.zero_add]; exact k 1 (by omega) _ rfl
    · rw [Nat.zero_add]; exact k 2 (by omega) _ rfl
theorem PkIn.of_own {w : World} {B : Nat} {A : Option Addr} {n c : Nat} {l : List Nat} (h : w.ownsRow B 5 1 (.slice A n c) n (byL l)) (hn : l.length = n) (h8 : ∀ x ∈ l, x < 256) : PkIn w A l := fun i x hx => by
  have hlt : i < l.length := (List.getElem?_eq_some_iff.1 hx).1
  obtain ⟨A', c', e, h0, h1⟩ := own_form h
  cases e
  cases A with
  | none => have := (h0 rfl).1; omega
  | some ad =>
    obtain ⟨g, rfl, -, hg, -⟩ := h1 ad rfl
    have k := h.cells (g := g) rfl i (.int .u8 (x : Int)) (by unfold byL; rw [List.getElem?_map, hx]; rfl)
    rw [add_plain] at k
    exact ⟨h8 x (List.mem_of_getElem? hx), g, 0, rfl, hg, k⟩
/-- append of a slice that came in, nil or not, onto a row of the call's own. -/
theorem app_optF {P : Program} {w : World} {ops : Array Oper} {rest : List Oper} {o : Oper} {a : Act} {Q : Exit → Act → World → Prop} (hgd : o.guard = none) (s x : Operand) (t : TypeId)
    (ho : o.op = .call { callee := .builtin .append, args := #[s, x], argTypes := #[t, t] })
    (base : Nat) (e : TypeId) (i : TypeInfo) (z : Value) (size bytes : Nat) (ht : P.underlying t = some (.slice e)) (hi : P.info? e = some i) (hz : i.zero = some z)
    (hsize : i.size = size) (hby : i.bytes = bytes) (hzs : z.cells.size = size) (hsz : 0 < size)
    (v : Value) (n : Nat) (xs : List Value) (hs : a.eval s = v) (hown : w.ownsRow base e size v n xs)
    (A : Option Addr) (m c : Nat) (news : List Value) (hx : a.eval x = .slice A m c) (hA : A = none → m = 0 ∧ c = 0) (hl : news.length = m * size) (hnews : ∀ ad, A = some ad → ∀ j u, news[j]? = some u → w.cell? (ad.add j) = some u) (h1 : ∀ u ∈ news, u.oneCell' = true)
    (h63 : n + m ≤ maxLen) (hbytes : (n + m) * bytes ≤ 140737488355328) (hbase : base ≤ w.heap.size)
    (h : ∀ v' w', w'.ownsRow base e size v' (n + m) (xs ++ news) → w.grownBy w' v.ownBlock → wpList P ops Q rest (a.put o.dst v') w') : wpList P ops Q (o :: rest) a w := by
  cases A with
  | none =>
    obtain ⟨rfl, rfl⟩ := hA rfl
    have hn : news = [] := List.eq_nil_of_length_eq_zero (by simpa using hl)
    subst hn
    exact wpList_append_own_none hgd s x t ho base e i size ht hi v n xs hs hown hx (h v w (by simpa using hown) (World.grownBy.refl w _))
  | some ad =>
    exact wpList_append_own _ hgd s x t ho base e i z size bytes ht hi hz hsize hby hzs hsz v n xs hs hown ad m c news hx hl (hnews ad rfl) h1 h63 hbytes hbase fun v' w' h2 h3 _ => h v' w' h2 h3
/-- What comes in: a slice of tests, nil or not. -/
structure FlIn (w : World) (A : Option Addr) (n c : Nat) (L : List Ts) : Prop where
  len : L.length = n
  nil : A = none → n = 0 ∧ c = 0
  ts : TsIn w A L
theorem FlIn.below {w w' : World} {A : Option Addr} {n c : Nat} {L : List Ts} (h : FlIn w A n c L) (hb : Below w.heap.size w w') : FlIn w' A n c L := ⟨h.len, h.nil, h.ts.below hb⟩
/-- Tests of the call's own that it answers. -/
def TsOut (L : List Ts) (w : World) (e : Ending) (w' : World) : Prop := ∃ v, e = .returned v ∧ w'.ownsRow w.heap.size 74 3 v L.length (rowT L) ∧ Below w.heap.size w w'
end Go.Proofs.Ytakpankipagndaa
