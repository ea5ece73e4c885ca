/- Copy. -/
import Derived.Test.YtakpankipagndaaPoY1
namespace Go.Proofs.Ytakpankipagndaa
open Go.RowKit (wrap64)
open Go.RowKit
open Go.Maps (Keyed)
attribute [local go_sem] Oper.semAt_some

theorem copy_none12 {w : World} {v : Value} (h : NoPo w v) : Calls Try.prog 25 #[v] w fun e w' => e = .returned (.pointer none) ∧ w = w' := by
  go_enter Try.func25, Try.ntmps25
  go_wp2_with (go_at_call 45; refine (there_no12 h).mono ?_; rintro e w' ⟨rfl, rfl⟩)
  go_ret
  exact ⟨rfl, rfl⟩
/-- Amid Copy: what has been copied. -/
structure CpAt (B : Nat) (W : World) (R : Nat → Prop) (b' n' : Nat) (left : Lit → Bool) (s : Ps) (C' : Int → Int → Nat) (D' : DataW Unit) : Prop where
  own : W.ownsMap Try.prog 95 ptE b' n' D'
  has : ∀ a n, wf12 a → wf12 n → Maps.has D' (keyP a n) = ((s.c a n).isSome && !left (keyP a n))
  at_ : ∀ a n, wf12 a → wf12 n → D'.atKey (keyP a n) .nil = ptD (if left (keyP a n) = true then none else (s.c a n).map fun _ => C' a n)
  cl : ∀ a n X, s.c a n = some X → left (keyP a n) = false → ClIs W R (C' a n) X ∧ B ≤ C' a n ∧ C' a n < W.heap.size
  ne : ∀ a n a' n' X X', s.c a n = some X → s.c a' n' = some X' → left (keyP a n) = false → left (keyP a' n') = false → C' a n = C' a' n' → a = a' ∧ n = n'
theorem CpAt.keep {B : Nat} {W W' : World} {R : Nat → Prop} {b' n' : Nat} {left : Lit → Bool} {s : Ps} {C' : Int → Int → Nat} {D' : DataW Unit} (h : CpAt B W R b' n' left s C' D') (hs : W.heap.size ≤ W'.heap.size) (hb : W'.heap[b']? = W.heap[b']?) (he : ∀ k, R k → W'.heap[k]? = W.heap[k]?) (hc : ∀ (k : Nat) (cs : Array Value), W.heap[k]? = some (Obj.cells cs 110 (0, 0)) → W'.heap[k]? = W.heap[k]?) : CpAt B W' R b' n' left s C' D' := by
  refine ⟨ownsMap_eq12 h.own hb, h.has, h.at_, fun a n X hX hl => ?_, h.ne⟩
  obtain ⟨⟨FA, FC, V, h1⟩, h2, h3⟩ := h.cl a n X hX hl
  exact ⟨⟨FA, FC, V, h1.keep hs he (hc _ _ h1.cb) (fun _ hk => hk)⟩, h2, Nat.lt_of_lt_of_le h3 hs⟩
theorem CpAt.below {B : Nat} {W W' : World} {R : Nat → Prop} {b' n' : Nat} {left : Lit → Bool} {s : Ps} {C' : Int → Int → Nat} {D' : DataW Unit} (h : CpAt B W R b' n' left s C' D') (hb : Below W.heap.size W W') (hR : ∀ k, R k → k < W.heap.size) : CpAt B W' R b' n' left s C' D' :=
  h.keep hb.size (hb.block _ h.own.lt) (fun k hk => hb.block k (hR k hk)) (fun k cs e => hb.block k (Array.getElem?_eq_some_iff.1 e).1)
theorem iter_at {W : World} {b r n : Nat} {D : DataW Unit} {left : Lit → Bool} {cnt : Nat} (h : W.ranges Try.prog 95 ptE b r n D left cnt) : ∃ m y z u, W.heap[r]? = some (.mapIter m y z u) := by
  obtain ⟨es, clock, since, seen, c0, hb, F, hs, hD, hr, rest⟩ := h
  exact ⟨_, _, _, _, hr⟩
theorem CpAt.iter {B : Nat} {W W' : World} {R : Nat → Prop} {b' n' r : Nat} {left : Lit → Bool} {s : Ps} {C' : Int → Int → Nat} {D' : DataW Unit} (h : CpAt B W R b' n' left s C' D') (hg : W.grownBy W' (some r)) (hr : ∃ m y z u, W.heap[r]? = some (.mapIter m y z u)) (hR : ∀ k, R k → k < W.heap.size ∧ k ≠ r) : CpAt B W' R b' n' left s C' D' := by
  obtain ⟨m, y, z, u, hr⟩ := hr
  refine h.keep hg.size (hg.block _ h.own.lt (fun e => ?_)) (fun k hk => hg.block k (hR k hk).1 (fun e => (hR k hk).2 (Option.some.inj e))) (fun k cs e => hg.block k (Array.getElem?_eq_some_iff.1 e).1 (fun e' => ?_))
  · obtain ⟨es, clock, hm, -⟩ := h.own
    rw [Option.some.inj e, hr] at hm
    cases hm
  · rw [Option.some.inj e', hr] at e
    cases e
/-- One more is copied. -/
theorem CpAt.more {B : Nat} {W W' : World} {R : Nat → Prop} {b' n' : Nat} {left : Lit → Bool} {s : Ps} {C' : Int → Int → Nat} {D' : DataW Unit} (h : CpAt B W R b' n' left s C' D') {a n : Int} {X : Cl} (hX : s.c a n = some X) (ha : wf12 a) (hn : wf12 n) (hdom : ∀ a n X, s.c a n = some X → wf12 a ∧ wf12 n) {g : Nat} (hg : g = W.heap.size) (hB : B ≤ W.heap.size) {FA : Option Addr} {FC : Nat} {V : Nat → Value} (hcl : ClAt W' R g X FA FC V)
    (hm : W'.ownsMap Try.prog 95 ptE b' (n' + 1) (D'.put (keyP a n) (ptD (some g)))) (hs : W.heap.size + 1 ≤ W'.heap.size) (blk : ∀ k, k < W.heap.size → k ≠ b' → W'.heap[k]? = W.heap[k]?) (hR : ∀ k, R k → k < W.heap.size ∧ k ≠ b') :
    CpAt B W' R b' (n' + 1) (fun z => left z && !z.sameKey (keyP a n)) s (fun x y => if x = a ∧ y = n then g else C' x y) (D'.put (keyP a n) (ptD (some g))) := by
  have isM := h.own.tidy Try.kSpot
  have klit := key_lit12 a n ha hn
  have hkey : ∀ b m, wf12 b → wf12 m → ¬ (b = a ∧ m = n) → keyP b m ≠ keyP a n := fun b m hb hm' hne e => hne (key_inj12 hb ha hm' hn e)
  have hleft : ∀ x y, wf12 x → wf12 y → (left (keyP x y) && !(keyP x y).sameKey (keyP a n)) = (left (keyP x y) && !decide (x = a ∧ y = n)) := fun x y hx hy => by rw [same_keyP ha hn hx hy]
  refine ⟨hm, fun x y hx hy => ?_, fun x y hx hy => ?_, fun x y Y hY hl => ?_, fun x y x' y' Y Y' hY hY' hl hl' => ?_⟩
  · rw [hleft x y hx hy]
    by_cases e : x = a ∧ y = n
    · rw [e.1, e.2, Maps.has_put_same isM.isMap klit, hX]; simp
    · rw [Maps.has_put_other (hkey x y hx hy e), h.has x y hx hy, decide_eq_false e]; simp
  · (try dsimp only)
    rw [hleft x y hx hy]
    by_cases e : x = a ∧ y = n
    · rw [if_pos e, e.1, e.2, Maps.atKey_put_same isM.isMap klit, hX]; simp
    · rw [if_neg e, Maps.atKey_put_other (hkey x y hx hy e), h.at_ x y hx hy, decide_eq_false e]; simp
  · (try dsimp only)
    obtain ⟨hx, hy⟩ := hdom x y Y hY
    rw [hleft x y hx hy] at hl
    by_cases e : x = a ∧ y = n
    · rw [if_pos e]
      rw [e.1, e.2, hX] at hY
      cases hY
      exact ⟨⟨FA, FC, V, hcl⟩, by omega, by omega⟩
    · rw [if_neg e]
      rw [decide_eq_false e] at hl
      obtain ⟨⟨FA', FC', V', h1⟩, h2, h3⟩ := h.cl x y Y hY (by simpa using hl)
      have hne : C' x y ≠ b' := fun e' => by
        obtain ⟨es, clock, hm, -⟩ := h.own
        have := h1.cb
        rw [e', hm] at this
        cases this
      exact ⟨⟨FA', FC', V', h1.keep (by omega) (fun k hk => blk k (hR k hk).1 (hR k hk).2) (blk _ h3 hne) (fun _ hk => hk)⟩, h2, by omega⟩
  · (try dsimp only)
    obtain ⟨hx, hy⟩ := hdom x y Y hY
    obtain ⟨hx', hy'⟩ := hdom x' y' Y' hY'
    rw [hleft x y hx hy] at hl
    rw [hleft x' y' hx' hy'] at hl'
    by_cases e : x = a ∧ y = n <;> by_cases e' : x' = a ∧ y' = n
    · intro _; exact ⟨e.1.trans e'.1.symm, e.2.trans e'.2.symm⟩
    · rw [if_pos e, if_neg e']
      rw [decide_eq_false e'] at hl'
      intro eq; have := (h.cl x' y' Y' hY' (by simpa using hl')).2.2; omega
    · rw [if_neg e, if_pos e']
      rw [decide_eq_false e] at hl
      intro eq; have := (h.cl x y Y hY (by simpa using hl)).2.2; omega
    · rw [if_neg e, if_neg e']
      rw [decide_eq_false e] at hl
      rw [decide_eq_false e'] at hl'
      exact h.ne x y x' y' Y Y' hY hY' (by simpa using hl) (by simpa using hl')
/-- Ports that are a copy. -/
def CopyOut12 (w : World) (R : Nat → Prop) (s : Ps) (e : Ending) (w' : World) : Prop := ∃ p' O' R' L', e = .returned (.pointer (some ⟨p', 0, none⟩)) ∧ PoAt w' O' R' p' L' s ∧ (∀ k, O' k → w.heap.size ≤ k) ∧ (∀ k, R' k → R k ∨ w.heap.size ≤ k) ∧ Below w.heap.size w w'
theorem copy_done {w W : World} {O R : Nat → Prop} {p : Nat} {L : Lay12} {s : Ps} (h : PoAt w O R p L s) {g cc b' q' n' : Nat} {left : Lit → Bool} (hl : ∀ kl, left kl = false) {C' : Int → Int → Nat} {D' : DataW Unit} {B : Nat} (hB : w.heap.size ≤ B) (hc : CpAt B W R b' n' left s C' D') (hn : n' ≤ s.m) (hbw : Below w.heap.size w W) (hq : W.heap[q']? = some (.cells #[.slice (some ⟨g, 0, none⟩) s.q.length cc, .map (some b')] 68 (0, 0))) (hqs : w.heap.size ≤ q') (hb' : w.heap.size ≤ b') (hgs : w.heap.size ≤ g) (hg : g < W.heap.size) (hgB : g < B) (hgq : g ≠ q') (hgb : g ≠ b') (hcs : ∀ (i x : Nat), s.q[i]? = some x → W.cell? ⟨g, i, none⟩ = some (.int .i64 (x : Int))) :
    CopyOut12 w R s (.returned (.pointer (some ⟨q', 0, none⟩))) W := by
  have hql := (Array.getElem?_eq_some_iff.1 hq).1
  obtain ⟨es, clock, hm, -⟩ := hc.own
  refine ⟨q', fun k => k = q' ∨ k = b' ∨ ∃ a n X, s.c a n = some X ∧ k = C' a n, fun k => R k ∨ k = g, ⟨g, cc, b', C'⟩, rfl, ⟨h.ok, hq, hcs, ⟨D', ?_, fun a n ha hn => ?_, fun a n ha hn => ?_⟩, fun a n X hX => ?_, fun a n a' n' X X' hX hX' => hc.ne a n a' n' X X' hX hX' (hl _) (hl _), .inl rfl, .inr (.inl rfl), fun a n X hX => .inr (.inr ⟨a, n, X, hX, rfl⟩), .inr rfl, fun k hk => ?_, fun k hk => ?_, fun k hk hk' => ?_⟩, fun k hk => ?_, fun k hk => ?_, hbw⟩
  · exact hc.own.mono hn
  · rw [hc.has a n ha hn, hl]; simp
  · rw [hc.at_ a n ha hn, hl]; simp
  · obtain ⟨⟨FA, FC, V, h1⟩, -⟩ := hc.cl a n X hX (hl _)
    exact ⟨FA, FC, V, ⟨h1.cb, h1.fl, h1.fr.mono (fun _ hk => .inl hk), h1.rg.keep (Nat.le_refl _) (fun _ _ => rfl) (fun _ hk => .inl hk)⟩⟩
  · rcases hk with rfl | rfl | ⟨a, n, X, hX, rfl⟩
    · exact hql
    · exact (Array.getElem?_eq_some_iff.1 hm).1
    · exact (hc.cl a n X hX (hl _)).2.2
  · rcases hk with hk | rfl
    · exact Nat.lt_of_lt_of_le (h.lr k hk) hbw.size
    · exact hg
  · rcases hk with hk | rfl
    · have := h.lr k hk
      rcases hk' with rfl | rfl | ⟨a, n, X, hX, rfl⟩
      · omega
      · omega
      · have := (hc.cl a n X hX (hl _)).2.1; omega
    · rcases hk' with e | e | ⟨a, n, X, hX, e⟩
      · exact hgq e
      · exact hgb e
      · have := (hc.cl a n X hX (hl _)).2.1; omega
  · rcases hk with rfl | rfl | ⟨a, n, X, hX, rfl⟩
    · exact hqs
    · exact hb'
    · exact Nat.le_trans hB (hc.cl a n X hX (hl _)).2.1
  · rcases hk with hk | rfl
    · exact .inl hk
    · exact .inr hgs
end Go.Proofs.Ytakpankipagndaa
