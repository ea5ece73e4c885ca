/- Packets and bools that came in; the order of what comes and is taken. -/
import Derived.Test.YtakpankipagndaaPoV
namespace Go.Proofs.Ytakpankipagndaa
open Go.ChangeShapes Go.WideShapes Go.ChangeAt Go.RowKit

theorem Try.cBool12 : Try.prog.cellsOf 4 = 1 := by kernel_rfl
/-- A packet among others. -/
structure Pk12 where
  A : Option Addr
  c : Nat
  P : List Nat
def PksIn (W : World) (A : Option Addr) (Ps : List Pk12) : Prop := ∀ (i : Nat) (x : Pk12), Ps[i]? = some x → (PkF W x.A x.P.length x.c x.P ∧ (x.P.length : Int) ≤ 9223372036854775807) ∧ ∃ b o, A = some ⟨b, o, none⟩ ∧ b < W.heap.size ∧ W.cell? ⟨b, o + i, none⟩ = some (.slice x.A x.P.length x.c)
theorem PksIn.below {W W' : World} {A : Option Addr} {Ps : List Pk12} (h : PksIn W A Ps) (hb : Below W.heap.size W W') : PksIn W' A Ps := fun i x hx => by
  obtain ⟨⟨h1, h2⟩, b, o, e, l, c⟩ := h i x hx
  exact ⟨⟨h1.below hb, h2⟩, b, o, e, Nat.lt_of_lt_of_le l hb.size, (hb.cell (p := ⟨b, _, none⟩) l).trans c⟩
def BoolsIn (W : World) (A : Option Addr) (n : Nat) (f : Nat → Bool) : Prop := ∀ i, i < n → ∃ b o, A = some ⟨b, o, none⟩ ∧ b < W.heap.size ∧ W.cell? ⟨b, o + i, none⟩ = some (.bool (f i))
theorem BoolsIn.below {W W' : World} {A : Option Addr} {n : Nat} {f : Nat → Bool} (h : BoolsIn W A n f) (hb : Below W.heap.size W W') : BoolsIn W' A n f := fun i hi => by
  obtain ⟨b, o, e, l, c⟩ := h i hi
  exact ⟨b, o, e, Nat.lt_of_lt_of_le l hb.size, (hb.cell (p := ⟨b, _, none⟩) l).trans c⟩
section
variable {H : Type} {enc : TypeId × Value → H} {W : World} {base : Nat} {sp : Nat → Bool} {held : Bool}
set_option maxRecDepth 100000 in
theorem open_packets12 {r : Reach} {b0 : Nat} {v : Value} {dd : DataW H} {p : List MemPlace} (hv : Value.okWide Try.prog W r b0 42 v) (h : DataW.Trod enc Try.prog W base sp held 42 v dd p) :
    ∃ (A : Option Addr) (m d : Nat) (Ps : List Pk12), v = .slice A m d ∧ PksIn W A Ps ∧ Ps.length = m ∧ (m : Int) ≤ 9223372036854775807 := by
  obtain ⟨A, n, c, rfl⟩ := okWide_slice Try.underlying42 hv
  obtain ⟨fuel, hf⟩ := h
  rcases Go.Deep.open_slice1 Try.underlying42 Try.cBs12 hf with ⟨hcs, -⟩ | ⟨ad, len', cap', mm, nn, V, D, Pl, hcs, -, hl, hmx, hmm, -, hcell⟩
  · simp [Value.cells] at hcs
    obtain ⟨rfl, rfl, rfl⟩ := hcs
    exact ⟨none, 0, 0, [], rfl, fun i x hx => by simp at hx, rfl, by simp⟩
  · simp [Value.cells] at hcs
    obtain ⟨rfl, rfl, rfl⟩ := hcs
    have hle : n ≤ mm := by rw [hmm]; split <;> omega
    have one : ∀ i, ∃ x : Pk12, i < n → (PkF W x.A x.P.length x.c x.P ∧ (x.P.length : Int) ≤ 9223372036854775807) ∧ W.cell? (ad.add i) = some (.slice x.A x.P.length x.c) := fun i => by
      by_cases hi : i < n
      · obtain ⟨h1, h2⟩ := hcell i (by omega)
        obtain ⟨A', c', P, e, hok, hn⟩ := open_packetL12 h2
        simp only [List.cons.injEq, and_true] at e
        exact ⟨⟨A', c', P⟩, fun _ => ⟨⟨hok, hn⟩, by rw [h1, e]⟩⟩
      · exact ⟨⟨none, 0, []⟩, fun h => absurd h hi⟩
    obtain ⟨R, hR⟩ := Classical.axiomOfChoice one
    refine ⟨some ad, n, c, (List.range n).map R, rfl, fun i x hx => ?_, by simp, by unfold maxLen at hmx; omega⟩
    have hi : i < n := by
      have := (List.getElem?_eq_some_iff.1 hx).1
      simpa using this
    rw [List.getElem?_map, List.getElem?_range hi] at hx
    obtain rfl : R i = x := by simpa using hx
    obtain ⟨hok, hc⟩ := hR i hi
    have hs : ∃ b o, ad = ⟨b, o, none⟩ := by
      have h00 := (hR 0 (by omega)).2
      rw [Addr.add, if_pos rfl] at h00
      exact spot_none12 h00
    obtain ⟨b, o, rfl⟩ := hs
    rw [add_plain] at hc
    exact ⟨hok, b, o, rfl, World.block_lt_of_cell? W _ hc, hc⟩
set_option maxRecDepth 100000 in
theorem open_bools12 {r : Reach} {b0 : Nat} {v : Value} {dd : DataW H} {p : List MemPlace} (hv : Value.okWide Try.prog W r b0 43 v) (h : DataW.Trod enc Try.prog W base sp held 43 v dd p) :
    ∃ (A : Option Addr) (m d : Nat) (f : Nat → Bool), v = .slice A m d ∧ BoolsIn W A m f ∧ (m : Int) ≤ 9223372036854775807 := by
  obtain ⟨A, n, c, rfl⟩ := okWide_slice Try.underlying43 hv
  obtain ⟨fuel, hf⟩ := h
  rcases Go.Deep.open_slice1 Try.underlying43 Try.cBool12 hf with ⟨hcs, -⟩ | ⟨ad, len', cap', mm, nn, V, D, Pl, hcs, -, hl, hmx, hmm, -, hcell⟩
  · simp [Value.cells] at hcs
    obtain ⟨rfl, rfl, rfl⟩ := hcs
    exact ⟨none, 0, 0, fun _ => false, rfl, fun i hi => by omega, by simp⟩
  · simp [Value.cells] at hcs
    obtain ⟨rfl, rfl, rfl⟩ := hcs
    have hle : n ≤ mm := by rw [hmm]; split <;> omega
    have one : ∀ i, ∃ x : Bool, i < n → W.cell? (ad.add i) = some (.bool x) := fun i => by
      by_cases hi : i < n
      · obtain ⟨h1, h2⟩ := hcell i (by omega)
        obtain ⟨x, e, -⟩ := DataW.trod_bool Try.underlying4 h2
        simp only [List.cons.injEq, and_true] at e
        exact ⟨x, fun _ => by rw [h1, e]⟩
      · exact ⟨false, fun h => absurd h hi⟩
    obtain ⟨f, hR⟩ := Classical.axiomOfChoice one
    refine ⟨some ad, n, c, f, rfl, fun i hi => ?_, by unfold maxLen at hmx; omega⟩
    have hc := hR i hi
    have hs : ∃ b o, ad = ⟨b, o, none⟩ := by
      have h00 := hR 0 (by omega)
      rw [Addr.add, if_pos rfl] at h00
      exact spot_none12 h00
    obtain ⟨b, o, rfl⟩ := hs
    rw [add_plain] at hc
    exact ⟨b, o, rfl, World.block_lt_of_cell? W _ hc, hc⟩
end

/-! ### One port alone -/
structure OrdS (s : Ps) (rg : List (List Nat)) : Prop where
  ok : PsOk s
  q : s.q = [1]
  c : ∃ X, s.c 0 0 = some X ∧ X.rg = rg
theorem OrdS.open0 {s : Ps} {rg : List (List Nat)} (h : OrdS s rg) : s.openN 0 = [0] := by
  obtain ⟨X, hX, -⟩ := h.c
  have hq : s.quota 0 = 1 := by
    unfold Ps.quota Ps.acc Ps.qt
    rw [h.q]
    rfl
  unfold Ps.openN Ps.opens
  rw [hq]
  show List.filter _ [0] = _
  rw [List.filter_cons_of_pos (by show (s.c 0 0).isSome = true; rw [hX]; rfl)]
  rfl
theorem OrdS.openx {s : Ps} {rg : List (List Nat)} (h : OrdS s rg) {x : Nat} (hx : x ≠ 0) : s.openN (x : Int) = [] := by
  have hq : s.quota (x : Int) = 0 := by
    have : s.acc (x : Int) = false := by
      unfold Ps.acc
      rw [h.q]
      simp
      omega
    unfold Ps.quota
    rw [this]
    rfl
  unfold Ps.openN Ps.opens
  rw [hq]
  rfl
theorem OrdS.upd {s : Ps} {rg rg' : List (List Nat)} (h : OrdS s rg) {X' : Cl} (hx : ClOk X') (hr : X'.rg = rg') : OrdS (s.upd 0 0 X') rg' := by
  obtain ⟨X, hX, -⟩ := h.c
  exact ⟨Ps.upd_ok h.ok hX hx, h.q, X', Ps.upd_same _ _ _ _, hr⟩
/-- Where a packet came, where there is one port. -/
theorem OrdS.come {s : Ps} {rg : List (List Nat)} (h : OrdS s rg) (P : List Nat) :
    ((comeR s P).2.2 = [] ∧ OrdS (comeR s P).2.1 rg) ∨ ((comeR s P).1 = 0 ∧ (comeR s P).2.2 = [(0, true)] ∧ OrdS (comeR s P).2.1 rg) ∨ ((comeR s P).1 = 0 ∧ (comeR s P).2.2 = [(0, false)] ∧ OrdS (comeR s P).2.1 (rg ++ [P])) := by
  unfold comeR
  by_cases hl : 64 < P.length
  · rw [if_pos hl]
    exact .inl ⟨rfl, h⟩
  · rw [if_neg hl]
    unfold Ps.comeV
    cases hh : homeN P with
    | none => exact .inl ⟨rfl, h⟩
    | some x =>
      dsimp only
      by_cases hx : x = 0
      · subst hx
        have e : s.openN ((0 : Nat) : Int) = [0] := h.open0
        rw [e]
        obtain ⟨X, hX, hr⟩ := h.c
        have hok := h.ok.cl 0 0 X hX
        have hc1 : s.comeL ((0 : Nat) : Int) P [0] = s.come1 0 P 0 := by
          simp [Ps.comeL]
        rw [hc1]
        have hc2 : s.come1 0 P 0 = if matchL X.fl P then (s.upd 0 0 (X.come P), [(0, decide (X.rg.length = 8))]) else (s, []) := by
          unfold Ps.come1
          have : s.c 0 ((0 : Nat) : Int) = some X := hX
          rw [this]
          rfl
        rw [hc2]
        by_cases hm : matchL X.fl P = true
        · rw [if_pos hm]
          have hco := Cl.come_ok hok (P := P) (by omega)
          by_cases h8 : X.rg.length = 8
          · right; left
            refine ⟨rfl, by rw [decide_eq_true h8], h.upd hco ?_⟩
            unfold Cl.come
            rw [if_pos h8]
            exact hr
          · right; right
            refine ⟨rfl, by rw [decide_eq_false h8], h.upd hco ?_⟩
            unfold Cl.come
            rw [if_neg h8, ← hr]
        · rw [if_neg hm]
          exact .inl ⟨rfl, h⟩
      · rw [h.openx hx]
        exact .inl ⟨rfl, h⟩
theorem OrdS.take {s : Ps} {rg : List (List Nat)} (h : OrdS s rg) : (rg = [] ∧ (takeR s 0 0).1 = 6 ∧ (takeR s 0 0).2.1 = [] ∧ OrdS (takeR s 0 0).2.2 []) ∨ ∃ P l, rg = P :: l ∧ (takeR s 0 0).1 = 0 ∧ (takeR s 0 0).2.1 = P ∧ OrdS (takeR s 0 0).2.2 l := by
  obtain ⟨X, hX, hr⟩ := h.c
  have hf : s.first 0 0 = rg.head? := by unfold Ps.first; rw [hX, ← hr]
  unfold takeR
  rw [hf]
  cases rg with
  | nil => exact .inl ⟨rfl, by unfold Ps.whyF; rw [hX]; rfl, rfl, h⟩
  | cons P l =>
    refine .inr ⟨P, l, rfl, rfl, rfl, ?_⟩
    show OrdS (s.took 0 0) l
    unfold Ps.took
    rw [hX]
    exact h.upd (Cl.drop_ok (h.ok.cl 0 0 X hX)) (by unfold Cl.drop; rw [hr]; rfl)
theorem OrdS.len {s : Ps} {rg : List (List Nat)} (h : OrdS s rg) : s.len 0 0 = rg.length ∧ rg.length ≤ 8 := by
  obtain ⟨X, hX, hr⟩ := h.c
  unfold Ps.len
  rw [hX, ← hr]
  exact ⟨rfl, (h.ok.cl 0 0 X hX).rl⟩
end Go.Proofs.Ytakpankipagndaa
