/- What an account's calls answer and leave, whatever is asked: one side. -/
import Derived.Test.YtgpdkfmneoggkaaExO
namespace Go.Proofs.Ytgpdkfmneoggkaa
open Go.RowKit
attribute [local go_sem] Oper.semAt_some

open Classical in
noncomputable def takeV (p : Pt) (n : Int) : Int × Int × Pt := if n < 1 then (0, 2, p) else match p.room n.toNat with
  | some f => ((f : Int), 0, p.turn f n.toNat)
  | none => (0, 5, p)
open Classical in
noncomputable def giveV (p : Pt) (f n : Int) : Int × Pt := if n < 1 ∨ f < 0 then (2, p) else if p.full f.toNat n.toNat then (0, p.turn f.toNat n.toNat) else (6, p)
def writeV (p : Pt) (k : Dk) (i : Int) (c : Sec) : Int × Dk := if p.has i = false then (6, k) else if c.length ≠ 128 then (2, k) else (0, k.push ((p.fi + i.toNat : Nat) : Int) c)
theorem takeV_same (p : Pt) (n : Int) : (takeV p n).2.2.fi = p.fi ∧ (takeV p n).2.2.ct = p.ct := by
  unfold takeV
  split
  · exact ⟨rfl, rfl⟩
  · split
    · exact ⟨(Pt.turn_ct _ _ _).2, (Pt.turn_ct _ _ _).1⟩
    · exact ⟨rfl, rfl⟩
theorem giveV_same (p : Pt) (f n : Int) : (giveV p f n).2.fi = p.fi ∧ (giveV p f n).2.ct = p.ct := by
  unfold giveV
  split
  · exact ⟨rfl, rfl⟩
  · split
    · exact ⟨(Pt.turn_ct _ _ _).2, (Pt.turn_ct _ _ _).1⟩
    · exact ⟨rfl, rfl⟩
/-- A call is answered, and leaves extents and disk. -/
def SideOut (w : World) (O : Nat → Prop) (x d : Nat) (v : Value) (s' : Xt) (k' : Dk) (e : Ending) (w' : World) : Prop :=
  e = .returned v ∧ ∃ O' L', ExDk w' O' x d L' s' k' ∧ (∀ b, O' b → O b ∨ w.heap.size ≤ b) ∧ TurnO (fun b => O b ∨ b = x) w w'
theorem TurnO.wide {O O' : Nat → Prop} {w w' : World} (h : TurnO O w w') (ho : ∀ b, O b → O' b) : TurnO O' w w' := ⟨h.os, h.tape, h.output, h.size, fun k hk hn => h.block k hk (fun hh => hn (ho k hh))⟩
def inI10 (x : Int) : Prop := (-9223372036854775808 : Int) ≤ x ∧ x ≤ 9223372036854775807
/-- Bytes in memory. -/
def ByteIn10 (w : World) (A : Option Addr) (l : List Int) : Prop := ∀ j v, l[j]? = some v → ∃ b o, A = some ⟨b, o, none⟩ ∧ w.cell? ⟨b, o + j, none⟩ = some (.int .u8 v)
theorem ByteIn10.below {w w' : World} {A : Option Addr} {l : List Int} (h : ByteIn10 w A l) (hb : Below w.heap.size w w') : ByteIn10 w' A l := fun k x hx => by
  obtain ⟨b, o, e, h1⟩ := h k x hx
  exact ⟨b, o, e, hb.cell (World.block_lt_of_cell? w _ h1) |>.trans h1⟩
section
variable {w : World} {O : Nat → Prop} {x d : Nat} {L : Lay9} {s : Xt} {k : Dk}
theorem SideOut.stay {v : Value} (h : ExDk w O x d L s k) : SideOut w O x d v s k (.returned v) w := ⟨rfl, O, L, h, fun _ hb => .inl hb, TurnO.refl _ _⟩
theorem SideOut.turned {v : Value} {s' : Xt} {w' : World} (h : ExDk w O x d L s k) (hE : ExIs w' x d s') (hT : TurnO (· = x) w w') (hf : ∀ a, (s'.pt a).fi = (s.pt a).fi ∧ (s'.pt a).ct = (s.pt a).ct) : SideOut w O x d v s' k (.returned v) w' :=
  ⟨rfl, O, L, ⟨hE, h.dk.other hT (fun b hb e => h.ox (e ▸ hb)), h.ox, fun a => by rw [(hf a).1, (hf a).2]; exact h.fit a⟩, fun _ hb => .inl hb, hT.wide (fun b hb => .inr hb)⟩
theorem set_same_ct (s : Xt) (a : Nat) (p : Pt) (h : p.fi = (s.pt a).fi ∧ p.ct = (s.pt a).ct) (b : Nat) : ((s.set a p).pt b).fi = (s.pt b).fi ∧ ((s.set a p).pt b).ct = (s.pt b).ct := by
  by_cases e : b = a
  · subst e; rw [Xt.set_same]; exact h
  · rw [Xt.set_other _ _ _ e]; exact ⟨rfl, rfl⟩
theorem side_take (h : ExDk w O x d L s k) (a : Nat) (ha : a < s.n) (n : Int) (hn : inI10 n) :
    Calls Try.prog 17 #[.pointer (some ⟨x, 0, none⟩), .int .i64 (a : Int), .int .i64 n] w (SideOut w O x d (.tuple #[.int .i64 (takeV (s.pt a) n).1, .int .i64 (takeV (s.pt a) n).2.1]) (s.set a (takeV (s.pt a) n).2.2) k) := by
  by_cases h1 : n < 1
  · have e : takeV (s.pt a) n = (0, 2, s.pt a) := by unfold takeV; rw [if_pos h1]
    rw [e]
    dsimp only
    rw [Xt.set_self]
    refine (xtake_few h.ex a ha n h1).mono fun e w' hh => ?_
    obtain ⟨rfl, rfl⟩ := hh
    exact SideOut.stay h
  · obtain ⟨m, rfl⟩ : ∃ m : Nat, n = m := ⟨n.toNat, by omega⟩
    have hsm := set_same_ct s a _ (takeV_same (s.pt a) (m : Int))
    have e : takeV (s.pt a) (m : Int) = (match (s.pt a).room m with | some f => ((f : Int), 0, (s.pt a).turn f m) | none => (0, 5, s.pt a)) := by
      unfold takeV; rw [if_neg h1, Int.toNat_natCast]
    rw [e] at hsm ⊢
    refine (xtake_yes h.ex a ha m (by omega) (by have := hn.2; omega)).mono fun e w' hh => ?_
    unfold TakeOut at hh
    cases hr : (s.pt a).room m with
    | some f =>
      rw [hr] at hh hsm
      obtain ⟨rfl, hE, hT⟩ := hh
      exact SideOut.turned h hE hT hsm
    | none =>
      rw [hr] at hh
      obtain ⟨rfl, rfl⟩ := hh
      dsimp only
      rw [Xt.set_self]
      exact SideOut.stay h
theorem side_give (h : ExDk w O x d L s k) (a : Nat) (ha : a < s.n) (f n : Int) (hf : inI10 f) (hn : inI10 n) :
    Calls Try.prog 23 #[.pointer (some ⟨x, 0, none⟩), .int .i64 (a : Int), .int .i64 f, .int .i64 n] w (SideOut w O x d (.int .i64 (giveV (s.pt a) f n).1) (s.set a (giveV (s.pt a) f n).2) k) := by
  by_cases h1 : n < 1 ∨ f < 0
  · have e : giveV (s.pt a) f n = (2, s.pt a) := by unfold giveV; rw [if_pos h1]
    rw [e]
    dsimp only
    rw [Xt.set_self]
    refine (xgive_bad h.ex a ha f n h1).mono fun e w' hh => ?_
    obtain ⟨rfl, rfl⟩ := hh
    exact SideOut.stay h
  · obtain ⟨m, rfl⟩ : ∃ m : Nat, n = m := ⟨n.toNat, by omega⟩
    obtain ⟨g, rfl⟩ : ∃ g : Nat, f = g := ⟨f.toNat, by omega⟩
    have hsm := set_same_ct s a _ (giveV_same (s.pt a) (g : Int) (m : Int))
    refine (xgive_yes h.ex a ha g m (by omega) (by have := hn.2; omega)).mono fun e w' hh => ?_
    rcases hh with ⟨hr, rfl, hE, hT⟩ | ⟨hr, rfl, rfl⟩
    · have e : giveV (s.pt a) (g : Int) (m : Int) = (0, (s.pt a).turn g m) := by unfold giveV; rw [if_neg h1, Int.toNat_natCast, Int.toNat_natCast, if_pos hr]
      rw [e] at hsm ⊢
      exact SideOut.turned h hE hT hsm
    · have e : giveV (s.pt a) (g : Int) (m : Int) = (6, s.pt a) := by unfold giveV; rw [if_neg h1, Int.toNat_natCast, Int.toNat_natCast, if_neg hr]
      rw [e]
      dsimp only
      rw [Xt.set_self]
      exact SideOut.stay h
theorem side_flush (h : ExDk w O x d L s k) (a : Nat) (ha : a < s.n) :
    Calls Try.prog 28 #[.pointer (some ⟨x, 0, none⟩), .int .i64 (a : Int)] w (SideOut w O x d (.int .i64 0) s (k.flushed (s.pt a).fi (s.pt a).ct)) := by
  refine (xflush_yes h a ha).mono fun e w' ⟨he, L', hE, hT⟩ => ?_
  exact ⟨he, O, L', hE, fun _ hb => .inl hb, hT.wide (fun b hb => .inl hb)⟩
theorem side_write (h : ExDk w O x d L s k) (a : Nat) (ha : a < s.n) (i : Int) (A : Option Addr) (c : Nat) (l : List Int) (hl : ByteIn10 w A l) (h01 : ∀ y ∈ l, 0 ≤ y ∧ y < 256) (hO : ∀ b o, A = some ⟨b, o, none⟩ → l ≠ [] → ¬ O b) (hw : k.wr < 1000000) :
    Calls Try.prog 26 #[.pointer (some ⟨x, 0, none⟩), .int .i64 (a : Int), .int .i64 i, .slice A l.length c] w (SideOut w O x d (.int .i64 (writeV (s.pt a) k i l).1) s (writeV (s.pt a) k i l).2) := by
  by_cases h1 : (s.pt a).has i = false
  · have e : writeV (s.pt a) k i l = (6, k) := by unfold writeV; rw [if_pos h1]
    rw [e]
    refine (xwrite_none h.ex a ha i _ h1).mono fun e w' hh => ?_
    obtain ⟨rfl, rfl⟩ := hh
    exact SideOut.stay h
  · have hh : (s.pt a).has i = true := by simpa using h1
    have hi : 0 ≤ i ∧ i < ((s.pt a).ct : Int) ∧ (s.pt a).bit i.toNat = true := by
      unfold Pt.has at hh
      simp only [Bool.and_eq_true, decide_eq_true_eq] at hh
      exact hh
    obtain ⟨m, rfl⟩ : ∃ m : Nat, i = m := ⟨i.toNat, by omega⟩
    rw [Int.toNat_natCast] at hi
    by_cases h2 : l.length ≠ 128
    · have e : writeV (s.pt a) k (m : Int) l = (2, k) := by unfold writeV; rw [if_neg h1, if_pos h2]
      rw [e]
      refine (xwrite_len h a ha m (by omega) hi.2.2 A l.length c h2).mono fun e w' hh => ?_
      obtain ⟨rfl, rfl⟩ := hh
      exact SideOut.stay h
    · have e : writeV (s.pt a) k (m : Int) l = (0, k.push (((s.pt a).fi + m : Nat) : Int) l) := by unfold writeV; rw [if_neg h1, if_neg h2, Int.toNat_natCast]
      rw [e]
      have hlen : l.length = 128 := by omega
      obtain ⟨y, hy⟩ : ∃ y, l[0]? = some y := ⟨_, List.getElem?_eq_getElem (by omega)⟩
      obtain ⟨g, o, rfl, -⟩ := hl 0 y hy
      rw [hlen]
      refine (xwrite_yes h a ha m (by omega) hi.2.2 g o c l ⟨hlen, h01⟩ (fun j v hv => ?_) (hO g o rfl (fun e => by rw [e] at hlen; cases hlen)) hw).mono fun e w' ⟨he, O', L', hE, hO', hT⟩ => ?_
      · unfold secL at hv
        rw [List.getElem?_map] at hv
        obtain ⟨z, hz, rfl⟩ := Option.map_eq_some_iff.1 hv
        obtain ⟨b', o', e', hc⟩ := hl j z hz
        cases e'
        exact hc
      · exact ⟨he, O', L', hE, hO', hT.wide (fun b hb => .inl hb)⟩
end
end Go.Proofs.Ytgpdkfmneoggkaa
