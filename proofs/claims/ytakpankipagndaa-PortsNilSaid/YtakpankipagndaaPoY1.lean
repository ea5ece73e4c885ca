/- A range over the ports that are open. -/
import Derived.Test.YtakpankipagndaaPoR
import Derived.Maps.RangeWalk
namespace Go.Proofs.Ytakpankipagndaa
open Go.RowKit (wrap64)
open Go.RowKit
open Go.Maps (Keyed)
attribute [local go_sem] Oper.semAt_some

set_option maxRecDepth 100000 in
theorem keyLits_int12 (D : Nat) (c : Value) {l : List Lit} (h : Try.prog.keyLits (D + 1) 3 [c] = some l) : ∃ x, c = .int .i64 x ∧ wf12 x ∧ l = [.int .i64 x] := by
  unfold Program.keyLits at h
  rw [Try.underlying3] at h
  cases c <;> simp at h
  rename_i q x
  obtain ⟨⟨rfl, hw⟩, rfl⟩ := h
  exact ⟨x, rfl, hw, rfl⟩
set_option maxRecDepth 100000 in
theorem keyOf_inv12 {key : Value} {kl : Lit} (h : keyOf Try.prog 95 key = some kl) : ∃ a n, key = keyV12 a n ∧ wf12 a ∧ wf12 n ∧ kl = keyP a n := by
  obtain ⟨D, hD⟩ := Try.sizeTypes
  unfold keyOf at h
  rw [Try.uSpotX] at h
  simp only [Try.typeSpot, Bool.true_and] at h
  by_cases hf : key.formed Try.prog 95 = true
  · rw [if_pos hf, hD] at h
    cases key <;> simp [Value.formed, Try.uSpotX] at hf
    rename_i cs
    rw [Try.cSpot] at hf
    obtain ⟨l⟩ := cs
    match l, hf with
    | [c0, c1], _ =>
      have e : (Value.agg #[c0, c1]).cells.toList = [c0, c1] := rfl
      have h : (Try.prog.keyLits (D + 2) 95 [c0, c1]).map (fun ls => Lit.string (keyBytes ls)) = some kl := h
      obtain ⟨ls, hls, rfl⟩ := Option.map_eq_some_iff.1 h
      rw [Program.keyLits.eq_def] at hls
      simp only [Try.uSpotX] at hls
      simp [Try.cSpot, Try.cInt12] at hls
      cases h0 : Try.prog.keyLits (D + 1) 3 [c0] with
      | none => rw [h0] at hls; simp at hls
      | some l0 =>
        cases h1 : Try.prog.keyLits (D + 1) 3 [c1] with
        | none => rw [h0, h1] at hls; simp at hls
        | some l1 =>
          rw [h0, h1] at hls
          obtain ⟨x, rfl, hx, rfl⟩ := keyLits_int12 D c0 h0
          obtain ⟨y, rfl, hy, rfl⟩ := keyLits_int12 D c1 h1
          simp at hls
          subst hls
          exact ⟨x, y, rfl, hx, hy, rfl⟩
  · rw [if_neg hf] at h; cases h
/-- The range's step over the ports that are open. -/
theorem wpList_next_spots (w : World) {ops : Array Oper} {rest : List Oper} {o : Oper} {a : Act} {Q : Exit → Act → World → Prop} (hg : o.guard = none) (it : Operand) (hop : o.op = Op.next it false)
    (b r n : Nat) (D : DataW Unit) (C : Int → Int → Nat) (c : Int → Int → Option Cl) (left : Lit → Bool) (cnt : Nat) (hit : a.eval it = .pointer (some ⟨r, 0, none⟩)) (h : w.ranges Try.prog 95 ptE b r n D left cnt) (hD : MpIs D C c)
    (hDone : (∀ kl, left kl = false) → wpList Try.prog ops Q rest (a.put o.dst (.tuple #[.bool false])) w)
    (hMore : ∀ (x y : Int) (X : Cl) (w' : World) (cnt' : Nat), c x y = some X → left (keyP x y) = true → wf12 x → wf12 y → w'.ranges Try.prog 95 ptE b r n D (fun z => left z && !z.sameKey (keyP x y)) cnt' → cnt' < cnt →
      w.grownBy w' (some r) → w'.heap.size = w.heap.size → (Instr.entry (.pointer (some ⟨r, 0, none⟩))).run Try.prog w' = .ok (.tuple #[.agg #[.int .i64 x, .int .i64 y], .pointer (some ⟨C x y, 0, none⟩)]) w' → wpList Try.prog ops Q rest (a.put o.dst (.tuple #[.bool true, .agg #[.int .i64 x, .int .i64 y], .pointer (some ⟨C x y, 0, none⟩)])) w') :
    wpList Try.prog ops Q (o :: rest) a w := by
  refine wpList_next_ranges w hg it hop 95 Try.kSpot ptE (fun x : Int × Int => keyV12 x.1 x.2) ptV (fun key kl hkey => by obtain ⟨x, y, rfl, -⟩ := keyOf_inv12 hkey; exact ⟨(x, y), rfl⟩)
    (fun v y hv => by obtain ⟨g, rfl, -⟩ := ptE_inv hv; exact ⟨g, rfl⟩) b r n D left cnt hit h (fun _ hl => hDone hl) ?_
  intro x g kl y w' cnt' hkey hlk hv hat hrg hlt hgr hsz hen
  obtain ⟨x1, x2, e, hw1, hw2, rfl⟩ := keyOf_inv12 hkey
  have e : x = (x1, x2) := by
    obtain ⟨y1, y2⟩ := x
    simp [keyV12] at e
    rw [e.1, e.2]
  subst e
  have hhas := Maps.has_true_of_atKey hat
  rw [hD.has x1 x2 hw1 hw2] at hhas
  obtain ⟨X, hX⟩ := Option.isSome_iff_exists.1 hhas
  have hat0 := hat .nil
  rw [hD.at_ x1 x2 hw1 hw2, hX] at hat0
  have hy : y.1 = ptD g := by rw [ptE_mk] at hv; rw [← Option.some.inj hv]
  rw [hy] at hat0
  have hg : g = some (C x1 x2) := (ptD_inj hat0).symm
  subst hg
  exact hMore x1 x2 X w' cnt' hX hlk hw1 hw2 hrg hlt hgr hsz hen
theorem same_keyP {a n b m : Int} (ha : wf12 a) (hn : wf12 n) (hb : wf12 b) (hm : wf12 m) : (keyP b m).sameKey (keyP a n) = decide (b = a ∧ m = n) := by
  by_cases e : b = a ∧ m = n
  · rw [decide_eq_true e, e.1, e.2]; exact WideAt.sameKey_self (key_lit12 a n ha hn)
  · rw [decide_eq_false e]; exact Maps.sameKey_ne (fun h => e (key_inj12 hb ha hm hn h))
end Go.Proofs.Ytakpankipagndaa
