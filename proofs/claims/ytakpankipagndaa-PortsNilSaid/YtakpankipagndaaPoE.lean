/- A ring behind come and drop; ports of which one was turned; Look, Take. -/
import Derived.Test.YtakpankipagndaaPoD
namespace Go.Proofs.Ytakpankipagndaa
open Go.RowKit (wrap64)
open Go.RowKit
open Go.Maps (Keyed)
attribute [local go_sem] Oper.semAt_some

theorem TurnO.wide12 {O O' : Nat → Prop} {w w' : World} (h : TurnO O w w') (ho : ∀ b, O b → O' b) : TurnO O' w w' := ⟨h.os, h.tape, h.output, h.size, fun k hk hn => h.block k hk (fun hh => hn (ho k hh))⟩
theorem TurnO.set12 (w : World) (c o : Nat) (v : Value) : TurnO (· = c) w (w.setCell ⟨c, o, none⟩ v) := ⟨rfl, rfl, rfl, by simp [World.setCell], fun _ _ hn => Below.heap_setCell _ _ _ _ hn⟩
theorem size_set12 (w : World) (a : Addr) (v : Value) : (w.setCell a v).heap.size = w.heap.size := by simp [World.setCell]
section
variable {w : World} {R : Nat → Prop} {c : Nat} {X : Cl} {FA : Option Addr} {FC : Nat} {V : Nat → Value}
theorem come_at (h : ClAt w R c X FA FC V) (hl : X.rg.length < 8) (hR : ∀ k, R k → k < w.heap.size ∧ k ≠ c) {P : List Nat} (h8 : ∀ x ∈ P, x < 256) {w1 : World} {v : Value} (ho : w1.ownsRow w.heap.size 5 1 v P.length (byL P)) (hb : Below w.heap.size w w1)
    {w' : World} (hw : w' = (w1.setCell ⟨c, 1 + (X.fs + X.rg.length) % 8, none⟩ v).setCell ⟨c, 10, none⟩ (.int .i64 ((X.rg.length + 1 : Nat) : Int))) : ClIs w' (RN R w w') c (X.come P) ∧ TurnO (· = c) w w' := by
  have hj8 : (X.fs + X.rg.length) % 8 < 8 := Nat.mod_lt _ (by omega)
  have hlt := h.lt
  have r0 := (hb.block c hlt).trans h.cb
  have r1 := heap_setCell_same w1 c (1 + (X.fs + X.rg.length) % 8) _ _ v r0
  rw [clA_set _ _ _ _ _ hj8] at r1
  have r2 := heap_setCell_same _ c 10 _ _ (.int .i64 ((X.rg.length + 1 : Nat) : Int)) r1
  rw [← hw, clA_count] at r2
  have hs : w'.heap.size = w1.heap.size := by rw [hw, size_set12, size_set12]
  have hT : TurnO (· = c) w w' := by
    rw [hw]
    exact (TurnO.of_below hb).trans ((TurnO.set12 w1 c _ _).trans (TurnO.set12 _ c _ _) (fun b e => .inl e)) (fun b e => .inl e)
  have hblk : ∀ k, k ≠ c → w'.heap[k]? = w1.heap[k]? := fun k hk => by rw [hw, heap_setCell_other _ _ _ _ hk, heap_setCell_other _ _ _ _ hk]
  have he : ∀ k, R k → w'.heap[k]? = w.heap[k]? := fun k hk => hT.block k (hR k hk).1 (hR k hk).2
  obtain ⟨A, n, rfl, hp, hd⟩ := PkF.of_own ho h8
  have hp' : PkF w' A P.length n P := hp.keepR hd (by rw [hs]; exact Nat.le_refl _) (fun k hk => hblk k (by omega))
  have hd' : Rd (RN R w w') A := hd.mono fun k hk => .inr (by rw [hs]; exact hk)
  have e : X.come P = { X with rg := X.rg ++ [P] } := by unfold Cl.come; rw [if_neg (by omega)]
  rw [e]
  have hk := h.rg.keep hT.size he (R' := RN R w w') (fun k hk => .inl hk)
  refine ⟨⟨FA, FC, fun k => if k = (X.fs + X.rg.length) % 8 then .slice A P.length n else V k, ⟨?_, h.fl.keepR h.fr hT.size he, h.fr.mono fun k hk => .inl hk, fun k Q hQ => ?_, fun k hk => ?_⟩⟩, hT⟩
  · rw [r2]
    simp
  · dsimp only at hQ ⊢
    by_cases hlt2 : k < X.rg.length
    · rw [List.getElem?_append_left hlt2] at hQ
      rw [if_neg (by omega)]
      exact hk.pk k Q hQ
    · have hke : k = X.rg.length := by
        have := (List.getElem?_eq_some_iff.1 hQ).1
        rw [List.length_append, List.length_singleton] at this
        omega
      subst hke
      rw [if_pos rfl]
      rw [List.getElem?_append_right (Nat.le_refl _), Nat.sub_self] at hQ
      cases hQ
      exact ⟨A, n, rfl, hp', hd'⟩
  · split
    · exact ⟨_, _, _, rfl⟩
    · exact h.rg.sl k hk
set_option maxHeartbeats 1000000 in
/-- A packet comes to a port. -/
theorem come_any12 (h : ClIs w R c X) (hx : ClOk X) (hR : ∀ k, R k → k < w.heap.size ∧ k ≠ c) {A : Option Addr} {n ca : Nat} {P : List Nat} (hp : PkF w A n ca P) (hn : n ≤ 64) :
    Calls Try.prog 54 #[.pointer (some ⟨c, 0, none⟩), .slice A n ca] w fun e w' => e = .returned (.bool (!decide (X.rg.length = 8))) ∧ ClIs w' (RN R w w') c (X.come P) ∧ TurnO (· = c) w w' := by
  obtain ⟨FA, FC, V, h⟩ := h
  by_cases hl : X.rg.length = 8
  · refine (come_full h hl _).mono ?_
    rintro e w' ⟨rfl, hw⟩
    refine ⟨by rw [decide_eq_true hl]; rfl, ?_, by rw [hw]; exact TurnO.set12 _ _ _ _⟩
    have hT : TurnO (· = c) w w' := by rw [hw]; exact TurnO.set12 _ _ _ _
    have he : ∀ k, R k → w'.heap[k]? = w.heap[k]? := fun k hk => hT.block k (hR k hk).1 (hR k hk).2
    have r1 := heap_setCell_same w c 11 _ _ (.int .i64 (wrap64 (X.lo + 1))) h.cb
    rw [← hw, clA_lost] at r1
    have e : X.come P = { X with lo := wrap64 (X.lo + 1) } := by unfold Cl.come; rw [if_pos hl]
    rw [e]
    have hk := h.rg.keep hT.size he (R' := RN R w w') (fun k hk => .inl hk)
    exact ⟨FA, FC, V, ⟨r1, h.fl.keepR h.fr hT.size he, h.fr.mono fun k hk => .inl hk, hk.pk, hk.sl⟩⟩
  · have hlt : X.rg.length < 8 := by have := hx.rl; omega
    refine (come_room h hx hlt hp hn).mono ?_
    rintro e w' ⟨rfl, w1, v, ho, hb, hw⟩
    obtain ⟨h1, h2⟩ := come_at h hlt hR hp.pk.b8 ho hb hw
    exact ⟨by rw [decide_eq_false hl]; rfl, h1, h2⟩
theorem drop_at (h : ClAt w R c X FA FC V) (hx : ClOk X) (hne : X.rg ≠ []) (hR : ∀ k, R k → k < w.heap.size ∧ k ≠ c)
    {w' : World} (hw : w' = (((w.setCell ⟨c, 1 + X.fs, none⟩ (.slice none 0 0)).setCell ⟨c, 9, none⟩ (.int .i64 (((X.fs + 1) % 8 : Nat) : Int))).setCell ⟨c, 10, none⟩ (.int .i64 ((X.rg.length - 1 : Nat) : Int))).drew) : ClIs w' R c X.drop ∧ TurnO (· = c) w w' := by
  have hpos : 0 < X.rg.length := List.length_pos_iff.2 hne
  have hrl := hx.rl
  have hfs := hx.fs
  have r1 := heap_setCell_same w c (1 + X.fs) _ _ (.slice none 0 0) h.cb
  rw [clA_set _ _ _ _ _ hfs] at r1
  have r2 := heap_setCell_same _ c 9 _ _ (.int .i64 (((X.fs + 1) % 8 : Nat) : Int)) r1
  rw [clA_first] at r2
  have r3 := heap_setCell_same _ c 10 _ _ (.int .i64 ((X.rg.length - 1 : Nat) : Int)) r2
  rw [clA_count] at r3
  have hT : TurnO (· = c) w w' := by
    rw [hw]
    have h3 := ((TurnO.set12 w c (1 + X.fs) (.slice none 0 0)).trans (TurnO.set12 _ c 9 (.int .i64 (((X.fs + 1) % 8 : Nat) : Int))) (fun b e => .inl e)).trans (TurnO.set12 _ c 10 (.int .i64 ((X.rg.length - 1 : Nat) : Int))) (fun b e => .inl e)
    exact ⟨h3.os, h3.tape, h3.output, h3.size, h3.block⟩
  have r4 := (congrArg (fun W : World => W.heap[c]?) hw).trans r3
  have he : ∀ k, R k → w'.heap[k]? = w.heap[k]? := fun k hk => hT.block k (hR k hk).1 (hR k hk).2
  have hk := h.rg.keep hT.size he (R' := R) (fun k hk => hk)
  refine ⟨⟨FA, FC, fun k => if k = X.fs then .slice none 0 0 else V k, ⟨?_, h.fl.keepR h.fr hT.size he, h.fr, fun k Q hQ => ?_, fun k hk8 => ?_⟩⟩, hT⟩
  · refine r4.trans ?_
    unfold Cl.drop
    dsimp only
    rw [List.length_tail]
  · unfold Cl.drop at hQ ⊢
    dsimp only at hQ ⊢
    have hk1 : k + 1 < X.rg.length := by
      have := (List.getElem?_eq_some_iff.1 hQ).1
      rw [List.length_tail] at this
      omega
    rw [if_neg (by omega), show ((X.fs + 1) % 8 + k) % 8 = (X.fs + (k + 1)) % 8 by omega]
    refine hk.pk (k + 1) Q ?_
    rw [← hQ]
    cases hr : X.rg with
    | nil => exact absurd hr hne
    | cons P l => rfl
  · split
    · exact ⟨_, _, _, rfl⟩
    · exact h.rg.sl k hk8
set_option maxHeartbeats 1000000 in
set_option maxRecDepth 100000 in
theorem drop_any12 (h : ClIs w R c X) (hx : ClOk X) (hne : X.rg ≠ []) (hR : ∀ k, R k → k < w.heap.size ∧ k ≠ c) :
    Calls Try.prog 56 #[.pointer (some ⟨c, 1, none⟩)] w fun e w' => e = .returned (.tuple #[]) ∧ ClIs w' R c X.drop ∧ TurnO (· = c) w w' := by
  obtain ⟨FA, FC, V, h⟩ := h
  have hpos : 0 < X.rg.length := List.length_pos_iff.2 hne
  have hrl := hx.rl
  have hfs := hx.fs
  have c9 := h.c9
  have c10 := h.c10
  have cs := h.cs hfs
  have fz := h.fz
  have HD := Lib.hid (fun w' hw => drop_at h hx hne hR (w' := w') hw)
  obtain ⟨f, hf⟩ : ∃ f, X.fs = f := ⟨_, rfl⟩
  obtain ⟨k, hk⟩ : ∃ k, X.rg.length = k := ⟨_, rfl⟩
  rw [hf] at c9 hfs cs
  rw [hk] at c10 hpos hrl
  obtain ⟨m, rfl⟩ : ∃ m, k = m + 1 := ⟨k - 1, by omega⟩
  have hf0 : (0 : Int) ≤ (f : Int) := by omega
  have hf8 : (f : Int) < 8 := by omega
  obtain ⟨j, hj⟩ : ∃ j, (f + 1) % 8 = j := ⟨_, rfl⟩
  obtain ⟨q1, q2, q4, q5⟩ := rem8 (x := f) (y := 1) (by omega) (by omega) hj
  have q1 : IntKind.i64.wrap ((f : Int) + 1) = (f : Int) + 1 := q1
  have q2 : ((f : Int) + 1).tmod 8 = (j : Int) := q2
  have q4 : ((f : Int) + 1) % 8 = (j : Int) := q4
  have q5 : (0 : Int) ≤ (f : Int) + 1 := q5
  have q3 : IntKind.i64.wrap (((m + 1 : Nat) : Int) - 1) = (m : Int) := by rw [IntWalk.i64_in _ (by omega)]; omega
  have q6 : IntKind.i64.wrap ((m : Int) + 1 - 1) = (m : Int) := by rw [IntWalk.i64_in _ (by omega)]; omega
  rw [hf, hk, hj, Nat.add_sub_cancel] at HD
  clear h hx hne hR hf hk hj
  go_enter Try.func56, Try.ntmps56
  go_wp2_with fail
  go_region
  all_goals
    go_wp2_with fail
    go_end0
    exact ⟨rfl, HD.out _ rfl⟩
end
end Go.Proofs.Ytakpankipagndaa
