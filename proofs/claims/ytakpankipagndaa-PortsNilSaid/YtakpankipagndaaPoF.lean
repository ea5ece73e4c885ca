/- Ports of which one was turned; Look, Take. -/
import Derived.Test.YtakpankipagndaaPoE
namespace Go.Proofs.Ytakpankipagndaa
open Go.RowKit (wrap64)
open Go.RowKit
open Go.Maps (Keyed)
attribute [local go_sem] Oper.semAt_some

def Ps.upd (s : Ps) (a n : Int) (X : Cl) : Ps := ⟨s.q, fun b m => if b = a ∧ m = n then some X else s.c b m, s.m⟩
theorem Ps.upd_same (s : Ps) (a n : Int) (X : Cl) : (s.upd a n X).c a n = some X := by unfold Ps.upd; simp
theorem Ps.upd_other (s : Ps) (a n : Int) (X : Cl) {b m : Int} (h : ¬ (b = a ∧ m = n)) : (s.upd a n X).c b m = s.c b m := by unfold Ps.upd; simp only [if_neg h]
theorem Ps.upd_ok {s : Ps} (h : PsOk s) {a n : Int} {X X' : Cl} (hc : s.c a n = some X) (hx : ClOk X') : PsOk (s.upd a n X') := by
  refine ⟨h.q1, h.q2, h.q3, fun b m Y hY => ?_, fun b m Y hY => ?_⟩
  · by_cases e : b = a ∧ m = n
    · rw [e.1, e.2]; exact h.dom a n X hc
    · rw [Ps.upd_other _ _ _ _ e] at hY; exact h.dom b m Y hY
  · by_cases e : b = a ∧ m = n
    · rw [e.1, e.2, Ps.upd_same] at hY; cases hY; exact hx
    · rw [Ps.upd_other _ _ _ _ e] at hY; exact h.cl b m Y hY
/-- What calls leave: ports of which only their own blocks were turned. -/
def PoTo (w : World) (O R : Nat → Prop) (p : Nat) (s : Ps) (w' : World) : Prop :=
  ∃ O' R' L', PoAt w' O' R' p L' s ∧ (∀ k, O' k → O k ∨ w.heap.size ≤ k) ∧ (∀ k, R' k → R k ∨ w.heap.size ≤ k) ∧ TurnO O w w'
section
variable {w w' : World} {O R : Nat → Prop} {p : Nat} {L : Lay12} {s : Ps}
theorem PoTo.stay (h : PoAt w O R p L s) : PoTo w O R p s w := ⟨O, R, L, h, fun _ hk => .inl hk, fun _ hk => .inl hk, TurnO.refl _ _⟩
theorem PoTo.step (h : PoAt w O R p L s) (hb : Below w.heap.size w w') : PoTo w O R p s w' := ⟨O, R, L, h.step hb, fun _ hk => .inl hk, fun _ hk => .inl hk, TurnO.of_below hb⟩
theorem PoTo.trans {w1 w2 : World} {O1 R1 : Nat → Prop} {s2 : Ps} (hO : ∀ k, O1 k → O k ∨ w.heap.size ≤ k) (hR : ∀ k, R1 k → R k ∨ w.heap.size ≤ k) (hT : TurnO O w w1) (k : PoTo w1 O1 R1 p s2 w2) : PoTo w O R p s2 w2 := by
  obtain ⟨O2, R2, L2, h2, ho2, hr2, ht2⟩ := k
  have hs := hT.size
  refine ⟨O2, R2, L2, h2, fun b hb => ?_, fun b hb => ?_, hT.trans ht2 hO⟩
  · rcases ho2 b hb with h | h
    · exact hO b h
    · exact .inr (by omega)
  · rcases hr2 b hb with h | h
    · exact hR b h
    · exact .inr (by omega)
theorem PoAt.mapB (h : PoAt w O R p L s) : ∃ es clock, w.heap[L.b]? = some (.map es clock) := by
  obtain ⟨D, hm, -⟩ := h.mp
  obtain ⟨es, clock, h1, -⟩ := hm
  exact ⟨es, clock, h1⟩
theorem PoAt.pne (h : PoAt w O R p L s) : p ≠ L.b := by
  intro e
  obtain ⟨es, clock, h1⟩ := h.mapB
  rw [← e, h.pb] at h1
  cases h1
theorem PoAt.cne (h : PoAt w O R p L s) {a n : Int} {X : Cl} (hc : s.c a n = some X) : L.C a n ≠ p ∧ L.C a n ≠ L.b := by
  obtain ⟨FA, FC, V, hX⟩ := h.cl a n X hc
  refine ⟨fun e => ?_, fun e => ?_⟩
  · have := hX.cb
    rw [e, h.pb] at this
    simp at this
  · obtain ⟨es, clock, h1⟩ := h.mapB
    have := hX.cb
    rw [e, h1] at this
    cases this
theorem PoAt.turn (h : PoAt w O R p L s) {a n : Int} {X X' : Cl} (hc : s.c a n = some X) {R' : Nat → Prop} (hX : ClIs w' R' (L.C a n) X') (hx : ClOk X') (hT : TurnO (· = L.C a n) w w') (hr : ∀ k, R k → R' k) (hr2 : ∀ k, R' k → R k ∨ (w.heap.size ≤ k ∧ k < w'.heap.size)) :
    PoAt w' O R' p L (s.upd a n X') := by
  have hCO := h.oc a n X hc
  have hC := h.cne hc
  have hRC : ∀ k, R k → k ≠ L.C a n := fun k hk e => h.dis k hk (e ▸ hCO)
  have blk : ∀ k, (O k ∨ R k) → k ≠ L.C a n → w'.heap[k]? = w.heap[k]? := fun k hk hn => hT.block k (h.lt hk) hn
  obtain ⟨D, hm, hD⟩ := h.mp
  have hsome : ∀ b m, ((s.upd a n X').c b m).map (fun _ => L.C b m) = (s.c b m).map (fun _ => L.C b m) ∧ ((s.upd a n X').c b m).isSome = (s.c b m).isSome := fun b m => by
    by_cases e : b = a ∧ m = n
    · rw [e.1, e.2, Ps.upd_same, hc]; exact ⟨rfl, rfl⟩
    · rw [Ps.upd_other _ _ _ _ e]; exact ⟨rfl, rfl⟩
  refine ⟨Ps.upd_ok h.ok hc hx, (blk p (.inl h.op) hC.1.symm).trans h.pb, fun i x hi => (World.cell?_of_block (a := ⟨_, i, none⟩) (blk _ (.inr h.rq) (hRC _ h.rq))).trans (h.qs i x hi),
    ⟨D, ownsMap_eq12 hm (blk _ (.inl h.ob) hC.2.symm), ⟨fun b m hb hm => by rw [(hsome b m).2]; exact hD.has b m hb hm, fun b m hb hm => by rw [(hsome b m).1]; exact hD.at_ b m hb hm⟩⟩, fun b m Y hY => ?_, fun b m b' m' Y Y' hY hY' => ?_, h.op, h.ob, fun b m Y hY => ?_, hr _ h.rq, fun k hk => Nat.lt_of_lt_of_le (h.lo k hk) hT.size, fun k hk => ?_, fun k hk hk' => ?_⟩
  · by_cases e : b = a ∧ m = n
    · obtain ⟨rfl, rfl⟩ := e
      rw [Ps.upd_same] at hY
      cases hY
      exact hX
    · rw [Ps.upd_other _ _ _ _ e] at hY
      have hne : L.C b m ≠ L.C a n := fun e' => e (h.ne b m a n Y X hY hc e')
      exact (h.cl b m Y hY).keep hT.size (fun k hk => blk k (.inr hk) (hRC k hk)) (blk _ (.inl (h.oc b m Y hY)) hne) hr
  · have g : ∀ b m Y, (s.upd a n X').c b m = some Y → ∃ Z, s.c b m = some Z := fun b m Y hY => by
      by_cases e : b = a ∧ m = n
      · rw [e.1, e.2]; exact ⟨X, hc⟩
      · rw [Ps.upd_other _ _ _ _ e] at hY; exact ⟨Y, hY⟩
    obtain ⟨Z, hZ⟩ := g b m Y hY
    obtain ⟨Z', hZ'⟩ := g b' m' Y' hY'
    exact h.ne b m b' m' Z Z' hZ hZ'
  · by_cases e : b = a ∧ m = n
    · rw [e.1, e.2]; exact hCO
    · rw [Ps.upd_other _ _ _ _ e] at hY; exact h.oc b m Y hY
  · rcases hr2 k hk with hk | hk
    · exact Nat.lt_of_lt_of_le (h.lr k hk) hT.size
    · exact hk.2
  · rcases hr2 k hk with hk | hk
    · exact h.dis k hk hk'
    · have := h.lo k hk'; omega
end

/-! ### Look, Take -/
theorem look_none12 {w : World} {v : Value} (h : NoPo w v) (a n : Int) : Calls Try.prog 35 #[v, .int .i64 a, .int .i64 n] w fun e w' => e = .returned (.tuple #[.slice none 0 0, .int .i64 1]) ∧ w = w' := by
  go_enter Try.func35, Try.ntmps35
  go_wp2_with (go_at_call 55; refine (of_no12 h a n).mono ?_; rintro e w' ⟨rfl, rfl⟩)
  go_ret2
  exact ⟨rfl, rfl⟩
theorem take_none12 {w : World} {v : Value} (h : NoPo w v) (a n : Int) : Calls Try.prog 21 #[v, .int .i64 a, .int .i64 n] w fun e w' => e = .returned (.tuple #[.slice none 0 0, .int .i64 1]) ∧ w = w' := by
  go_enter Try.func21, Try.ntmps21
  go_wp2_with (go_at_call 35; refine (look_none12 h a n).mono ?_; rintro e w' ⟨rfl, rfl⟩)
  go_ret2
  exact ⟨rfl, rfl⟩
/-- A packet that is handed out. -/
def PkOut (w : World) (P : List Nat) (v : Value) (w' : World) : Prop := w'.ownsRow w.heap.size 5 1 v P.length (byL P)
section
variable {w : World} {O R : Nat → Prop} {p : Nat} {L : Lay12} {s : Ps}
/-- The first packet. -/
def Ps.first (s : Ps) (a n : Int) : Option (List Nat) := match s.c a n with
  | some X => X.rg.head?
  | none => none
/-- Why there is none. -/
def Ps.whyF (s : Ps) (a n : Int) : Int := if (s.c a n).isSome then 6 else s.why a
theorem whyF_bne (s : Ps) (a n : Int) : (s.whyF a n != 0) = true := by
  unfold Ps.whyF
  split
  · rfl
  · exact why_bne s a
set_option maxHeartbeats 1000000 in
set_option maxRecDepth 100000 in
theorem look_no12 (h : PoAt w O R p L s) {a n : Int} (ha : wf12 a) (hn : wf12 n) (hf : s.first a n = none) :
    Calls Try.prog 35 #[.pointer (some ⟨p, 0, none⟩), .int .i64 a, .int .i64 n] w fun e w' => e = .returned (.tuple #[.slice none 0 0, .int .i64 (s.whyF a n)]) ∧ w = w' := by
  cases hc : s.c a n with
  | none =>
    have e1 : s.whyF a n = s.why a := by unfold Ps.whyF; rw [hc]; rfl
    have HA := Lib.hid (of_not12 h ha hn hc)
    have hw := why_bne s a
    rw [e1]
    clear h hc ha hn hf e1
    go_enter Try.func35, Try.ntmps35
    go_wp2_with (go_at_call 55; refine HA.out.mono ?_; rintro e w' ⟨rfl, rfl⟩)
    go_ret2
    exact ⟨rfl, rfl⟩
  | some X =>
    have e1 : s.whyF a n = 6 := by unfold Ps.whyF; rw [hc]; rfl
    have hr : X.rg = [] := by
      unfold Ps.first at hf
      rw [hc] at hf
      exact List.head?_eq_none_iff.1 hf
    have HA := Lib.hid (of_yes12 h ha hn hc)
    obtain ⟨FA, FC, V, hX⟩ := h.cl a n X hc
    have c10 := hX.c10
    rw [hr] at c10
    have c10 : w.cell? ⟨L.C a n, 10, none⟩ = some (.int .i64 0) := c10
    rw [e1]
    clear h hc ha hn hf e1 hX hr
    generalize L.C a n = cb at *
    go_enter Try.func35, Try.ntmps35
    go_wp2_with (go_at_call 55; refine HA.out.mono ?_; rintro e w' ⟨rfl, rfl⟩)
    go_ret2
    exact ⟨rfl, rfl⟩
def LookOut (w : World) (P : List Nat) (e : Ending) (w' : World) : Prop := ∃ v, e = .returned (.tuple #[v, .int .i64 0]) ∧ PkOut w P v w' ∧ Below w.heap.size w w'
set_option maxHeartbeats 2000000 in
set_option maxRecDepth 100000 in
theorem look_yes12 (h : PoAt w O R p L s) {a n : Int} (ha : wf12 a) (hn : wf12 n) {P : List Nat} (hf : s.first a n = some P) :
    Calls Try.prog 35 #[.pointer (some ⟨p, 0, none⟩), .int .i64 a, .int .i64 n] w (LookOut w P) := by
  cases hc : s.c a n with
  | none => unfold Ps.first at hf; rw [hc] at hf; cases hf
  | some X =>
    have hr : X.rg[0]? = some P := by
      unfold Ps.first at hf
      rw [hc] at hf
      have hf : X.rg.head? = some P := hf
      rw [← hf, List.head?_eq_getElem?]
    have HA := Lib.hid (of_yes12 h ha hn hc)
    have hx := h.ok.cl a n X hc
    obtain ⟨FA, FC, V, hX⟩ := h.cl a n X hc
    obtain ⟨A, n', hV, hP, -⟩ := hX.rg.pk 0 P hr
    have hpos : 0 < X.rg.length := (List.getElem?_eq_some_iff.1 hr).1
    have hl64 : P.length ≤ 64 := hx.pl P (List.mem_of_getElem? hr)
    have hfs := hx.fs
    have c9 := hX.c9
    have c10 := hX.c10
    have cs := hX.cs hfs
    rw [show (X.fs + 0) % 8 = X.fs by omega] at hV
    rw [hV] at cs
    have hne : ¬ (X.rg.length : Int) = 0 := by omega
    have HC := Lib.hid (fun w' (hb : Below w.heap.size w w') => bclone_any (hP.below hb) (by omega))
    have hcl := hX.lt
    clear h hc ha hn hf hx hX hV hP hr
    generalize L.C a n = cb at *
    generalize X.rg.length = m at *
    generalize X.fs = f at *
    have hf0 : (0 : Int) ≤ (f : Int) := by omega
    have hf8 : (f : Int) < 8 := by omega
    go_enter Try.func35, Try.ntmps35
    go_wp2_with (go_at_call 55; refine HA.out.mono ?_; rintro e w' ⟨rfl, rfl⟩)
    have HS := Lib.hid (And.intro c9 cs)
    go_region_held3 (fun W => W.cell? ⟨cb, 9, none⟩ = some (.int .i64 (f : Int)) ∧ W.cell? ⟨cb, 1 + f, none⟩ = some (.slice A P.length n'))
      (first | exact HS.out | exact ⟨(HB.out.cell (p := ⟨cb, 9, none⟩) hcl).trans HS.out.1, (HB.out.cell (p := ⟨cb, 1 + f, none⟩) hcl).trans HS.out.2⟩ | go_keep)
      (first | (go_at_call 62; refine (HC.out w.drew (Below.refl _ w).drew).mono ?_; rintro e w1 ⟨v, rfl, ho, hb⟩; have HO := Lib.hid (show w1.ownsRow w.heap.size 5 1 v P.length (byL P) from ho); have HB := Lib.hid (show Below w.heap.size w w1 from (Below.refl _ w).drew.trans hb); clear ho hb))
    all_goals
      go_wp2_with fail
      go_ret2
      exact ⟨v, rfl, HO.out, HB.out⟩
end
end Go.Proofs.Ytakpankipagndaa
