/- Take, Close, Filter. -/
import Derived.Test.YtakpankipagndaaPoF
namespace Go.Proofs.Ytakpankipagndaa
open Go.RowKit (wrap64)
open Go.RowKit
open Go.Maps (Keyed)
attribute [local go_sem] Oper.semAt_some

section
variable {w : World} {O R : Nat → Prop} {p : Nat} {L : Lay12} {s : Ps}
theorem take_no12 (h : PoAt w O R p L s) {a n : Int} (ha : wf12 a) (hn : wf12 n) (hf : s.first a n = none) :
    Calls Try.prog 21 #[.pointer (some ⟨p, 0, none⟩), .int .i64 a, .int .i64 n] w fun e w' => e = .returned (.tuple #[.slice none 0 0, .int .i64 (s.whyF a n)]) ∧ w = w' := by
  have HA := Lib.hid (look_no12 h ha hn hf)
  have hw := whyF_bne s a n
  clear h hf
  go_enter Try.func21, Try.ntmps21
  go_wp2_with (go_at_call 35; refine HA.out.mono ?_; rintro e w' ⟨rfl, rfl⟩)
  go_ret2
  exact ⟨rfl, rfl⟩
/-- Ports behind Take. -/
def Ps.took (s : Ps) (a n : Int) : Ps := match s.c a n with
  | some X => s.upd a n X.drop
  | none => s
def TakeOut12 (w : World) (O R : Nat → Prop) (p : Nat) (L : Lay12) (s' : Ps) (P : List Nat) (e : Ending) (w' : World) : Prop :=
  ∃ v, e = .returned (.tuple #[v, .int .i64 0]) ∧ PkOut w P v w' ∧ PoAt w' O R p L s' ∧ TurnO O w w'
theorem own_turn {w w' : World} {O : Nat → Prop} {B ty k : Nat} {v : Value} {n : Nat} {xs : List Value} (h : w.ownsRow B ty k v n xs) (hT : TurnO O w w') (ho : ∀ b, O b → b < B) : w'.ownsRow B ty k v n xs :=
  owns_eq h fun g hg => hT.block g (h.lt g hg).2 (fun e => by have := ho g e; have := (h.lt g hg).1; omega)
set_option maxHeartbeats 2000000 in
set_option maxRecDepth 100000 in
theorem take_yes12 (h : PoAt w O R p L s) {a n : Int} (ha : wf12 a) (hn : wf12 n) {P : List Nat} (hf : s.first a n = some P) :
    Calls Try.prog 21 #[.pointer (some ⟨p, 0, none⟩), .int .i64 a, .int .i64 n] w (TakeOut12 w O R p L (s.took a n) P) := by
  cases hc : s.c a n with
  | none => unfold Ps.first at hf; rw [hc] at hf; cases hf
  | some X =>
    have e1 : s.took a n = s.upd a n X.drop := by unfold Ps.took; rw [hc]
    rw [e1]
    have hne : X.rg ≠ [] := by
      unfold Ps.first at hf
      rw [hc] at hf
      have hf : X.rg.head? = some P := hf
      intro e; rw [e] at hf; cases hf
    have HA := Lib.hid (look_yes12 h ha hn hf)
    have HW := Lib.hid (fun w' (hb : Below w.heap.size w w') => (h.step hb).look_yes ha hn hc)
    have HC1 := Lib.hid (fun w' (hb : Below w.heap.size w w') => (h.step hb).c1)
    have H := Lib.hid h
    have HC := Lib.hid hc
    have HD := Lib.hid (fun w' (hb : Below w.heap.size w w') => drop_any12 ((h.step hb).cl a n X hc) (h.ok.cl a n X hc) hne (fun k hk => ⟨Nat.lt_of_lt_of_le (h.lr k hk) hb.size, fun e => h.dis k hk (e ▸ h.oc a n X hc)⟩))
    clear h hc hf hne e1
    go_enter Try.func21, Try.ntmps21
    go_wp2_with (first
      | (go_at_call 35; refine HA.out.mono ?_; rintro e w1 ⟨v, rfl, ho, hb⟩; have HO := Lib.hid ho; have HB := Lib.hid hb; have hc1 := HC1.out w1 hb; have hlk := HW.out w1 hb; clear ho hb)
      | (go_at_call 56; refine (HD.out w1 HB.out).mono ?_; rintro e w2 ⟨rfl, hci, ht⟩; have HCI := Lib.hid hci; have HT := Lib.hid ht; clear hci ht))
    go_ret2
    have hT : TurnO O w1 w2 := HT.out.wide12 (fun b e => e ▸ H.out.oc a n X HC.out)
    refine ⟨v, rfl, own_turn HO.out hT (fun b hb => H.out.lo b hb), (H.out.step HB.out).turn HC.out HCI.out (Cl.drop_ok (H.out.ok.cl a n X HC.out)) HT.out (fun _ hk => hk) (fun _ hk => .inl hk), (TurnO.of_below HB.out).trans hT (fun b hb => .inl hb)⟩

/-! ### Close -/
def Ps.del (s : Ps) (a n : Int) : Ps := ⟨s.q, fun b m => if b = a ∧ m = n then none else s.c b m, s.m⟩
theorem Ps.del_same (s : Ps) (a n : Int) : (s.del a n).c a n = none := by unfold Ps.del; simp
theorem Ps.del_other (s : Ps) (a n : Int) {b m : Int} (h : ¬ (b = a ∧ m = n)) : (s.del a n).c b m = s.c b m := by unfold Ps.del; simp only [if_neg h]
theorem Ps.del_some {s : Ps} {a n b m : Int} {X : Cl} (h : (s.del a n).c b m = some X) : s.c b m = some X ∧ ¬ (b = a ∧ m = n) := by
  by_cases e : b = a ∧ m = n
  · rw [e.1, e.2, Ps.del_same] at h; cases h
  · rw [Ps.del_other _ _ _ e] at h; exact ⟨h, e⟩
theorem PoAt.dom_wf (h : PoAt w O R p L s) {a n : Int} {X : Cl} (hc : s.c a n = some X) : wf12 a ∧ wf12 n := by
  obtain ⟨h1, h2, h3⟩ := h.ok.dom a n X hc
  obtain ⟨h4, h5⟩ := Ps.acc_of h1
  have := h.ok.q2
  have := h.ok.qt_le h1
  exact ⟨wf12_of (by omega), wf12_of (by omega)⟩
theorem PoAt.gone {w' : World} (h : PoAt w O R p L s) {a n : Int} (ha : wf12 a) (hn : wf12 n) {D : DataW Unit} (hm : w'.ownsMap Try.prog 95 ptE L.b s.m (D.del (keyP a n))) (hD : MpIs D L.C s.c) (hg : w.grownBy w' (some L.b)) : PoAt w' O R p L (s.del a n) ∧ TurnO (· = L.b) w w' := by
  have hT : TurnO (· = L.b) w w' := TurnO.of_grown hg (fun k e => (Option.some.inj e).symm)
  have hRb : ∀ k, R k → k ≠ L.b := fun k hk e => h.dis k hk (e ▸ h.ob)
  have blk : ∀ k, (O k ∨ R k) → k ≠ L.b → w'.heap[k]? = w.heap[k]? := fun k hk hn => hT.block k (h.lt hk) hn
  have hkey : ∀ b m, wf12 b → wf12 m → ¬ (b = a ∧ m = n) → keyP b m ≠ keyP a n := fun b m hb hm' hne e => hne (key_inj12 hb ha hm' hn e)
  refine ⟨⟨⟨h.ok.q1, h.ok.q2, h.ok.q3, fun b m Y hY => h.ok.dom b m Y (Ps.del_some hY).1, fun b m Y hY => h.ok.cl b m Y (Ps.del_some hY).1⟩, (blk p (.inl h.op) h.pne).trans h.pb, fun i x hi => (World.cell?_of_block (a := ⟨_, i, none⟩) (blk _ (.inr h.rq) (hRb _ h.rq))).trans (h.qs i x hi),
    ⟨_, hm, ⟨fun b m hb hm => ?_, fun b m hb hm => ?_⟩⟩, fun b m Y hY => ?_, fun b m b' m' Y Y' hY hY' => h.ne b m b' m' Y Y' (Ps.del_some hY).1 (Ps.del_some hY').1, h.op, h.ob, fun b m Y hY => h.oc b m Y (Ps.del_some hY).1, h.rq, fun k hk => Nat.lt_of_lt_of_le (h.lo k hk) hT.size, fun k hk => Nat.lt_of_lt_of_le (h.lr k hk) hT.size, h.dis⟩, hT⟩
  · by_cases e : b = a ∧ m = n
    · rw [e.1, e.2, Ps.del_same, Maps.has_del_same]; rfl
    · rw [Ps.del_other _ _ _ e, Maps.has_del_other (hkey b m hb hm e)]; exact hD.has b m hb hm
  · by_cases e : b = a ∧ m = n
    · rw [e.1, e.2, Ps.del_same, Maps.atKey_del_same]; rfl
    · rw [Ps.del_other _ _ _ e, Maps.atKey_del_other (hkey b m hb hm e)]; exact hD.at_ b m hb hm
  · have hY' := (Ps.del_some hY).1
    exact (h.cl b m Y hY').keep hT.size (fun k hk => blk k (.inr hk) (hRb k hk)) (blk _ (.inl (h.oc b m Y hY')) (h.cne hY').2) (fun _ hk => hk)
theorem close_not12 (h : PoAt w O R p L s) {a n : Int} (ha : wf12 a) (hn : wf12 n) (hc : s.c a n = none) :
    Calls Try.prog 22 #[.pointer (some ⟨p, 0, none⟩), .int .i64 a, .int .i64 n] w fun e w' => e = .returned (.tuple #[.int .i64 0, .int .i64 (s.why a)]) ∧ w = w' := by
  have HA := Lib.hid (of_not12 h ha hn hc)
  have hw := why_bne s a
  clear h hc
  go_enter Try.func22, Try.ntmps22
  go_wp2_with (go_at_call 55; refine HA.out.mono ?_; rintro e w' ⟨rfl, rfl⟩)
  go_ret2
  exact ⟨rfl, rfl⟩
def CloseOut12 (w : World) (O R : Nat → Prop) (p : Nat) (L : Lay12) (s' : Ps) (k : Int) (e : Ending) (w' : World) : Prop :=
  e = .returned (.tuple #[.int .i64 k, .int .i64 0]) ∧ PoAt w' O R p L s' ∧ TurnO O w w'
set_option maxHeartbeats 2000000 in
set_option maxRecDepth 100000 in
theorem close_yes12 (h : PoAt w O R p L s) {a n : Int} (ha : wf12 a) (hn : wf12 n) {X : Cl} (hc : s.c a n = some X) :
    Calls Try.prog 22 #[.pointer (some ⟨p, 0, none⟩), .int .i64 a, .int .i64 n] w (CloseOut12 w O R p L (s.del a n) X.rg.length) := by
  have HA := Lib.hid (of_yes12 h ha hn hc)
  have c1 := h.c1
  obtain ⟨D, hm, hD⟩ := h.mp
  have HM := Lib.hid hm
  have HD := Lib.hid hD
  have H := Lib.hid h
  have HK := Lib.hid (key_of12 a n ha hn)
  have HWA := Lib.hid ha
  have HWN := Lib.hid hn
  obtain ⟨FA, FC, V, hX⟩ := h.cl a n X hc
  have hcb := (h.cne hc).2
  have HX := Lib.hid hX
  clear h hc hm hD ha hn hX
  generalize hC : L.C a n = cb at *
  clear hC
  go_enter Try.func22, Try.ntmps22
  go_wp2_with (first
    | (go_at_call 55; refine HA.out.mono ?_; rintro e w' ⟨rfl, rfl⟩)
    | (at_delete; refine wpList_delete_own _ rfl _ _ 66 95 rfl 96 Try.kSpot Try.underlying66 ptE L.b s.m D rfl HM.out _ (keyP a n) rfl HK.out ?_; intro w3 hm3 hg3; have HG := Lib.hid (H.out.gone HWA.out HWN.out hm3 HD.out hg3.grown); have c10 := (World.cell?_of_block (a := ⟨cb, 10, none⟩) (HG.out.2.block cb HX.out.lt hcb)).trans HX.out.c10; clear hm3 hg3))
  go_ret2
  exact ⟨rfl, HG.out.1, HG.out.2.wide12 (fun b e => e ▸ H.out.ob)⟩
end
end Go.Proofs.Ytakpankipagndaa
