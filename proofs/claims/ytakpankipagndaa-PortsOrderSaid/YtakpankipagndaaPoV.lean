/- alike: a step of account 1, on both sides. -/
import Derived.Test.YtakpankipagndaaPoU
import Derived.Deep.DeepCutAuto
import Derived.Deep.CutRange
import Derived.Deep.CutBlock
namespace Go.Proofs.Ytakpankipagndaa
open Go.RowKit (wrap64)
open Go.RowKit
open Go.Maps (Keyed)
attribute [local go_sem] Oper.semAt_some

abbrev xobj12 (kd : Int) (X : Stp12) : Obj := .cells #[.int .i64 kd, .int .i64 X.a, .int .i64 X.b, .slice X.fA X.fl.length X.fc, .slice X.pA X.pl.length X.pc] 34
theorem below_x12 (w : World) (kd : Int) (X : Stp12) : Below w.heap.size w (w.alloc (xobj12 kd X)) := (Below.refl _ w).alloc (Nat.le_refl _) _
def homeI (P : List Nat) : Int := match homeN P with
  | some x => (x : Int)
  | none => 0
def homeB (P : List Nat) : Bool := (homeN P).isSome
theorem homeV_eq (P : List Nat) : homeV P = .tuple #[.int .i64 (homeI P), .bool (homeB P)] := by
  unfold homeV homeI homeB
  cases homeN P <;> rfl
theorem homeI_1 {P : List Nat} : homeI P = 1 ↔ homeN P = some 1 := by
  unfold homeI
  cases homeN P with
  | none => simp
  | some x => simp; omega
/-- A row that was handed out stays where the other side turns. -/
theorem row_far {w0 W w1 w2 : World} {O1 : Nat → Prop} {v : Value} {ty sz n : Nat} {xs : List Value} {B : Nat} (h : w1.ownsRow B ty sz v n xs) (hT : TurnO O1 w1 w2) (hO : ∀ k, O1 k → k < B) : w2.ownsRow B ty sz v n xs := own_turn h hT hO
theorem first_b8 {w : World} {O R : Nat → Prop} {p : Nat} {L : Lay12} {s : Ps} (h : PoAt w O R p L s) (a n : Int) : ∀ x ∈ (takeR s a n).2.1, x < 256 := by
  unfold takeR
  cases hf : s.first a n with
  | none => intro x hx; simp at hx
  | some P =>
    unfold Ps.first at hf
    cases hc : s.c a n with
    | none => rw [hc] at hf; cases hf
    | some X =>
      rw [hc] at hf
      have hf : X.rg.head? = some P := hf
      obtain ⟨FA, FC, V, hX⟩ := h.cl a n X hc
      obtain ⟨A, m, -, hp, -⟩ := hX.rg.pk 0 P (by rw [← List.head?_eq_getElem?]; exact hf)
      exact hp.pk.b8
/-- What alike knows behind its box. -/
structure Alike12 (w0 WX : World) (p q m bx : Nat) (kd : Int) (X : Stp12) (s t : Ps) (O1 R1 : Nat → Prop) (L1 : Lay12) (O2 R2 : Nat → Prop) (L2 : Lay12) : Prop where
  tw : Two12 w0 WX p q s t O1 R1 L1 O2 R2 L2
  al : Alk12 s t
  m1 : s.m ≤ m
  m2 : t.m ≤ m
  fit : X.fits WX
  far : ∀ b o z, X.pA = some ⟨b, o, z⟩ → X.pl ≠ [] → b < w0.heap.size
  box : WX.heap[bx]? = some (.cells #[.int .i64 kd, .int .i64 X.a, .int .i64 X.b, .slice X.fA X.fl.length X.fc, .slice X.pA X.pl.length X.pc] 34 (0, 0))
  no1 : ∀ k, O1 k → k < bx
  no2 : ∀ k, O2 k → k < bx
theorem far_of12 {w0 : World} {X : Stp12} (h : X.fits w0) : ∀ b o z, X.pA = some ⟨b, o, z⟩ → X.pl ≠ [] → b < w0.heap.size := fun b o z e hne => by
  obtain ⟨y, hy⟩ : ∃ y, X.pl[0]? = some y := by
    cases hp : X.pl with
    | nil => exact absurd hp hne
    | cons y _ => exact ⟨y, rfl⟩
  obtain ⟨-, b', o', e', hlt, -⟩ := h.pk.pk 0 y hy
  rw [e] at e'
  cases e'
  exact hlt
section
variable {w0 WX W1 : World} {p q m bx : Nat} {kd : Int} {X : Stp12} {s t s' : Ps} {O1 R1 : Nat → Prop} {L1 : Lay12} {O2 R2 : Nat → Prop} {L2 : Lay12}
theorem Alike12.stay (h : Alike12 w0 WX p q m bx kd X s t O1 R1 L1 O2 R2 L2) : Inv12 w0 WX p q (m + 1) := ⟨s, t, O1, R1, L1, O2, R2, L2, h.tw, h.al, by have := h.m1; omega, by have := h.m2; omega⟩
theorem Alike12.cell (h : Alike12 w0 WX p q m bx kd X s t O1 R1 L1 O2 R2 L2) (k : PoTo WX O1 R1 p s' W1) (j : Nat) : W1.cell? ⟨bx, j, none⟩ = WX.cell? ⟨bx, j, none⟩ :=
  World.cell?_of_block (a := ⟨bx, j, none⟩) (k.turn.block bx (Array.getElem?_eq_some_iff.1 h.box).1 (fun hk => by have := h.no1 bx hk; omega))
theorem Alike12.fit1 (h : Alike12 w0 WX p q m bx kd X s t O1 R1 L1 O2 R2 L2) (h0 : X.fits w0) (hb : Below w0.heap.size w0 W1) : X.fits W1 := h0.below hb
end
set_option maxHeartbeats 16000000 in
set_option maxRecDepth 100000 in
theorem alike_box12 {w0 W : World} {p q m : Nat} (h : Inv12 w0 W p q m) (X : Stp12) (hX0 : X.fits w0) (kd : Int) : ∃ s t O1 R1 L1 O2 R2 L2, Alike12 w0 (W.alloc (xobj12 kd X)) p q m W.heap.size kd X s t O1 R1 L1 O2 R2 L2 := by
  have hbl := h.bl
  obtain ⟨s, t, O1, R1, L1, O2, R2, L2, hT, hA, m1, m2⟩ := h
  exact ⟨s, t, O1, R1, L1, O2, R2, L2, hT.step (below_x12 W kd X), hA, m1, m2, hX0.below (hbl.trans ((below_x12 W kd X).mono hbl.size)), far_of12 hX0, heap_alloc_new W _, fun k hk => hT.a.lo k hk, fun k hk => hT.b.lo k hk⟩
set_option maxHeartbeats 16000000 in
set_option maxRecDepth 100000 in
theorem alike_any12 {w0 W : World} {p q m : Nat} (h : Inv12 w0 W p q m) (hm : m < 1000000) (X : Stp12) (hX0 : X.fits w0) (kd : Int) :
    Calls Try.prog 23 #[.pointer (some ⟨p, 0, none⟩), .pointer (some ⟨q, 0, none⟩), .agg #[.int .i64 kd, .int .i64 X.a, .int .i64 X.b, .slice X.fA X.fl.length X.fc, .slice X.pA X.pl.length X.pc]] W fun e w' => e = .returned (.bool true) ∧ Inv12 w0 w' p q (m + 1) := by
  obtain ⟨s, t, O1, R1, L1, O2, R2, L2, hal⟩ := alike_box12 h X hX0 kd
  have HX := Lib.hid hal
  have HX0 := Lib.hid hX0
  have HH := Lib.hid (home_any12 hal.fit.pk.pk (c := X.pc) rfl)
  rw [homeV_eq] at HH
  have hc0 := cell_of_row _ _ 0 _ _ _ hal.box
  have hc2 := cell_of_row _ _ 2 _ _ _ hal.box
  have hc3 := cell_of_row _ _ 3 _ _ _ hal.box
  have hc4 := cell_of_row _ _ 4 _ _ _ hal.box
  clear hal hX0 h
  by_cases hk1 : kd = 1
  · subst hk1
    go_enter Try.func23, Try.ntmps23
    go_wp2_with (go_at_call 13; refine HH.out.mono ?_; rintro e w' ⟨rfl, rfl⟩)
    generalize W.alloc (xobj12 1 X) = WX at HX hc0 hc2 hc3 hc4 ⊢
    go_at_call 17
    refine Calls.mono (side_claim HX.out.tw.a 1 HX.out.fit.fl HX.out.fit.fn (by have := HX.out.m1; omega)) ?_
    rintro e w1 ⟨rfl, k1⟩
    have hd3 := (HX.out.cell k1 3).trans hc3
    obtain ⟨O1', R1', L1', hT1⟩ := HX.out.tw.left k1
    have HT1 := Lib.hid hT1
    clear k1 hT1
    go_wp2_with fail
    go_at_call 17
    refine Calls.mono (side_claim HT1.out.b 1 (HX0.out.below HT1.out.bl).fl HX.out.fit.fn (by have := HX.out.m2; omega)) ?_
    rintro e w2 ⟨rfl, k2⟩
    obtain ⟨O2', R2', L2', hT2⟩ := HT1.out.sym.left k2
    obtain ⟨a1, a2, a3⟩ := HX.out.al.claim X.fl
    have HR := Lib.hid (show Inv12 w0 w2 p q (m + 1) from ⟨_, _, _, _, _, _, _, _, hT2.sym, a3, by have := HX.out.m1; have := (claimR_m s 1 X.fl).1; omega, by have := HX.out.m2; have := (claimR_m t 1 X.fl).1; omega⟩)
    rw [a1, a2]
    clear k2 hT2 a1 a2 a3 hd3
    generalize claimR t 1 X.fl = cr
    go_wp2_with (go_at_call 18; refine (num_any12 _ _).mono ?_; rintro e w' ⟨rfl, rfl⟩)
    go_ret
    exact ⟨rfl, HR.out⟩
  by_cases hk2 : kd = 2
  · subst hk2
    go_enter Try.func23, Try.ntmps23
    go_wp2_with (go_at_call 13; refine HH.out.mono ?_; rintro e w' ⟨rfl, rfl⟩)
    generalize W.alloc (xobj12 2 X) = WX at HX hc0 hc2 hc3 hc4 ⊢
    go_at_call 22
    refine Calls.mono (side_close HX.out.tw.a (by decide) HX.out.fit.wb) ?_
    rintro e w1 ⟨rfl, k1⟩
    have hd3 := (HX.out.cell k1 2).trans hc2
    obtain ⟨O1', R1', L1', hT1⟩ := HX.out.tw.left k1
    have HT1 := Lib.hid hT1
    clear k1 hT1
    go_wp2_with fail
    go_at_call 22
    refine Calls.mono (side_close HT1.out.b (by decide) HX.out.fit.wb) ?_
    rintro e w2 ⟨rfl, k2⟩
    obtain ⟨O2', R2', L2', hT2⟩ := HT1.out.sym.left k2
    obtain ⟨a1, a2, a3⟩ := HX.out.al.close X.b
    have HR := Lib.hid (show Inv12 w0 w2 p q (m + 1) from ⟨_, _, _, _, _, _, _, _, hT2.sym, a3, by have := HX.out.m1; have := (closeR_m s 1 X.b).1; omega, by have := HX.out.m2; have := (closeR_m t 1 X.b).1; omega⟩)
    rw [a1, a2]
    clear k2 hT2 a1 a2 a3 hd3
    generalize closeR t 1 X.b = cr
    go_wp2_with (go_at_call 18; refine (num_any12 _ _).mono ?_; rintro e w' ⟨rfl, rfl⟩)
    go_ret
    exact ⟨rfl, HR.out⟩
  by_cases hk3 : kd = 3
  · subst hk3
    by_cases hh : homeI X.pl = 1
    · have HHO := Lib.hid (homeI_1.1 hh)
      go_enter Try.func23, Try.ntmps23
      go_wp2_with (go_at_call 13; refine HH.out.mono ?_; rintro e w' ⟨rfl, rfl⟩)
      generalize W.alloc (xobj12 3 X) = WX at HX hc0 hc2 hc3 hc4 ⊢
      go_at_call 19
      refine Calls.mono (side_come HX.out.tw.a HX.out.fit.pk (fun hne => .inr (fun b o z e hb => by have := HX.out.far b o z e hne; have := HX.out.tw.lo1 b (.inl hb); omega))) ?_
      rintro e w1 ⟨v1, rfl, ho1, k1⟩
      have k1 := k1.to
      have hd3 := (HX.out.cell k1 4).trans hc4
      obtain ⟨O1', R1', L1', hT1⟩ := HX.out.tw.left k1
      have HT1 := Lib.hid hT1
      have HO1 := Lib.hid ho1
      clear k1 hT1 ho1
      go_wp2_with fail
      go_at_call 19
      refine Calls.mono (side_come HT1.out.b (HX0.out.below HT1.out.bl).pk (fun hne => .inr (fun b o z e hb => by have := HX.out.far b o z e hne; have := HX.out.tw.lo2 b (.inl hb); omega))) ?_
      rintro e w2 ⟨v2, rfl, ho2, k2⟩
      have k2 := k2.to
      have HO1' := Lib.hid (own_turn HO1.out k2.turn (fun b hb => HX.out.tw.b.lo b hb))
      have HO2 := Lib.hid ho2
      obtain ⟨O2', R2', L2', hT2⟩ := HT1.out.sym.left k2
      obtain ⟨a1, a2, a3⟩ := HX.out.al.come HHO.out
      have HR := Lib.hid (show Inv12 w0 w2 p q (m + 1) from ⟨_, _, _, _, _, _, _, _, hT2.sym, a3, by have := HX.out.m1; have := (comeR_m s X.pl).1; omega, by have := HX.out.m2; have := (comeR_m t X.pl).1; omega⟩)
      have hl16 := comeR_len HX.out.tw.b.ok X.pl
      rw [a2] at HO1'
      rw [a1]
      have HSC := Lib.hid (samecame_rows HO1'.out HO2.out (by omega))
      clear k2 hT2 a1 a2 a3 hd3 ho2 HO1 hl16
      generalize (comeR t X.pl).1 = cr
      go_wp2_with (first
        | (go_at_call 18; refine (num_any12 _ _).mono ?_; rintro e w' ⟨rfl, rfl⟩)
        | (go_at_call 28; refine HSC.out.mono ?_; rintro e w3 ⟨rfl, hb3⟩; have HR3 := Lib.hid (HR.out.step hb3); clear hb3))
      go_ret
      exact ⟨rfl, HR3.out⟩
    · have hh' : (homeI X.pl != 1) = true := by rw [bne_iff_ne]; exact hh
      go_enter Try.func23, Try.ntmps23
      go_wp2_with (go_at_call 13; refine HH.out.mono ?_; rintro e w' ⟨rfl, rfl⟩)
      go_ret
      exact ⟨rfl, HX.out.stay⟩
  by_cases hk4 : kd = 4
  · subst hk4
    go_enter Try.func23, Try.ntmps23
    go_wp2_with (go_at_call 13; refine HH.out.mono ?_; rintro e w' ⟨rfl, rfl⟩)
    generalize W.alloc (xobj12 4 X) = WX at HX hc0 hc2 hc3 hc4 ⊢
    go_at_call 21
    refine Calls.mono (side_take12 HX.out.tw.a (by decide) HX.out.fit.wb) ?_
    rintro e w1 ⟨v1, rfl, ho1, k1⟩
    have k1 := k1.to
    have hd3 := (HX.out.cell k1 2).trans hc2
    have h8 : ∀ x ∈ (takeR s 1 X.b).2.1, x < 256 := first_b8 HX.out.tw.a 1 X.b
    obtain ⟨O1', R1', L1', hT1⟩ := HX.out.tw.left k1
    have HT1 := Lib.hid hT1
    have HO1 := Lib.hid ho1
    clear k1 hT1 ho1
    go_wp2_with fail
    go_at_call 21
    refine Calls.mono (side_take12 HT1.out.b (by decide) HX.out.fit.wb) ?_
    rintro e w2 ⟨v2, rfl, ho2, k2⟩
    have k2 := k2.to
    have HO1' := Lib.hid (own_turn HO1.out k2.turn (fun b hb => HX.out.tw.b.lo b hb))
    have HO2 := Lib.hid ho2
    obtain ⟨O2', R2', L2', hT2⟩ := HT1.out.sym.left k2
    obtain ⟨a1, a2, a3⟩ := HX.out.al.take X.b
    have HR := Lib.hid (show Inv12 w0 w2 p q (m + 1) from ⟨_, _, _, _, _, _, _, _, hT2.sym, a3, by have := HX.out.m1; have := (takeR_m s 1 X.b).1; omega, by have := HX.out.m2; have := (takeR_m t 1 X.b).1; omega⟩)
    rw [a2] at HO1' h8
    rw [a1]
    obtain ⟨A1, c1, rfl, hp1, -⟩ := PkF.of_own HO1'.out h8
    obtain ⟨A2, c2, rfl, hp2, -⟩ := PkF.of_own HO2.out h8
    have hv1 := conv_pk hp1.pk _ c1 rfl
    have hv2 := conv_pk hp2.pk _ c2 rfl
    clear k2 hT2 a1 a2 a3 hd3 ho2 HO1 hp1 hp2 h8
    generalize (takeR t 1 X.b).1 = cr
    generalize (takeR t 1 X.b).2.1 = cp at *
    go_wp2_with (go_at_call 18; refine (num_any12 _ _).mono ?_; rintro e w' ⟨rfl, rfl⟩)
    go_ret
    exact ⟨rfl, HR.out⟩
  · have hLL := HX.out.al.lost X.b
    have hON := HX.out.al.openN
    have hlen : (s.openN 1).length ≤ 16 := Nat.le_trans (opens_len _ _ _) (HX.out.tw.a.ok.quota_le _)
    have HLP := Lib.hid (fun W' (hb : Below (W.alloc (xobj12 kd X)).heap.size (W.alloc (xobj12 kd X)) W') => And.intro (lost_any12 (HX.out.tw.a.step hb) (a := 1) (by decide) HX.out.fit.wb) (And.intro (len_any12 (HX.out.tw.a.step hb) (a := 1) (by decide) HX.out.fit.wb) (open_any12 (HX.out.tw.a.step hb) (a := 1) (by decide))))
    have HLQ := Lib.hid (fun W' (hb : Below (W.alloc (xobj12 kd X)).heap.size (W.alloc (xobj12 kd X)) W') => And.intro (lost_any12 (HX.out.tw.b.step hb) (a := 1) (by decide) HX.out.fit.wb) (And.intro (len_any12 (HX.out.tw.b.step hb) (a := 1) (by decide) HX.out.fit.wb) (open_any12 (HX.out.tw.b.step hb) (a := 1) (by decide))))
    rw [← hLL.1, ← hLL.2, ← hON] at HLQ
    clear hLL hON
    have HLN := Lib.hid hlen
    have hbx : W.heap.size < (W.alloc (xobj12 kd X)).heap.size := (Array.getElem?_eq_some_iff.1 HX.out.box).1
    clear hlen
    go_enter Try.func23, Try.ntmps23
    go_wp2_with (go_at_call 13; refine HH.out.mono ?_; rintro e w' ⟨rfl, rfl⟩)
    generalize W.alloc (xobj12 kd X) = WX at HX HLP HLQ hbx hc0 hc2 hc3 hc4 ⊢
    generalize W.heap.size = bx at *
    generalize s.openN 1 = ol at *
    generalize s.lost 1 X.b = sl at *
    generalize s.len 1 X.b = sn at *
    have BB := Lib.hid (show Below WX.heap.size WX WX.drew from (Below.refl _ WX).drew)
    clear hc0 hc3 hc4
    go_region_held3 (fun W' => W'.cell? ⟨bx, 2, none⟩ = some (.int .i64 X.b))
      (first | exact (BB.out.cell (p := ⟨bx, 2, none⟩) hbx).trans hc2 | go_keep)
      (first
        | (go_at_call 26; (with_reducible refine (HLP.out _ BB.out).1.mono ?_); rintro e w' ⟨rfl, rfl⟩)
        | (go_at_call 26; (with_reducible refine (HLQ.out _ BB.out).1.mono ?_); rintro e w' ⟨rfl, rfl⟩)
        | (go_at_call 20; (with_reducible refine (HLP.out _ BB.out).2.1.mono ?_); rintro e w' ⟨rfl, rfl⟩)
        | (go_at_call 20; (with_reducible refine (HLQ.out _ BB.out).2.1.mono ?_); rintro e w' ⟨rfl, rfl⟩)
        | (go_at_call 40; (with_reducible refine (HLP.out _ BB.out).2.2.mono ?_); rintro e w1 ⟨v1, rfl, ho, hb⟩; obtain ⟨A1, c1, rfl, -⟩ := own_form ho; have HR1 := Lib.hid ho; have BB := Lib.hid (BB.out.trans (hb.mono BB.out.size)); clear ho hb)
        | (go_at_call 40; (with_reducible refine (HLQ.out _ BB.out).2.2.mono ?_); rintro e w2 ⟨v2, rfl, ho, hb⟩; obtain ⟨A2, c2, rfl, -⟩ := own_form ho; have HR2 := Lib.hid ho; have HR1 := Lib.hid (own_stepF HR1.out hb); have BB := Lib.hid (BB.out.trans (hb.mono BB.out.size)); clear ho hb)
        | (go_at_call 39; refine (sameints_rows HR1.out HR2.out rfl (by have := HLN.out; omega)).mono ?_; rintro e w3 ⟨rfl, hb⟩; have BB := Lib.hid (BB.out.trans (hb.mono BB.out.size)); clear hb))
    all_goals
      have HR := Lib.hid (HX.out.stay.step BB.out)
      go_wp2_with fail
      go_ret
      exact ⟨rfl, HR.out⟩
end Go.Proofs.Ytakpankipagndaa
