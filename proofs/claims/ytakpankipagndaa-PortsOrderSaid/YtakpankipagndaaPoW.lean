/- PortsApart. -/
import Derived.Test.YtakpankipagndaaPoV
namespace Go.Proofs.Ytakpankipagndaa
open Go.RowKit (wrap64)
open Go.RowKit
open Go.Maps (Keyed)
attribute [local go_sem] Oper.semAt_some

section
variable {w0 W : World} {p q m : Nat}
def OthOut (w0 : World) (p q m : Nat) (e : Ending) (w' : World) : Prop := ∃ v, e = .returned v ∧ Inv12 w0 w' p q (m + 1)
theorem inv_claim (h : Inv12 w0 W p q m) (hm : m < 1000000) {a : Int} (ha : ¬ a = 1) {A : Option Addr} {F : List Ts} {n c : Nat} (hF : FlIn W A n c F) (hn2 : (n : Int) ≤ 9223372036854775807) :
    Calls Try.prog 17 #[.pointer (some ⟨p, 0, none⟩), .int .i64 a, .slice A n c] W (OthOut w0 p q m) := by
  obtain ⟨s, t, O1, R1, L1, O2, R2, L2, hT, hA, m1, m2⟩ := h
  refine (side_claim hT.a a hF hn2 (by omega)).mono ?_
  rintro e w' ⟨rfl, k⟩
  obtain ⟨O', R', L', hT'⟩ := hT.left k
  exact ⟨_, rfl, _, _, _, _, _, _, _, _, hT', hA.claimO ha F, by have := (claimR_m s a F).1; omega, by omega⟩
theorem inv_close (h : Inv12 w0 W p q m) {a n : Int} (ha : ¬ a = 1) (hw : wf12 a) (hn : wf12 n) :
    Calls Try.prog 22 #[.pointer (some ⟨p, 0, none⟩), .int .i64 a, .int .i64 n] W (OthOut w0 p q m) := by
  obtain ⟨s, t, O1, R1, L1, O2, R2, L2, hT, hA, m1, m2⟩ := h
  refine (side_close hT.a hw hn).mono ?_
  rintro e w' ⟨rfl, k⟩
  obtain ⟨O', R', L', hT'⟩ := hT.left k
  exact ⟨_, rfl, _, _, _, _, _, _, _, _, hT', hA.closeO ha n, by have := (closeR_m s a n).1; omega, by omega⟩
theorem inv_take (h : Inv12 w0 W p q m) {a n : Int} (ha : ¬ a = 1) (hw : wf12 a) (hn : wf12 n) :
    Calls Try.prog 21 #[.pointer (some ⟨p, 0, none⟩), .int .i64 a, .int .i64 n] W (OthOut w0 p q m) := by
  obtain ⟨s, t, O1, R1, L1, O2, R2, L2, hT, hA, m1, m2⟩ := h
  refine (side_take12 hT.a hw hn).mono ?_
  rintro e w' ⟨v, rfl, -, k⟩
  obtain ⟨O', R', L', hT'⟩ := hT.left k.to
  exact ⟨_, rfl, _, _, _, _, _, _, _, _, hT', hA.takeO ha n, by have := (takeR_m s a n).1; omega, by omega⟩
theorem inv_come (h : Inv12 w0 W p q m) {A : Option Addr} {n c : Nat} {P : List Nat} (hp : PkF W A n c P) (hh : homeN P ≠ some 1) (hfar : ∀ b o z, A = some ⟨b, o, z⟩ → P ≠ [] → b < w0.heap.size) :
    Calls Try.prog 19 #[.pointer (some ⟨p, 0, none⟩), .slice A n c] W (OthOut w0 p q m) := by
  obtain ⟨s, t, O1, R1, L1, O2, R2, L2, hT, hA, m1, m2⟩ := h
  refine (side_come hT.a hp (fun hne => .inr (fun b o z e hb => by have := hfar b o z e hne; have := hT.lo1 b (.inl hb); omega))).mono ?_
  rintro e w' ⟨v, rfl, -, k⟩
  obtain ⟨O', R', L', hT'⟩ := hT.left k.to
  exact ⟨_, rfl, _, _, _, _, _, _, _, _, hT', hA.comeO hh, by have := (comeR_m s P).1; omega, by omega⟩
end
theorem two_of {w0 W1 W2 : World} {p q r1 r2 : Nat} {s t : Ps} {O1 R1 : Nat → Prop} {L1 : Lay12} {Q1 : Nat → Prop} {Y1 : LayQ} {O2 R2 : Nat → Prop} {L2 : Lay12} {Q2 : Nat → Prop} {Y2 : LayQ} {Wa Wb : World} (ha : Below w0.heap.size w0 Wa) (h1 : Pair Wa W1 p r1 s O1 R1 L1 Q1 Y1) (hb : Below W1.heap.size W1 Wb) (h2 : Pair Wb W2 q r2 t O2 R2 L2 Q2 Y2) :
    Two12 w0 W2 p q s t O1 R1 L1 O2 R2 L2 := by
  have e1 := ha.size
  have e2 := h1.bl.size
  have e3 := hb.size
  refine ⟨(h1.po.step hb).step (h2.bl.mono (Nat.le_refl _)), h2.po, fun k hk => Nat.le_trans e1 (h1.lo k hk), fun k hk => ?_, fun k hk hk' => ?_, fun k hk hk' => ?_, ?_⟩
  · have := h2.lo k hk; omega
  · have := h1.po.lo k hk; have := h2.lo k hk'; omega
  · have := h1.po.lt hk'; have := h2.lo k (.inl hk); omega
  · exact ((ha.trans (h1.bl.mono e1)).trans (hb.mono (by omega))).trans (h2.bl.mono (by omega))
set_option maxHeartbeats 32000000 in
set_option maxRecDepth 100000 in
theorem apart_law12 (w : World) (A1 A2 : Option Addr) (n1 n2 c1 c2 : Nat) (R1 R2 : Nat → Stp12) (h1 : StepsIn12 w A1 n1 R1) (h2 : StepsIn12 w A2 n2 R2) (hn1 : (n1 : Int) ≤ 9223372036854775807) (hn2 : (n2 : Int) ≤ 9223372036854775807) :
    Calls Try.prog 6 #[.slice A1 n1 c1, .slice A2 n2 c2] w fun e w' => e = .returned (.bool true) ∧ Below w.heap.size w w' := by
  have H1 := Lib.hid h1
  have H2 := Lib.hid h2
  clear h1 h2
  go_enter Try.func6, Try.ntmps6
  go_wp2_with (go_at_call 9; refine (known_any12 _).mono ?_; rintro e wk ⟨rfl, hb⟩; have HB := Lib.hid hb; clear hb)
  go_at_call 8
  refine Calls.mono (much_any12 (H1.out.below HB.out) hn1 c1) ?_
  rintro e wm ⟨b1, rfl, hb⟩
  have HB1 := Lib.hid (HB.out.trans (hb.mono HB.out.size))
  clear hb HB
  cases b1 with
  | true =>
    go_wp2_with fail
    go_ret
    exact ⟨rfl, HB1.out⟩
  | false =>
    go_wp2_with fail
    go_at_call 8
    refine Calls.mono (much_any12 (H2.out.below HB1.out) hn2 c2) ?_
    rintro e wm2 ⟨b2, rfl, hb⟩
    have HB2 := Lib.hid (HB1.out.trans (hb.mono HB1.out.size))
    clear hb HB1
    cases b2 with
    | true =>
      go_wp2_with fail
      go_ret
      exact ⟨rfl, HB2.out⟩
    | false =>
      go_wp2_with fail
      go_at_call 10
      have hba : Below wm2.heap.size wm2 (wm2.alloc (.cells #[.int .i64 4, .int .i64 4, .int .i64 4] 3)) := (Below.refl _ wm2).alloc (Nat.le_refl _) _
      refine Calls.mono (begin_yes12 _ (some ⟨wm2.heap.size, 0, none⟩) [4, 4, 4] 3 3 rfl (ints_row12 (heap_alloc_new wm2 _)) (fun e => by cases e) (by decide +kernel)) ?_
      rintro e w3 ⟨p, r1, O1, Q1, L1, RQ1, Y1, rfl, hp1⟩
      have HA0 := Lib.hid (HB2.out.trans (hba.mono HB2.out.size))
      have HP1 := Lib.hid hp1
      clear hp1 hba
      generalize wm2.alloc (.cells #[.int .i64 4, .int .i64 4, .int .i64 4] 3) = wa at HA0 HP1
      go_wp2_with fail
      go_at_call 10
      have hba : Below w3.heap.size w3 (w3.alloc (.cells #[.int .i64 4, .int .i64 4, .int .i64 4] 3)) := (Below.refl _ w3).alloc (Nat.le_refl _) _
      refine Calls.mono (begin_yes12 _ (some ⟨w3.heap.size, 0, none⟩) [4, 4, 4] 3 3 rfl (ints_row12 (heap_alloc_new w3 _)) (fun e => by cases e) (by decide +kernel)) ?_
      rintro e w4 ⟨q, r2, O2, Q2, L2, RQ2, Y2, rfl, hp2⟩
      have HI0 := Lib.hid (show Inv12 w w4 p q 0 from ⟨_, _, _, _, _, _, _, _, two_of HA0.out HP1.out hba hp2, ⟨rfl, fun n => rfl⟩, Nat.le_refl _, Nat.le_refl _⟩)
      clear hp2 hba HA0 HP1
      go_wp2_with fail
      go_loopw [11] (fun i W => ∃ k : Nat, i = .int .i64 (k : Int) ∧ k ≤ 60 ∧ Inv12 w W p q (2 * k)) (fun i _ => 60 - (intOf i).toNat)
      case atStart => exact ⟨0, rfl, Nat.zero_le _, HI0.out⟩
      case round =>
        obtain ⟨k, rfl, hk, hi⟩ := hrel
        have HI := Lib.hid hi
        clear hi HI0
        by_cases hlt : k < 60
        · have hlt' : (k : Int) < 60 := by omega
          have hk0 : (0 : Int) ≤ (k : Int) := by omega
          have HL := Lib.hid hlt
          by_cases hot : k < n2
          · have hot' : (k : Int) < (n2 : Int) := by omega
            obtain ⟨hf2, b2, o2, rfl, hd2⟩ := (H2.out.below HI.out.bl) k hot
            have HX0 := Lib.hid (H2.out k hot).1
            generalize R2 k = X at hf2 hd2 HX0
            obtain ⟨kd, xa, xb, fA, fc, fl, pA, pc, pl⟩ := X
            have e0 := hd2 0 _ rfl
            have e1 := hd2 1 _ rfl
            have e2 := hd2 2 _ rfl
            have e3 := hd2 3 _ rfl
            have e4 := hd2 4 _ rfl
            rw [Nat.add_zero] at e0
            dsimp only at e0 e1 e2 e3 e4
            clear hd2 hf2
            have HH := Lib.hid (home_any12 ((HX0.out.below HI.out.bl).below (below_x12 wr kd ⟨kd, xa, xb, fA, fc, fl, pA, pc, pl⟩)).pk.pk (c := pc) rfl)
            rw [homeV_eq] at HH
            dsimp only at HH
            have HI := Lib.hid (HI.out.step (below_x12 wr kd ⟨kd, xa, xb, fA, fc, fl, pA, pc, pl⟩))
            by_cases hk1 : kd = 1
            · subst hk1
              by_cases hxa : xa = 1
              · subst hxa
                go_upto_region 23 with (first
                  | (go_at_call 13; refine HH.out.mono ?_; rintro e w' ⟨rfl, rfl⟩)
                  | (go_at_call 17; refine (inv_claim (HI.out) (by have := HL.out; omega) HNE.out (HX0.out.below HI.out.bl).fl HX0.out.fn).mono ?_; rintro e w6 ⟨v6, rfl, hi6⟩; have HI := Lib.hid hi6; clear hi6)
                  | (go_at_call 22; refine (inv_close (HI.out) HNE.out HX0.out.wa HX0.out.wb).mono ?_; rintro e w6 ⟨v6, rfl, hi6⟩; have HI := Lib.hid hi6; clear hi6)
                  | (go_at_call 21; refine (inv_take (HI.out) HNE.out HX0.out.wa HX0.out.wb).mono ?_; rintro e w6 ⟨v6, rfl, hi6⟩; have HI := Lib.hid hi6; clear hi6)
                  | (go_at_call 19; refine (inv_come (HI.out) (HX0.out.below HI.out.bl).pk HNH.out (far_of12 HX0.out)).mono ?_; rintro e w6 ⟨v6, rfl, hi6⟩; have HI := Lib.hid hi6; clear hi6)
                  | fail)
                (have HJ := Lib.hid (show Inv12 w _ p q (2 * k + 1) from (by first | exact HI.out | exact HI.out.mono (by omega))))
                clear HI
                by_cases hmi : k < n1
                · have hmi' : (k : Int) < (n1 : Int) := by omega
                  obtain ⟨hf1, b1, o1, rfl, hd1⟩ := (H1.out.below HJ.out.bl) k hmi
                  have HF1 := Lib.hid (H1.out k hmi).1
                  generalize R1 k = X1 at hf1 hd1 HF1
                  have d0 := hd1 0 _ rfl
                  have d1 := hd1 1 _ rfl
                  have d2 := hd1 2 _ rfl
                  have d3 := hd1 3 _ rfl
                  have d4 := hd1 4 _ rfl
                  rw [Nat.add_zero] at d0
                  clear hd1 hf1
                  go_wp2_with (go_at_call 23; refine (alike_any12 HJ.out (by have := HL.out; omega) X1 HF1.out X1.kd).mono ?_; rintro e w8 ⟨rfl, hi8⟩; have HK := Lib.hid hi8; clear hi8)
                  go_roundw
                  case rel => exact ⟨k + 1, by go_num, by omega, HK.out⟩
                  case measure => simp [intOf]; omega
                · have hmi' : ¬ (k : Int) < (n1 : Int) := by omega
                  go_wp2_with fail
                  go_roundw
                  case rel => exact ⟨k + 1, by go_num, by omega, HJ.out.mono (by omega)⟩
                  case measure => simp [intOf]; omega
              · have hxa' : (xa != 1) = true := by rw [bne_iff_ne]; exact hxa
                have HNE := Lib.hid hxa
                go_upto_region 23 with (first
                  | (go_at_call 13; refine HH.out.mono ?_; rintro e w' ⟨rfl, rfl⟩)
                  | (go_at_call 17; refine (inv_claim (HI.out) (by have := HL.out; omega) HNE.out (HX0.out.below HI.out.bl).fl HX0.out.fn).mono ?_; rintro e w6 ⟨v6, rfl, hi6⟩; have HI := Lib.hid hi6; clear hi6)
                  | (go_at_call 22; refine (inv_close (HI.out) HNE.out HX0.out.wa HX0.out.wb).mono ?_; rintro e w6 ⟨v6, rfl, hi6⟩; have HI := Lib.hid hi6; clear hi6)
                  | (go_at_call 21; refine (inv_take (HI.out) HNE.out HX0.out.wa HX0.out.wb).mono ?_; rintro e w6 ⟨v6, rfl, hi6⟩; have HI := Lib.hid hi6; clear hi6)
                  | (go_at_call 19; refine (inv_come (HI.out) (HX0.out.below HI.out.bl).pk HNH.out (far_of12 HX0.out)).mono ?_; rintro e w6 ⟨v6, rfl, hi6⟩; have HI := Lib.hid hi6; clear hi6)
                  | fail)
                (have HJ := Lib.hid (show Inv12 w _ p q (2 * k + 1) from (by first | exact HI.out | exact HI.out.mono (by omega))))
                clear HI
                by_cases hmi : k < n1
                · have hmi' : (k : Int) < (n1 : Int) := by omega
                  obtain ⟨hf1, b1, o1, rfl, hd1⟩ := (H1.out.below HJ.out.bl) k hmi
                  have HF1 := Lib.hid (H1.out k hmi).1
                  generalize R1 k = X1 at hf1 hd1 HF1
                  have d0 := hd1 0 _ rfl
                  have d1 := hd1 1 _ rfl
                  have d2 := hd1 2 _ rfl
                  have d3 := hd1 3 _ rfl
                  have d4 := hd1 4 _ rfl
                  rw [Nat.add_zero] at d0
                  clear hd1 hf1
                  go_wp2_with (go_at_call 23; refine (alike_any12 HJ.out (by have := HL.out; omega) X1 HF1.out X1.kd).mono ?_; rintro e w8 ⟨rfl, hi8⟩; have HK := Lib.hid hi8; clear hi8)
                  go_roundw
                  case rel => exact ⟨k + 1, by go_num, by omega, HK.out⟩
                  case measure => simp [intOf]; omega
                · have hmi' : ¬ (k : Int) < (n1 : Int) := by omega
                  go_wp2_with fail
                  go_roundw
                  case rel => exact ⟨k + 1, by go_num, by omega, HJ.out.mono (by omega)⟩
                  case measure => simp [intOf]; omega
            by_cases hk2 : kd = 2
            · subst hk2
              by_cases hxa : xa = 1
              · subst hxa
                go_upto_region 23 with (first
                  | (go_at_call 13; refine HH.out.mono ?_; rintro e w' ⟨rfl, rfl⟩)
                  | (go_at_call 17; refine (inv_claim (HI.out) (by have := HL.out; omega) HNE.out (HX0.out.below HI.out.bl).fl HX0.out.fn).mono ?_; rintro e w6 ⟨v6, rfl, hi6⟩; have HI := Lib.hid hi6; clear hi6)
                  | (go_at_call 22; refine (inv_close (HI.out) HNE.out HX0.out.wa HX0.out.wb).mono ?_; rintro e w6 ⟨v6, rfl, hi6⟩; have HI := Lib.hid hi6; clear hi6)
                  | (go_at_call 21; refine (inv_take (HI.out) HNE.out HX0.out.wa HX0.out.wb).mono ?_; rintro e w6 ⟨v6, rfl, hi6⟩; have HI := Lib.hid hi6; clear hi6)
                  | (go_at_call 19; refine (inv_come (HI.out) (HX0.out.below HI.out.bl).pk HNH.out (far_of12 HX0.out)).mono ?_; rintro e w6 ⟨v6, rfl, hi6⟩; have HI := Lib.hid hi6; clear hi6)
                  | fail)
                (have HJ := Lib.hid (show Inv12 w _ p q (2 * k + 1) from (by first | exact HI.out | exact HI.out.mono (by omega))))
                clear HI
                by_cases hmi : k < n1
                · have hmi' : (k : Int) < (n1 : Int) := by omega
                  obtain ⟨hf1, b1, o1, rfl, hd1⟩ := (H1.out.below HJ.out.bl) k hmi
                  have HF1 := Lib.hid (H1.out k hmi).1
                  generalize R1 k = X1 at hf1 hd1 HF1
                  have d0 := hd1 0 _ rfl
                  have d1 := hd1 1 _ rfl
                  have d2 := hd1 2 _ rfl
                  have d3 := hd1 3 _ rfl
                  have d4 := hd1 4 _ rfl
                  rw [Nat.add_zero] at d0
                  clear hd1 hf1
                  go_wp2_with (go_at_call 23; refine (alike_any12 HJ.out (by have := HL.out; omega) X1 HF1.out X1.kd).mono ?_; rintro e w8 ⟨rfl, hi8⟩; have HK := Lib.hid hi8; clear hi8)
                  go_roundw
                  case rel => exact ⟨k + 1, by go_num, by omega, HK.out⟩
                  case measure => simp [intOf]; omega
                · have hmi' : ¬ (k : Int) < (n1 : Int) := by omega
                  go_wp2_with fail
                  go_roundw
                  case rel => exact ⟨k + 1, by go_num, by omega, HJ.out.mono (by omega)⟩
                  case measure => simp [intOf]; omega
              · have hxa' : (xa != 1) = true := by rw [bne_iff_ne]; exact hxa
                have HNE := Lib.hid hxa
                go_upto_region 23 with (first
                  | (go_at_call 13; refine HH.out.mono ?_; rintro e w' ⟨rfl, rfl⟩)
                  | (go_at_call 17; refine (inv_claim (HI.out) (by have := HL.out; omega) HNE.out (HX0.out.below HI.out.bl).fl HX0.out.fn).mono ?_; rintro e w6 ⟨v6, rfl, hi6⟩; have HI := Lib.hid hi6; clear hi6)
                  | (go_at_call 22; refine (inv_close (HI.out) HNE.out HX0.out.wa HX0.out.wb).mono ?_; rintro e w6 ⟨v6, rfl, hi6⟩; have HI := Lib.hid hi6; clear hi6)
                  | (go_at_call 21; refine (inv_take (HI.out) HNE.out HX0.out.wa HX0.out.wb).mono ?_; rintro e w6 ⟨v6, rfl, hi6⟩; have HI := Lib.hid hi6; clear hi6)
                  | (go_at_call 19; refine (inv_come (HI.out) (HX0.out.below HI.out.bl).pk HNH.out (far_of12 HX0.out)).mono ?_; rintro e w6 ⟨v6, rfl, hi6⟩; have HI := Lib.hid hi6; clear hi6)
                  | fail)
                (have HJ := Lib.hid (show Inv12 w _ p q (2 * k + 1) from (by first | exact HI.out | exact HI.out.mono (by omega))))
                clear HI
                by_cases hmi : k < n1
                · have hmi' : (k : Int) < (n1 : Int) := by omega
                  obtain ⟨hf1, b1, o1, rfl, hd1⟩ := (H1.out.below HJ.out.bl) k hmi
                  have HF1 := Lib.hid (H1.out k hmi).1
                  generalize R1 k = X1 at hf1 hd1 HF1
                  have d0 := hd1 0 _ rfl
                  have d1 := hd1 1 _ rfl
                  have d2 := hd1 2 _ rfl
                  have d3 := hd1 3 _ rfl
                  have d4 := hd1 4 _ rfl
                  rw [Nat.add_zero] at d0
                  clear hd1 hf1
                  go_wp2_with (go_at_call 23; refine (alike_any12 HJ.out (by have := HL.out; omega) X1 HF1.out X1.kd).mono ?_; rintro e w8 ⟨rfl, hi8⟩; have HK := Lib.hid hi8; clear hi8)
                  go_roundw
                  case rel => exact ⟨k + 1, by go_num, by omega, HK.out⟩
                  case measure => simp [intOf]; omega
                · have hmi' : ¬ (k : Int) < (n1 : Int) := by omega
                  go_wp2_with fail
                  go_roundw
                  case rel => exact ⟨k + 1, by go_num, by omega, HJ.out.mono (by omega)⟩
                  case measure => simp [intOf]; omega
            by_cases hk3 : kd = 3
            · subst hk3
              by_cases hh : homeN pl = some 1
              · have hI : homeI pl = 1 := homeI_1.2 hh
                have hB : homeB pl = true := by unfold homeB; rw [hh]; rfl
                rw [hI, hB] at HH
                clear hI hB hh
                go_upto_region 23 with (first
                  | (go_at_call 13; refine HH.out.mono ?_; rintro e w' ⟨rfl, rfl⟩)
                  | (go_at_call 17; refine (inv_claim (HI.out) (by have := HL.out; omega) HNE.out (HX0.out.below HI.out.bl).fl HX0.out.fn).mono ?_; rintro e w6 ⟨v6, rfl, hi6⟩; have HI := Lib.hid hi6; clear hi6)
                  | (go_at_call 22; refine (inv_close (HI.out) HNE.out HX0.out.wa HX0.out.wb).mono ?_; rintro e w6 ⟨v6, rfl, hi6⟩; have HI := Lib.hid hi6; clear hi6)
                  | (go_at_call 21; refine (inv_take (HI.out) HNE.out HX0.out.wa HX0.out.wb).mono ?_; rintro e w6 ⟨v6, rfl, hi6⟩; have HI := Lib.hid hi6; clear hi6)
                  | (go_at_call 19; refine (inv_come (HI.out) (HX0.out.below HI.out.bl).pk HNH.out (far_of12 HX0.out)).mono ?_; rintro e w6 ⟨v6, rfl, hi6⟩; have HI := Lib.hid hi6; clear hi6)
                  | fail)
                (have HJ := Lib.hid (show Inv12 w _ p q (2 * k + 1) from (by first | exact HI.out | exact HI.out.mono (by omega))))
                clear HI
                by_cases hmi : k < n1
                · have hmi' : (k : Int) < (n1 : Int) := by omega
                  obtain ⟨hf1, b1, o1, rfl, hd1⟩ := (H1.out.below HJ.out.bl) k hmi
                  have HF1 := Lib.hid (H1.out k hmi).1
                  generalize R1 k = X1 at hf1 hd1 HF1
                  have d0 := hd1 0 _ rfl
                  have d1 := hd1 1 _ rfl
                  have d2 := hd1 2 _ rfl
                  have d3 := hd1 3 _ rfl
                  have d4 := hd1 4 _ rfl
                  rw [Nat.add_zero] at d0
                  clear hd1 hf1
                  go_wp2_with (go_at_call 23; refine (alike_any12 HJ.out (by have := HL.out; omega) X1 HF1.out X1.kd).mono ?_; rintro e w8 ⟨rfl, hi8⟩; have HK := Lib.hid hi8; clear hi8)
                  go_roundw
                  case rel => exact ⟨k + 1, by go_num, by omega, HK.out⟩
                  case measure => simp [intOf]; omega
                · have hmi' : ¬ (k : Int) < (n1 : Int) := by omega
                  go_wp2_with fail
                  go_roundw
                  case rel => exact ⟨k + 1, by go_num, by omega, HJ.out.mono (by omega)⟩
                  case measure => simp [intOf]; omega
              · have HNH := Lib.hid hh
                cases hB : homeB pl with
                | false =>
                  rw [hB] at HH
                  generalize homeI pl = hi9 at HH
                  clear hB hh
                  go_upto_region 23 with (first
                    | (go_at_call 13; refine HH.out.mono ?_; rintro e w' ⟨rfl, rfl⟩)
                    | (go_at_call 17; refine (inv_claim (HI.out) (by have := HL.out; omega) HNE.out (HX0.out.below HI.out.bl).fl HX0.out.fn).mono ?_; rintro e w6 ⟨v6, rfl, hi6⟩; have HI := Lib.hid hi6; clear hi6)
                    | (go_at_call 22; refine (inv_close (HI.out) HNE.out HX0.out.wa HX0.out.wb).mono ?_; rintro e w6 ⟨v6, rfl, hi6⟩; have HI := Lib.hid hi6; clear hi6)
                    | (go_at_call 21; refine (inv_take (HI.out) HNE.out HX0.out.wa HX0.out.wb).mono ?_; rintro e w6 ⟨v6, rfl, hi6⟩; have HI := Lib.hid hi6; clear hi6)
                    | (go_at_call 19; refine (inv_come (HI.out) (HX0.out.below HI.out.bl).pk HNH.out (far_of12 HX0.out)).mono ?_; rintro e w6 ⟨v6, rfl, hi6⟩; have HI := Lib.hid hi6; clear hi6)
                    | fail)
                  (have HJ := Lib.hid (show Inv12 w _ p q (2 * k + 1) from (by first | exact HI.out | exact HI.out.mono (by omega))))
                  clear HI
                  by_cases hmi : k < n1
                  · have hmi' : (k : Int) < (n1 : Int) := by omega
                    obtain ⟨hf1, b1, o1, rfl, hd1⟩ := (H1.out.below HJ.out.bl) k hmi
                    have HF1 := Lib.hid (H1.out k hmi).1
                    generalize R1 k = X1 at hf1 hd1 HF1
                    have d0 := hd1 0 _ rfl
                    have d1 := hd1 1 _ rfl
                    have d2 := hd1 2 _ rfl
                    have d3 := hd1 3 _ rfl
                    have d4 := hd1 4 _ rfl
                    rw [Nat.add_zero] at d0
                    clear hd1 hf1
                    go_wp2_with (go_at_call 23; refine (alike_any12 HJ.out (by have := HL.out; omega) X1 HF1.out X1.kd).mono ?_; rintro e w8 ⟨rfl, hi8⟩; have HK := Lib.hid hi8; clear hi8)
                    go_roundw
                    case rel => exact ⟨k + 1, by go_num, by omega, HK.out⟩
                    case measure => simp [intOf]; omega
                  · have hmi' : ¬ (k : Int) < (n1 : Int) := by omega
                    go_wp2_with fail
                    go_roundw
                    case rel => exact ⟨k + 1, by go_num, by omega, HJ.out.mono (by omega)⟩
                    case measure => simp [intOf]; omega
                | true =>
                  have hI : (homeI pl != 1) = true := by rw [bne_iff_ne]; exact fun e => hh (homeI_1.1 e)
                  rw [hB] at HH
                  generalize homeI pl = hi9 at HH hI
                  clear hB hh
                  go_upto_region 23 with (first
                    | (go_at_call 13; refine HH.out.mono ?_; rintro e w' ⟨rfl, rfl⟩)
                    | (go_at_call 17; refine (inv_claim (HI.out) (by have := HL.out; omega) HNE.out (HX0.out.below HI.out.bl).fl HX0.out.fn).mono ?_; rintro e w6 ⟨v6, rfl, hi6⟩; have HI := Lib.hid hi6; clear hi6)
                    | (go_at_call 22; refine (inv_close (HI.out) HNE.out HX0.out.wa HX0.out.wb).mono ?_; rintro e w6 ⟨v6, rfl, hi6⟩; have HI := Lib.hid hi6; clear hi6)
                    | (go_at_call 21; refine (inv_take (HI.out) HNE.out HX0.out.wa HX0.out.wb).mono ?_; rintro e w6 ⟨v6, rfl, hi6⟩; have HI := Lib.hid hi6; clear hi6)
                    | (go_at_call 19; refine (inv_come (HI.out) (HX0.out.below HI.out.bl).pk HNH.out (far_of12 HX0.out)).mono ?_; rintro e w6 ⟨v6, rfl, hi6⟩; have HI := Lib.hid hi6; clear hi6)
                    | fail)
                  (have HJ := Lib.hid (show Inv12 w _ p q (2 * k + 1) from (by first | exact HI.out | exact HI.out.mono (by omega))))
                  clear HI
                  by_cases hmi : k < n1
                  · have hmi' : (k : Int) < (n1 : Int) := by omega
                    obtain ⟨hf1, b1, o1, rfl, hd1⟩ := (H1.out.below HJ.out.bl) k hmi
                    have HF1 := Lib.hid (H1.out k hmi).1
                    generalize R1 k = X1 at hf1 hd1 HF1
                    have d0 := hd1 0 _ rfl
                    have d1 := hd1 1 _ rfl
                    have d2 := hd1 2 _ rfl
                    have d3 := hd1 3 _ rfl
                    have d4 := hd1 4 _ rfl
                    rw [Nat.add_zero] at d0
                    clear hd1 hf1
                    go_wp2_with (go_at_call 23; refine (alike_any12 HJ.out (by have := HL.out; omega) X1 HF1.out X1.kd).mono ?_; rintro e w8 ⟨rfl, hi8⟩; have HK := Lib.hid hi8; clear hi8)
                    go_roundw
                    case rel => exact ⟨k + 1, by go_num, by omega, HK.out⟩
                    case measure => simp [intOf]; omega
                  · have hmi' : ¬ (k : Int) < (n1 : Int) := by omega
                    go_wp2_with fail
                    go_roundw
                    case rel => exact ⟨k + 1, by go_num, by omega, HJ.out.mono (by omega)⟩
                    case measure => simp [intOf]; omega
            by_cases hk4 : kd = 4
            · subst hk4
              by_cases hxa : xa = 1
              · subst hxa
                go_upto_region 23 with (first
                  | (go_at_call 13; refine HH.out.mono ?_; rintro e w' ⟨rfl, rfl⟩)
                  | (go_at_call 17; refine (inv_claim (HI.out) (by have := HL.out; omega) HNE.out (HX0.out.below HI.out.bl).fl HX0.out.fn).mono ?_; rintro e w6 ⟨v6, rfl, hi6⟩; have HI := Lib.hid hi6; clear hi6)
                  | (go_at_call 22; refine (inv_close (HI.out) HNE.out HX0.out.wa HX0.out.wb).mono ?_; rintro e w6 ⟨v6, rfl, hi6⟩; have HI := Lib.hid hi6; clear hi6)
                  | (go_at_call 21; refine (inv_take (HI.out) HNE.out HX0.out.wa HX0.out.wb).mono ?_; rintro e w6 ⟨v6, rfl, hi6⟩; have HI := Lib.hid hi6; clear hi6)
                  | (go_at_call 19; refine (inv_come (HI.out) (HX0.out.below HI.out.bl).pk HNH.out (far_of12 HX0.out)).mono ?_; rintro e w6 ⟨v6, rfl, hi6⟩; have HI := Lib.hid hi6; clear hi6)
                  | fail)
                (have HJ := Lib.hid (show Inv12 w _ p q (2 * k + 1) from (by first | exact HI.out | exact HI.out.mono (by omega))))
                clear HI
                by_cases hmi : k < n1
                · have hmi' : (k : Int) < (n1 : Int) := by omega
                  obtain ⟨hf1, b1, o1, rfl, hd1⟩ := (H1.out.below HJ.out.bl) k hmi
                  have HF1 := Lib.hid (H1.out k hmi).1
                  generalize R1 k = X1 at hf1 hd1 HF1
                  have d0 := hd1 0 _ rfl
                  have d1 := hd1 1 _ rfl
                  have d2 := hd1 2 _ rfl
                  have d3 := hd1 3 _ rfl
                  have d4 := hd1 4 _ rfl
                  rw [Nat.add_zero] at d0
                  clear hd1 hf1
                  go_wp2_with (go_at_call 23; refine (alike_any12 HJ.out (by have := HL.out; omega) X1 HF1.out X1.kd).mono ?_; rintro e w8 ⟨rfl, hi8⟩; have HK := Lib.hid hi8; clear hi8)
                  go_roundw
                  case rel => exact ⟨k + 1, by go_num, by omega, HK.out⟩
                  case measure => simp [intOf]; omega
                · have hmi' : ¬ (k : Int) < (n1 : Int) := by omega
                  go_wp2_with fail
                  go_roundw
                  case rel => exact ⟨k + 1, by go_num, by omega, HJ.out.mono (by omega)⟩
                  case measure => simp [intOf]; omega
              · have hxa' : (xa != 1) = true := by rw [bne_iff_ne]; exact hxa
                have HNE := Lib.hid hxa
                go_upto_region 23 with (first
                  | (go_at_call 13; refine HH.out.mono ?_; rintro e w' ⟨rfl, rfl⟩)
                  | (go_at_call 17; refine (inv_claim (HI.out) (by have := HL.out; omega) HNE.out (HX0.out.below HI.out.bl).fl HX0.out.fn).mono ?_; rintro e w6 ⟨v6, rfl, hi6⟩; have HI := Lib.hid hi6; clear hi6)
                  | (go_at_call 22; refine (inv_close (HI.out) HNE.out HX0.out.wa HX0.out.wb).mono ?_; rintro e w6 ⟨v6, rfl, hi6⟩; have HI := Lib.hid hi6; clear hi6)
                  | (go_at_call 21; refine (inv_take (HI.out) HNE.out HX0.out.wa HX0.out.wb).mono ?_; rintro e w6 ⟨v6, rfl, hi6⟩; have HI := Lib.hid hi6; clear hi6)
                  | (go_at_call 19; refine (inv_come (HI.out) (HX0.out.below HI.out.bl).pk HNH.out (far_of12 HX0.out)).mono ?_; rintro e w6 ⟨v6, rfl, hi6⟩; have HI := Lib.hid hi6; clear hi6)
                  | fail)
                (have HJ := Lib.hid (show Inv12 w _ p q (2 * k + 1) from (by first | exact HI.out | exact HI.out.mono (by omega))))
                clear HI
                by_cases hmi : k < n1
                · have hmi' : (k : Int) < (n1 : Int) := by omega
                  obtain ⟨hf1, b1, o1, rfl, hd1⟩ := (H1.out.below HJ.out.bl) k hmi
                  have HF1 := Lib.hid (H1.out k hmi).1
                  generalize R1 k = X1 at hf1 hd1 HF1
                  have d0 := hd1 0 _ rfl
                  have d1 := hd1 1 _ rfl
                  have d2 := hd1 2 _ rfl
                  have d3 := hd1 3 _ rfl
                  have d4 := hd1 4 _ rfl
                  rw [Nat.add_zero] at d0
                  clear hd1 hf1
                  go_wp2_with (go_at_call 23; refine (alike_any12 HJ.out (by have := HL.out; omega) X1 HF1.out X1.kd).mono ?_; rintro e w8 ⟨rfl, hi8⟩; have HK := Lib.hid hi8; clear hi8)
                  go_roundw
                  case rel => exact ⟨k + 1, by go_num, by omega, HK.out⟩
                  case measure => simp [intOf]; omega
                · have hmi' : ¬ (k : Int) < (n1 : Int) := by omega
                  go_wp2_with fail
                  go_roundw
                  case rel => exact ⟨k + 1, by go_num, by omega, HJ.out.mono (by omega)⟩
                  case measure => simp [intOf]; omega
            · generalize homeI pl = hi9 at HH
              generalize homeB pl = hb9 at HH
              go_upto_region 23 with (first
                | (go_at_call 13; refine HH.out.mono ?_; rintro e w' ⟨rfl, rfl⟩)
                | (go_at_call 17; refine (inv_claim (HI.out) (by have := HL.out; omega) HNE.out (HX0.out.below HI.out.bl).fl HX0.out.fn).mono ?_; rintro e w6 ⟨v6, rfl, hi6⟩; have HI := Lib.hid hi6; clear hi6)
                | (go_at_call 22; refine (inv_close (HI.out) HNE.out HX0.out.wa HX0.out.wb).mono ?_; rintro e w6 ⟨v6, rfl, hi6⟩; have HI := Lib.hid hi6; clear hi6)
                | (go_at_call 21; refine (inv_take (HI.out) HNE.out HX0.out.wa HX0.out.wb).mono ?_; rintro e w6 ⟨v6, rfl, hi6⟩; have HI := Lib.hid hi6; clear hi6)
                | (go_at_call 19; refine (inv_come (HI.out) (HX0.out.below HI.out.bl).pk HNH.out (far_of12 HX0.out)).mono ?_; rintro e w6 ⟨v6, rfl, hi6⟩; have HI := Lib.hid hi6; clear hi6)
                | fail)
              (have HJ := Lib.hid (show Inv12 w _ p q (2 * k + 1) from (by first | exact HI.out | exact HI.out.mono (by omega))))
              clear HI
              by_cases hmi : k < n1
              · have hmi' : (k : Int) < (n1 : Int) := by omega
                obtain ⟨hf1, b1, o1, rfl, hd1⟩ := (H1.out.below HJ.out.bl) k hmi
                have HF1 := Lib.hid (H1.out k hmi).1
                generalize R1 k = X1 at hf1 hd1 HF1
                have d0 := hd1 0 _ rfl
                have d1 := hd1 1 _ rfl
                have d2 := hd1 2 _ rfl
                have d3 := hd1 3 _ rfl
                have d4 := hd1 4 _ rfl
                rw [Nat.add_zero] at d0
                clear hd1 hf1
                go_wp2_with (go_at_call 23; refine (alike_any12 HJ.out (by have := HL.out; omega) X1 HF1.out X1.kd).mono ?_; rintro e w8 ⟨rfl, hi8⟩; have HK := Lib.hid hi8; clear hi8)
                go_roundw
                case rel => exact ⟨k + 1, by go_num, by omega, HK.out⟩
                case measure => simp [intOf]; omega
              · have hmi' : ¬ (k : Int) < (n1 : Int) := by omega
                go_wp2_with fail
                go_roundw
                case rel => exact ⟨k + 1, by go_num, by omega, HJ.out.mono (by omega)⟩
                case measure => simp [intOf]; omega
          · have hot' : ¬ (k : Int) < (n2 : Int) := by omega
            go_upto_region 23 with (first
              | (go_at_call 13; refine HH.out.mono ?_; rintro e w' ⟨rfl, rfl⟩)
              | (go_at_call 17; refine (inv_claim (HI.out) (by have := HL.out; omega) HNE.out (HX0.out.below HI.out.bl).fl HX0.out.fn).mono ?_; rintro e w6 ⟨v6, rfl, hi6⟩; have HI := Lib.hid hi6; clear hi6)
              | (go_at_call 22; refine (inv_close (HI.out) HNE.out HX0.out.wa HX0.out.wb).mono ?_; rintro e w6 ⟨v6, rfl, hi6⟩; have HI := Lib.hid hi6; clear hi6)
              | (go_at_call 21; refine (inv_take (HI.out) HNE.out HX0.out.wa HX0.out.wb).mono ?_; rintro e w6 ⟨v6, rfl, hi6⟩; have HI := Lib.hid hi6; clear hi6)
              | (go_at_call 19; refine (inv_come (HI.out) (HX0.out.below HI.out.bl).pk HNH.out (far_of12 HX0.out)).mono ?_; rintro e w6 ⟨v6, rfl, hi6⟩; have HI := Lib.hid hi6; clear hi6)
              | fail)
            (have HJ := Lib.hid (show Inv12 w _ p q (2 * k + 1) from (by first | exact HI.out | exact HI.out.mono (by omega))))
            clear HI
            by_cases hmi : k < n1
            · have hmi' : (k : Int) < (n1 : Int) := by omega
              obtain ⟨hf1, b1, o1, rfl, hd1⟩ := (H1.out.below HJ.out.bl) k hmi
              have HF1 := Lib.hid (H1.out k hmi).1
              generalize R1 k = X1 at hf1 hd1 HF1
              have d0 := hd1 0 _ rfl
              have d1 := hd1 1 _ rfl
              have d2 := hd1 2 _ rfl
              have d3 := hd1 3 _ rfl
              have d4 := hd1 4 _ rfl
              rw [Nat.add_zero] at d0
              clear hd1 hf1
              go_wp2_with (go_at_call 23; refine (alike_any12 HJ.out (by have := HL.out; omega) X1 HF1.out X1.kd).mono ?_; rintro e w8 ⟨rfl, hi8⟩; have HK := Lib.hid hi8; clear hi8)
              go_roundw
              case rel => exact ⟨k + 1, by go_num, by omega, HK.out⟩
              case measure => simp [intOf]; omega
            · have hmi' : ¬ (k : Int) < (n1 : Int) := by omega
              go_wp2_with fail
              go_roundw
              case rel => exact ⟨k + 1, by go_num, by omega, HJ.out.mono (by omega)⟩
              case measure => simp [intOf]; omega
        · have hlt' : ¬ (k : Int) < 60 := by omega
          go_wp2_with fail
          go_ret
          exact ⟨rfl, HI.out.bl⟩
end Go.Proofs.Ytakpankipagndaa
