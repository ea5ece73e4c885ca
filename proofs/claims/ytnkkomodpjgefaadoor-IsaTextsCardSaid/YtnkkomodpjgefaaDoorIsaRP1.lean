/- The document's Parse, some of the forms. -/
import Derived.Test.YtnkkomodpjgefaaDoorIsaRP0
namespace Go.Proofs.YtnkkomodpjgefaaDoor
open Go.RowKit Go.Sort

set_option maxHeartbeats 3200000 in
set_option maxRecDepth 100000 in
theorem rparse_0 (s : ByteArray) (hs : s.size ≤ 4000) (op : Int) (w : World) (he : Env w) (hop : rcOp s = op) (hf : formOf op = 0) :
    Calls Tryd.prog 21 #[.string s] w fun e w' => e = .returned (rpV op 0 0 0 0 s) ∧ Below w.heap.size w w' := by
  have HE := Lib.hid he
  have HF := Lib.hid hf
  have HOP := Lib.hid hop
  have eD : nmD 0 = false := rfl
  have eA : nmA 0 = false := rfl
  have eB : nmB 0 = false := rfl
  have eM : nmM 0 = false := rfl
  have hl9 := cutL_len s.data.toList
  have hlp := cutL_pos s.data.toList
  have HX : Hid (∀ x ∈ rL s, x.length ≤ 4000) := Lib.hid (fun x hx => Nat.le_trans (cutL_small s.data.toList x hx) (by rw [size_data]; exact hs))
  clear he hf hop
  go_enter Tryd.func21, Tryd.ntmps21
  go_wp2_with (go_at_call 47; refine (cut_walk s _ rfl hs _).mono ?_; rintro e w1 ⟨v1, rfl, h1, hb1⟩)
  have E1 := Lib.hid ((HE.out.alloc _).below hb1)
  have R1 : InsIs w1 w.heap.size (.int .i64 0) (.int .i64 0) (.int .i64 0) (.int .i64 0) (.int .i64 0) := InsIs.below ⟨⟨by simp, by simp, by simp, by simp, by simp⟩, fun o => by simp, by simp⟩ hb1 (by simp)
  have hbz := Bl.step (Bl.alloc (Below.refl _ _) _) hb1
  obtain ⟨g, sc, rfl, hpos, hg0, hg1, hl0⟩ := own_first h1 hlp
  have H1 := Lib.hid h1
  have HL9 := Lib.hid hl9
  generalize hnm : ({ data := ((cutL s.data.toList).getD 0 []).toArray } : ByteArray) = nm at hl0
  have HNM := Lib.hid hnm
  generalize hLn : (cutL s.data.toList).length = n at *
  have HLN := Lib.hid hLn
  clear hnm hLn h1 hl9 hlp
  have hpos' : (0 : Int) < (n : Int) := by omega
  have hz1 := hb1.size
  simp at hz1
  go_loopw [6] (fun i wr => ∃ j : Nat, 1 ≤ j ∧ j ≤ 29 ∧ i = .int .i64 j ∧ InsIs wr w1.heap.size (.int .i64 (wantV nm (j - 1))) (.int .i64 0) (.int .i64 0) (.int .i64 0) (.int .i64 0) ∧ Below w1.heap.size w1 wr)
    (fun i _ => 29 - (intOf i).toNat)
  case atStart => exact ⟨1, by omega, by omega, rfl, ⟨⟨by simp [wantV, findN, opsUpto], by simp, by simp, by simp, by simp⟩, fun o => by simp, by simp⟩, Bl.alloc (Below.refl _ _) _⟩
  case round =>
    obtain ⟨j, hj1, hj2, rfl, hIns, hbw⟩ := hrel
    have hl0' : wr.cell? ⟨g, 0, none⟩ = some (.string nm) := by rw [hbw.cell (p := ⟨g, 0, none⟩) hg1]; exact hl0
    by_cases hlt : j < 29
    · have hnc := name_cell j hlt
      have hj0 : (0 : Int) ≤ (j : Int) := by omega
      have hj28 : (j : Int) ≤ 28 := by omega
      have hgw : g < wr.heap.size := by have := hIns.2.2; omega
      cases hq : ((nameOf (j : Int)).toList == nm.toList)
      · have HQ := Lib.hid (want_miss' hj1 hlt hq)
        have HI := Lib.hid hIns
        clear hIns
        go_wp2
        go_region_with (go_at_call 27; refine (rNames_any _).mono ?_; rintro e w5 ⟨rfl, rfl⟩)
        all_goals
          go_wp2
          go_roundw
          case rel => exact ⟨j + 1, by omega, by omega, by go_num, by rw [Nat.add_sub_cancel, HQ.out.1]; exact HI.out.grow _, Bl.drew (Bl.alloc hbw _)⟩
          case measure => simp [intOf]; omega
      · have HQ := Lib.hid (want_hit' hj1 hlt hq)
        have HI := Lib.hid hIns
        obtain ⟨⟨k0, k1, k2, k3, k4⟩, kf, kB⟩ := hIns.grow (.cells nameCells 9)
        clear hIns
        go_wp2
        go_region_with (go_at_call 27; refine (rNames_any _).mono ?_; rintro e w5 ⟨rfl, rfl⟩)
        all_goals
          go_wp2
          go_roundw
          case rel => exact ⟨j + 1, by omega, by omega, by go_num, by rw [Nat.add_sub_cancel, HQ.out.1]; exact (HI.out.grow _).set0 _, (Bl.drew (Bl.alloc hbw _)).setCell (Nat.le_refl _) _⟩
          case measure => simp [intOf]; omega
    · obtain rfl : j = 29 := by omega
      have hopw : wantV nm (29 - 1) = op := (want_all nm).1.trans (by rw [← HNM.out]; exact HOP.out)
      rw [hopw] at hIns
      clear hopw hl0 hl0'
      have I0 := hIns
      obtain ⟨⟨k0, k1, k2, k3, k4⟩, kf, kB⟩ := hIns
      have hgB : g < wr.heap.size := by omega
      go_wp2_with (first
        | (go_at_call 30; refine (rform_any _ _).mono ?_; rw [HF.out]; rintro e w2 ⟨rfl, rfl⟩)
        | (go_at_call 36; refine (rnames_any _ _).mono ?_; rintro e w2 ⟨rfl, rfl⟩))
      cases hm : mayB op 0 0 0 0
      · have HM := Lib.hid hm
        clear hm
        go_wp2_with (go_at_call 12; refine (rmay_at HM.out _).mono ?_; rintro e wm ⟨rfl, hbm⟩; have Jm := (I0).below hbm (by first | omega | (simp; omega)); obtain ⟨⟨m0, m1, m2, m3, m4⟩, mf, mB⟩ := Jm; have hBm : Below w1.heap.size w1 wm := (by repeat (first | exact Below.refl _ _ | exact hbw | refine Bl.set ?_ _ _ | refine Bl.drew ?_ | refine Bl.drewN ?_ _ | refine Bl.alloc ?_ _ | refine Bl.step ?_ (by assumption))); obtain ⟨⟨r0, r1, r2, r3, r4⟩, rf, rB⟩ := R1.below hBm (by omega))
        have hB := hBm
        refine bodyPost_ret (v := .tuple #[.agg #[.int .i64 0, .int .i64 0, .int .i64 0, .int .i64 0, .int .i64 0], .int .i64 4]) (by simp [results, Tryd.results21, go_sem, r0, r1, r2, r3, r4]) rfl ⟨ret_val (rpV_may HM.out).symm, ?_⟩
        repeat (first | exact Below.refl _ _ | exact Bl.step hbz hB | refine Bl.set ?_ _ _ | refine Bl.drew ?_ | refine Bl.drewN ?_ _ | refine Bl.alloc ?_ _ | refine Bl.step ?_ (by assumption))
      · cases ht : ((textOf op 0 0 0 0).toList == s.toList)
        · have HM := Lib.hid hm
          have HT := Lib.hid ht
          clear hm
          go_wp2_with (first
            | (go_at_call 12; refine (rmay_at HM.out _).mono ?_; rintro e wm ⟨rfl, hbm⟩; have Jm := (I0).below hbm (by first | omega | (simp; omega)); have Jm0 := Jm; obtain ⟨⟨m0, m1, m2, m3, m4⟩, mf, mB⟩ := Jm; have hBm : Below w1.heap.size w1 wm := (by repeat (first | exact Below.refl _ _ | exact hbw | refine Bl.set ?_ _ _ | refine Bl.drew ?_ | refine Bl.drewN ?_ _ | refine Bl.alloc ?_ _ | refine Bl.step ?_ (by assumption))); obtain ⟨⟨r0, r1, r2, r3, r4⟩, rf, rB⟩ := R1.below hBm (by omega))
            | (go_at_call 22; refine (rtext_yes _ _ _ _ _ _ (Env.of' (by repeat (first | exact Below.refl _ _ | exact hbw | refine Bl.set ?_ _ _ | refine Bl.drew ?_ | refine Bl.drewN ?_ _ | refine Bl.alloc ?_ _ | refine Bl.step ?_ (by assumption))) E1.out) HM.out).mono ?_; rintro e wt ⟨rfl, hbt⟩; have Jt := Jm0.below hbt (by first | omega | (simp; omega)); obtain ⟨⟨t0, t1, t2, t3, t4⟩, tf, tB⟩ := Jt; have hBt : Below w1.heap.size w1 wt := (by repeat (first | exact Below.refl _ _ | exact hbw | refine Bl.set ?_ _ _ | refine Bl.drew ?_ | refine Bl.drewN ?_ _ | refine Bl.alloc ?_ _ | refine Bl.step ?_ (by assumption))); obtain ⟨⟨s0, s1, s2, s3, s4⟩, sf, sB⟩ := R1.below hBt (by omega)))
          have hB := hBt
          refine bodyPost_ret (v := .tuple #[.agg #[.int .i64 0, .int .i64 0, .int .i64 0, .int .i64 0, .int .i64 0], .int .i64 4]) (by simp [results, Tryd.results21, go_sem, s0, s1, s2, s3, s4]) rfl ⟨ret_val (rpV_txt HT.out).symm, ?_⟩
          repeat (first | exact Below.refl _ _ | exact Bl.step hbz hB | refine Bl.set ?_ _ _ | refine Bl.drew ?_ | refine Bl.drewN ?_ _ | refine Bl.alloc ?_ _ | refine Bl.step ?_ (by assumption))
        · have HM := Lib.hid hm
          have HT := Lib.hid ht
          clear hm
          go_wp2_with (first
            | (go_at_call 12; refine (rmay_at HM.out _).mono ?_; rintro e wm ⟨rfl, hbm⟩; have Jm := (I0).below hbm (by first | omega | (simp; omega)); have Jm0 := Jm; obtain ⟨⟨m0, m1, m2, m3, m4⟩, mf, mB⟩ := Jm; have hBm : Below w1.heap.size w1 wm := (by repeat (first | exact Below.refl _ _ | exact hbw | refine Bl.set ?_ _ _ | refine Bl.drew ?_ | refine Bl.drewN ?_ _ | refine Bl.alloc ?_ _ | refine Bl.step ?_ (by assumption))); obtain ⟨⟨r0, r1, r2, r3, r4⟩, rf, rB⟩ := R1.below hBm (by omega))
            | (go_at_call 22; refine (rtext_yes _ _ _ _ _ _ (Env.of' (by repeat (first | exact Below.refl _ _ | exact hbw | refine Bl.set ?_ _ _ | refine Bl.drew ?_ | refine Bl.drewN ?_ _ | refine Bl.alloc ?_ _ | refine Bl.step ?_ (by assumption))) E1.out) HM.out).mono ?_; rintro e wt ⟨rfl, hbt⟩; have Jt := Jm0.below hbt (by first | omega | (simp; omega)); obtain ⟨⟨t0, t1, t2, t3, t4⟩, tf, tB⟩ := Jt; have hBt : Below w1.heap.size w1 wt := (by repeat (first | exact Below.refl _ _ | exact hbw | refine Bl.set ?_ _ _ | refine Bl.drew ?_ | refine Bl.drewN ?_ _ | refine Bl.alloc ?_ _ | refine Bl.step ?_ (by assumption))); obtain ⟨⟨s0, s1, s2, s3, s4⟩, sf, sB⟩ := R1.below hBt (by omega)))
          have hB := hBt
          refine bodyPost_ret (v := .tuple #[.agg #[.int .i64 op, .int .i64 0, .int .i64 0, .int .i64 0, .int .i64 0], .int .i64 0]) (by simp [results, Tryd.results21, go_sem, s0, s1, s2, s3, s4]) rfl ⟨ret_val (rpV_yes HM.out HT.out).symm, ?_⟩
          repeat (first | exact Below.refl _ _ | exact Bl.step hbz hB | refine Bl.set ?_ _ _ | refine Bl.drew ?_ | refine Bl.drewN ?_ _ | refine Bl.alloc ?_ _ | refine Bl.step ?_ (by assumption))

set_option maxHeartbeats 3200000 in
set_option maxRecDepth 100000 in
theorem rparse_1 (s : ByteArray) (hs : s.size ≤ 4000) (op : Int) (w : World) (he : Env w) (hop : rcOp s = op) (hf : formOf op = 1) :
    Calls Tryd.prog 21 #[.string s] w fun e w' => e = .returned (rpV op 0 0 0 (numR (rL s) 1 0) s) ∧ Below w.heap.size w w' := by
  have HE := Lib.hid he
  have HF := Lib.hid hf
  have HOP := Lib.hid hop
  have eD : nmD 1 = false := rfl
  have eA : nmA 1 = false := rfl
  have eB : nmB 1 = false := rfl
  have eM : nmM 1 = true := rfl
  have hl9 := cutL_len s.data.toList
  have hlp := cutL_pos s.data.toList
  have HX : Hid (∀ x ∈ rL s, x.length ≤ 4000) := Lib.hid (fun x hx => Nat.le_trans (cutL_small s.data.toList x hx) (by rw [size_data]; exact hs))
  clear he hf hop
  go_enter Tryd.func21, Tryd.ntmps21
  go_wp2_with (go_at_call 47; refine (cut_walk s _ rfl hs _).mono ?_; rintro e w1 ⟨v1, rfl, h1, hb1⟩)
  have E1 := Lib.hid ((HE.out.alloc _).below hb1)
  have R1 : InsIs w1 w.heap.size (.int .i64 0) (.int .i64 0) (.int .i64 0) (.int .i64 0) (.int .i64 0) := InsIs.below ⟨⟨by simp, by simp, by simp, by simp, by simp⟩, fun o => by simp, by simp⟩ hb1 (by simp)
  have hbz := Bl.step (Bl.alloc (Below.refl _ _) _) hb1
  obtain ⟨g, sc, rfl, hpos, hg0, hg1, hl0⟩ := own_first h1 hlp
  have H1 := Lib.hid h1
  have HL9 := Lib.hid hl9
  generalize hnm : ({ data := ((cutL s.data.toList).getD 0 []).toArray } : ByteArray) = nm at hl0
  have HNM := Lib.hid hnm
  generalize hLn : (cutL s.data.toList).length = n at *
  have HLN := Lib.hid hLn
  clear hnm hLn h1 hl9 hlp
  have hpos' : (0 : Int) < (n : Int) := by omega
  have hz1 := hb1.size
  simp at hz1
  go_loopw [6] (fun i wr => ∃ j : Nat, 1 ≤ j ∧ j ≤ 29 ∧ i = .int .i64 j ∧ InsIs wr w1.heap.size (.int .i64 (wantV nm (j - 1))) (.int .i64 0) (.int .i64 0) (.int .i64 0) (.int .i64 0) ∧ Below w1.heap.size w1 wr)
    (fun i _ => 29 - (intOf i).toNat)
  case atStart => exact ⟨1, by omega, by omega, rfl, ⟨⟨by simp [wantV, findN, opsUpto], by simp, by simp, by simp, by simp⟩, fun o => by simp, by simp⟩, Bl.alloc (Below.refl _ _) _⟩
  case round =>
    obtain ⟨j, hj1, hj2, rfl, hIns, hbw⟩ := hrel
    have hl0' : wr.cell? ⟨g, 0, none⟩ = some (.string nm) := by rw [hbw.cell (p := ⟨g, 0, none⟩) hg1]; exact hl0
    by_cases hlt : j < 29
    · have hnc := name_cell j hlt
      have hj0 : (0 : Int) ≤ (j : Int) := by omega
      have hj28 : (j : Int) ≤ 28 := by omega
      have hgw : g < wr.heap.size := by have := hIns.2.2; omega
      cases hq : ((nameOf (j : Int)).toList == nm.toList)
      · have HQ := Lib.hid (want_miss' hj1 hlt hq)
        have HI := Lib.hid hIns
        clear hIns
        go_wp2
        go_region_with (go_at_call 27; refine (rNames_any _).mono ?_; rintro e w5 ⟨rfl, rfl⟩)
        all_goals
          go_wp2
          go_roundw
          case rel => exact ⟨j + 1, by omega, by omega, by go_num, by rw [Nat.add_sub_cancel, HQ.out.1]; exact HI.out.grow _, Bl.drew (Bl.alloc hbw _)⟩
          case measure => simp [intOf]; omega
      · have HQ := Lib.hid (want_hit' hj1 hlt hq)
        have HI := Lib.hid hIns
        obtain ⟨⟨k0, k1, k2, k3, k4⟩, kf, kB⟩ := hIns.grow (.cells nameCells 9)
        clear hIns
        go_wp2
        go_region_with (go_at_call 27; refine (rNames_any _).mono ?_; rintro e w5 ⟨rfl, rfl⟩)
        all_goals
          go_wp2
          go_roundw
          case rel => exact ⟨j + 1, by omega, by omega, by go_num, by rw [Nat.add_sub_cancel, HQ.out.1]; exact (HI.out.grow _).set0 _, (Bl.drew (Bl.alloc hbw _)).setCell (Nat.le_refl _) _⟩
          case measure => simp [intOf]; omega
    · obtain rfl : j = 29 := by omega
      have hopw : wantV nm (29 - 1) = op := (want_all nm).1.trans (by rw [← HNM.out]; exact HOP.out)
      rw [hopw] at hIns
      clear hopw hl0 hl0'
      have I0 := hIns
      obtain ⟨⟨k0, k1, k2, k3, k4⟩, kf, kB⟩ := hIns
      have hgB : g < wr.heap.size := by omega
      go_wp2_with (first
        | (go_at_call 30; refine (rform_any _ _).mono ?_; rw [HF.out]; rintro e w2 ⟨rfl, rfl⟩)
        | (go_at_call 36; refine (rnames_any _ _).mono ?_; rintro e w2 ⟨rfl, rfl⟩))
      clear k0 k1 k2 k3 k4 kf
      have tok3 : True := trivial
      go_wp2_with (go_at_call 48; have tik := tok3; clear tik tok3; refine (number_at (B := (w.alloc (.cells #[.int .i64 0, .int .i64 0, .int .i64 0, .int .i64 0, .int .i64 0] 26)).heap.size) (L := rL s) 1 0 HLN.out (own_below H1.out (by repeat (first | exact Below.refl _ _ | exact hbw | refine Bl.set ?_ _ _ | refine Bl.drew ?_ | refine Bl.drewN ?_ _ | refine Bl.alloc ?_ _ | refine Bl.step ?_ (by assumption)))) HL9.out HX.out (Env.of' (by repeat (first | exact Below.refl _ _ | exact hbw | refine Bl.set ?_ _ _ | refine Bl.drew ?_ | refine Bl.drewN ?_ _ | refine Bl.alloc ?_ _ | refine Bl.step ?_ (by assumption))) E1.out) (by omega) (by omega) rfl rfl).mono ?_; rintro e w3 ⟨rfl, hb3⟩; have J3 := (I0).below hb3 (by first | omega | (simp; omega)); have J'3 := J3; obtain ⟨⟨k0, k1, k2, k3, k4⟩, kf, kB⟩ := J'3)
      have I3 := J3.set4 (.int .i64 (numR (rL s) 1 0))
      have Iq := I3
      obtain ⟨⟨q0, q1, q2, q3, q4⟩, qf, qB⟩ := Iq
      cases hm : mayB op 0 0 0 (numR (rL s) 1 0)
      · have HM := Lib.hid hm
        clear hm
        go_wp2_with (go_at_call 12; refine (rmay_at HM.out _).mono ?_; rintro e wm ⟨rfl, hbm⟩; have Jm := (I3).below hbm (by first | omega | (simp; omega)); obtain ⟨⟨m0, m1, m2, m3, m4⟩, mf, mB⟩ := Jm; have hBm : Below w1.heap.size w1 wm := (by repeat (first | exact Below.refl _ _ | exact hbw | refine Bl.set ?_ _ _ | refine Bl.drew ?_ | refine Bl.drewN ?_ _ | refine Bl.alloc ?_ _ | refine Bl.step ?_ (by assumption))); obtain ⟨⟨r0, r1, r2, r3, r4⟩, rf, rB⟩ := R1.below hBm (by omega))
        have hB := hBm
        refine bodyPost_ret (v := .tuple #[.agg #[.int .i64 0, .int .i64 0, .int .i64 0, .int .i64 0, .int .i64 0], .int .i64 4]) (by simp [results, Tryd.results21, go_sem, r0, r1, r2, r3, r4]) rfl ⟨ret_val (rpV_may HM.out).symm, ?_⟩
        repeat (first | exact Below.refl _ _ | exact Bl.step hbz hB | refine Bl.set ?_ _ _ | refine Bl.drew ?_ | refine Bl.drewN ?_ _ | refine Bl.alloc ?_ _ | refine Bl.step ?_ (by assumption))
      · cases ht : ((textOf op 0 0 0 (numR (rL s) 1 0)).toList == s.toList)
        · have HM := Lib.hid hm
          have HT := Lib.hid ht
          clear hm
          go_wp2_with (first
            | (go_at_call 12; refine (rmay_at HM.out _).mono ?_; rintro e wm ⟨rfl, hbm⟩; have Jm := (I3).below hbm (by first | omega | (simp; omega)); have Jm0 := Jm; obtain ⟨⟨m0, m1, m2, m3, m4⟩, mf, mB⟩ := Jm; have hBm : Below w1.heap.size w1 wm := (by repeat (first | exact Below.refl _ _ | exact hbw | refine Bl.set ?_ _ _ | refine Bl.drew ?_ | refine Bl.drewN ?_ _ | refine Bl.alloc ?_ _ | refine Bl.step ?_ (by assumption))); obtain ⟨⟨r0, r1, r2, r3, r4⟩, rf, rB⟩ := R1.below hBm (by omega))
            | (go_at_call 22; refine (rtext_yes _ _ _ _ _ _ (Env.of' (by repeat (first | exact Below.refl _ _ | exact hbw | refine Bl.set ?_ _ _ | refine Bl.drew ?_ | refine Bl.drewN ?_ _ | refine Bl.alloc ?_ _ | refine Bl.step ?_ (by assumption))) E1.out) HM.out).mono ?_; rintro e wt ⟨rfl, hbt⟩; have Jt := Jm0.below hbt (by first | omega | (simp; omega)); obtain ⟨⟨t0, t1, t2, t3, t4⟩, tf, tB⟩ := Jt; have hBt : Below w1.heap.size w1 wt := (by repeat (first | exact Below.refl _ _ | exact hbw | refine Bl.set ?_ _ _ | refine Bl.drew ?_ | refine Bl.drewN ?_ _ | refine Bl.alloc ?_ _ | refine Bl.step ?_ (by assumption))); obtain ⟨⟨s0, s1, s2, s3, s4⟩, sf, sB⟩ := R1.below hBt (by omega)))
          have hB := hBt
          refine bodyPost_ret (v := .tuple #[.agg #[.int .i64 0, .int .i64 0, .int .i64 0, .int .i64 0, .int .i64 0], .int .i64 4]) (by simp [results, Tryd.results21, go_sem, s0, s1, s2, s3, s4]) rfl ⟨ret_val (rpV_txt HT.out).symm, ?_⟩
          repeat (first | exact Below.refl _ _ | exact Bl.step hbz hB | refine Bl.set ?_ _ _ | refine Bl.drew ?_ | refine Bl.drewN ?_ _ | refine Bl.alloc ?_ _ | refine Bl.step ?_ (by assumption))
        · have HM := Lib.hid hm
          have HT := Lib.hid ht
          clear hm
          go_wp2_with (first
            | (go_at_call 12; refine (rmay_at HM.out _).mono ?_; rintro e wm ⟨rfl, hbm⟩; have Jm := (I3).below hbm (by first | omega | (simp; omega)); have Jm0 := Jm; obtain ⟨⟨m0, m1, m2, m3, m4⟩, mf, mB⟩ := Jm; have hBm : Below w1.heap.size w1 wm := (by repeat (first | exact Below.refl _ _ | exact hbw | refine Bl.set ?_ _ _ | refine Bl.drew ?_ | refine Bl.drewN ?_ _ | refine Bl.alloc ?_ _ | refine Bl.step ?_ (by assumption))); obtain ⟨⟨r0, r1, r2, r3, r4⟩, rf, rB⟩ := R1.below hBm (by omega))
            | (go_at_call 22; refine (rtext_yes _ _ _ _ _ _ (Env.of' (by repeat (first | exact Below.refl _ _ | exact hbw | refine Bl.set ?_ _ _ | refine Bl.drew ?_ | refine Bl.drewN ?_ _ | refine Bl.alloc ?_ _ | refine Bl.step ?_ (by assumption))) E1.out) HM.out).mono ?_; rintro e wt ⟨rfl, hbt⟩; have Jt := Jm0.below hbt (by first | omega | (simp; omega)); obtain ⟨⟨t0, t1, t2, t3, t4⟩, tf, tB⟩ := Jt; have hBt : Below w1.heap.size w1 wt := (by repeat (first | exact Below.refl _ _ | exact hbw | refine Bl.set ?_ _ _ | refine Bl.drew ?_ | refine Bl.drewN ?_ _ | refine Bl.alloc ?_ _ | refine Bl.step ?_ (by assumption))); obtain ⟨⟨s0, s1, s2, s3, s4⟩, sf, sB⟩ := R1.below hBt (by omega)))
          have hB := hBt
          refine bodyPost_ret (v := .tuple #[.agg #[.int .i64 op, .int .i64 0, .int .i64 0, .int .i64 0, .int .i64 (numR (rL s) 1 0)], .int .i64 0]) (by simp [results, Tryd.results21, go_sem, s0, s1, s2, s3, s4]) rfl ⟨ret_val (rpV_yes HM.out HT.out).symm, ?_⟩
          repeat (first | exact Below.refl _ _ | exact Bl.step hbz hB | refine Bl.set ?_ _ _ | refine Bl.drew ?_ | refine Bl.drewN ?_ _ | refine Bl.alloc ?_ _ | refine Bl.step ?_ (by assumption))

set_option maxHeartbeats 3200000 in
set_option maxRecDepth 100000 in
theorem rparse_2 (s : ByteArray) (hs : s.size ≤ 4000) (op : Int) (w : World) (he : Env w) (hop : rcOp s = op) (hf : formOf op = 2) :
    Calls Tryd.prog 21 #[.string s] w fun e w' => e = .returned (rpV op 0 (numR (rL s) 1 1) 0 0 s) ∧ Below w.heap.size w w' := by
  have HE := Lib.hid he
  have HF := Lib.hid hf
  have HOP := Lib.hid hop
  have eD : nmD 2 = false := rfl
  have eA : nmA 2 = true := rfl
  have eB : nmB 2 = false := rfl
  have eM : nmM 2 = false := rfl
  have hl9 := cutL_len s.data.toList
  have hlp := cutL_pos s.data.toList
  have HX : Hid (∀ x ∈ rL s, x.length ≤ 4000) := Lib.hid (fun x hx => Nat.le_trans (cutL_small s.data.toList x hx) (by rw [size_data]; exact hs))
  clear he hf hop
  go_enter Tryd.func21, Tryd.ntmps21
  go_wp2_with (go_at_call 47; refine (cut_walk s _ rfl hs _).mono ?_; rintro e w1 ⟨v1, rfl, h1, hb1⟩)
  have E1 := Lib.hid ((HE.out.alloc _).below hb1)
  have R1 : InsIs w1 w.heap.size (.int .i64 0) (.int .i64 0) (.int .i64 0) (.int .i64 0) (.int .i64 0) := InsIs.below ⟨⟨by simp, by simp, by simp, by simp, by simp⟩, fun o => by simp, by simp⟩ hb1 (by simp)
  have hbz := Bl.step (Bl.alloc (Below.refl _ _) _) hb1
  obtain ⟨g, sc, rfl, hpos, hg0, hg1, hl0⟩ := own_first h1 hlp
  have H1 := Lib.hid h1
  have HL9 := Lib.hid hl9
  generalize hnm : ({ data := ((cutL s.data.toList).getD 0 []).toArray } : ByteArray) = nm at hl0
  have HNM := Lib.hid hnm
  generalize hLn : (cutL s.data.toList).length = n at *
  have HLN := Lib.hid hLn
  clear hnm hLn h1 hl9 hlp
  have hpos' : (0 : Int) < (n : Int) := by omega
  have hz1 := hb1.size
  simp at hz1
  go_loopw [6] (fun i wr => ∃ j : Nat, 1 ≤ j ∧ j ≤ 29 ∧ i = .int .i64 j ∧ InsIs wr w1.heap.size (.int .i64 (wantV nm (j - 1))) (.int .i64 0) (.int .i64 0) (.int .i64 0) (.int .i64 0) ∧ Below w1.heap.size w1 wr)
    (fun i _ => 29 - (intOf i).toNat)
  case atStart => exact ⟨1, by omega, by omega, rfl, ⟨⟨by simp [wantV, findN, opsUpto], by simp, by simp, by simp, by simp⟩, fun o => by simp, by simp⟩, Bl.alloc (Below.refl _ _) _⟩
  case round =>
    obtain ⟨j, hj1, hj2, rfl, hIns, hbw⟩ := hrel
    have hl0' : wr.cell? ⟨g, 0, none⟩ = some (.string nm) := by rw [hbw.cell (p := ⟨g, 0, none⟩) hg1]; exact hl0
    by_cases hlt : j < 29
    · have hnc := name_cell j hlt
      have hj0 : (0 : Int) ≤ (j : Int) := by omega
      have hj28 : (j : Int) ≤ 28 := by omega
      have hgw : g < wr.heap.size := by have := hIns.2.2; omega
      cases hq : ((nameOf (j : Int)).toList == nm.toList)
      · have HQ := Lib.hid (want_miss' hj1 hlt hq)
        have HI := Lib.hid hIns
        clear hIns
        go_wp2
        go_region_with (go_at_call 27; refine (rNames_any _).mono ?_; rintro e w5 ⟨rfl, rfl⟩)
        all_goals
          go_wp2
          go_roundw
          case rel => exact ⟨j + 1, by omega, by omega, by go_num, by rw [Nat.add_sub_cancel, HQ.out.1]; exact HI.out.grow _, Bl.drew (Bl.alloc hbw _)⟩
          case measure => simp [intOf]; omega
      · have HQ := Lib.hid (want_hit' hj1 hlt hq)
        have HI := Lib.hid hIns
        obtain ⟨⟨k0, k1, k2, k3, k4⟩, kf, kB⟩ := hIns.grow (.cells nameCells 9)
        clear hIns
        go_wp2
        go_region_with (go_at_call 27; refine (rNames_any _).mono ?_; rintro e w5 ⟨rfl, rfl⟩)
        all_goals
          go_wp2
          go_roundw
          case rel => exact ⟨j + 1, by omega, by omega, by go_num, by rw [Nat.add_sub_cancel, HQ.out.1]; exact (HI.out.grow _).set0 _, (Bl.drew (Bl.alloc hbw _)).setCell (Nat.le_refl _) _⟩
          case measure => simp [intOf]; omega
    · obtain rfl : j = 29 := by omega
      have hopw : wantV nm (29 - 1) = op := (want_all nm).1.trans (by rw [← HNM.out]; exact HOP.out)
      rw [hopw] at hIns
      clear hopw hl0 hl0'
      have I0 := hIns
      obtain ⟨⟨k0, k1, k2, k3, k4⟩, kf, kB⟩ := hIns
      have hgB : g < wr.heap.size := by omega
      go_wp2_with (first
        | (go_at_call 30; refine (rform_any _ _).mono ?_; rw [HF.out]; rintro e w2 ⟨rfl, rfl⟩)
        | (go_at_call 36; refine (rnames_any _ _).mono ?_; rintro e w2 ⟨rfl, rfl⟩))
      clear k0 k1 k2 k3 k4 kf
      have tok3 : True := trivial
      go_wp2_with (go_at_call 48; have tik := tok3; clear tik tok3; refine (number_at (B := (w.alloc (.cells #[.int .i64 0, .int .i64 0, .int .i64 0, .int .i64 0, .int .i64 0] 26)).heap.size) (L := rL s) 1 1 HLN.out (own_below H1.out (by repeat (first | exact Below.refl _ _ | exact hbw | refine Bl.set ?_ _ _ | refine Bl.drew ?_ | refine Bl.drewN ?_ _ | refine Bl.alloc ?_ _ | refine Bl.step ?_ (by assumption)))) HL9.out HX.out (Env.of' (by repeat (first | exact Below.refl _ _ | exact hbw | refine Bl.set ?_ _ _ | refine Bl.drew ?_ | refine Bl.drewN ?_ _ | refine Bl.alloc ?_ _ | refine Bl.step ?_ (by assumption))) E1.out) (by omega) (by omega) rfl rfl).mono ?_; rintro e w3 ⟨rfl, hb3⟩; have J3 := (I0).below hb3 (by first | omega | (simp; omega)); have J'3 := J3; obtain ⟨⟨k0, k1, k2, k3, k4⟩, kf, kB⟩ := J'3)
      have I3 := J3.set2 (.int .i64 (numR (rL s) 1 1))
      have Iq := I3
      obtain ⟨⟨q0, q1, q2, q3, q4⟩, qf, qB⟩ := Iq
      cases hm : mayB op 0 (numR (rL s) 1 1) 0 0
      · have HM := Lib.hid hm
        clear hm
        go_wp2_with (go_at_call 12; refine (rmay_at HM.out _).mono ?_; rintro e wm ⟨rfl, hbm⟩; have Jm := (I3).below hbm (by first | omega | (simp; omega)); obtain ⟨⟨m0, m1, m2, m3, m4⟩, mf, mB⟩ := Jm; have hBm : Below w1.heap.size w1 wm := (by repeat (first | exact Below.refl _ _ | exact hbw | refine Bl.set ?_ _ _ | refine Bl.drew ?_ | refine Bl.drewN ?_ _ | refine Bl.alloc ?_ _ | refine Bl.step ?_ (by assumption))); obtain ⟨⟨r0, r1, r2, r3, r4⟩, rf, rB⟩ := R1.below hBm (by omega))
        have hB := hBm
        refine bodyPost_ret (v := .tuple #[.agg #[.int .i64 0, .int .i64 0, .int .i64 0, .int .i64 0, .int .i64 0], .int .i64 4]) (by simp [results, Tryd.results21, go_sem, r0, r1, r2, r3, r4]) rfl ⟨ret_val (rpV_may HM.out).symm, ?_⟩
        repeat (first | exact Below.refl _ _ | exact Bl.step hbz hB | refine Bl.set ?_ _ _ | refine Bl.drew ?_ | refine Bl.drewN ?_ _ | refine Bl.alloc ?_ _ | refine Bl.step ?_ (by assumption))
      · cases ht : ((textOf op 0 (numR (rL s) 1 1) 0 0).toList == s.toList)
        · have HM := Lib.hid hm
          have HT := Lib.hid ht
          clear hm
          go_wp2_with (first
            | (go_at_call 12; refine (rmay_at HM.out _).mono ?_; rintro e wm ⟨rfl, hbm⟩; have Jm := (I3).below hbm (by first | omega | (simp; omega)); have Jm0 := Jm; obtain ⟨⟨m0, m1, m2, m3, m4⟩, mf, mB⟩ := Jm; have hBm : Below w1.heap.size w1 wm := (by repeat (first | exact Below.refl _ _ | exact hbw | refine Bl.set ?_ _ _ | refine Bl.drew ?_ | refine Bl.drewN ?_ _ | refine Bl.alloc ?_ _ | refine Bl.step ?_ (by assumption))); obtain ⟨⟨r0, r1, r2, r3, r4⟩, rf, rB⟩ := R1.below hBm (by omega))
            | (go_at_call 22; refine (rtext_yes _ _ _ _ _ _ (Env.of' (by repeat (first | exact Below.refl _ _ | exact hbw | refine Bl.set ?_ _ _ | refine Bl.drew ?_ | refine Bl.drewN ?_ _ | refine Bl.alloc ?_ _ | refine Bl.step ?_ (by assumption))) E1.out) HM.out).mono ?_; rintro e wt ⟨rfl, hbt⟩; have Jt := Jm0.below hbt (by first | omega | (simp; omega)); obtain ⟨⟨t0, t1, t2, t3, t4⟩, tf, tB⟩ := Jt; have hBt : Below w1.heap.size w1 wt := (by repeat (first | exact Below.refl _ _ | exact hbw | refine Bl.set ?_ _ _ | refine Bl.drew ?_ | refine Bl.drewN ?_ _ | refine Bl.alloc ?_ _ | refine Bl.step ?_ (by assumption))); obtain ⟨⟨s0, s1, s2, s3, s4⟩, sf, sB⟩ := R1.below hBt (by omega)))
          have hB := hBt
          refine bodyPost_ret (v := .tuple #[.agg #[.int .i64 0, .int .i64 0, .int .i64 0, .int .i64 0, .int .i64 0], .int .i64 4]) (by simp [results, Tryd.results21, go_sem, s0, s1, s2, s3, s4]) rfl ⟨ret_val (rpV_txt HT.out).symm, ?_⟩
          repeat (first | exact Below.refl _ _ | exact Bl.step hbz hB | refine Bl.set ?_ _ _ | refine Bl.drew ?_ | refine Bl.drewN ?_ _ | refine Bl.alloc ?_ _ | refine Bl.step ?_ (by assumption))
        · have HM := Lib.hid hm
          have HT := Lib.hid ht
          clear hm
          go_wp2_with (first
            | (go_at_call 12; refine (rmay_at HM.out _).mono ?_; rintro e wm ⟨rfl, hbm⟩; have Jm := (I3).below hbm (by first | omega | (simp; omega)); have Jm0 := Jm; obtain ⟨⟨m0, m1, m2, m3, m4⟩, mf, mB⟩ := Jm; have hBm : Below w1.heap.size w1 wm := (by repeat (first | exact Below.refl _ _ | exact hbw | refine Bl.set ?_ _ _ | refine Bl.drew ?_ | refine Bl.drewN ?_ _ | refine Bl.alloc ?_ _ | refine Bl.step ?_ (by assumption))); obtain ⟨⟨r0, r1, r2, r3, r4⟩, rf, rB⟩ := R1.below hBm (by omega))
            | (go_at_call 22; refine (rtext_yes _ _ _ _ _ _ (Env.of' (by repeat (first | exact Below.refl _ _ | exact hbw | refine Bl.set ?_ _ _ | refine Bl.drew ?_ | refine Bl.drewN ?_ _ | refine Bl.alloc ?_ _ | refine Bl.step ?_ (by assumption))) E1.out) HM.out).mono ?_; rintro e wt ⟨rfl, hbt⟩; have Jt := Jm0.below hbt (by first | omega | (simp; omega)); obtain ⟨⟨t0, t1, t2, t3, t4⟩, tf, tB⟩ := Jt; have hBt : Below w1.heap.size w1 wt := (by repeat (first | exact Below.refl _ _ | exact hbw | refine Bl.set ?_ _ _ | refine Bl.drew ?_ | refine Bl.drewN ?_ _ | refine Bl.alloc ?_ _ | refine Bl.step ?_ (by assumption))); obtain ⟨⟨s0, s1, s2, s3, s4⟩, sf, sB⟩ := R1.below hBt (by omega)))
          have hB := hBt
          refine bodyPost_ret (v := .tuple #[.agg #[.int .i64 op, .int .i64 0, .int .i64 (numR (rL s) 1 1), .int .i64 0, .int .i64 0], .int .i64 0]) (by simp [results, Tryd.results21, go_sem, s0, s1, s2, s3, s4]) rfl ⟨ret_val (rpV_yes HM.out HT.out).symm, ?_⟩
          repeat (first | exact Below.refl _ _ | exact Bl.step hbz hB | refine Bl.set ?_ _ _ | refine Bl.drew ?_ | refine Bl.drewN ?_ _ | refine Bl.alloc ?_ _ | refine Bl.step ?_ (by assumption))

set_option maxHeartbeats 3200000 in
set_option maxRecDepth 100000 in
theorem rparse_3 (s : ByteArray) (hs : s.size ≤ 4000) (op : Int) (w : World) (he : Env w) (hop : rcOp s = op) (hf : formOf op = 3) :
    Calls Tryd.prog 21 #[.string s] w fun e w' => e = .returned (rpV op (numR (rL s) 1 1) 0 0 (numR (rL s) 2 0) s) ∧ Below w.heap.size w w' := by
  have HE := Lib.hid he
  have HF := Lib.hid hf
  have HOP := Lib.hid hop
  have eD : nmD 3 = true := rfl
  have eA : nmA 3 = false := rfl
  have eB : nmB 3 = false := rfl
  have eM : nmM 3 = true := rfl
  have hl9 := cutL_len s.data.toList
  have hlp := cutL_pos s.data.toList
  have HX : Hid (∀ x ∈ rL s, x.length ≤ 4000) := Lib.hid (fun x hx => Nat.le_trans (cutL_small s.data.toList x hx) (by rw [size_data]; exact hs))
  clear he hf hop
  go_enter Tryd.func21, Tryd.ntmps21
  go_wp2_with (go_at_call 47; refine (cut_walk s _ rfl hs _).mono ?_; rintro e w1 ⟨v1, rfl, h1, hb1⟩)
  have E1 := Lib.hid ((HE.out.alloc _).below hb1)
  have R1 : InsIs w1 w.heap.size (.int .i64 0) (.int .i64 0) (.int .i64 0) (.int .i64 0) (.int .i64 0) := InsIs.below ⟨⟨by simp, by simp, by simp, by simp, by simp⟩, fun o => by simp, by simp⟩ hb1 (by simp)
  have hbz := Bl.step (Bl.alloc (Below.refl _ _) _) hb1
  obtain ⟨g, sc, rfl, hpos, hg0, hg1, hl0⟩ := own_first h1 hlp
  have H1 := Lib.hid h1
  have HL9 := Lib.hid hl9
  generalize hnm : ({ data := ((cutL s.data.toList).getD 0 []).toArray } : ByteArray) = nm at hl0
  have HNM := Lib.hid hnm
  generalize hLn : (cutL s.data.toList).length = n at *
  have HLN := Lib.hid hLn
  clear hnm hLn h1 hl9 hlp
  have hpos' : (0 : Int) < (n : Int) := by omega
  have hz1 := hb1.size
  simp at hz1
  go_loopw [6] (fun i wr => ∃ j : Nat, 1 ≤ j ∧ j ≤ 29 ∧ i = .int .i64 j ∧ InsIs wr w1.heap.size (.int .i64 (wantV nm (j - 1))) (.int .i64 0) (.int .i64 0) (.int .i64 0) (.int .i64 0) ∧ Below w1.heap.size w1 wr)
    (fun i _ => 29 - (intOf i).toNat)
  case atStart => exact ⟨1, by omega, by omega, rfl, ⟨⟨by simp [wantV, findN, opsUpto], by simp, by simp, by simp, by simp⟩, fun o => by simp, by simp⟩, Bl.alloc (Below.refl _ _) _⟩
  case round =>
    obtain ⟨j, hj1, hj2, rfl, hIns, hbw⟩ := hrel
    have hl0' : wr.cell? ⟨g, 0, none⟩ = some (.string nm) := by rw [hbw.cell (p := ⟨g, 0, none⟩) hg1]; exact hl0
    by_cases hlt : j < 29
    · have hnc := name_cell j hlt
      have hj0 : (0 : Int) ≤ (j : Int) := by omega
      have hj28 : (j : Int) ≤ 28 := by omega
      have hgw : g < wr.heap.size := by have := hIns.2.2; omega
      cases hq : ((nameOf (j : Int)).toList == nm.toList)
      · have HQ := Lib.hid (want_miss' hj1 hlt hq)
        have HI := Lib.hid hIns
        clear hIns
        go_wp2
        go_region_with (go_at_call 27; refine (rNames_any _).mono ?_; rintro e w5 ⟨rfl, rfl⟩)
        all_goals
          go_wp2
          go_roundw
          case rel => exact ⟨j + 1, by omega, by omega, by go_num, by rw [Nat.add_sub_cancel, HQ.out.1]; exact HI.out.grow _, Bl.drew (Bl.alloc hbw _)⟩
          case measure => simp [intOf]; omega
      · have HQ := Lib.hid (want_hit' hj1 hlt hq)
        have HI := Lib.hid hIns
        obtain ⟨⟨k0, k1, k2, k3, k4⟩, kf, kB⟩ := hIns.grow (.cells nameCells 9)
        clear hIns
        go_wp2
        go_region_with (go_at_call 27; refine (rNames_any _).mono ?_; rintro e w5 ⟨rfl, rfl⟩)
        all_goals
          go_wp2
          go_roundw
          case rel => exact ⟨j + 1, by omega, by omega, by go_num, by rw [Nat.add_sub_cancel, HQ.out.1]; exact (HI.out.grow _).set0 _, (Bl.drew (Bl.alloc hbw _)).setCell (Nat.le_refl _) _⟩
          case measure => simp [intOf]; omega
    · obtain rfl : j = 29 := by omega
      have hopw : wantV nm (29 - 1) = op := (want_all nm).1.trans (by rw [← HNM.out]; exact HOP.out)
      rw [hopw] at hIns
      clear hopw hl0 hl0'
      have I0 := hIns
      obtain ⟨⟨k0, k1, k2, k3, k4⟩, kf, kB⟩ := hIns
      have hgB : g < wr.heap.size := by omega
      go_wp2_with (first
        | (go_at_call 30; refine (rform_any _ _).mono ?_; rw [HF.out]; rintro e w2 ⟨rfl, rfl⟩)
        | (go_at_call 36; refine (rnames_any _ _).mono ?_; rintro e w2 ⟨rfl, rfl⟩))
      clear k0 k1 k2 k3 k4 kf
      have tok3 : True := trivial
      go_wp2_with (go_at_call 48; have tik := tok3; clear tik tok3; refine (number_at (B := (w.alloc (.cells #[.int .i64 0, .int .i64 0, .int .i64 0, .int .i64 0, .int .i64 0] 26)).heap.size) (L := rL s) 1 1 HLN.out (own_below H1.out (by repeat (first | exact Below.refl _ _ | exact hbw | refine Bl.set ?_ _ _ | refine Bl.drew ?_ | refine Bl.drewN ?_ _ | refine Bl.alloc ?_ _ | refine Bl.step ?_ (by assumption)))) HL9.out HX.out (Env.of' (by repeat (first | exact Below.refl _ _ | exact hbw | refine Bl.set ?_ _ _ | refine Bl.drew ?_ | refine Bl.drewN ?_ _ | refine Bl.alloc ?_ _ | refine Bl.step ?_ (by assumption))) E1.out) (by omega) (by omega) rfl rfl).mono ?_; rintro e w3 ⟨rfl, hb3⟩; have J3 := (I0).below hb3 (by first | omega | (simp; omega)); have J'3 := J3; obtain ⟨⟨k0, k1, k2, k3, k4⟩, kf, kB⟩ := J'3)
      have I3 := J3.set1 (.int .i64 (numR (rL s) 1 1))
      clear k0 k1 k2 k3 k4 kf
      have tok4 : True := trivial
      go_wp2_with (go_at_call 48; have tik := tok4; clear tik tok4; refine (number_at (B := (w.alloc (.cells #[.int .i64 0, .int .i64 0, .int .i64 0, .int .i64 0, .int .i64 0] 26)).heap.size) (L := rL s) 2 0 HLN.out (own_below H1.out (by repeat (first | exact Below.refl _ _ | exact hbw | refine Bl.set ?_ _ _ | refine Bl.drew ?_ | refine Bl.drewN ?_ _ | refine Bl.alloc ?_ _ | refine Bl.step ?_ (by assumption)))) HL9.out HX.out (Env.of' (by repeat (first | exact Below.refl _ _ | exact hbw | refine Bl.set ?_ _ _ | refine Bl.drew ?_ | refine Bl.drewN ?_ _ | refine Bl.alloc ?_ _ | refine Bl.step ?_ (by assumption))) E1.out) (by omega) (by omega) rfl rfl).mono ?_; rintro e w4 ⟨rfl, hb4⟩; have J4 := (I3).below hb4 (by first | omega | (simp; omega)); have J'4 := J4; obtain ⟨⟨k0, k1, k2, k3, k4⟩, kf, kB⟩ := J'4)
      have I4 := J4.set4 (.int .i64 (numR (rL s) 2 0))
      have Iq := I4
      obtain ⟨⟨q0, q1, q2, q3, q4⟩, qf, qB⟩ := Iq
      cases hm : mayB op (numR (rL s) 1 1) 0 0 (numR (rL s) 2 0)
      · have HM := Lib.hid hm
        clear hm
        go_wp2_with (go_at_call 12; refine (rmay_at HM.out _).mono ?_; rintro e wm ⟨rfl, hbm⟩; have Jm := (I4).below hbm (by first | omega | (simp; omega)); obtain ⟨⟨m0, m1, m2, m3, m4⟩, mf, mB⟩ := Jm; have hBm : Below w1.heap.size w1 wm := (by repeat (first | exact Below.refl _ _ | exact hbw | refine Bl.set ?_ _ _ | refine Bl.drew ?_ | refine Bl.drewN ?_ _ | refine Bl.alloc ?_ _ | refine Bl.step ?_ (by assumption))); obtain ⟨⟨r0, r1, r2, r3, r4⟩, rf, rB⟩ := R1.below hBm (by omega))
        have hB := hBm
        refine bodyPost_ret (v := .tuple #[.agg #[.int .i64 0, .int .i64 0, .int .i64 0, .int .i64 0, .int .i64 0], .int .i64 4]) (by simp [results, Tryd.results21, go_sem, r0, r1, r2, r3, r4]) rfl ⟨ret_val (rpV_may HM.out).symm, ?_⟩
        repeat (first | exact Below.refl _ _ | exact Bl.step hbz hB | refine Bl.set ?_ _ _ | refine Bl.drew ?_ | refine Bl.drewN ?_ _ | refine Bl.alloc ?_ _ | refine Bl.step ?_ (by assumption))
      · cases ht : ((textOf op (numR (rL s) 1 1) 0 0 (numR (rL s) 2 0)).toList == s.toList)
        · have HM := Lib.hid hm
          have HT := Lib.hid ht
          clear hm
          go_wp2_with (first
            | (go_at_call 12; refine (rmay_at HM.out _).mono ?_; rintro e wm ⟨rfl, hbm⟩; have Jm := (I4).below hbm (by first | omega | (simp; omega)); have Jm0 := Jm; obtain ⟨⟨m0, m1, m2, m3, m4⟩, mf, mB⟩ := Jm; have hBm : Below w1.heap.size w1 wm := (by repeat (first | exact Below.refl _ _ | exact hbw | refine Bl.set ?_ _ _ | refine Bl.drew ?_ | refine Bl.drewN ?_ _ | refine Bl.alloc ?_ _ | refine Bl.step ?_ (by assumption))); obtain ⟨⟨r0, r1, r2, r3, r4⟩, rf, rB⟩ := R1.below hBm (by omega))
            | (go_at_call 22; refine (rtext_yes _ _ _ _ _ _ (Env.of' (by repeat (first | exact Below.refl _ _ | exact hbw | refine Bl.set ?_ _ _ | refine Bl.drew ?_ | refine Bl.drewN ?_ _ | refine Bl.alloc ?_ _ | refine Bl.step ?_ (by assumption))) E1.out) HM.out).mono ?_; rintro e wt ⟨rfl, hbt⟩; have Jt := Jm0.below hbt (by first | omega | (simp; omega)); obtain ⟨⟨t0, t1, t2, t3, t4⟩, tf, tB⟩ := Jt; have hBt : Below w1.heap.size w1 wt := (by repeat (first | exact Below.refl _ _ | exact hbw | refine Bl.set ?_ _ _ | refine Bl.drew ?_ | refine Bl.drewN ?_ _ | refine Bl.alloc ?_ _ | refine Bl.step ?_ (by assumption))); obtain ⟨⟨s0, s1, s2, s3, s4⟩, sf, sB⟩ := R1.below hBt (by omega)))
          have hB := hBt
          refine bodyPost_ret (v := .tuple #[.agg #[.int .i64 0, .int .i64 0, .int .i64 0, .int .i64 0, .int .i64 0], .int .i64 4]) (by simp [results, Tryd.results21, go_sem, s0, s1, s2, s3, s4]) rfl ⟨ret_val (rpV_txt HT.out).symm, ?_⟩
          repeat (first | exact Below.refl _ _ | exact Bl.step hbz hB | refine Bl.set ?_ _ _ | refine Bl.drew ?_ | refine Bl.drewN ?_ _ | refine Bl.alloc ?_ _ | refine Bl.step ?_ (by assumption))
        · have HM := Lib.hid hm
          have HT := Lib.hid ht
          clear hm
          go_wp2_with (first
            | (go_at_call 12; refine (rmay_at HM.out _).mono ?_; rintro e wm ⟨rfl, hbm⟩; have Jm := (I4).below hbm (by first | omega | (simp; omega)); have Jm0 := Jm; obtain ⟨⟨m0, m1, m2, m3, m4⟩, mf, mB⟩ := Jm; have hBm : Below w1.heap.size w1 wm := (by repeat (first | exact Below.refl _ _ | exact hbw | refine Bl.set ?_ _ _ | refine Bl.drew ?_ | refine Bl.drewN ?_ _ | refine Bl.alloc ?_ _ | refine Bl.step ?_ (by assumption))); obtain ⟨⟨r0, r1, r2, r3, r4⟩, rf, rB⟩ := R1.below hBm (by omega))
            | (go_at_call 22; refine (rtext_yes _ _ _ _ _ _ (Env.of' (by repeat (first | exact Below.refl _ _ | exact hbw | refine Bl.set ?_ _ _ | refine Bl.drew ?_ | refine Bl.drewN ?_ _ | refine Bl.alloc ?_ _ | refine Bl.step ?_ (by assumption))) E1.out) HM.out).mono ?_; rintro e wt ⟨rfl, hbt⟩; have Jt := Jm0.below hbt (by first | omega | (simp; omega)); obtain ⟨⟨t0, t1, t2, t3, t4⟩, tf, tB⟩ := Jt; have hBt : Below w1.heap.size w1 wt := (by repeat (first | exact Below.refl _ _ | exact hbw | refine Bl.set ?_ _ _ | refine Bl.drew ?_ | refine Bl.drewN ?_ _ | refine Bl.alloc ?_ _ | refine Bl.step ?_ (by assumption))); obtain ⟨⟨s0, s1, s2, s3, s4⟩, sf, sB⟩ := R1.below hBt (by omega)))
          have hB := hBt
          refine bodyPost_ret (v := .tuple #[.agg #[.int .i64 op, .int .i64 (numR (rL s) 1 1), .int .i64 0, .int .i64 0, .int .i64 (numR (rL s) 2 0)], .int .i64 0]) (by simp [results, Tryd.results21, go_sem, s0, s1, s2, s3, s4]) rfl ⟨ret_val (rpV_yes HM.out HT.out).symm, ?_⟩
          repeat (first | exact Below.refl _ _ | exact Bl.step hbz hB | refine Bl.set ?_ _ _ | refine Bl.drew ?_ | refine Bl.drewN ?_ _ | refine Bl.alloc ?_ _ | refine Bl.step ?_ (by assumption))

end Go.Proofs.YtnkkomodpjgefaaDoor
