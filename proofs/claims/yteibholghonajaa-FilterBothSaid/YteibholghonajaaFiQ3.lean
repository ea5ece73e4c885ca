/- The walk of FilterBoth, where some packet passes both. -/
import Derived.Test.YteibholghonajaaFiQ
namespace Go.Proofs.Yteibholghonajaa
open Go.RowKit
section
variable {w : World} {A A' B : Option Addr} {n c m d pn pc : Nat} {L K : List Ts} {P : List Nat}
set_option maxHeartbeats 32000000 in
set_option maxRecDepth 100000 in
theorem fboth_good3 {N M : List Tn} (h : FlIn w A n c (N.map Tn.ts)) (k : FlIn w A' m d (M.map Tn.ts)) (hn : n ≤ 40) (hm : m ≤ 40) (hpn : pn ≤ 300) (hp : PkIn w B P) (hpl : P.length = pn) (hN : NOk N) (hM : NOk M) (g : Good (N ++ M)) (h8 : ¬ (testsS (sumN (N ++ M))).length ≤ 8) :
    Calls Try.prog 5 #[.slice A n c, .slice A' m d, .slice B pn pc] w fun e w' => e = .returned (.bool true) ∧ Below w.heap.size w w' := by
  have H := Lib.hid h
  have K' := Lib.hid k
  have HW := Lib.hid (Below.refl w.heap.size w)
  have hb1 : ¬ (40 : Int) < (n : Int) := by omega
  have hb2 : ¬ (40 : Int) < (m : Int) := by omega
  have hb3 : ¬ (300 : Int) < (pn : Int) := by omega
  have HP := Lib.hid hp
  have HPN := Lib.hid hpl
  have nN : N.length = n := by have := h.len; rwa [List.length_map] at this
  have nM : M.length = m := by have := k.len; rwa [List.length_map] at this
  have HQF := Lib.hid (fun (w' : World) (hb : Below w.heap.size w w') => qmay_any (H.out.below hb).ts n c H.out.len (by omega))
  have HQG := Lib.hid (fun (w' : World) (hb : Below w.heap.size w w') => qmay_any (K'.out.below hb).ts m d K'.out.len (by omega))
  rw [hN.may] at HQF
  rw [hM.may] at HQG
  have HAL := Lib.hid (fun (w' : World) (hb : Below w.heap.size w w') => qboth_to (H.out.below hb) (K'.out.below hb) (by omega) (by omega))
  have HMF := Lib.hid (fun (w' : World) (hb : Below w.heap.size w w') => qmatch_any (H.out.below hb).ts n c H.out.len (by omega) (pc := pc) (HP.out.below hb) HPN.out (by omega))
  have HMG := Lib.hid (fun (w' : World) (hb : Below w.heap.size w w') => qmatch_any (K'.out.below hb).ts m d K'.out.len (by omega) (pc := pc) (HP.out.below hb) HPN.out (by omega))
  have HBO := Lib.hid (fun (w' : World) (hb : Below w.heap.size w w') => both_to (H.out.below hb) (K'.out.below hb) (by omega) (by omega) _ _ (bothR_long hN hM g h8))
  have HAP := Lib.hid (fun (w' : World) (hb : Below w.heap.size w w') => apart_to (H.out.below hb) (K'.out.below hb) (by omega) (by omega) (apartR_good hN hM g))
  have HWI := Lib.hid (fun (w' : World) (hb : Below w.heap.size w w') => within_to (H.out.below hb) (K'.out.below hb) (by omega) (by omega) (withinR_good hN hM g))
  have HSA := Lib.hid (fun (w' : World) (hb : Below w.heap.size w w') => same_to (H.out.below hb) (K'.out.below hb) (by omega) (by omega) (sameR_good hN hM g))
  have lN : (plT N).length ≤ 100 := by unfold plT; rw [List.length_map]; have := (plT_nok hN).l8; omega
  have lM : (plT M).length ≤ 100 := by unfold plT; rw [List.length_map]; have := (plT_nok hM).l8; omega
  have lA : (plT (N ++ M)).length ≤ 100 := by unfold plT; rw [List.length_map]; have := tests_len (N ++ M); have h1 := hN.l8; have h2 := hM.l8; rw [List.length_append] at this; omega
  have hq8 : ¬ (plT (N ++ M)).length ≤ 8 := by unfold plT; rw [List.length_map]; omega
  have HLA := Lib.hid (fun (w' : World) (A1 : Option Addr) (c1 : Nat) (F : FlIn w' A1 (n + m) c1 (N.map Tn.ts ++ M.map Tn.ts)) => qleast_b (N := N ++ M) (by rw [List.map_append]; exact F.ts) (app_ok hN.ok hM.ok) g (n + m) c1 (by rw [List.length_append, nN, nM]) (by omega))
  have HLF := Lib.hid (fun (w' : World) (hb : Below w.heap.size w w') => qleast_b (H.out.below hb).ts hN.ok (good_left g) n c nN (by omega))
  have HLG := Lib.hid (fun (w' : World) (hb : Below w.heap.size w w') => qleast_b (K'.out.below hb).ts hM.ok (good_right g) m d nM (by omega))
  have HPA := Lib.hid (fun (w' : World) (A1 : Option Addr) (c1 : Nat) (F : FlIn w' A1 (n + m) c1 (N.map Tn.ts ++ M.map Tn.ts)) => qplain_to (N := N ++ M) (by rw [List.map_append]; exact F.ts) (app_ok hN.ok hM.ok) g (n + m) c1 (by rw [List.length_append, nN, nM]) (by omega))
  have HPF := Lib.hid (fun (w' : World) (hb : Below w.heap.size w w') => qplain_to (H.out.below hb).ts hN.ok (good_left g) n c nN (by omega))
  have HPG := Lib.hid (fun (w' : World) (hb : Below w.heap.size w w') => qplain_to (K'.out.below hb).ts hM.ok (good_right g) m d nM (by omega))
  obtain ⟨v1, v2⟩ := ways_good hN hM g P
  clear g hN hM h k hp hpl h8
  have HSI := Lib.hid (fun (w' : World) (A1 A2 : Option Addr) (c1 c2 : Nat) (F1 : FlIn w' A1 (plT (N ++ M)).length c1 (plT (N ++ M))) (F2 : FlIn w' A2 (plT N).length c2 (plT N)) => qsame_any F1.ts F2.ts _ c1 _ c2 rfl rfl (by omega) (by omega))
  have HSJ := Lib.hid (fun (w' : World) (A1 A2 : Option Addr) (c1 c2 : Nat) (F1 : FlIn w' A1 (plT (N ++ M)).length c1 (plT (N ++ M))) (F2 : FlIn w' A2 (plT M).length c2 (plT M)) => qsame_any F1.ts F2.ts _ c1 _ c2 rfl rfl (by omega) (by omega))
  have v1' : decide (plT (N ++ M) = plT N) = true → matchL (N.map Tn.ts) P = true → matchL (M.map Tn.ts) P = true := fun e => v1 (of_decide_eq_true e)
  have v2' : decide (plT (N ++ M) = plT M) = true → matchL (M.map Tn.ts) P = true → matchL (N.map Tn.ts) P = true := fun e => v2 (of_decide_eq_true e)
  clear v1 v2
  generalize decide (plT (N ++ M) = plT N) = i at HWI HSA HSI v1'
  generalize decide (plT (N ++ M) = plT M) = j at HSA HSJ v2'
  generalize matchL (N.map Tn.ts) P = mf at HMF v1' v2'
  generalize matchL (M.map Tn.ts) P = mg at HMG v1' v2'
  generalize plT (N ++ M) = TA at *
  generalize plT N = TN at *
  generalize plT M = TM at *
  have hq8' : (8 : Int) < (TA.length : Int) := by omega
  cases i <;> cases j <;> cases mf <;> cases mg
  all_goals first | (exact absurd (v1' rfl rfl) (by decide)) | (exact absurd (v2' rfl rfl) (by decide)) | skip
  all_goals
    clear v1' v2'
    simp only [Bool.and_true, Bool.and_false] at HSA
    go_enter Try.func5, Try.ntmps5
    go_wp2_with (first
      | (go_at_call 8; refine (known_anyF _).mono ?_; rintro e w1 ⟨rfl, hb⟩; have HW := Lib.hid (HW.out.trans (hb.mono HW.out.size)); (try have FB := Lib.hid (FB.out.below hb)); (try have FA := Lib.hid (FA.out.below hb)); (try have F7 := Lib.hid (F7.out.below hb)); (try have F8 := Lib.hid (F8.out.below hb)); (try have F9 := Lib.hid (F9.out.below hb)); clear hb)
      | (go_at_call 19; refine (HBO.out _ HW.out).mono ?_; rintro e w1 ⟨Ab, cb, rfl, hfb, hb⟩; have HW := Lib.hid (HW.out.trans (hb.mono HW.out.size)); (try have FB := Lib.hid (FB.out.below hb)); (try have FA := Lib.hid (FA.out.below hb)); (try have F7 := Lib.hid (F7.out.below hb)); (try have F8 := Lib.hid (F8.out.below hb)); (try have F9 := Lib.hid (F9.out.below hb)); have FB := Lib.hid hfb; clear hb hfb)
      | (go_at_call 20; refine (HAP.out _ HW.out).mono ?_; rintro e w1 ⟨rfl, hb⟩; have HW := Lib.hid (HW.out.trans (hb.mono HW.out.size)); (try have FB := Lib.hid (FB.out.below hb)); (try have FA := Lib.hid (FA.out.below hb)); (try have F7 := Lib.hid (F7.out.below hb)); (try have F8 := Lib.hid (F8.out.below hb)); (try have F9 := Lib.hid (F9.out.below hb)); clear hb)
      | (go_at_call 21; refine (HWI.out _ HW.out).mono ?_; rintro e w1 ⟨rfl, hb⟩; have HW := Lib.hid (HW.out.trans (hb.mono HW.out.size)); (try have FB := Lib.hid (FB.out.below hb)); (try have FA := Lib.hid (FA.out.below hb)); (try have F7 := Lib.hid (F7.out.below hb)); (try have F8 := Lib.hid (F8.out.below hb)); (try have F9 := Lib.hid (F9.out.below hb)); clear hb)
      | (go_at_call 22; refine (HSA.out _ HW.out).mono ?_; rintro e w1 ⟨rfl, hb⟩; have HW := Lib.hid (HW.out.trans (hb.mono HW.out.size)); (try have FB := Lib.hid (FB.out.below hb)); (try have FA := Lib.hid (FA.out.below hb)); (try have F7 := Lib.hid (F7.out.below hb)); (try have F8 := Lib.hid (F8.out.below hb)); (try have F9 := Lib.hid (F9.out.below hb)); clear hb)
      | (with_reducible (go_at_call 10; refine (HQF.out _ HW.out).mono ?_); rintro e w1 ⟨rfl, rfl⟩)
      | (with_reducible (go_at_call 10; refine (HQG.out _ HW.out).mono ?_); rintro e w1 ⟨rfl, rfl⟩)
      | (go_at_call 23; refine (HAL.out _ HW.out).mono ?_; rintro e w1 ⟨Aa, ca, rfl, hfa, hb⟩; have HW := Lib.hid (HW.out.trans (hb.mono HW.out.size)); (try have FB := Lib.hid (FB.out.below hb)); (try have FA := Lib.hid (FA.out.below hb)); (try have F7 := Lib.hid (F7.out.below hb)); (try have F8 := Lib.hid (F8.out.below hb)); (try have F9 := Lib.hid (F9.out.below hb)); have FA := Lib.hid hfa; clear hb hfa)
      | (with_reducible (go_at_call 16; refine (HLA.out _ _ _ FA.out).mono ?_); rintro e w1 ⟨v1, rfl, hb⟩; have HW := Lib.hid (HW.out.trans (hb.mono HW.out.size)); (try have FB := Lib.hid (FB.out.below hb)); (try have FA := Lib.hid (FA.out.below hb)); (try have F7 := Lib.hid (F7.out.below hb)); (try have F8 := Lib.hid (F8.out.below hb)); (try have F9 := Lib.hid (F9.out.below hb)); clear hb)
      | (with_reducible (go_at_call 16; refine (HLF.out _ HW.out).mono ?_); rintro e w1 ⟨v2, rfl, hb⟩; have HW := Lib.hid (HW.out.trans (hb.mono HW.out.size)); (try have FB := Lib.hid (FB.out.below hb)); (try have FA := Lib.hid (FA.out.below hb)); (try have F7 := Lib.hid (F7.out.below hb)); (try have F8 := Lib.hid (F8.out.below hb)); (try have F9 := Lib.hid (F9.out.below hb)); clear hb)
      | (with_reducible (go_at_call 16; refine (HLG.out _ HW.out).mono ?_); rintro e w1 ⟨v3, rfl, hb⟩; have HW := Lib.hid (HW.out.trans (hb.mono HW.out.size)); (try have FB := Lib.hid (FB.out.below hb)); (try have FA := Lib.hid (FA.out.below hb)); (try have F7 := Lib.hid (F7.out.below hb)); (try have F8 := Lib.hid (F8.out.below hb)); (try have F9 := Lib.hid (F9.out.below hb)); clear hb)
      | (with_reducible (go_at_call 12; refine (HMF.out _ HW.out).mono ?_); rintro e w1 ⟨rfl, hb⟩; have HW := Lib.hid (HW.out.trans (hb.mono HW.out.size)); (try have FB := Lib.hid (FB.out.below hb)); (try have FA := Lib.hid (FA.out.below hb)); (try have F7 := Lib.hid (F7.out.below hb)); (try have F8 := Lib.hid (F8.out.below hb)); (try have F9 := Lib.hid (F9.out.below hb)); clear hb)
      | (with_reducible (go_at_call 12; refine (HMG.out _ HW.out).mono ?_); rintro e w1 ⟨rfl, hb⟩; have HW := Lib.hid (HW.out.trans (hb.mono HW.out.size)); (try have FB := Lib.hid (FB.out.below hb)); (try have FA := Lib.hid (FA.out.below hb)); (try have F7 := Lib.hid (F7.out.below hb)); (try have F8 := Lib.hid (F8.out.below hb)); (try have F9 := Lib.hid (F9.out.below hb)); clear hb)
      | (with_reducible (go_at_call 18; refine (HPA.out _ _ _ FA.out).mono ?_); rintro e w1 ⟨A7, c7, rfl, hf7, hb⟩; have HW := Lib.hid (HW.out.trans (hb.mono HW.out.size)); (try have FB := Lib.hid (FB.out.below hb)); (try have FA := Lib.hid (FA.out.below hb)); (try have F7 := Lib.hid (F7.out.below hb)); (try have F8 := Lib.hid (F8.out.below hb)); (try have F9 := Lib.hid (F9.out.below hb)); have F7 := Lib.hid hf7; clear hb hf7)
      | (with_reducible (go_at_call 18; refine (HPF.out _ HW.out).mono ?_); rintro e w1 ⟨A8, c8, rfl, hf8, hb⟩; have HW := Lib.hid (HW.out.trans (hb.mono HW.out.size)); (try have FB := Lib.hid (FB.out.below hb)); (try have FA := Lib.hid (FA.out.below hb)); (try have F7 := Lib.hid (F7.out.below hb)); (try have F8 := Lib.hid (F8.out.below hb)); (try have F9 := Lib.hid (F9.out.below hb)); have F8 := Lib.hid hf8; clear hb hf8)
      | (with_reducible (go_at_call 18; refine (HPG.out _ HW.out).mono ?_); rintro e w1 ⟨A9, c9, rfl, hf9, hb⟩; have HW := Lib.hid (HW.out.trans (hb.mono HW.out.size)); (try have FB := Lib.hid (FB.out.below hb)); (try have FA := Lib.hid (FA.out.below hb)); (try have F7 := Lib.hid (F7.out.below hb)); (try have F8 := Lib.hid (F8.out.below hb)); (try have F9 := Lib.hid (F9.out.below hb)); have F9 := Lib.hid hf9; clear hb hf9)
      | (with_reducible (go_at_call 17; refine (HSI.out _ _ _ _ _ F7.out F8.out).mono ?_); rintro e w1 ⟨rfl, hb⟩; have HW := Lib.hid (HW.out.trans (hb.mono HW.out.size)); (try have FB := Lib.hid (FB.out.below hb)); (try have FA := Lib.hid (FA.out.below hb)); (try have F7 := Lib.hid (F7.out.below hb)); (try have F8 := Lib.hid (F8.out.below hb)); (try have F9 := Lib.hid (F9.out.below hb)); clear hb)
      | (with_reducible (go_at_call 17; refine (HSJ.out _ _ _ _ _ F7.out F9.out).mono ?_); rintro e w1 ⟨rfl, hb⟩; have HW := Lib.hid (HW.out.trans (hb.mono HW.out.size)); (try have FB := Lib.hid (FB.out.below hb)); (try have FA := Lib.hid (FA.out.below hb)); (try have F7 := Lib.hid (F7.out.below hb)); (try have F8 := Lib.hid (F8.out.below hb)); (try have F9 := Lib.hid (F9.out.below hb)); clear hb)
      | (with_reducible (go_at_call 17; refine (HSB.out _ _ _ _ _ FB.out F7.out).mono ?_); rintro e w1 ⟨rfl, hb⟩; have HW := Lib.hid (HW.out.trans (hb.mono HW.out.size)); (try have FB := Lib.hid (FB.out.below hb)); (try have FA := Lib.hid (FA.out.below hb)); (try have F7 := Lib.hid (F7.out.below hb)); (try have F8 := Lib.hid (F8.out.below hb)); (try have F9 := Lib.hid (F9.out.below hb)); clear hb))
    all_goals
      go_ret
      exact ⟨rfl, HW.out⟩
end
end Go.Proofs.Yteibholghonajaa
