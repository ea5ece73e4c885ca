/- The walk of FilterPlains. -/
import Derived.Test.YteibholghonajaaFiN
import Derived.Test.YteibholghonajaaFiRm
namespace Go.Proofs.Yteibholghonajaa
open Go.RowKit

theorem qleast_some {w : World} {A : Option Addr} {N : List Tn} (h : TsIn w A (N.map Tn.ts)) (ho : ∀ t ∈ N, t.Ok) (hg : Good N) (n c : Nat) (hn : N.length = n) (hn2 : n ≤ 1000) :
    Calls Try.prog 16 #[.slice A n c] w fun e w' => ∃ A' c', e = .returned (.tuple #[.slice A' (lsT N).length c', .bool true]) ∧ PkIn w' A' (lsT N) ∧ Below w.heap.size w w' := by
  refine (qleast_any h ho n c hn hn2).mono ?_
  rw [leastL_good ho hg]
  rintro e w' ⟨hb, v, rfl, hown⟩
  obtain ⟨A', c', rfl, -, -⟩ := own_form hown
  exact ⟨A', c', rfl, PkIn.of_own hown rfl (lsT_256 ho), hb⟩
theorem qleast_none {w : World} {A : Option Addr} {N : List Tn} (h : TsIn w A (N.map Tn.ts)) (ho : ∀ t ∈ N, t.Ok) (hg : ¬ Good N) (n c : Nat) (hn : N.length = n) (hn2 : n ≤ 1000) :
    Calls Try.prog 16 #[.slice A n c] w fun e w' => e = .returned (.tuple #[.slice none 0 0, .bool false]) ∧ Below w.heap.size w w' := by
  refine (qleast_any h ho n c hn hn2).mono ?_
  rw [leastL_bad hg]
  rintro e w' ⟨hb, rfl⟩
  exact ⟨rfl, hb⟩
theorem qplain_to {w : World} {A : Option Addr} {N : List Tn} (h : TsIn w A (N.map Tn.ts)) (ho : ∀ t ∈ N, t.Ok) (hg : Good N) (n c : Nat) (hn : N.length = n) (hn2 : n ≤ 1000) :
    Calls Try.prog 18 #[.slice A n c] w fun e w' => ∃ A' c', e = .returned (.slice A' (plT N).length c') ∧ FlIn w' A' (plT N).length c' (plT N) ∧ Below w.heap.size w w' := by
  refine (qplain_any h ho hg n c hn hn2).mono ?_
  rintro e w' ⟨v, rfl, ho', hb⟩
  obtain ⟨A', c', rfl, hf⟩ := fl_own ho'
  exact ⟨A', c', rfl, hf, hb⟩
section
variable {w : World} {A B : Option Addr} {n c pn pc : Nat} {L : List Ts} {P : List Nat}
set_option maxHeartbeats 4000000 in
set_option maxRecDepth 100000 in
theorem plains_big (h63 : (n : Int) ≤ 9223372036854775807) (p63 : (pn : Int) ≤ 9223372036854775807) (hbig : 40 < n ∨ 300 < pn) :
    Calls Try.prog 4 #[.slice A n c, .slice B pn pc] w fun e w' => e = .returned (.bool true) ∧ Below w.heap.size w w' := by
  rcases Nat.lt_or_ge 40 n with hb | hb
  · have hb1 : (40 : Int) < (n : Int) := by omega
    clear hbig
    go_enter Try.func4, Try.ntmps4
    go_wp2_with (go_at_call 8; refine (known_anyF _).mono ?_; rintro e w1 ⟨rfl, hbk⟩)
    all_goals
      go_ret
      exact ⟨rfl, hbk⟩
  · have hb1 : ¬ (40 : Int) < (n : Int) := by omega
    have hb2 : (300 : Int) < (pn : Int) := by omega
    clear hbig
    go_enter Try.func4, Try.ntmps4
    go_wp2_with (go_at_call 8; refine (known_anyF _).mono ?_; rintro e w1 ⟨rfl, hbk⟩)
    all_goals
      go_ret
      exact ⟨rfl, hbk⟩
set_option maxHeartbeats 4000000 in
set_option maxRecDepth 100000 in
theorem plains_not (h : FlIn w A n c L) (hn : n ≤ 40) (hpn : pn ≤ 300) (hm : mayF L = false) :
    Calls Try.prog 4 #[.slice A n c, .slice B pn pc] w fun e w' => e = .returned (.bool true) ∧ Below w.heap.size w w' := by
  have H := Lib.hid h
  have HW := Lib.hid (Below.refl w.heap.size w)
  have hb1 : ¬ (40 : Int) < (n : Int) := by omega
  have hb2 : ¬ (300 : Int) < (pn : Int) := by omega
  have e1 := apartR_not (L := L) (K := []) (by rw [hm]; rfl)
  have e2 := bothR_not (L := L) (K := []) (by rw [hm]; rfl)
  have e3 := leastR_not hm
  have HNV := Lib.hid (fun (w' : World) (hb : Below w.heap.size w w') => never_any (H.out.below hb) (by omega))
  have HPL := Lib.hid (fun (w' : World) (hb : Below w.heap.size w w') => plain_to (H.out.below hb) (by omega) _ _ e2)
  have HLS := Lib.hid (fun (w' : World) (hb : Below w.heap.size w w') => least_to (H.out.below hb) (by omega) _ _ (by simp) e3)
  have HQ := Lib.hid (fun (w' : World) (hb : Below w.heap.size w w') => qmay_any (H.out.below hb).ts n c H.out.len (by omega))
  rw [hm] at HQ
  rw [e1] at HNV
  clear h hm e1 e2 e3
  go_enter Try.func4, Try.ntmps4
  go_wp2_with (first
    | (go_at_call 8; refine (known_anyF _).mono ?_; rintro e w1 ⟨rfl, hb⟩; have HW := Lib.hid (HW.out.trans (hb.mono HW.out.size)); clear hb)
    | (go_at_call 13; refine (HNV.out _ HW.out).mono ?_; rintro e w1 ⟨rfl, hb⟩; have HW := Lib.hid (HW.out.trans (hb.mono HW.out.size)); clear hb)
    | (go_at_call 14; refine (HPL.out _ HW.out).mono ?_; rintro e w1 ⟨A1, c1, rfl, -, hb⟩; have HW := Lib.hid (HW.out.trans (hb.mono HW.out.size)); clear hb)
    | (go_at_call 15; refine (HLS.out _ HW.out).mono ?_; rintro e w1 ⟨A2, c2, rfl, -, hb⟩; have HW := Lib.hid (HW.out.trans (hb.mono HW.out.size)); clear hb)
    | (go_at_call 10; refine (HQ.out _ HW.out).mono ?_; rintro e w1 ⟨rfl, rfl⟩))
  all_goals
    go_ret
    exact ⟨rfl, HW.out⟩
set_option maxHeartbeats 4000000 in
set_option maxRecDepth 100000 in
theorem plains_bad {N : List Tn} (h : FlIn w A n c (N.map Tn.ts)) (hN : NOk N) (hg : ¬ Good N) (hn : n ≤ 40) (hp : PkIn w B P) (hpl : P.length = pn) (hpn : pn ≤ 300) :
    Calls Try.prog 4 #[.slice A n c, .slice B pn pc] w fun e w' => e = .returned (.bool true) ∧ Below w.heap.size w w' := by
  have H := Lib.hid h
  have HP := Lib.hid hp
  have HPN := Lib.hid hpl
  have HW := Lib.hid (Below.refl w.heap.size w)
  have hb1 : ¬ (40 : Int) < (n : Int) := by omega
  have hb2 : ¬ (300 : Int) < (pn : Int) := by omega
  have e1 := neverR_bad hN hg
  have HNL : Hid (N.length = n) := Lib.hid (by have := h.len; rwa [List.length_map] at this)
  have HNV := Lib.hid (fun (w' : World) (hb : Below w.heap.size w w') => never_any (H.out.below hb) (by omega))
  have HPL := Lib.hid (fun (w' : World) (hb : Below w.heap.size w w') => plain_to (H.out.below hb) (by omega) _ _ (plainR_bad hN hg))
  have HLS := Lib.hid (fun (w' : World) (hb : Below w.heap.size w w') => least_to (H.out.below hb) (by omega) _ _ (by simp) (leastR_bad hN hg))
  have HQ := Lib.hid (fun (w' : World) (hb : Below w.heap.size w w') => qmay_any (H.out.below hb).ts n c H.out.len (by omega))
  have HQL := Lib.hid (fun (w' : World) (hb : Below w.heap.size w w') => qleast_none (H.out.below hb).ts hN.ok hg n c HNL.out (by omega))
  have HQM := Lib.hid (fun (w' : World) (hb : Below w.heap.size w w') => qmatch_any (H.out.below hb).ts n c H.out.len (by omega) (pc := pc) (HP.out.below hb) HPN.out (by omega))
  rw [hN.may] at HQ
  rw [e1] at HNV
  rw [match_bad hN hg P] at HQM
  clear h hN hg e1 hp hpl
  go_enter Try.func4, Try.ntmps4
  go_wp2_with (first
    | (go_at_call 8; refine (known_anyF _).mono ?_; rintro e w1 ⟨rfl, hb⟩; have HW := Lib.hid (HW.out.trans (hb.mono HW.out.size)); clear hb)
    | (go_at_call 13; refine (HNV.out _ HW.out).mono ?_; rintro e w1 ⟨rfl, hb⟩; have HW := Lib.hid (HW.out.trans (hb.mono HW.out.size)); clear hb)
    | (go_at_call 14; refine (HPL.out _ HW.out).mono ?_; rintro e w1 ⟨A1, c1, rfl, -, hb⟩; have HW := Lib.hid (HW.out.trans (hb.mono HW.out.size)); clear hb)
    | (go_at_call 15; refine (HLS.out _ HW.out).mono ?_; rintro e w1 ⟨A2, c2, rfl, -, hb⟩; have HW := Lib.hid (HW.out.trans (hb.mono HW.out.size)); clear hb)
    | (go_at_call 10; refine (HQ.out _ HW.out).mono ?_; rintro e w1 ⟨rfl, rfl⟩)
    | (go_at_call 16; refine (HQL.out _ HW.out).mono ?_; rintro e w1 ⟨rfl, hb⟩; have HW := Lib.hid (HW.out.trans (hb.mono HW.out.size)); clear hb)
    | (go_at_call 12; refine (HQM.out _ HW.out).mono ?_; rintro e w1 ⟨rfl, hb⟩; have HW := Lib.hid (HW.out.trans (hb.mono HW.out.size)); clear hb))
  all_goals
    go_ret
    exact ⟨rfl, HW.out⟩
/-- What the good way knows of a world. -/
structure Pw (w W : World) (A B : Option Addr) (n c pn pc : Nat) (N : List Tn) (P : List Nat) : Prop where
  f : FlIn W A n c (N.map Tn.ts)
  p : PkIn W B P
  b : Below w.heap.size w W
theorem Pw.step {w W W' : World} {A B : Option Addr} {n c pn pc : Nat} {N : List Tn} {P : List Nat} (h : Pw w W A B n c pn pc N P) (hb : Below W.heap.size W W') : Pw w W' A B n c pn pc N P := ⟨h.f.below hb, h.p.below hb, h.b.trans (hb.mono h.b.size)⟩
set_option maxHeartbeats 8000000 in
set_option maxRecDepth 100000 in
theorem plains_good {N : List Tn} (h : FlIn w A n c (N.map Tn.ts)) (hN : NOk N) (hg : Good N) (hn : n ≤ 40) (hp : PkIn w B P) (hpl : P.length = pn) (hpn : pn ≤ 300) :
    Calls Try.prog 4 #[.slice A n c, .slice B pn pc] w fun e w' => e = .returned (.bool true) ∧ Below w.heap.size w w' := by
  have K0 : Hid (Pw w w A B n c pn pc N P) := Lib.hid ⟨h, hp, Below.refl _ w⟩
  have HPN := Lib.hid hpl
  have HN := Lib.hid hN
  have HG := Lib.hid hg
  have hb1 : ¬ (40 : Int) < (n : Int) := by omega
  have hb2 : ¬ (300 : Int) < (pn : Int) := by omega
  have HLN := Lib.hid h.len
  have HNL : Hid (N.length = n) := Lib.hid (by have := h.len; rwa [List.length_map] at this)
  have HQ : Hid ((plT N).length ≤ 8) := Lib.hid (by unfold plT; rw [List.length_map]; exact (plT_nok hN).l8)
  have HLL : Hid ((lsT N).length ≤ 64) := Lib.hid (by rw [lsT_len]; exact long_bound hN.ok)
  clear h hN hg hp hpl
  go_enter Try.func4, Try.ntmps4
  go_wp2_with fail
  refine Calls.mono (never_any K0.out.f (by omega)) ?_
  rintro e w1 h
  obtain ⟨rfl, hb⟩ := be_to h (neverR_good HN.out HG.out)
  have K1 := Lib.hid (K0.out.step hb)
  clear h hb K0
  go_wp2_with fail
  refine Calls.mono (plain_to K1.out.f (by omega) _ _ (plainR_good HN.out HG.out)) ?_
  rintro e w2 ⟨A2, c2, rfl, hf2, hb⟩
  have K2 := Lib.hid (K1.out.step hb)
  have F2 := Lib.hid hf2
  clear hf2 hb K1
  go_wp2_with fail
  refine Calls.mono (least_to K2.out.f (by omega) _ _ (lsT_256 HN.out.ok) (leastR_good HN.out HG.out)) ?_
  rintro e w3 ⟨A3, c3, rfl, hf3, hb⟩
  have K3 := Lib.hid (K2.out.step hb)
  have F3 := Lib.hid (F2.out.below hb)
  have L3 := Lib.hid hf3
  clear hf3 hb K2 F2
  go_wp2_with fail
  refine Calls.mono (qmay_any K3.out.f.ts n c HLN.out (by omega)) ?_
  rw [HN.out.may]
  rintro e w4 ⟨rfl, rfl⟩
  go_wp2_with fail
  refine Calls.mono (qleast_some K3.out.f.ts HN.out.ok HG.out n c HNL.out (by omega)) ?_
  rintro e w5 ⟨A5, c5, rfl, hf5, hb⟩
  have K5 := Lib.hid (K3.out.step hb)
  have F5 := Lib.hid (F3.out.below hb)
  have L5 := Lib.hid (L3.out.below hb)
  have Q5 := Lib.hid hf5
  clear hf5 hb K3 F3 L3
  go_wp2_with fail
  refine Calls.mono (plain_to F5.out (by have := HQ.out; omega) _ _ (again_good HN.out HG.out)) ?_
  rintro e w6 ⟨A6, c6, rfl, hf6, hb⟩
  have K6 := Lib.hid (K5.out.step hb)
  have F6 := Lib.hid (F5.out.below hb)
  have L6 := Lib.hid (L5.out.below hb)
  have Q6 := Lib.hid (Q5.out.below hb)
  have G6 := Lib.hid hf6
  clear hf6 hb K5 F5 L5 Q5
  go_wp2_with fail
  refine Calls.mono (qplain_to K6.out.f.ts HN.out.ok HG.out n c HNL.out (by omega)) ?_
  rintro e w7 ⟨A7, c7, rfl, hf7, hb⟩
  have K7 := Lib.hid (K6.out.step hb)
  have F7 := Lib.hid (F6.out.below hb)
  have L7 := Lib.hid (L6.out.below hb)
  have Q7 := Lib.hid (Q6.out.below hb)
  have G7 := Lib.hid (G6.out.below hb)
  have R7 := Lib.hid hf7
  clear hf7 hb K6 F6 L6 Q6 G6
  go_wp2_with fail
  refine Calls.mono (qsame_any F7.out.ts R7.out.ts _ c2 _ c7 rfl rfl (by have := HQ.out; omega) (by have := HQ.out; omega)) ?_
  rw [decide_eq_true rfl]
  rintro e w8 ⟨rfl, hb⟩
  have K8 := Lib.hid (K7.out.step hb)
  have F8 := Lib.hid (F7.out.below hb)
  have L8 := Lib.hid (L7.out.below hb)
  have Q8 := Lib.hid (Q7.out.below hb)
  have G8 := Lib.hid (G7.out.below hb)
  have cv1 := conv_pk L8.out _ c3 rfl
  have cv2 := conv_pk Q8.out _ c5 rfl
  clear hb K7 F7 L7 Q7 G7 R7
  go_wp2_with fail
  clear cv1 cv2
  refine Calls.mono (qmatch_any K8.out.f.ts n c HLN.out (by omega) (pc := c3) L8.out rfl (by have := HLL.out; omega)) ?_
  rw [least_passes HN.out HG.out]
  rintro e w9 ⟨rfl, hb⟩
  have K9 := Lib.hid (K8.out.step hb)
  have F9 := Lib.hid (F8.out.below hb)
  have G9 := Lib.hid (G8.out.below hb)
  clear hb K8 F8 L8 Q8 G8
  go_wp2_with fail
  refine Calls.mono (qmatch_any K9.out.f.ts n c HLN.out (by omega) (pc := pc) K9.out.p HPN.out (by omega)) ?_
  rintro e w10 ⟨rfl, hb⟩
  have K10 := Lib.hid (K9.out.step hb)
  have F10 := Lib.hid (F9.out.below hb)
  have G10 := Lib.hid (G9.out.below hb)
  clear hb K9 F9 G9
  go_wp2_with fail
  refine Calls.mono (match_any F10.out.ts _ c2 rfl (by have := HQ.out; omega) (pc := pc) K10.out.p HPN.out (by omega)) ?_
  rw [match_plain HN.out HG.out]
  generalize matchL (N.map Tn.ts) P = mm
  rintro e w11 ⟨rfl, hb⟩
  have K11 := Lib.hid (K10.out.step hb)
  have F11 := Lib.hid (F10.out.below hb)
  have G11 := Lib.hid (G10.out.below hb)
  clear hb K10 F10 G10
  have hmm : (mm == mm) = true := by simp
  go_wp2_with fail
  refine Calls.mono (qsame_any G11.out.ts F11.out.ts _ c6 _ c2 rfl rfl (by have := HQ.out; omega) (by have := HQ.out; omega)) ?_
  rw [decide_eq_true rfl]
  rintro e w12 ⟨rfl, hb⟩
  have K12 := Lib.hid (K11.out.step hb)
  clear hb K11 F11 G11
  go_wp2_with fail
  refine Calls.mono (known_anyF _) ?_
  rintro e w13 ⟨rfl, hb⟩
  have K13 := Lib.hid (K12.out.step hb)
  clear hb K12
  go_wp2_with fail
  go_ret
  exact ⟨rfl, K13.out.b⟩
theorem plains_law (h : FlIn w A n c L) (h63 : (n : Int) ≤ 9223372036854775807) (hp : PkIn w B P) (hpn : P.length = pn) (p63 : (pn : Int) ≤ 9223372036854775807) :
    Calls Try.prog 4 #[.slice A n c, .slice B pn pc] w fun e w' => e = .returned (.bool true) ∧ Below w.heap.size w w' := by
  by_cases hbig : 40 < n ∨ 300 < pn
  · exact plains_big h63 p63 hbig
  · cases hm : mayF L with
    | false => exact plains_not h (by omega) (by omega) hm
    | true =>
      obtain ⟨N, rfl, hN⟩ := may_n hm
      by_cases hg : Good N
      · exact plains_good h hN hg (by omega) hp hpn (by omega)
      · exact plains_bad h hN hg (by omega) hp hpn (by omega)
end
end Go.Proofs.Yteibholghonajaa
