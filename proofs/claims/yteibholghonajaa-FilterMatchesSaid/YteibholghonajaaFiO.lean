/- The walk of FilterMatches. -/
import Derived.Test.YteibholghonajaaFiN
namespace Go.Proofs.Yteibholghonajaa
open Go.RowKit

set_option maxHeartbeats 4000000 in
set_option maxRecDepth 100000 in
theorem matches_law {w : World} {A B : Option Addr} {n c pn pc : Nat} {L : List Ts} {P : List Nat} (h : FlIn w A n c L) (h63 : (n : Int) ≤ 9223372036854775807) (hp : PkIn w B P) (hpn : P.length = pn) (p63 : (pn : Int) ≤ 9223372036854775807) :
    Calls Try.prog 3 #[.slice A n c, .slice B pn pc] w fun e w' => e = .returned (.bool true) ∧ Below w.heap.size w w' := by
  have H := Lib.hid h
  have HP := Lib.hid hp
  have HPN := Lib.hid hpn
  have HW := Lib.hid (Below.refl w.heap.size w)
  clear h hp hpn
  by_cases hbig : 40 < n ∨ 300 < pn
  · rcases Nat.lt_or_ge 40 n with hb | hb
    · have hb1 : (40 : Int) < (n : Int) := by omega
      clear hbig
      go_enter Try.func3, Try.ntmps3
      go_wp2_with (go_at_call 8; refine (known_anyF _).mono ?_; rintro e w1 ⟨rfl, hbk⟩)
      all_goals
        go_ret
        exact ⟨rfl, hbk⟩
    · have hb1 : ¬ (40 : Int) < (n : Int) := by omega
      have hb2 : (300 : Int) < (pn : Int) := by omega
      clear hbig
      go_enter Try.func3, Try.ntmps3
      go_wp2_with (go_at_call 8; refine (known_anyF _).mono ?_; rintro e w1 ⟨rfl, hbk⟩)
      all_goals
        go_ret
        exact ⟨rfl, hbk⟩
  · have hb1 : ¬ (40 : Int) < (n : Int) := by omega
    have hb2 : ¬ (300 : Int) < (pn : Int) := by omega
    have HC := Lib.hid (fun (w' : World) (hb : Below w.heap.size w w') => check_any (H.out.below hb).ts n c H.out.len h63)
    have HQ := Lib.hid (fun (w' : World) (hb : Below w.heap.size w w') => qmay_any (H.out.below hb).ts n c H.out.len h63)
    have HM := Lib.hid (fun (w' : World) (hb : Below w.heap.size w w') => match_any (H.out.below hb).ts n c H.out.len h63 (pc := pc) (HP.out.below hb) HPN.out p63)
    have HN := Lib.hid (fun (w' : World) (hb : Below w.heap.size w w') => qmatch_any (H.out.below hb).ts n c H.out.len h63 (pc := pc) (HP.out.below hb) HPN.out p63)
    generalize matchL L P = m at HM HN
    clear hbig
    cases hm : mayF L
    all_goals
      first | rw [checkE_may hm] at HC | rw [checkE_no hm] at HC
      rw [hm] at HQ
      clear hm
      cases m
      all_goals
        go_enter Try.func3, Try.ntmps3
        go_wp2_with (first
          | (go_at_call 8; refine (known_anyF _).mono ?_; rintro e w1 ⟨rfl, hb⟩; have HW := Lib.hid (HW.out.trans (hb.mono HW.out.size)); clear hb)
          | (go_at_call 9; refine (HC.out _ HW.out).mono ?_; rintro e w1 ⟨rfl, hb⟩; have HW := Lib.hid (HW.out.trans (hb.mono HW.out.size)); clear hb)
          | (go_at_call 10; refine (HQ.out _ HW.out).mono ?_; rintro e w1 ⟨rfl, rfl⟩)
          | (go_at_call 11; refine (HM.out _ HW.out).mono ?_; rintro e w1 ⟨rfl, hb⟩; have HW := Lib.hid (HW.out.trans (hb.mono HW.out.size)); clear hb)
          | (go_at_call 12; refine (HN.out _ HW.out).mono ?_; rintro e w1 ⟨rfl, hb⟩; have HW := Lib.hid (HW.out.trans (hb.mono HW.out.size)); clear hb))
        all_goals
          go_ret
          exact ⟨rfl, HW.out⟩
end Go.Proofs.Yteibholghonajaa
