/- May, under (the closure), Over. -/
import Derived.Test.YtakgjakcbpdefaaCapD
namespace Go.Proofs.Ytakgjakcbpdefaa
open Go.RowKit
open Go.Maps (Keyed)

def mayP (a k o r : Int) (c : Cap) : Bool := c.account == a && (c.kind == k && (c.object == o && (bits .and .i64 c.rights r == r)))
theorem mayB_is (S : List Cap) (a k o r : Int) (h : rightsB r = true) : mayB S a k o r = S.any (mayP a k o r) := by
  unfold mayB; rw [h, Bool.true_and]; congr 1; funext c; unfold mayP; simp [Bool.and_assoc]
theorem may_no (a k o r : Int) (w : World) (p : Option Addr) (h : rightsB r = false) : Calls Try.prog 15 #[.pointer p, .int .i64 a, .int .i64 k, .int .i64 o, .int .i64 r] w fun e w' => e = .returned (.bool false) ∧ w = w' := by
  go_enter Try.func15, Try.ntmps15
  go_wp2_with (go_at_call 37; refine (areRights_any r _).mono ?_; rintro e w' ⟨rfl, rfl⟩)
  go_ret
  exact ⟨rfl, rfl⟩

set_option maxRecDepth 100000 in
set_option maxHeartbeats 2000000 in
theorem may_yes {w : World} {t b : Nat} {T : Tab} (h : TabAt w t b T) (a k o r : Int) (hr : rightsB r = true) :
    Calls Try.prog 15 #[.pointer (some ⟨t, 0, none⟩), .int .i64 a, .int .i64 k, .int .i64 o, .int .i64 r] w fun e w' => e = .returned (.bool (T.caps.any (mayP a k o r))) ∧ Below w.heap.size w w' := by
  obtain ⟨D, hown, hD⟩ := h.map
  have HU := Lib.hid h.ok.up
  have HALL := Lib.hid (met_all T.caps D hD h.ok.up)
  have HD := Lib.hid hD
  have HOW := Lib.hid hown
  have H := Lib.hid h
  clear hD h hown
  go_enter Try.func15, Try.ntmps15
  go_wp2_with (first
    | (go_at_call 37; refine (areRights_any r _).mono ?_; rintro e w' ⟨rfl, rfl⟩)
    | (go_at_call 30; refine (there_any H.out).mono ?_; rintro e w' ⟨rfl, rfl⟩)
    | (at_range; refine wpList_range_own _ rfl _ 59 rfl 2 43 Try.kid Try.underlying59 capE b T.last D rfl HOW.out ?_; intro w0 hrg0 hg0 hs0))
  go_frame
  go_loopw [19] (fun _ wr => ∃ (left : Lit → Bool) (cnt : Nat), metC T.caps left (mayP a k o r) = [] ∧ wr.ranges Try.prog 2 capE b w.heap.size T.last D left cnt ∧ Below w.heap.size w wr)
    (fun _ wr => wr.rangeLeft b w.heap.size)
  case atStart => exact ⟨_, _, met_start _ _ _ HALL.out, hrg0, (Below.refl _ w).grown hg0 (Nat.le_refl _) (by simp)⟩
  case round =>
    obtain ⟨left, cnt, hz, hrg, hbl⟩ := hrel
    have HZ := Lib.hid hz
    have HRG := Lib.hid hrg
    have HBL := Lib.hid hbl
    clear hrg hbl hz
    go_wp2_with (first
      | (at_next; refine wpList_next_caps _ rfl _ rfl b w.heap.size T.last D T.caps left cnt rfl HRG.out HD.out ?_ ?_)
      | go_in)
    · intro hl0
      go_wp2_with fail
      go_ret
      refine ⟨?_, HBL.out⟩
      have e := HZ.out
      rw [met_end _ _ _ hl0, List.filter_eq_nil_iff] at e
      have e2 : T.caps.any (mayP a k o r) = false := by rw [List.any_eq_false]; exact e
      rw [e2]; rfl
    · intro c w1 cnt1 hmem hlx hwf hrg1 hlt hg1 hs1 hen
      have HM := Lib.hid hmem
      have HP := Lib.hid (met_step left (mayP a k o r) c hlx HU.out hmem)
      have HRG1 := Lib.hid hrg1
      have HLT := Lib.hid hlt
      have HG := Lib.hid (HBL.out.grown hg1 HBL.out.size (by rintro k hk; cases hk; exact Nat.le_refl _))
      have HSZ := Lib.hid (show w.heap.size ≤ w1.heap.size by rw [hs1]; exact HBL.out.size)
      clear hmem hlx hwf hrg1 hlt hg1 hs1
      unfold capV at hen
      have on : mayP a k o r c = false → metC T.caps (fun z => left z && !z.sameKey (.int .i64 c.id)) (mayP a k o r) = [] := fun hm => by
        have hp := HP.out
        rw [hm, HZ.out] at hp
        exact hp.eq_nil
      have ON := Lib.hid on
      have YES := Lib.hid (fun hm : mayP a k o r c = true => (List.any_eq_true (l := T.caps) (p := mayP a k o r)).2 ⟨c, HM.out, hm⟩)
      clear on
      cases h1 : c.account == a
      case' true => cases h2 : c.kind == k
      case' true.true => cases h3 : c.object == o
      case' true.true.true => cases h4 : (bits .and .i64 c.rights r == r)
      case' true.true.true.true =>
        go_wp2_with fail
        go_ret
        refine ⟨?_, HG.out.alloc HSZ.out _⟩
        rw [YES.out (by unfold mayP; rw [h1, h2, h3, h4]; rfl)]; rfl
      all_goals
        go_wp2_with fail
        go_roundw
        case rel => exact ⟨_, cnt1, ON.out (by unfold mayP; simp [*]), HRG1.out.alloc _, HG.out.alloc HSZ.out _⟩
        case measure => rw [(HRG1.out.alloc _).left_eq, HRG.out.left_eq]; exact HLT.out
theorem may_any {w : World} {t b : Nat} {T : Tab} (h : TabAt w t b T) (a k o r : Int) :
    Calls Try.prog 15 #[.pointer (some ⟨t, 0, none⟩), .int .i64 a, .int .i64 k, .int .i64 o, .int .i64 r] w fun e w' => e = .returned (.bool (mayB T.caps a k o r)) ∧ Below w.heap.size w w' := by
  cases hr : rightsB r with
  | false => 
    have e : mayB T.caps a k o r = false := by unfold mayB; rw [hr]; rfl
    rw [e]
    exact (may_no a k o r w _ hr).mono (by rintro e w' ⟨rfl, rfl⟩; exact ⟨rfl, Below.refl _ _⟩)
  | true => rw [mayB_is _ _ _ _ _ hr]; exact may_yes h a k o r hr
end Go.Proofs.Ytakgjakcbpdefaa
