/- The document's Root and Under. -/
import Derived.Test.YtakgjakcbpdefaaCaqE
namespace Go.Proofs.Ytakgjakcbpdefaa
open Go.RowKit

section
variable {w : World} {B q : Nat} {T : Tab}
theorem QOut.no (h : QAt w B q T) {w' : World} (hb : Below w.heap.size w w') (x : Int) : QOut w B q ⟨T, 0, x⟩ (.returned (.tuple #[.int .i64 0, .int .i64 x])) w' := ⟨rfl, h.step hb, DK.of_below hb⟩
theorem QOut.at_ {o : Out} {e : Ending} {w' : World} (h : QOut w B q o e w') : e = .returned (.tuple #[.int .i64 o.num, .int .i64 o.err]) ∧ QOut w B q o (.returned (.tuple #[.int .i64 o.num, .int .i64 o.err])) w' := ⟨h.1, rfl, h.2⟩
set_option maxHeartbeats 4000000 in
set_option maxRecDepth 100000 in
theorem qroot_any (h : QAt w B q T) (hB : B ≤ w.heap.size) (hl : T.last < 1000) (hn : T.caps.length ≤ 1000) (a k o r : Int) :
    Calls Try.prog 32 #[.pointer (some ⟨q, 0, none⟩), .int .i64 a, .int .i64 k, .int .i64 o, .int .i64 r] w (QOut w B q (rootO T a k o r)) := by
  have HA := Lib.hid (fun W => qaccount_any a W)
  have HR := Lib.hid (fun W => qrights_any r W)
  have HADD := Lib.hid (qadd_any h hB hl hn ⟨0, 0, a, a, k, o, r⟩)
  have HE := Lib.hid (QOut.no h (Below.refl _ w) 2)
  unfold rootO rootB
  clear h hB hl hn
  cases ha : accB a with
  | false =>
    rw [ha] at HA
    clear ha
    go_enter Try.func32, Try.ntmps32
    go_wp2_with (first | (go_at_call 51; refine (HA.out _).mono ?_; rintro e w' ⟨rfl, rfl⟩) | (go_at_call 38; refine (HR.out _).mono ?_; rintro e w' ⟨rfl, rfl⟩))
    go_ret2
    exact HE.out
  | true =>
    rw [ha] at HA
    clear ha
    by_cases hk : 0 ≤ k
    · have hk' : ¬ k < 0 := by omega
      by_cases ho : 0 ≤ o
      · have ho' : ¬ o < 0 := by omega
        cases hr : rightsB r with
        | false =>
          rw [hr] at HR
          clear hr
          simp only [hk, ho, decide_true, Bool.true_and, Bool.and_true, Bool.and_false, Bool.false_eq_true, if_false]
          clear hk ho
          go_enter Try.func32, Try.ntmps32
          go_wp2_with (first | (go_at_call 51; refine (HA.out _).mono ?_; rintro e w' ⟨rfl, rfl⟩) | (go_at_call 38; refine (HR.out _).mono ?_; rintro e w' ⟨rfl, rfl⟩))
          go_ret2
          exact HE.out
        | true =>
          rw [hr] at HR
          clear hr
          simp only [hk, ho, decide_true, Bool.true_and, Bool.and_true, if_true]
          clear hk ho
          generalize addO T ⟨0, 0, a, a, k, o, r⟩ = oo at HADD
          go_enter Try.func32, Try.ntmps32
          go_wp2_with (first | (go_at_call 51; refine (HA.out _).mono ?_; rintro e w' ⟨rfl, rfl⟩) | (go_at_call 38; refine (HR.out _).mono ?_; rintro e w' ⟨rfl, rfl⟩) | (go_at_call 52; refine HADD.out.mono ?_; rintro e w' hq; obtain ⟨rfl, hq2⟩ := hq.at_; have HQ2 := Lib.hid hq2; clear hq hq2))
          go_ret2
          exact HQ2.out
      · have ho' : o < 0 := by omega
        simp only [hk, ho, decide_true, decide_false, Bool.true_and, Bool.and_true, Bool.and_false, Bool.false_and, Bool.false_eq_true, if_false]
        clear hk ho
        go_enter Try.func32, Try.ntmps32
        go_wp2_with (first | (go_at_call 51; refine (HA.out _).mono ?_; rintro e w' ⟨rfl, rfl⟩) | (go_at_call 38; refine (HR.out _).mono ?_; rintro e w' ⟨rfl, rfl⟩))
        go_ret2
        exact HE.out
    · have hk' : k < 0 := by omega
      simp only [hk, decide_false, Bool.true_and, Bool.and_true, Bool.and_false, Bool.false_and, Bool.false_eq_true, if_false]
      clear hk
      go_enter Try.func32, Try.ntmps32
      go_wp2_with (first | (go_at_call 51; refine (HA.out _).mono ?_; rintro e w' ⟨rfl, rfl⟩) | (go_at_call 38; refine (HR.out _).mono ?_; rintro e w' ⟨rfl, rfl⟩))
      go_ret2
      exact HE.out
end
end Go.Proofs.Ytakgjakcbpdefaa
