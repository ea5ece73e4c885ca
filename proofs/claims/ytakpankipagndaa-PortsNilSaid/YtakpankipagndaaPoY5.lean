/- Same of ports that are not there; nothing. -/
import Derived.Test.YtakpankipagndaaPoY4
import Derived.Test.YtakpankipagndaaPoM
namespace Go.Proofs.Ytakpankipagndaa
open Go.RowKit (wrap64)
open Go.RowKit
attribute [local go_sem] Oper.semAt_some

theorem same_none12 {w : World} {v v' : Value} (h : NoPo w v) (h' : NoPo w v') : Calls Try.prog 15 #[v, v'] w fun e w' => e = .returned (.bool true) ∧ w = w' := by
  go_enter Try.func15, Try.ntmps15
  go_wp2_with (first
    | (with_reducible (go_at_call 45; refine (there_no12 h).mono ?_); rintro e w' ⟨rfl, rfl⟩)
    | (with_reducible (go_at_call 45; refine (there_no12 h').mono ?_); rintro e w' ⟨rfl, rfl⟩))
  go_ret
  exact ⟨rfl, rfl⟩
theorem same_left12 {w : World} {O R : Nat → Prop} {p : Nat} {L : Lay12} {s : Ps} (h : PoAt w O R p L s) : Calls Try.prog 15 #[.pointer (some ⟨p, 0, none⟩), .pointer none] w fun e w' => e = .returned (.bool false) ∧ w = w' := by
  have H := Lib.hid (there_yes12 h)
  have H' := Lib.hid (there_no12 (w := w) (v := .pointer none) (.inl rfl))
  clear h
  go_enter Try.func15, Try.ntmps15
  go_wp2_with (first
    | (with_reducible (go_at_call 45; refine H.out.mono ?_); rintro e w' ⟨rfl, rfl⟩)
    | (with_reducible (go_at_call 45; refine H'.out.mono ?_); rintro e w' ⟨rfl, rfl⟩))
  go_ret
  exact ⟨rfl, rfl⟩
set_option maxHeartbeats 4000000 in
set_option maxRecDepth 100000 in
theorem nothing_any12 {w : World} {v : Value} (h : NoPo w v) : Calls Try.prog 27 #[v] w fun e w' => e = .returned (.bool true) ∧ Below w.heap.size w w' := by
  have hb1 : Below w.heap.size w (w.alloc (Obj.cells #[.int .u8 0] 5)) := (Below.refl _ w).alloc (Nat.le_refl _) _
  have HN := Lib.hid h
  have HN1 := Lib.hid (h.below hb1)
  have HB1 := Lib.hid hb1
  have qp : (binOp .eql 26 (.pointer none) (.pointer none)).run Try.prog = fun w => .ok (.bool true) w := by kernel_rfl
  clear h hb1
  go_enter Try.func27, Try.ntmps27
  go_wp2_with (first
    | (go_at_call 18; refine (num_any12 _ _).mono ?_; rintro e w' ⟨rfl, rfl⟩)
    | (go_at_call 17; refine (claim_none12 HN.out 0 _).mono ?_; rintro e w' ⟨rfl, rfl⟩)
    | (go_at_call 22; refine (close_none12 HN.out 0 0).mono ?_; rintro e w' ⟨rfl, rfl⟩)
    | (go_at_call 19; refine (come_none12 HN1.out _).mono ?_; rintro e w' ⟨rfl, rfl⟩)
    | (go_at_call 21; refine (take_none12 HN1.out 0 0).mono ?_; rintro e w' ⟨rfl, rfl⟩)
    | (go_at_call 35; refine (look_none12 HN1.out 0 0).mono ?_; rintro e w' ⟨rfl, rfl⟩)
    | (go_at_call 43; refine (filter_none12 HN1.out 0 0).mono ?_; rintro e w' ⟨rfl, rfl⟩)
    | (go_at_call 20; refine (len_no12 HN1.out 0 0).mono ?_; rintro e w' ⟨rfl, rfl⟩)
    | (go_at_call 26; refine (lost_no12 HN1.out 0 0).mono ?_; rintro e w' ⟨rfl, rfl⟩)
    | (go_at_call 37; refine (quota_no12 HN1.out 0).mono ?_; rintro e w' ⟨rfl, rfl⟩)
    | (go_at_call 40; refine (open_none12 HN1.out 0).mono ?_; rintro e w' ⟨rfl, rfl⟩)
    | (go_at_call 44; refine (ring_none12 HN1.out).mono ?_; rintro e w2 ⟨rfl, hb2⟩; have HN2 := Lib.hid (HN1.out.below hb2); have HB2 := Lib.hid (HB1.out.trans (hb2.mono HB1.out.size)); clear hb2)
    | (go_at_call 25; refine (copy_none12 HN2.out).mono ?_; rintro e w' ⟨rfl, rfl⟩)
    | (go_at_call 15; refine (same_none12 HN2.out (.inl rfl)).mono ?_; rintro e w' ⟨rfl, rfl⟩))
  go_ret
  exact ⟨rfl, HB2.out⟩
end Go.Proofs.Ytakpankipagndaa
