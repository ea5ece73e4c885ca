/- Asking a plain memory: has, May, Get, Set; may, which asks through the interface. -/
import Derived.Test.YtknepljmbpdpkaaIsaBytes
import Derived.Test.YtknepljmbpdpkaaIsaW
import Derived.Test.YtknepljmbpdpkaaCpA
namespace Go.Proofs.Ytknepljmbpdpkaa
open Go.RowKit

set_option maxHeartbeats 1000000 in
theorem has_any8 {w : World} {F B : Nat} {ra : Option Addr} {rc bc : Nat} {m : Mem8} (h : FlatAt w F B ra rc bc m) (x : Int) (h0 : 0 ≤ x) (h1 : x < 4294967296) :
    Calls Try.prog 35 #[.pointer (some ⟨F, 0, none⟩), .int .u32 x] w fun e w' => e = .returned (.bool (m.has x)) ∧ w = w' := by
  have c1 := h.c1
  have hn := h.ok.np
  clear h
  go_enter Try.func35, Try.ntmps35
  go_wp2
  go_ret
  exact ⟨rfl, rfl⟩

set_option maxHeartbeats 1000000 in
theorem get_any8 {w : World} {F B : Nat} {ra : Option Addr} {rc bc : Nat} {m : Mem8} (h : FlatAt w F B ra rc bc m) (x : Int) (h0 : 0 ≤ x) (h1 : x < 4294967296) (hh : m.has x = true) :
    Calls Try.prog 24 #[.pointer (some ⟨F, 0, none⟩), .int .u32 x] w fun e w' => e = .returned (.int .u8 (m.bt x.toNat)) ∧ w = w' := by
  have c1 := h.c1
  have hn := h.ok.np
  have hx : x < (m.np : Int) * 256 := by unfold Mem8.has at hh; simpa using hh
  have cb := h.bs x.toNat (by omega)
  have H := Lib.hid h
  have HH := Lib.hid hh
  clear h hh
  go_enter Try.func24, Try.ntmps24
  go_wp2_with (go_at_call 35; refine (has_any8 H.out _ h0 h1).mono ?_; rw [HH.out]; rintro e w' ⟨rfl, rfl⟩)
  go_ret
  exact ⟨rfl, rfl⟩

set_option maxHeartbeats 1000000 in
theorem get_none8 {w : World} {F B : Nat} {ra : Option Addr} {rc bc : Nat} {m : Mem8} (h : FlatAt w F B ra rc bc m) (x : Int) (h0 : 0 ≤ x) (h1 : x < 4294967296) (hh : m.has x = false) :
    Calls Try.prog 24 #[.pointer (some ⟨F, 0, none⟩), .int .u32 x] w fun e w' => e = .returned (.int .u8 0) ∧ w = w' := by
  have H := Lib.hid h
  have HH := Lib.hid hh
  clear h hh
  go_enter Try.func24, Try.ntmps24
  go_wp2_with (go_at_call 35; refine (has_any8 H.out _ h0 h1).mono ?_; rw [HH.out]; rintro e w' ⟨rfl, rfl⟩)
  go_ret
  exact ⟨rfl, rfl⟩

set_option maxHeartbeats 1000000 in
theorem set_any8 {w : World} {F B : Nat} {ra : Option Addr} {rc bc : Nat} {m : Mem8} (h : FlatAt w F B ra rc bc m) (x v : Int) (h0 : 0 ≤ x) (h1 : x < 4294967296) (hh : m.has x = true) :
    Calls Try.prog 23 #[.pointer (some ⟨F, 0, none⟩), .int .u32 x, .int .u8 v] w fun e w' => e = .returned (.tuple #[]) ∧ w.setCell ⟨B, x.toNat, none⟩ (.int .u8 v) = w' := by
  have c1 := h.c1
  have hn := h.ok.np
  have hx : x < (m.np : Int) * 256 := by unfold Mem8.has at hh; simpa using hh
  have cb := h.bs x.toNat (by omega)
  have fz := h.fz x.toNat
  have H := Lib.hid h
  have HH := Lib.hid hh
  clear h hh
  go_enter Try.func23, Try.ntmps23
  go_wp2_with (go_at_call 35; refine (has_any8 H.out _ h0 h1).mono ?_; rw [HH.out]; rintro e w' ⟨rfl, rfl⟩)
  go_end0
  exact ⟨rfl, rfl⟩

set_option maxHeartbeats 1000000 in
theorem set_none8 {w : World} {F B : Nat} {ra : Option Addr} {rc bc : Nat} {m : Mem8} (h : FlatAt w F B ra rc bc m) (x v : Int) (h0 : 0 ≤ x) (h1 : x < 4294967296) (hh : m.has x = false) :
    Calls Try.prog 23 #[.pointer (some ⟨F, 0, none⟩), .int .u32 x, .int .u8 v] w fun e w' => e = .returned (.tuple #[]) ∧ w = w' := by
  have H := Lib.hid h
  have HH := Lib.hid hh
  clear h hh
  go_enter Try.func23, Try.ntmps23
  go_wp2_with (go_at_call 35; refine (has_any8 H.out _ h0 h1).mono ?_; rw [HH.out]; rintro e w' ⟨rfl, rfl⟩)
  go_end0
  exact ⟨rfl, rfl⟩

set_option maxHeartbeats 1000000 in
theorem fmay_any8 {w : World} {F B : Nat} {ra : Option Addr} {rc bc : Nat} {m : Mem8} (h : FlatAt w F B ra rc bc m) (x r : Int) (h0 : 0 ≤ x) (h1 : x < 4294967296) :
    Calls Try.prog 21 #[.pointer (some ⟨F, 0, none⟩), .int .u32 x, .int .i64 r] w fun e w' => e = .returned (.bool (m.may x r)) ∧ w = w' := by
  unfold Mem8.may
  by_cases hh : m.has x = true
  · have c0 := h.c0
    have hn := h.ok.np
    have hx : x < (m.np : Int) * 256 := by unfold Mem8.has at hh; simpa using hh
    obtain ⟨Rb, ro, rfl, -, -, hr⟩ := h.rr (by omega)
    have cr := hr (x / 256).toNat (by omega)
    have hq : x / 256 < m.np := by omega
    clear hr
    have H := Lib.hid h
    have HH := Lib.hid hh
    rw [hh]
    clear h hh
    by_cases hr1 : 0 < r
    · by_cases hr2 : r ≤ 7
      · go_enter Try.func21, Try.ntmps21
        go_wp2_with (go_at_call 35; refine (has_any8 H.out _ h0 h1).mono ?_; rw [HH.out]; rintro e w' ⟨rfl, rfl⟩)
        go_ret
        exact ⟨ret_bool (by simp [hr1, hr2]), rfl⟩
      · go_enter Try.func21, Try.ntmps21
        go_wp2_with (go_at_call 35; refine (has_any8 H.out _ h0 h1).mono ?_; rw [HH.out]; rintro e w' ⟨rfl, rfl⟩)
        go_ret
        exact ⟨ret_bool (by rw [decide_eq_false (show ¬ r ≤ 7 by omega)]; simp), rfl⟩
    · go_enter Try.func21, Try.ntmps21
      go_wp2_with (go_at_call 35; refine (has_any8 H.out _ h0 h1).mono ?_; rw [HH.out]; rintro e w' ⟨rfl, rfl⟩)
      go_ret
      exact ⟨ret_bool (by rw [decide_eq_false (show ¬ 0 < r by omega)]; simp), rfl⟩
  · have hh : m.has x = false := by simpa using hh
    have H := Lib.hid h
    have HH := Lib.hid hh
    rw [hh]
    clear h hh
    go_enter Try.func21, Try.ntmps21
    go_wp2_with (go_at_call 35; refine (has_any8 H.out _ h0 h1).mono ?_; rw [HH.out]; rintro e w' ⟨rfl, rfl⟩)
    go_ret
    exact ⟨ret_bool (by simp), rfl⟩
end Go.Proofs.Ytknepljmbpdpkaa
