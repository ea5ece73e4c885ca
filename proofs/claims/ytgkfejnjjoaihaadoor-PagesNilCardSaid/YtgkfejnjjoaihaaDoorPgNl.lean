/- 'nothing', of a table that is not there; Same of one that is there and none. -/
import Derived.Test.YtgkfejnjjoaihaaDoorPgNk
namespace Go.Proofs.YtgkfejnjjoaihaaDoor
open Go.RowKit
attribute [local go_sem] Oper.semAt_some

theorem entV_nil : entV nilE = .agg #[.int .i64 0, .int .i64 0, .bool false, .bool false] := rfl
set_option maxRecDepth 100000 in
set_option maxHeartbeats 1000000 in
theorem same_half {w : World} {t b N : Nat} {T : Tb} (h : PT w t b N T) : Calls Tryd.prog 17 #[.pointer (some ⟨t, 0, none⟩), .pointer none] w fun e w' => e = .returned (.bool false) ∧ w = w' := by
  have H := Lib.hid (there_any h)
  have HN := Lib.hid (there_no w)
  clear h
  go_enter Tryd.func17, Tryd.ntmps17
  go_wp2_with (go_at_call 43; (first | (with_reducible refine H.out.mono ?_) | (with_reducible refine HN.out.mono ?_)); rintro e w' ⟨rfl, rfl⟩)
  go_ret
  exact ⟨rfl, rfl⟩
set_option maxRecDepth 100000 in
set_option maxHeartbeats 4000000 in
theorem nothing_nt {w : World} {q : Option Addr} (h : NoT w q) : Calls Tryd.prog 25 #[.pointer q] w fun e w' => e = .returned (.bool true) ∧ Below w.heap.size w w' := by
  have H := Lib.hid h
  clear h
  go_enter Tryd.func25, Tryd.ntmps25
  go_wp2_with fail
  refine (clear_nt H.out 0 0).mono ?_
  rintro e w1 ⟨rfl, hb⟩
  rw [entV_nil]
  have B := Lib.hid (hb.alloc hb.size (.cells #[.int .i64 0, .int .i64 0, .bool false, .bool false] 38))
  have H := Lib.hid ((H.out.below hb).al (.cells #[.int .i64 0, .int .i64 0, .bool false, .bool false] 38))
  clear hb
  go_wp2_with fail
  refine (show Calls Tryd.prog 19 #[.pointer q, .int .i64 0, .int .u32 0, .int .i64 1] _ _ from ask_nt H.out 0 0 1).mono ?_
  rintro e w2 ⟨rfl, rfl⟩
  go_wp2_with fail
  refine (clean_nt H.out 0 0).mono ?_
  rintro e w3 ⟨rfl, hb⟩
  rw [entV_nil]
  have B := Lib.hid ((B.out.trans (hb.mono B.out.size)).alloc (B.out.trans (hb.mono B.out.size)).size (.cells #[.int .i64 0, .int .i64 0, .bool false, .bool false] 38))
  have H := Lib.hid ((H.out.below hb).al (.cells #[.int .i64 0, .int .i64 0, .bool false, .bool false] 38))
  clear hb
  go_wp2_with fail
  refine (share_no 0 1 (fun W hb => there_nt (H.out.below hb))).mono ?_
  rintro e w4 ⟨rfl, hb⟩
  have B := Lib.hid (B.out.trans (hb.mono B.out.size))
  have H := Lib.hid (H.out.below hb)
  clear hb
  go_wp2_with fail
  refine (drop_nt H.out 0).mono ?_
  rintro e w5 ⟨rfl, rfl⟩
  go_wp2_with fail
  refine (get_nt H.out 0 0).mono ?_
  rintro e w6 ⟨rfl, hb⟩
  rw [entV_nil]
  have B := Lib.hid ((B.out.trans (hb.mono B.out.size)).alloc (B.out.trans (hb.mono B.out.size)).size (.cells #[.int .i64 0, .int .i64 0, .bool false, .bool false] 38))
  have H := Lib.hid ((H.out.below hb).al (.cells #[.int .i64 0, .int .i64 0, .bool false, .bool false] 38))
  clear hb
  go_wp2_with (first
    | (go_at_call 20; refine (num_any _ _).mono ?_; rintro e w' ⟨rfl, rfl⟩)
    | (go_at_call 23; refine (set_nt H.out 0 0 0 0).mono ?_; rintro e w' ⟨rfl, rfl⟩)
    | (go_at_call 35; refine (rights_nt H.out 0 0 0).mono ?_; rintro e w' ⟨rfl, rfl⟩))
  refine (where_nt H.out 0).mono ?_
  rintro e w7 ⟨rfl, hb⟩
  have B := Lib.hid (B.out.trans (hb.mono B.out.size))
  have H := Lib.hid (H.out.below hb)
  clear hb
  go_wp2_with fail
  refine (count_nt H.out 0).mono ?_
  rintro e w8 ⟨rfl, hb⟩
  have B := Lib.hid (B.out.trans (hb.mono B.out.size))
  have H := Lib.hid (H.out.below hb)
  clear hb
  go_wp2_with fail
  refine (spaces_nt H.out).mono ?_
  rintro e w9 ⟨rfl, hb⟩
  have B := Lib.hid (B.out.trans (hb.mono B.out.size))
  have H := Lib.hid (H.out.below hb)
  clear hb
  go_wp2_with (go_at_call 15; refine (copy_no (there_nt H.out)).mono ?_; rintro e w' ⟨rfl, rfl⟩)
  refine (goes_nt H.out 0 0).mono ?_
  rintro e w10 ⟨rfl, hb⟩
  have B := Lib.hid (B.out.trans (hb.mono B.out.size))
  have H := Lib.hid (H.out.below hb)
  clear hb
  go_wp2_with (go_at_call 17; refine (same_nt H.out).mono ?_; rintro e w' ⟨rfl, rfl⟩)
  go_ret
  exact ⟨rfl, B.out⟩
end Go.Proofs.YtgkfejnjjoaihaaDoor
