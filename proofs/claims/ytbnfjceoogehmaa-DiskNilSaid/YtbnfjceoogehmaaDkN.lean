/- DiskNil. -/
import Derived.Test.YtbnfjceoogehmaaDkM
namespace Go.Proofs.Ytbnfjceoogehmaa
open Go.RowKit Go.Shelf
open Go.Maps (Keyed)
attribute [local go_sem] Oper.semAt_some

def kg : Dk := newD (List.replicate 4096 zeroS) 0
theorem kg_len : kg.fl.length = 4096 := by unfold kg newD; exact List.length_replicate
def kh : Dk := kg.push (4095 : Nat) (fullS 1)
theorem kh_len : kh.fl.length = 4096 := kg_len
def ki : Dk := kh.flushed 4095 1
theorem ki_len : ki.fl.length = 4096 := by unfold ki; rw [Dk.flushed_len]; exact kh_len
set_option maxHeartbeats 8000000 in
set_option maxRecDepth 100000 in
theorem disk_nil_law (w : World) : Calls Try.prog 7 #[] w fun e w' => e = .returned (.bool true) ∧ Below w.heap.size w w' := by
  go_enter Try.func7, Try.ntmps7
  go_wp2_with fail
  go_at_call 8
  refine Calls.mono (new_yes9 4096 (by omega) (by omega) _) ?_
  rintro e w1 ⟨d, O1, L1, rfl, hd1, hO1, hb1⟩
  have HD1 := Lib.hid (show DkAt w1 O1 d L1 kg from hd1)
  have HO1 := Lib.hid hO1
  have HB1 := Lib.hid hb1
  clear hd1 hO1 hb1
  go_wp2_with fail
  go_at_call 8
  refine Calls.mono (new_no9 4097 (by omega) _) ?_
  rintro e w2 ⟨rfl, rfl⟩
  go_wp2_with (first
    | (go_at_call 10; refine (num_any9 _ _).mono ?_; rintro e w' ⟨rfl, rfl⟩)
    | (go_at_call 25; refine (size_any9 HD1.out).mono ?_; rintro e w' ⟨rfl, rfl⟩; rw [kg_len]))
  go_at_call 19
  refine Calls.mono (sector_any9 1 w1) ?_
  rintro e w2 ⟨g2, c2, rfl, hg2, hr2, hb2⟩
  have HR2 := Lib.hid hr2
  have HB2 := Lib.hid hb2
  have HG2 := Lib.hid hg2
  clear hr2 hb2 hg2
  go_wp2_with fail
  go_at_call 20
  refine Calls.mono (write_yes9 (HD1.out.step HB2.out) 4095 (by rw [kg_len]; omega) g2 0 c2 (fullS 1) (fullS_ok (by decide) (by decide)) HR2.out (fun h => by have := HD1.out.lt _ h; have := HG2.out; omega) (show kg.wr < 1000000 from (by show (0 : Nat) < 1000000; omega))) ?_
  rintro e w3 ⟨rfl, O3, L3, hd3, hO3, ht3⟩
  have HD3 := Lib.hid (show DkAt w3 O3 d L3 kh from hd3)
  have HO3 := Lib.hid (show ∀ k, O3 k → w.heap.size ≤ k from fun k hk => by
    have := HB1.out.size; have := HB2.out.size
    rcases hO3 k hk with h | h
    · exact HO1.out k h
    · omega)
  have HB3 := Lib.hid (show Below w.heap.size w w3 from (HB1.out.trans (HB2.out.mono HB1.out.size)).trans (ht3.below (by have := HB1.out.size; have := HB2.out.size; omega) HO1.out))
  clear hd3 hO3 ht3 HD1 HO1 HB1 HR2 HB2 HG2
  go_wp2_with (go_at_call 10; refine (num_any9 _ _).mono ?_; rintro e w' ⟨rfl, rfl⟩)
  go_at_call 21
  refine Calls.mono (flush_yes9 HD3.out 4095 1 (by rw [kh_len]; omega)) ?_
  rintro e w4 ⟨rfl, L4, hd4, ht4⟩
  have HD4 := Lib.hid (show DkAt w4 O3 d L4 ki from hd4)
  have HB4 := Lib.hid (HB3.out.trans (ht4.below HB3.out.size HO3.out))
  clear hd4 ht4 HD3 HB3
  go_wp2_with (go_at_call 10; refine (num_any9 _ _).mono ?_; rintro e w' ⟨rfl, rfl⟩)
  go_at_call 21
  refine Calls.mono (flush_yes9 HD4.out 4096 0 (by rw [ki_len]; omega)) ?_
  rintro e w5 ⟨rfl, L5, hd5, ht5⟩
  have HD5 := Lib.hid (show DkAt w5 O3 d L5 ki from hd5)
  have HB5 := Lib.hid (HB4.out.trans (ht5.below HB4.out.size HO3.out))
  clear hd5 ht5 HD4 HB4 HO3
  go_wp2_with (go_at_call 10; refine (num_any9 _ _).mono ?_; rintro e w' ⟨rfl, rfl⟩)
  go_at_call 21
  refine Calls.mono (flush_bad9 HD5.out 4096 1 (by omega) (by omega) (by rw [ki_len]; omega)) ?_
  rintro e w6 ⟨rfl, rfl⟩
  go_wp2_with (go_at_call 10; refine (num_any9 _ _).mono ?_; rintro e w' ⟨rfl, rfl⟩)
  go_at_call 26
  refine Calls.mono (nothing_any9 (.inl rfl)) ?_
  rintro e w6 ⟨rfl, hb6⟩
  have HD6 := Lib.hid (HD5.out.step hb6)
  have HB6 := Lib.hid (HB5.out.trans (hb6.mono HB5.out.size))
  clear hb6 HD5 HB5
  go_wp2_with fail
  go_at_call 26
  have r6 := heap_alloc_new w6 (.cells #[.slice none 0 0, .map none, .int .i64 0] 61)
  refine Calls.mono (nothing_any9 (.inr ⟨w6.heap.size, rfl, by rw [cell_of_row _ _ _ _ _ _ r6]; rfl⟩)) ?_
  rintro e w7 ⟨rfl, hb7⟩
  have b67 : Below w6.heap.size w6 w7 := ((Below.refl _ w6).alloc (Nat.le_refl _) _).trans (hb7.mono (by simp))
  have HD7 := Lib.hid (HD6.out.step b67)
  have HB7 := Lib.hid (HB6.out.trans (b67.mono HB6.out.size))
  clear hb7 b67 r6 HD6 HB6
  go_wp2_with fail
  go_at_call 17
  refine Calls.mono (same_nil9 w7) ?_
  rintro e w8 ⟨rfl, rfl⟩
  go_wp2_with fail
  go_at_call 17
  refine Calls.mono (same_one9 HD7.out) ?_
  rintro e w8 ⟨rfl, rfl⟩
  go_wp2_with fail
  go_at_call 11
  refine Calls.mono (known_any9 w7) ?_
  rintro e w8 ⟨rfl, hb8⟩
  have HB8 := Lib.hid (HB7.out.trans (hb8.mono HB7.out.size))
  clear hb8 HB7 HD7
  go_wp2_with fail
  go_ret
  exact ⟨rfl, HB8.out⟩
end Go.Proofs.Ytbnfjceoogehmaa
