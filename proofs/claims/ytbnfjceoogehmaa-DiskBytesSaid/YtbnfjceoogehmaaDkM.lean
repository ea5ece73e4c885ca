/- reads; known: the chapter's rows. -/
import Derived.Test.YtbnfjceoogehmaaDkL
namespace Go.Proofs.Ytbnfjceoogehmaa
open Go.RowKit Go.Shelf
open Go.Maps (Keyed)
attribute [local go_sem] Oper.semAt_some

theorem reads_yes9 {w : World} {O : Nat → Prop} {d : Nat} {L : Lay9} {s : Dk} (h : DkAt w O d L s) (i : Nat) (hi : i < s.fl.length) :
    Calls Try.prog 23 #[.pointer (some ⟨d, 0, none⟩), .int .i64 (i : Int)] w fun e w' => e = .returned (strS (s.seen i)) ∧ Below w.heap.size w w' := by
  have HR := Lib.hid (read_yes9 h i hi)
  have HOK := Lib.hid (Dk.seen_ok h.ok hi)
  clear h
  go_enter Try.func23, Try.ntmps23
  go_wp2_with (first
    | (go_at_call 31; refine HR.out.mono ?_; rintro e w1 ⟨g, k, rfl, -, -, hr, -, hb⟩; have hcv := conv_sec hr HOK.out k; have HB := Lib.hid hb; clear hr hb)
    | (go_at_call 10; refine (num_any9 _ _).mono ?_; rintro e w' ⟨rfl, rfl⟩))
  go_ret
  exact ⟨rfl, HB.out⟩

/-! ### The chapter's rows -/
def k0 : Dk := newD (List.replicate 3 zeroS) 0
def k2 : Dk := (k0.push (1 : Nat) (fullS 97)).push (1 : Nat) (fullS 98)
def k3 : Dk := k2.flushed 1 1
theorem k0_len : k0.fl.length = 3 := rfl
theorem k1_len : (k0.push (1 : Nat) (fullS 97)).fl.length = 3 := rfl
theorem k2_len : k2.fl.length = 3 := rfl
theorem k3_len : k3.fl.length = 3 := by unfold k3; rw [Dk.flushed_len]; rfl
theorem k2_pd : k2.pd 1 = [fullS 97, fullS 98] := rfl
theorem k2_seen : k2.seen 1 = fullS 98 := rfl
theorem kx_seen : (k2.crash [(1, 1)] 1).seen 1 = fullS 97 := rfl
theorem ky_seen : (k2.crash [] 0).seen 1 = fullS 0 := rfl
theorem kz_seen : (k3.crash [] 0).seen 1 = fullS 98 := rfl
theorem k3_pd : k3.pd 1 = [] := rfl
theorem k2_has : k2.has 1 = true := rfl
theorem ok_one : AllOk k2 [(1, 1)] 1 := fun k x hk hx => by
  obtain rfl : k = 0 := by omega
  cases hx
  exact ⟨rfl, by decide, by decide, rfl⟩
theorem ok_none (s : Dk) : AllOk s [] 0 := fun k x hk => by omega
theorem no_three : ¬ AllOk k2 [(1, 3)] 1 := fun h => by
  have := (h 0 _ (by omega) rfl).2.2.1
  rw [show k2.pd (1, 3).1 = [fullS 97, fullS 98] from rfl] at this
  simp at this
theorem no_twice : ¬ AllOk k2 [(1, 1), (1, 1)] 2 := fun h => by
  have := (h 1 _ (by omega) rfl).2.2.2
  cases this
theorem wf_small {a b : Int} (h : 0 ≤ a ∧ a ≤ 4096 ∧ 0 ≤ b ∧ b ≤ 4096) : wfK (a, b) := ⟨⟨by show _ ≤ a; omega, by show a ≤ _; omega⟩, ⟨by show _ ≤ b; omega, by show b ≤ _; omega⟩⟩
theorem keep_nil (w : World) (A : Option Addr) : KeepIn w A [] := fun k x hx => by simp at hx
theorem keep_one {w : World} {g : Nat} {a b : Int} {t : TypeId} (h : w.heap[g]? = some (.cells #[.int .i64 a, .int .i64 b] t (0, 0))) : KeepIn w (some ⟨g, 0, none⟩) [(a, b)] := fun k x hx => by
  obtain rfl : k = 0 := by have := (List.getElem?_eq_some_iff.1 hx).1; simp at this; exact this
  cases hx
  exact ⟨g, 0, rfl, by rw [cell_of_row _ _ _ _ _ _ h]; rfl, by rw [cell_of_row _ _ _ _ _ _ h]; rfl⟩
theorem keep_two {w : World} {g : Nat} {a b c d : Int} {t : TypeId} (h : w.heap[g]? = some (.cells #[.int .i64 a, .int .i64 b, .int .i64 c, .int .i64 d] t (0, 0))) : KeepIn w (some ⟨g, 0, none⟩) [(a, b), (c, d)] := fun k x hx => by
  have hk := (List.getElem?_eq_some_iff.1 hx).1
  simp at hk
  rcases (show k = 0 ∨ k = 1 by omega) with rfl | rfl
  · cases hx
    exact ⟨g, 0, rfl, by rw [cell_of_row _ _ _ _ _ _ h]; rfl, by rw [cell_of_row _ _ _ _ _ _ h]; rfl⟩
  · cases hx
    exact ⟨g, 0, rfl, by rw [cell_of_row _ _ _ _ _ _ h]; rfl, by rw [cell_of_row _ _ _ _ _ _ h]; rfl⟩
theorem wf_two : ∀ x ∈ [((1 : Int), (1 : Int)), (1, 1)], wfK x := fun x hx => by
  have : x = (1, 1) := by simpa using hx
  rw [this]; exact wf_small (by omega)
/-- What a crash is said to leave, where all may be kept. -/
theorem crash_ok9 {w : World} {O : Nat → Prop} {d : Nat} {L : Lay9} {s : Dk} (h : DkAt w O d L s) (A : Option Addr) (KL : List Kp) (kc : Nat) (hA : KeepIn w A KL) (hwf : ∀ x ∈ KL, wfK x) (n : Nat) (hn : KL.length = n) (hl : n ≤ 9223372036854775807) (ok : AllOk s KL n) :
    Calls Try.prog 22 #[.pointer (some ⟨d, 0, none⟩), .slice A n kc] w fun e w' => ∃ p, e = .returned (.tuple #[p, .int .i64 0]) ∧ MadeDk w (s.crash KL n) p w' := by
  subst hn
  refine (crash_any9 h A KL kc hA hwf hl).mono fun e w' hh => ?_
  rcases hh with ⟨-, p, h1, h2⟩ | ⟨h1, -⟩
  · exact ⟨p, h1, h2⟩
  · exact absurd ok h1
theorem crash_bad9 {w : World} {O : Nat → Prop} {d : Nat} {L : Lay9} {s : Dk} (h : DkAt w O d L s) (A : Option Addr) (KL : List Kp) (kc : Nat) (hA : KeepIn w A KL) (hwf : ∀ x ∈ KL, wfK x) (n : Nat) (hn : KL.length = n) (hl : n ≤ 9223372036854775807) (ok : ¬ AllOk s KL n) :
    Calls Try.prog 22 #[.pointer (some ⟨d, 0, none⟩), .slice A n kc] w fun e w' => e = .returned (.tuple #[.pointer none, .int .i64 2]) ∧ Below w.heap.size w w' := by
  subst hn
  refine (crash_any9 h A KL kc hA hwf hl).mono fun e w' hh => ?_
  rcases hh with ⟨h1, -⟩ | ⟨-, h1⟩
  · exact absurd h1 ok
  · exact h1
set_option maxHeartbeats 8000000 in
set_option maxRecDepth 100000 in
theorem known_any9 (w : World) : Calls Try.prog 11 #[] w fun e w' => e = .returned (.bool true) ∧ Below w.heap.size w w' := by
  go_enter Try.func11, Try.ntmps11
  go_wp2_with (first
    | (go_at_call 8; refine (new_yes9 3 (by omega) (by omega) _).mono ?_; rintro e w1 ⟨d, O1, L1, rfl, hd1, hO1, hb1⟩; have HD1 := Lib.hid hd1; have HO1 := Lib.hid hO1; have HB1 := Lib.hid hb1; clear hd1 hO1 hb1)
    | (go_at_call 10; refine (num_any9 _ _).mono ?_; rintro e w' ⟨rfl, rfl⟩))
  with_reducible (go_at_call 19; refine Calls.mono (sector_any9 97 w1) ?_)
  rintro e w2 ⟨g2, c2, rfl, hg2, hr2, hb2⟩
  have HR2 := Lib.hid hr2
  have HB2 := Lib.hid hb2
  have HG2 := Lib.hid hg2
  clear hr2 hb2 hg2
  go_wp2_with fail
  go_at_call 20
  refine Calls.mono (write_yes9 (HD1.out.step HB2.out) 1 (by decide) g2 0 c2 (fullS 97) (fullS_ok (by decide) (by decide)) HR2.out (fun h => by have := HD1.out.lt _ h; have := HG2.out; omega) (by decide)) ?_
  rintro e w3 ⟨rfl, O3, L3, hd3, hO3, ht3⟩
  have HD3 := Lib.hid hd3
  have HO3 := Lib.hid (show ∀ k, O3 k → w.heap.size ≤ k from fun k hk => by
    have := HB1.out.size; have := HB2.out.size
    rcases hO3 k hk with h | h
    · exact HO1.out k h
    · omega)
  have HB3 := Lib.hid (show Below w.heap.size w w3 from (HB1.out.trans (HB2.out.mono HB1.out.size)).trans (ht3.below (by have := HB1.out.size; have := HB2.out.size; omega) HO1.out))
  clear hd3 hO3 ht3
  go_wp2_with fail
  with_reducible (go_at_call 19; refine Calls.mono (sector_any9 98 w3) ?_)
  rintro e w4 ⟨g4, c4, rfl, hg4, hr4, hb4⟩
  have HR4 := Lib.hid hr4
  have HB4 := Lib.hid hb4
  have HG4 := Lib.hid hg4
  clear hr4 hb4 hg4
  go_wp2_with fail
  go_at_call 20
  refine Calls.mono (write_yes9 (HD3.out.step HB4.out) 1 (by decide) g4 0 c4 (fullS 98) (fullS_ok (by decide) (by decide)) HR4.out (fun h => by have := HD3.out.lt _ h; have := HG4.out; omega) (by decide)) ?_
  rintro e w5 ⟨rfl, O5, L5, hd5, hO5, ht5⟩
  have HD5 := Lib.hid (show DkAt w5 O5 d L5 k2 from hd5)
  have HO5 := Lib.hid (show ∀ k, O5 k → w.heap.size ≤ k from fun k hk => by
    have := HB3.out.size; have := HB4.out.size
    rcases hO5 k hk with h | h
    · exact HO3.out k h
    · omega)
  have HB5 := Lib.hid (show Below w.heap.size w w5 from (HB3.out.trans (HB4.out.mono HB3.out.size)).trans (ht5.below (by have := HB3.out.size; have := HB4.out.size; omega) HO3.out))
  clear hd5 hO5 ht5 HD1 HO1 HB1 HR2 HB2 HG2 HD3 HO3 HB3 HR4 HB4 HG4
  go_wp2_with fail
  have s5 := HB5.out.size
  go_at_call 22
  have r6 := heap_alloc_new w5 (.cells #[.int .i64 1, .int .i64 1] 68)
  refine Calls.mono (crash_ok9 (HD5.out.step ((Below.refl _ w5).alloc (Nat.le_refl _) _)) _ [(1, 1)] 1 (keep_one r6) (fun x hx => by rw [List.mem_singleton.1 hx]; exact wf_small (by omega)) 1 rfl (by omega) ok_one) ?_
  rintro e w6 ⟨p, rfl, dx, Ox, Lx, rfl, hdx, -, hbx⟩
  have b56 : Below w5.heap.size w5 w6 := ((Below.refl _ w5).alloc (Nat.le_refl _) _).trans (hbx.mono (by simp))
  have HX6 := Lib.hid hdx
  have HD6 := Lib.hid (HD5.out.step b56)
  have HB6 := Lib.hid (HB5.out.trans (b56.mono s5))
  clear hdx hbx b56 r6
  go_wp2_with fail
  go_at_call 22
  refine Calls.mono (crash_ok9 HD6.out none [] 0 (keep_nil _ _) (fun x hx => (List.not_mem_nil hx).elim) 0 rfl (by omega) (ok_none k2)) ?_
  rintro e w7 ⟨p, rfl, dy, Oy, Ly, rfl, hdy, -, hby⟩
  have s6 := HB6.out.size
  have HY7 := Lib.hid hdy
  have HX7 := Lib.hid (HX6.out.step hby)
  have HD7 := Lib.hid (HD6.out.step hby)
  have HB7 := Lib.hid (HB6.out.trans (hby.mono s6))
  clear hdy hby
  go_wp2_with fail
  have s7 := HB7.out.size
  go_at_call 22
  have r7 := heap_alloc_new w7 (.cells #[.int .i64 1, .int .i64 3] 68)
  refine Calls.mono (crash_bad9 (HD7.out.step ((Below.refl _ w7).alloc (Nat.le_refl _) _)) _ [(1, 3)] 1 (keep_one r7) (fun x hx => by rw [List.mem_singleton.1 hx]; exact wf_small (by omega)) 1 rfl (by omega) no_three) ?_
  rintro e w8 ⟨rfl, hb8⟩
  have b78 : Below w7.heap.size w7 w8 := ((Below.refl _ w7).alloc (Nat.le_refl _) _).trans (hb8.mono (by simp))
  have HY8 := Lib.hid (HY7.out.step b78)
  have HX8 := Lib.hid (HX7.out.step b78)
  have HD8 := Lib.hid (HD7.out.step b78)
  have HB8 := Lib.hid (HB7.out.trans (b78.mono s7))
  clear hb8 b78 r7
  go_wp2_with fail
  have s8 := HB8.out.size
  go_at_call 22
  have r8 := heap_alloc_new w8 (.cells #[.int .i64 1, .int .i64 1, .int .i64 1, .int .i64 1] 68)
  refine Calls.mono (crash_bad9 (HD8.out.step ((Below.refl _ w8).alloc (Nat.le_refl _) _)) _ [(1, 1), (1, 1)] 2 (keep_two r8) wf_two 2 rfl (by omega) no_twice) ?_
  rintro e w9 ⟨rfl, hb9⟩
  have b89 : Below w8.heap.size w8 w9 := ((Below.refl _ w8).alloc (Nat.le_refl _) _).trans (hb9.mono (by simp))
  have HY9 := Lib.hid (HY8.out.step b89)
  have HX9 := Lib.hid (HX8.out.step b89)
  have HD9 := Lib.hid (HD8.out.step b89)
  have HB9 := Lib.hid (HB8.out.trans (b89.mono s8))
  clear hb9 b89 r8 HD5 HB5 HX6 HD6 HB6 HX7 HY7 HD7 HB7 HX8 HY8 HD8 HB8
  obtain ⟨S98, h98⟩ : ∃ S, strS (fullS 98) = .string S := ⟨_, rfl⟩
  obtain ⟨S97, h97⟩ : ∃ S, strS (fullS 97) = .string S := ⟨_, rfl⟩
  obtain ⟨S00, h00⟩ : ∃ S, strS (fullS 0) = .string S := ⟨_, rfl⟩
  have H98 := Lib.hid h98
  have H97 := Lib.hid h97
  have H00 := Lib.hid h00
  clear h98 h97 h00
  go_wp2_with (go_at_call 10; refine (num_any9 _ _).mono ?_; rintro e w' ⟨rfl, rfl⟩)
  have s9 := HB9.out.size
  have HDw9 := HD9
  have HXw9 := HX9
  have HYw9 := HY9
  have HBw9 := HB9
  clear HD9 HX9 HY9 HB9 s5 s6 s7 s8 s9
  go_at_call 23
  refine Calls.mono (reads_yes9 HDw9.out 1 (by rw [k2_len]; omega)) ?_
  rintro e wa ⟨rfl, hb⟩
  rw [k2_seen, H98.out]
  have HDwa := Lib.hid (HDw9.out.step hb)
  have HXwa := Lib.hid (HXw9.out.step hb)
  have HYwa := Lib.hid (HYw9.out.step hb)
  have HBwa := Lib.hid (HBw9.out.trans (hb.mono HBw9.out.size))
  clear hb
  clear HDw9 HXw9 HYw9 HBw9
  go_wp2_with (go_at_call 10; refine (num_any9 _ _).mono ?_; rintro e w' ⟨rfl, rfl⟩)
  go_at_call 19
  refine Calls.mono (sector_any9 98 wa) ?_
  rintro e wb ⟨g, k, rfl, -, hr, hb⟩
  have hcv := conv_sec hr (fullS_ok (by decide) (by decide)) k
  rw [H98.out] at hcv
  clear hr
  have HDwb := Lib.hid (HDwa.out.step hb)
  have HXwb := Lib.hid (HXwa.out.step hb)
  have HYwb := Lib.hid (HYwa.out.step hb)
  have HBwb := Lib.hid (HBwa.out.trans (hb.mono HBwa.out.size))
  clear hb
  clear HDwa HXwa HYwa HBwa
  go_wp2_with (go_at_call 10; refine (num_any9 _ _).mono ?_; rintro e w' ⟨rfl, rfl⟩)
  clear hcv
  go_at_call 23
  refine Calls.mono (reads_yes9 HXwb.out 1 (by rw [(Dk.crash_len k2 _ _).1, k2_len]; omega)) ?_
  rintro e wc ⟨rfl, hb⟩
  rw [kx_seen, H97.out]
  have HDwc := Lib.hid (HDwb.out.step hb)
  have HYwc := Lib.hid (HYwb.out.step hb)
  have HBwc := Lib.hid (HBwb.out.trans (hb.mono HBwb.out.size))
  clear hb
  clear HDwb HYwb HBwb
  go_wp2_with (go_at_call 10; refine (num_any9 _ _).mono ?_; rintro e w' ⟨rfl, rfl⟩)
  go_at_call 19
  refine Calls.mono (sector_any9 97 wc) ?_
  rintro e wd ⟨g, k, rfl, -, hr, hb⟩
  have hcv := conv_sec hr (fullS_ok (by decide) (by decide)) k
  rw [H97.out] at hcv
  clear hr
  have HDwd := Lib.hid (HDwc.out.step hb)
  have HYwd := Lib.hid (HYwc.out.step hb)
  have HBwd := Lib.hid (HBwc.out.trans (hb.mono HBwc.out.size))
  clear hb
  clear HDwc HYwc HBwc
  go_wp2_with (go_at_call 10; refine (num_any9 _ _).mono ?_; rintro e w' ⟨rfl, rfl⟩)
  clear hcv
  go_at_call 23
  refine Calls.mono (reads_yes9 HYwd.out 1 (by rw [(Dk.crash_len k2 _ _).1, k2_len]; omega)) ?_
  rintro e we ⟨rfl, hb⟩
  rw [ky_seen, H00.out]
  have HDwe := Lib.hid (HDwd.out.step hb)
  have HBwe := Lib.hid (HBwd.out.trans (hb.mono HBwd.out.size))
  clear hb
  clear HDwd HBwd
  go_wp2_with (go_at_call 10; refine (num_any9 _ _).mono ?_; rintro e w' ⟨rfl, rfl⟩)
  go_at_call 19
  refine Calls.mono (sector_any9 0 we) ?_
  rintro e wf ⟨g, k, rfl, -, hr, hb⟩
  have hcv := conv_sec hr (fullS_ok (by decide) (by decide)) k
  rw [H00.out] at hcv
  clear hr
  have HDwf := Lib.hid (HDwe.out.step hb)
  have HBwf := Lib.hid (HBwe.out.trans (hb.mono HBwe.out.size))
  clear hb
  clear HDwe HBwe
  go_wp2_with (go_at_call 10; refine (num_any9 _ _).mono ?_; rintro e w' ⟨rfl, rfl⟩)
  clear hcv
  go_at_call 21
  refine Calls.mono (flush_yes9 HDwf.out 1 1 (by rw [k2_len]; omega)) ?_
  rintro e wg ⟨rfl, Lg, hdg, htg⟩
  have HDwg := Lib.hid (show DkAt wg O5 d Lg k3 from hdg)
  have HBwg := Lib.hid (HBwf.out.trans (htg.below HBwf.out.size HO5.out))
  clear hdg htg HDwf HBwf
  go_wp2_with fail
  go_at_call 22
  refine Calls.mono (crash_ok9 HDwg.out none [] 0 (keep_nil _ _) (fun x hx => (List.not_mem_nil hx).elim) 0 rfl (by omega) (ok_none k3)) ?_
  rintro e wh ⟨p, rfl, dz, Oz, Lz, rfl, hdz, -, hbz⟩
  have HZwh := Lib.hid hdz
  have HDwh := Lib.hid (HDwg.out.step hbz)
  have HBwh := Lib.hid (HBwg.out.trans (hbz.mono HBwg.out.size))
  clear hdz hbz HDwg HBwg
  go_wp2_with fail
  go_at_call 21
  refine Calls.mono (flush_bad9 HDwh.out 0 4 (by omega) (by omega) (by rw [k3_len]; omega)) ?_
  rintro e wi ⟨rfl, rfl⟩
  go_wp2_with (go_at_call 10; refine (num_any9 _ _).mono ?_; rintro e w' ⟨rfl, rfl⟩)
  go_at_call 23
  refine Calls.mono (reads_yes9 HZwh.out 1 (by rw [(Dk.crash_len k3 _ _).1, k3_len]; omega)) ?_
  rintro e wj ⟨rfl, hb⟩
  rw [kz_seen, H98.out]
  have HDwj := Lib.hid (HDwh.out.step hb)
  have HBwj := Lib.hid (HBwh.out.trans (hb.mono HBwh.out.size))
  clear hb HDwh HBwh
  go_wp2_with fail
  go_at_call 19
  refine Calls.mono (sector_any9 98 wj) ?_
  rintro e wk ⟨g, k, rfl, -, hr, hb⟩
  have hcv := conv_sec hr (fullS_ok (by decide) (by decide)) k
  rw [H98.out] at hcv
  have HDwk := Lib.hid (HDwj.out.step hb)
  have HBwk := Lib.hid (HBwj.out.trans (hb.mono HBwj.out.size))
  clear hb hr HDwj HBwj
  go_wp2_with (go_at_call 28; refine (pending_any9 HDwk.out 1 (by decide)).mono ?_; rintro e w' ⟨rfl, rfl⟩; rw [k3_pd])
  go_ret
  exact ⟨rfl, HBwk.out⟩
end Go.Proofs.Ytbnfjceoogehmaa
