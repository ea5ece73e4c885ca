/- ExtentsApart: the walk of the law. -/
import Derived.Test.YtgpdkfmneoggkaaExU
namespace Go.Proofs.Ytgpdkfmneoggkaa
open Go.RowKit
attribute [local go_sem] Oper.semAt_some

def xa0 : Xt := newXt [8, 8, 8] 3
def da0 : Dk := newD (List.replicate 24 zeroS) 0
theorem da0_len : da0.fl.length = 24 := List.length_replicate
theorem xa0_pt (a : Nat) : (a < 3 → (xa0.pt a).fi = a * 8 ∧ (xa0.pt a).ct = 8) ∧ (3 ≤ a → xa0.pt a = zeroP) := by
  refine ⟨fun h => ?_, fun h => ?_⟩
  · rcases (show a = 0 ∨ a = 1 ∨ a = 2 by omega) with rfl | rfl | rfl <;> decide +kernel
  · unfold xa0 newXt; dsimp only; rw [if_neg (by omega)]
theorem xa0_fit (a : Nat) : (xa0.pt a).fi + (xa0.pt a).ct ≤ da0.fl.length := by
  rw [da0_len]
  by_cases h : a < 3
  · have := (xa0_pt a).1 h; omega
  · rw [(xa0_pt a).2 (by omega)]; exact Nat.zero_le _
theorem xa0_shp : Shp xa0 da0 := ⟨rfl, fun a h => ((xa0_pt a).1 h).1, fun a h => ((xa0_pt a).1 h).2, da0_len⟩
set_option maxHeartbeats 16000000 in
set_option maxRecDepth 100000 in
theorem extents_apart_law (w : World) {A1 A2 A3 : Option Addr} {n1 n2 n3 c1 c2 c3 : Nat} {R1 R2 R3 : Nat → Stp10} (h1 : StepsIn10 w A1 n1 R1) (h2 : StepsIn10 w A2 n2 R2) (h3 : StepsIn10 w A3 n3 R3)
    (l1 : (n1 : Int) ≤ 9223372036854775807) (l2 : (n2 : Int) ≤ 9223372036854775807) (l3 : (n3 : Int) ≤ 9223372036854775807) :
    Calls Try.prog 6 #[.slice A1 n1 c1, .slice A2 n2 c2, .slice A3 n3 c3] w fun e w' => e = .returned (.bool true) ∧ Below w.heap.size w w' := by
  have HA1 := Lib.hid h1
  have HA2 := Lib.hid h2
  have HA3 := Lib.hid h3
  clear h1 h2 h3
  go_enter Try.func6, Try.ntmps6
  go_wp2_with fail
  go_at_call 9
  refine Calls.mono (xknown_any w) ?_
  rintro e w1 ⟨rfl, hb1⟩
  have HB1 := Lib.hid hb1
  clear hb1
  go_wp2_with fail
  go_at_call 8
  refine Calls.mono (much64_any (HA1.out.below HB1.out) l1 c1) ?_
  rintro e w2 ⟨b1, rfl, hb2⟩
  have HB2 := Lib.hid (HB1.out.trans (hb2.mono HB1.out.size))
  clear hb2 HB1
  cases b1 with
  | true =>
    go_wp2_with fail
    go_ret
    exact ⟨rfl, HB2.out⟩
  | false =>
  go_wp2_with fail
  go_at_call 8
  refine Calls.mono (much64_any (HA2.out.below HB2.out) l2 c2) ?_
  rintro e w3 ⟨b2, rfl, hb3⟩
  have HB3 := Lib.hid (HB2.out.trans (hb3.mono HB2.out.size))
  clear hb3 HB2
  cases b2 with
  | true =>
    go_wp2_with fail
    go_ret
    exact ⟨rfl, HB3.out⟩
  | false =>
  go_wp2_with fail
  go_at_call 8
  refine Calls.mono (much64_any (HA3.out.below HB3.out) l3 c3) ?_
  rintro e w4 ⟨b3, rfl, hb4⟩
  have HB4 := Lib.hid (HB3.out.trans (hb4.mono HB3.out.size))
  clear hb4 HB3
  cases b3 with
  | true =>
    go_wp2_with fail
    go_ret
    exact ⟨rfl, HB4.out⟩
  | false =>
  go_wp2_with fail
  go_at_call 19
  refine Calls.mono (new_yes9 24 (by omega) (by omega) _) ?_
  rintro e w5 ⟨d, O1, L1, rfl, hd5, hO1, hb5⟩
  have HD5 := Lib.hid (show DkAt w5 O1 d L1 da0 from hd5)
  have HO1 := Lib.hid (show ∀ n, O1 n → w.heap.size ≤ n from fun n hn => Nat.le_trans HB4.out.size (hO1 n hn))
  have HB5 := Lib.hid (HB4.out.trans (hb5.mono HB4.out.size))
  clear hd5 hO1 hb5 HB4
  go_wp2_with fail
  go_at_call 19
  refine Calls.mono (new_yes9 24 (by omega) (by omega) _) ?_
  rintro e w6 ⟨c, O2, L2, rfl, hd6, hO2, hb6⟩
  have HC6 := Lib.hid (show DkAt w6 O2 c L2 da0 from hd6)
  have HD6 := Lib.hid (HD5.out.step hb6)
  have HO2 := Lib.hid (show ∀ n, O2 n → w.heap.size ≤ n from fun n hn => Nat.le_trans HB5.out.size (hO2 n hn))
  have HAP := Lib.hid (show ∀ n, O1 n → ¬ O2 n from fun n hn hn2 => by have := HD5.out.lt n hn; have := hO2 n hn2; omega)
  have HB6 := Lib.hid (HB5.out.trans (hb6.mono HB5.out.size))
  clear hd6 hO2 hb6 HB5 HD5
  go_wp2_with fail
  go_at_call 20
  have r6 := heap_alloc_new w6 (.cells #[.int .i64 8, .int .i64 8, .int .i64 8] 3)
  have b6 : Below w6.heap.size w6 (w6.alloc (.cells #[.int .i64 8, .int .i64 8, .int .i64 8] 3)) := (Below.refl _ w6).alloc (Nat.le_refl _) _
  refine Calls.mono (xnew_ok (HD6.out.step b6) (some ⟨w6.heap.size, 0, none⟩) [8, 8, 8] 3 3 rfl (by omega) (ints_row (qs := [8, 8, 8]) r6 (by decide)) (by decide) (by decide) (by decide) (by rw [da0_len]; decide)) ?_
  rintro e w7 ⟨x, rfl, hE, hx, hb7⟩
  have b67 := b6.trans (hb7.mono b6.size)
  have HE7 := Lib.hid (show ExIs w7 x d xa0 from hE)
  have HD7 := Lib.hid (HD6.out.step b67)
  have HC7 := Lib.hid (HC6.out.step b67)
  have HB7 := Lib.hid (HB6.out.trans (b67.mono HB6.out.size))
  have HX := Lib.hid (show w6.heap.size ≤ x by have := b6.size; omega)
  have HX6 := Lib.hid (show ∀ n, O1 n ∨ O2 n → n < w6.heap.size from fun n hn => hn.elim (HD6.out.lt n) (HC6.out.lt n))
  have HS6 := Lib.hid HB6.out.size
  clear r6 b6 hb7 b67 hE hx HD6 HC6 HB6
  go_wp2_with fail
  go_at_call 20
  have r7 := heap_alloc_new w7 (.cells #[.int .i64 8, .int .i64 8, .int .i64 8] 3)
  have b7 : Below w7.heap.size w7 (w7.alloc (.cells #[.int .i64 8, .int .i64 8, .int .i64 8] 3)) := (Below.refl _ w7).alloc (Nat.le_refl _) _
  refine Calls.mono (xnew_ok (HC7.out.step b7) (some ⟨w7.heap.size, 0, none⟩) [8, 8, 8] 3 3 rfl (by omega) (ints_row (qs := [8, 8, 8]) r7 (by decide)) (by decide) (by decide) (by decide) (by rw [da0_len]; decide)) ?_
  rintro e w8 ⟨y, rfl, hE, hy, hb8⟩
  have b78 := b7.trans (hb8.mono b7.size)
  have hxlt := HE7.out.lt
  have hI : Inv10 w w8 x d y c 0 := ⟨O1, L1, xa0, da0, O2, L2, xa0, da0,
    ⟨⟨HE7.out.step b78, HD7.out.step b78, fun h => by have := HX6.out x (.inl h); have := HX.out; omega, xa0_fit⟩,
     ⟨hE, HC7.out.step b78, fun h => by have := HC7.out.lt y h; have := b7.size; omega, xa0_fit⟩,
     fun n hn hn2 => by
       have h7 := b7.size
       rcases hn with hn | rfl <;> rcases hn2 with hn2 | rfl
       · exact HAP.out n hn hn2
       · have := HD7.out.lt _ hn; omega
       · have := HX6.out _ (.inr hn2); have := HX.out; omega
       · omega,
     fun n hn => hn.elim (HO1.out n) (fun e => by have := HS6.out; have := HX.out; omega),
     fun n hn => hn.elim (HO2.out n) (fun e => by have := HB7.out.size; have := b7.size; omega),
     HB7.out.trans (b78.mono HB7.out.size)⟩, xa0_shp, xa0_shp, ⟨rfl, fun _ _ _ => rfl, fun _ _ _ => rfl⟩, Nat.le_refl _, Nat.le_refl _⟩
  have HI := Lib.hid hI
  clear r7 b7 hb8 b78 hE hy hxlt hI HE7 HD7 HC7 HB7 HX HX6 HS6 HAP HO1 HO2
  go_wp2_with (go_at_call 16; refine (num_any10 _ _).mono ?_; rintro e w' ⟨rfl, rfl⟩)
  go_loopg [15] 40 (fun g i W => ∃ j : Nat, j + g = 40 ∧ i = .int .i64 (j : Int) ∧ Inv10 w W x d y c (3 * j))
  case atStart => exact ⟨0, by omega, rfl, HI.out⟩
  case round =>
    obtain ⟨j, hj, rfl, hI⟩ := hrel
    have HI' := Lib.hid hI
    clear hI
    by_cases hlt : j < 40
    · have hlt' : (j : Int) < 40 := by omega
      go_wp2_with fail
      go_at_call 21
      refine Calls.mono (other_any HI'.out (by omega) HA2.out c2 j) ?_
      rintro e wa ⟨rfl, hIa⟩
      have HIa := Lib.hid hIa.sym
      clear hIa
      go_wp2_with fail
      go_at_call 21
      refine Calls.mono (other_any HIa.out (by omega) HA3.out c3 j) ?_
      rintro e wb ⟨rfl, hIb⟩
      have HIb := Lib.hid hIb.sym
      clear hIb HIa
      by_cases hl1 : j < n1
      · have hl1' : (j : Int) < (n1 : Int) := by omega
        obtain ⟨P1, M1, t1, j1, P2, M2, t2, j2, gT, -⟩ := HIb.out
        obtain ⟨-, b, o, rfl, hc⟩ := (HA1.out.below gT.bl) j hl1
        have HF := Lib.hid (HA1.out j hl1).1
        have c0 := hc 0 _ rfl
        have c1' := hc 1 _ rfl
        have c2' := hc 2 _ rfl
        have c3' := hc 3 _ rfl
        have c4' := hc 4 _ rfl
        have c5' := hc 5 _ rfl
        rw [Nat.add_zero] at c0
        clear hc gT
        go_wp2_with fail
        go_at_call 22
        refine Calls.mono (alike_any HIb.out (by omega) (R1 j) HF.out (R1 j).kd rfl) ?_
        rintro e wc ⟨rfl, hIc⟩
        have HIc := Lib.hid hIc
        clear hIc HIb
        go_wp2_with fail
        go_roundg (40 - (j + 1))
        case measure => omega
        case rel => exact ⟨j + 1, by omega, by go_num, HIc.out.mono (by omega)⟩
      · have hl1' : (n1 : Int) ≤ (j : Int) := by omega
        have hd1 : decide ((j : Int) < (n1 : Int)) = false := by simp; omega
        go_wp2_with fail
        go_roundg (40 - (j + 1))
        case measure => omega
        case rel => exact ⟨j + 1, by omega, by go_num, HIb.out.mono (by omega)⟩
    · obtain rfl : j = 40 := by omega
      obtain ⟨P1, M1, t1, j1, P2, M2, t2, j2, gT, -⟩ := HI'.out
      have HBL := Lib.hid gT.bl
      clear gT
      go_wp2_with fail
      go_ret
      exact ⟨rfl, HBL.out⟩
end Go.Proofs.Ytgpdkfmneoggkaa
