/- The law CpuFlat: where it looks no further, where there is no such memory. -/
import Derived.Test.YtknepljmbpdpkaaCpZ
import Derived.Laws.BytesString
import Derived.Laws.BytesArg
namespace Go.Proofs.Ytknepljmbpdpkaa
open Go.RowKit

theorem conv_string {w : World} {A : Option Addr} {l : List Int} (h : SrcBytes w A l) (c : Nat) :
    (convert 23 9 (.slice A l.length c)).run Try.prog w = .ok (.string (strOfNums l)) w := by
  by_cases hn : l.length = 0
  · have hz : l = [] := List.eq_nil_of_length_eq_zero hn
    subst hz
    rw [run_convert_bytes_string w 23 9 5 _ _ c Try.underlying23 Try.underlying5 Try.underlying9]
    cases A <;> simp [Conv.bytesToString, loadCells] <;> rfl
  · obtain ⟨b, o, rfl, -, hc⟩ := h (by omega)
    refine run_convert_bytes_arg w 23 5 Try.underlying23 Try.underlying5 b o _ c l rfl (fun j hj => ?_) 9 Try.underlying9
    rw [List.getD_eq_getElem?_getD, List.getElem?_eq_getElem hj]
    exact hc j _ (List.getElem?_eq_getElem hj)
theorem anyWrong_succ (ri : Nat → Int) (k : Nat) : anyWrong ri (k + 1) = (anyWrong ri k || wrongB (ri k)) := by
  unfold anyWrong; rw [List.range_succ, List.any_append]; simp
theorem kn8_at {w0 w : World} (hb : Below w0.heap.size w0 w) : Calls Try.prog 10 #[] w fun e w' => e = .returned (.bool true) ∧ Below w0.heap.size w0 w' :=
  (kn8_any w).mono fun _ _ h => ⟨h.1, Bl.step hb h.2⟩
set_option maxHeartbeats 1000000 in
set_option maxRecDepth 100000 in
theorem flat_big {w : World} {Ab Ar : Option Addr} {nb cb n cr : Nat} (x r v : Int) (h : 9000 < nb ∨ 40 < n) :
    Calls Try.prog 7 #[.slice Ab nb cb, .slice Ar n cr, .int .u32 x, .int .i64 r, .int .u8 v] w fun e w' => e = .returned (.bool true) ∧ Below w.heap.size w w' := by
  by_cases h1 : 9000 < nb
  · have h1' : (9000 : Int) < nb := by omega
    go_enter Try.func7, Try.ntmps7
    go_wp2_with (go_at_call 10; refine (kn8_any _).mono ?_; rintro e w' ⟨rfl, hb⟩)
    go_ret
    exact ⟨rfl, hb⟩
  · have h1' : (nb : Int) ≤ 9000 := by omega
    have h2' : (40 : Int) < n := by omega
    go_enter Try.func7, Try.ntmps7
    go_wp2_with (go_at_call 10; refine (kn8_any _).mono ?_; rintro e w' ⟨rfl, hb⟩)
    go_ret
    exact ⟨rfl, hb⟩
/-- The loop over the rights. -/
def BadB (ri : Nat → Int) (n k : Nat) : Bool := decide (32 < n) || anyWrong ri k
theorem badB_succ (ri : Nat → Int) (n k : Nat) : BadB ri n (k + 1) = (BadB ri n k || wrongB (ri k)) := by unfold BadB; rw [anyWrong_succ, Bool.or_assoc]
set_option maxHeartbeats 2000000 in
set_option maxRecDepth 100000 in
theorem flat_no {w : World} {Ab Ar : Option Addr} {nb cb n cr : Nat} {ri : Nat → Int} (hr : IntsIn w Ar n ri) (x r v : Int) (h1 : nb ≤ 9000) (h2 : n ≤ 40) (E : Int) (hE : newE nb n ri = E) (hE0 : E ≠ 0) :
    Calls Try.prog 7 #[.slice Ab nb cb, .slice Ar n cr, .int .u32 x, .int .i64 r, .int .u8 v] w fun e w' => e = .returned (.bool true) ∧ Below w.heap.size w w' := by
  have h1' : (nb : Int) ≤ 9000 := by omega
  have h2' : (n : Int) ≤ 40 := by omega
  have HN := Lib.hid (new_no8 (nb := nb) (Ab := Ab) hr cb cr E hE hE0)
  have HE := Lib.hid hE
  have HR := Lib.hid hr
  have hd : decide ((32 : Int) < n) = BadB ri n 0 := by unfold BadB anyWrong; simp; omega
  obtain ⟨b0, hb0⟩ : ∃ b0, BadB ri n 0 = b0 := ⟨_, rfl⟩
  have HB0 := Lib.hid hb0
  rw [hb0] at hd
  have HD := Lib.hid hd
  clear hr hE hb0
  go_enter Try.func7, Try.ntmps7
  go_wp2_with (go_at_call 17; refine HN.out.mono ?_; rintro e w' ⟨rfl, rfl⟩)
  go_loop [13, 14] (fun bd i => ∃ k : Nat, k ≤ n ∧ i = .int .i64 k ∧ bd = .bool (BadB ri n k)) (fun _ i => n - (intOf i).toNat)
  case atStart => exact ⟨0, Nat.zero_le _, rfl, by rw [HB0.out]⟩
  case round =>
    obtain ⟨k, hk, rfl, rfl⟩ := hrel
    by_cases hlt : k < n
    · have hlt' : decide (k < n) = true := by simpa using hlt
      have hlt2 : (k : Int) < n := by omega
      obtain ⟨b, o, rfl, hbl, hc⟩ := HR.out (by omega)
      have hcl := hc k hlt
      have HS := Lib.hid (badB_succ ri n k)
      clear hc hd
      obtain ⟨bk, hbk⟩ : ∃ bk, BadB ri n k = bk := ⟨_, rfl⟩
      obtain ⟨y, hy⟩ : ∃ y, ri k = y := ⟨_, rfl⟩
      rw [hbk, hy] at HS
      rw [hbk]
      rw [hy] at hcl
      clear hbk hy
      cases bk with
      | true =>
        go_wp2
        go_round
        case rel => exact ⟨k + 1, hlt, by go_num, by rw [HS.out]; rfl⟩
        case measure => simp [intOf]; omega
      | false =>
        by_cases hy0 : y < 0
        · go_wp2
          go_round
          case rel => exact ⟨k + 1, hlt, by go_num, by rw [HS.out]; unfold wrongB; rw [decide_eq_true hy0]; rfl⟩
          case measure => simp [intOf]; omega
        · by_cases hy7 : 7 < y
          · go_wp2
            go_round
            case rel => exact ⟨k + 1, hlt, by go_num, by rw [HS.out]; unfold wrongB; rw [decide_eq_true hy7]; simp⟩
            case measure => simp [intOf]; omega
          · go_wp2
            go_round
            case rel => exact ⟨k + 1, hlt, by go_num, by rw [HS.out]; unfold wrongB; rw [decide_eq_false hy0, decide_eq_false hy7]; rfl⟩
            case measure => simp [intOf]; omega
    · obtain rfl : k = n := by omega
      have hlt' : decide (k < k) = false := by simp
      obtain ⟨bk, hbk⟩ : ∃ bk, BadB ri k k = bk := ⟨_, rfl⟩
      rw [hbk]
      have HBK := Lib.hid hbk
      have heq := HE.out
      unfold newE at heq
      clear hd hbk
      by_cases c1 : 8192 < nb
      · rw [if_pos c1] at heq
        subst heq
        have c1' : (8192 : Int) < nb := by omega
        go_wp2_with (go_at_call 10; refine (kn8_any _).mono ?_; rintro e w' ⟨rfl, hb⟩)
        go_ret
        exact ⟨rfl, hb⟩
      · rw [if_neg c1] at heq
        have c1' : (nb : Int) ≤ 8192 := by omega
        cases bk with
        | true =>
          have hb2 : E = 2 := by
            have := HBK.out
            unfold BadB at this
            by_cases c2 : 32 < k
            · rw [if_pos c2] at heq; exact heq.symm
            · rw [if_neg c2] at heq
              rw [decide_eq_false c2, Bool.false_or] at this
              rw [this, if_pos rfl] at heq; exact heq.symm
          subst hb2
          clear heq
          go_wp2_with (go_at_call 10; refine (kn8_any _).mono ?_; rintro e w' ⟨rfl, hb⟩)
          go_ret
          exact ⟨rfl, hb⟩
        | false =>
          have hb2 : E = 3 ∧ k * 256 < nb := by
            have := HBK.out
            unfold BadB at this
            simp only [Bool.or_eq_false_iff, decide_eq_false_iff_not] at this
            rw [if_neg this.1, this.2, if_neg (by simp)] at heq
            by_cases c3 : k * 256 < nb
            · rw [if_pos c3] at heq; exact ⟨heq.symm, c3⟩
            · rw [if_neg c3] at heq; exact absurd heq.symm hE0
          obtain ⟨rfl, c3⟩ := hb2
          have c3' : (k : Int) * 256 < nb := by omega
          clear heq
          go_wp2_with (go_at_call 10; refine (kn8_any _).mono ?_; rintro e w' ⟨rfl, hb⟩)
          go_ret
          exact ⟨rfl, hb⟩
end Go.Proofs.Ytknepljmbpdpkaa
