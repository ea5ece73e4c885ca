/- May, Match, Byte, Long and mask of the document. -/
import Derived.Test.YtakpankipagndaaFiB
namespace Go.Proofs.Ytakpankipagndaa
open Go.RowKit

theorem wrong_cases (t : Ts) : (wrongT t = true ∧ (t.p < 0 ∨ (¬ t.p < 0 ∧ 64 ≤ t.p) ∨ (¬ t.p < 0 ∧ ¬ 64 ≤ t.p ∧ t.m < 0) ∨ (¬ t.p < 0 ∧ ¬ 64 ≤ t.p ∧ ¬ t.m < 0 ∧ 255 < t.m) ∨ (¬ t.p < 0 ∧ ¬ 64 ≤ t.p ∧ ¬ t.m < 0 ∧ ¬ 255 < t.m ∧ t.v < 0) ∨ (¬ t.p < 0 ∧ ¬ 64 ≤ t.p ∧ ¬ t.m < 0 ∧ ¬ 255 < t.m ∧ ¬ t.v < 0 ∧ 255 < t.v))) ∨
    (wrongT t = false ∧ ¬ t.p < 0 ∧ ¬ 64 ≤ t.p ∧ ¬ t.m < 0 ∧ ¬ 255 < t.m ∧ ¬ t.v < 0 ∧ ¬ 255 < t.v) := by
  unfold wrongT
  simp only [Bool.or_eq_true, decide_eq_true_eq, Bool.or_eq_false_iff, decide_eq_false_iff_not]
  omega
set_option maxHeartbeats 2000000 in
set_option maxRecDepth 100000 in
theorem qmay_any {w : World} {A : Option Addr} {L : List Ts} (h : TsIn w A L) (n c : Nat) (hn : L.length = n) (hn2 : (n : Int) ≤ 9223372036854775807) :
    Calls Try.prog 59 #[.slice A n c] w fun e w' => e = .returned (.bool (mayF L)) ∧ w = w' := by
  have H := Lib.hid h
  have HN := Lib.hid hn
  clear h hn
  unfold mayF
  rw [HN.out]
  by_cases h8 : n ≤ 8
  · have h8' : ¬ (8 : Int) < n := by omega
    rw [decide_eq_true h8, Bool.true_and]
    go_enter Try.func59, Try.ntmps59
    go_wp2
    go_loop [3] (fun i => ∃ k : Nat, k ≤ n ∧ i = .int .i64 (k : Int) ∧ (∀ j, j < k → ∀ t, L[j]? = some t → wrongT t = false)) (fun i => n - (intOf i).toNat)
    case atStart => exact ⟨0, by omega, rfl, fun j hj => by omega⟩
    case round =>
      obtain ⟨k, hk, rfl, hb⟩ := hrel
      have HB := Lib.hid hb
      clear hb
      by_cases hlt : k < n
      · have hlt2 : (k : Int) < n := by omega
        obtain ⟨t, ht⟩ : ∃ t, L[k]? = some t := ⟨_, List.getElem?_eq_getElem (by rw [HN.out]; exact hlt)⟩
        obtain ⟨b, o, rfl, hbl, c0, c1, c2⟩ := H.out k t ht
        have HT := Lib.hid ht
        clear ht hbl
        rcases wrong_cases t with ⟨hw, hc⟩ | ⟨hw, h1, h2, h3, h4, h5, h6⟩
        · have HA := Lib.hid (any_true_of HT.out hw)
          clear hw
          rcases hc with h1 | ⟨h1, h2⟩ | ⟨h1, h2, h3⟩ | ⟨h1, h2, h3, h4⟩ | ⟨h1, h2, h3, h4, h5⟩ | ⟨h1, h2, h3, h4, h5, h6⟩
          all_goals
            go_wp2
            go_ret
            exact ⟨by rw [HA.out]; rfl, rfl⟩
        · have HWT := Lib.hid hw
          clear hw
          go_wp2
          go_round
          case measure => simp [intOf]; omega
          case rel =>
            refine ⟨k + 1, by omega, by go_num, fun j hj u hu => ?_⟩
            rcases Nat.lt_succ_iff_lt_or_eq.1 hj with h | rfl
            · exact HB.out j h u hu
            · have e := hu.symm.trans HT.out
              cases e
              exact HWT.out
      · obtain rfl : k = n := by omega
        have hlt2 : ¬ (k : Int) < (k : Int) := by omega
        go_wp2
        go_ret
        exact ⟨by rw [any_false_of fun j hj => HB.out j (by rw [← HN.out]; exact hj)]; rfl, rfl⟩
  · have h8' : (8 : Int) < n := by omega
    rw [decide_eq_false h8, Bool.false_and]
    go_enter Try.func59, Try.ntmps59
    go_wp2
    go_ret
    exact ⟨rfl, rfl⟩
set_option maxHeartbeats 2000000 in
set_option maxRecDepth 100000 in
theorem qmatch_any {w : World} {A : Option Addr} {L : List Ts} (h : TsIn w A L) (n c : Nat) (hn : L.length = n) (hn2 : (n : Int) ≤ 9223372036854775807) {B : Option Addr} {pn pc : Nat} {P : List Nat} (hp : PkIn w B P) (hpn : P.length = pn) (hp2 : (pn : Int) ≤ 9223372036854775807) :
    Calls Try.prog 61 #[.slice A n c, .slice B pn pc] w fun e w' => e = .returned (.bool (matchL L P)) ∧ Below w.heap.size w w' := by
  have HC := Lib.hid (qmay_any h n c hn hn2)
  have H := Lib.hid h
  have HP := Lib.hid hp
  have HN := Lib.hid hn
  have HPN := Lib.hid hpn
  clear h hp hn hpn
  cases hm : mayF L with
  | false =>
    rw [show matchL L P = false by unfold matchL; rw [hm]; rfl]
    rw [hm] at HC
    clear hm
    go_enter Try.func61, Try.ntmps61
    go_wp2_with (go_at_call 59; refine HC.out.mono ?_; rintro e w' ⟨rfl, rfl⟩)
    go_ret
    exact ⟨rfl, Below.refl _ w⟩
  | true =>
    rw [hm] at HC
    obtain ⟨N, rfl, h8, ho⟩ := may_nat hm
    have HO := Lib.hid ho
    have h8' : n ≤ 8 := by rw [← HN.out, List.length_map]; exact h8
    by_cases h64 : pn ≤ 64
    · have h64' : ¬ (64 : Int) < pn := by omega
      rw [matchL_nat ho h8, decide_eq_true (by rw [HPN.out]; exact h64), Bool.true_and]
      have HNL := Lib.hid (show N.length = n by rw [← HN.out, List.length_map])
      clear hm ho h8
      go_enter Try.func61, Try.ntmps61
      go_wp2_with (go_at_call 59; refine HC.out.mono ?_; rintro e w1 ⟨rfl, rfl⟩)
      go_loopg [5] n (fun g i W => ∃ k : Nat, k + g = n ∧ i = .int .i64 (k : Int) ∧ (∀ j, j < k → ∀ t, N[j]? = some t → passN P t = true) ∧ Below w.heap.size w W)
      case atStart => exact ⟨0, by omega, rfl, fun j hj => by omega, Below.refl _ w⟩
      case round =>
        obtain ⟨k, hk, rfl, hb, hB⟩ := hrel
        have HB := Lib.hid hb
        have HW := Lib.hid hB
        clear hb hB
        by_cases hlt : k < n
        · have hlt2 : (k : Int) < n := by omega
          obtain ⟨t, ht⟩ : ∃ t, N[k]? = some t := ⟨_, List.getElem?_eq_getElem (by rw [HNL.out]; exact hlt)⟩
          obtain ⟨b, o, rfl, hbl, c0, c1, c2⟩ := (H.out.below HW.out) k t.ts (by rw [List.getElem?_map, ht]; rfl)
          have HT := Lib.hid ht
          have hok := HO.out t (List.mem_of_getElem? ht)
          have hp64 := hok.p
          clear hbl ht
          obtain ⟨p, m, v⟩ := t
          simp only [Tn.ts] at c0 c1 c2 hp64
          have no : ∀ q, (passN P ⟨p, m, v⟩ = false) → N.all (passN P) = q → q = false := fun q hf e => by
            rw [← e, List.all_eq_false]
            exact ⟨_, List.mem_of_getElem? HT.out, by rw [hf]; simp⟩
          have NO := Lib.hid no
          clear no
          by_cases hge : pn ≤ p
          · have hd : decide ((pn : Int) ≤ (p : Int)) = true := by simpa using hge
            have HF := Lib.hid (passN_no (P := P) (n := ⟨p, m, v⟩) (by rw [HPN.out]; exact hge))
            go_wp2
            go_quiet (fail)
            all_goals
              go_wp2
              go_ret
              exact ⟨ret_bool (NO.out _ HF.out rfl).symm, below_drewN HW.out _⟩
          · obtain ⟨x, hx⟩ : ∃ x, P[p]? = some x := ⟨_, List.getElem?_eq_getElem (by rw [HPN.out]; omega)⟩
            obtain ⟨hx8, bp, op, rfl, hbp, hc⟩ := (HP.out.below HW.out) p x hx
            have hd : decide ((pn : Int) ≤ (p : Int)) = false := by simp; omega
            have hlt' : (p : Int) < (pn : Int) := by omega
            have hlt'' : p < pn := by omega
            have hpass := passN_at (n := ⟨p, m, v⟩) hx
            simp only at hpass
            have ha := i64_and_nat x m hx8
            generalize x &&& m = y at ha hpass
            cases hq : decide ((y : Int) = (v : Int)) with
            | true =>
              have hq1 : y = v := by have := of_decide_eq_true hq; omega
              have hq' : ((y : Int) != (v : Int)) = false := by rw [hq1]; simp
              rw [show (y == v) = true by simpa using hq1] at hpass
              have HF := Lib.hid hpass
              clear hq hq1 hpass hx
              go_wp2
              go_quiet (fail)
              all_goals
                go_wp2
                go_roundg (n - (k + 1))
                case measure => omega
                case rel =>
                  refine ⟨k + 1, by omega, by go_num, fun j hj u hu => ?_, below_drewN HW.out _⟩
                  rcases Nat.lt_succ_iff_lt_or_eq.1 hj with h | rfl
                  · exact HB.out j h u hu
                  · have e := hu.symm.trans HT.out
                    cases e
                    exact HF.out
            | false =>
              have hq1 : ¬ y = v := by have := of_decide_eq_false hq; omega
              have hq' : ((y : Int) != (v : Int)) = true := by rw [bne_iff_ne]; omega
              rw [show (y == v) = false by simpa using hq1] at hpass
              have HF := Lib.hid hpass
              clear hq hq1 hpass hx
              go_wp2
              go_quiet (fail)
              all_goals
                go_wp2
                go_ret
                exact ⟨ret_bool (NO.out _ HF.out rfl).symm, below_drewN HW.out _⟩
        · obtain rfl : k = n := by omega
          have hlt2 : ¬ (k : Int) < (k : Int) := by omega
          go_wp2
          go_ret
          refine ⟨ret_bool ?_, HW.out⟩
          symm
          rw [List.all_eq_true]
          intro t ht
          obtain ⟨j, hj, e⟩ := List.getElem_of_mem ht
          exact HB.out j (by rw [← HNL.out]; exact hj) t (by rw [List.getElem?_eq_getElem hj, e])
    · have h64' : (64 : Int) < pn := by omega
      rw [matchL_nat ho h8, decide_eq_false (by rw [HPN.out]; exact h64), Bool.false_and]
      clear hm ho h8
      go_enter Try.func61, Try.ntmps61
      go_wp2_with (go_at_call 59; refine HC.out.mono ?_; rintro e w1 ⟨rfl, rfl⟩)
      all_goals
        go_ret
        exact ⟨rfl, Below.refl _ w⟩
end Go.Proofs.Ytakpankipagndaa
