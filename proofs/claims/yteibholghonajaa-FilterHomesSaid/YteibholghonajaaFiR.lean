/- The walk of FilterHomes. -/
import Derived.Test.YteibholghonajaaFiN
import Derived.Test.YteibholghonajaaFiRm
namespace Go.Proofs.Yteibholghonajaa
open Go.RowKit

/-! ### Mathematics -/
def hmT (a : Nat) : Tn := ⟨0, 255, a⟩
theorem hm_ok {a : Nat} (h : a < 256) : NOk [hmT a] := ⟨fun n hn => by rw [List.mem_singleton.1 hn]; exact ⟨Nat.zero_lt_succ _, Nat.lt_succ_self 255, h⟩, by simp⟩
theorem hm_ts (a : Nat) : ([hmT a] : List Tn).map Tn.ts = [⟨0, 255, (a : Int)⟩] := rfl
theorem hm_may {a : Int} (h : mayF [⟨0, 255, a⟩] = true) : ∃ q : Nat, a = q ∧ q < 256 := by
  unfold mayF wrongT at h
  simp only [List.any_cons, List.any_nil, Bool.or_false, Bool.and_eq_true, Bool.not_eq_true', Bool.or_eq_false_iff, decide_eq_false_iff_not] at h
  exact ⟨a.toNat, by omega, by omega⟩
theorem hm_not {a : Int} (h : a < 0 ∨ 255 < a) : mayF [⟨0, 255, a⟩] = false := by
  cases hm : mayF [⟨0, 255, a⟩] with
  | false => rfl
  | true => obtain ⟨q, rfl, hq⟩ := hm_may hm; omega
theorem pass_hm {a : Nat} {P : List Nat} (h8 : ∀ x ∈ P, x < 256) : passN P (hmT a) = (decide (0 < P.length) && (P.getD 0 0 == a)) := by
  unfold passN hmT
  cases P with
  | nil => rfl
  | cons x P =>
    have hx := h8 x (List.mem_cons_self ..)
    have e : x &&& 255 = x := by
      have := Nat.and_two_pow_sub_one_eq_mod x 8
      rw [show 2 ^ 8 - 1 = 255 by decide] at this
      rw [this]; exact Nat.mod_eq_of_lt hx
    simp [e]
theorem least_all {N : List Tn} (ho : ∀ n ∈ N, n.Ok) (g : Good N) : N.all (passN (lsT N)) = true := by
  rw [pass_iff g]
  refine ⟨by rw [lsT_len]; exact Nat.le_refl _, fun q => ?_⟩
  have e : (lsT N).getD q 0 = (sumN N).V q := by
    rw [List.getD_eq_getElem?_getD]
    rcases Nat.lt_or_ge q (longN N) with hq | hq
    · unfold lsT; rw [List.getElem?_map, List.getElem?_range hq]; rfl
    · rw [List.getElem?_eq_none (by rw [lsT_len]; exact hq), (sum_out hq).2]; rfl
  rw [e]
  refine Nat.eq_of_testBit_eq fun i => ?_
  rw [Nat.testBit_and]
  cases hv : ((sumN N).V q).testBit i with
  | false => rfl
  | true => rw [sum_sub g q i hv]; rfl
theorem tests_pass {N : List Tn} (g : Good N) (P : List Nat) : (testsS (sumN N)).all (passN P) = N.all (passN P) := by
  rw [Bool.eq_iff_iff, pass_iff (tests_good g), pass_iff g, tests_sum g, ← sum_size, tests_sum g, sum_size]
theorem home_match {N : List Tn} {a : Nat} (h : NOk N) (ha : a < 256) (g : Good (N ++ [hmT a])) (h8 : (testsS (sumN (N ++ [hmT a]))).length ≤ 8) {P : List Nat} (hP : ∀ x ∈ P, x < 256) :
    matchL (plT (N ++ [hmT a])) P = (matchL (N.map Tn.ts) P && (decide (0 < P.length) && (P.getD 0 0 == a))) := by
  unfold plT
  rw [matchL_nat (tests_ok (app_ok h.ok (hm_ok ha).ok)) h8, matchL_nat h.ok h.l8, tests_pass g, List.all_append, List.all_cons, List.all_nil, Bool.and_true, pass_hm hP, Bool.and_assoc]
theorem homes_apart {N M : List Tn} {a b : Nat} (ha : a < 256) (hb : b < 256) (h : NOk N) (k : NOk M) (g : Good (N ++ [hmT a])) (g' : Good (M ++ [hmT b]))
    (h8 : (testsS (sumN (N ++ [hmT a]))).length ≤ 8) (k8 : (testsS (sumN (M ++ [hmT b]))).length ≤ 8) : ∃ z, ApartR (plT (N ++ [hmT a])) (plT (M ++ [hmT b])) = (z, 0) ∧ (a ≠ b → z = true) := by
  have o1 : NOk (testsS (sumN (N ++ [hmT a]))) := ⟨tests_ok (app_ok h.ok (hm_ok ha).ok), h8⟩
  have o2 : NOk (testsS (sumN (M ++ [hmT b]))) := ⟨tests_ok (app_ok k.ok (hm_ok hb).ok), k8⟩
  by_cases gg : Good (testsS (sumN (N ++ [hmT a])) ++ testsS (sumN (M ++ [hmT b])))
  · refine ⟨false, apartR_good o1 o2 gg, fun hne => ?_⟩
    have hl := least_all (app_ok o1.ok o2.ok) gg
    have h256 := lsT_256 (app_ok o1.ok o2.ok)
    generalize lsT (testsS (sumN (N ++ [hmT a])) ++ testsS (sumN (M ++ [hmT b]))) = Q at hl h256
    rw [List.all_append, Bool.and_eq_true, tests_pass g, tests_pass g', List.all_append, List.all_append] at hl
    simp only [Bool.and_eq_true, List.all_cons, List.all_nil, Bool.and_true] at hl
    have e1 := hl.1.2
    have e2 := hl.2.2
    rw [pass_hm h256, Bool.and_eq_true, beq_iff_eq] at e1 e2
    exact absurd (e1.2.symm.trans e2.2) hne
  · exact ⟨true, apartR_bad o1 o2 gg, fun _ => rfl⟩
theorem bothR_zero {L K T : List Ts} (h : BothR L K = (0, T)) : ∃ N M, L = N.map Tn.ts ∧ K = M.map Tn.ts ∧ NOk N ∧ NOk M ∧ Good (N ++ M) ∧ (testsS (sumN (N ++ M))).length ≤ 8 ∧ T = plT (N ++ M) := by
  cases hm : (mayF L && mayF K) with
  | false => rw [bothR_not hm] at h; simp at h
  | true =>
    rw [Bool.and_eq_true] at hm
    obtain ⟨N, rfl, hN⟩ := may_n hm.1
    obtain ⟨M, rfl, hM⟩ := may_n hm.2
    by_cases g : Good (N ++ M)
    · by_cases h8 : (testsS (sumN (N ++ M))).length ≤ 8
      · rw [bothR_good hN hM g h8] at h
        exact ⟨N, M, rfl, rfl, hN, hM, g, h8, (Prod.mk.inj h).2.symm⟩
      · rw [bothR_long hN hM g h8] at h; simp at h
    · rw [bothR_bad hN hM g] at h; simp at h
theorem hm_list {M : List Tn} {b : Int} (h : [⟨0, 255, b⟩] = M.map Tn.ts) : ∃ q : Nat, b = q ∧ M = [hmT q] := by
  match M, h with
  | [], h => simp at h
  | _ :: _ :: _, h => simp at h
  | [m], h =>
    obtain ⟨p, mm, v⟩ := m
    simp only [List.map_cons, List.map_nil, List.cons.injEq, Tn.ts, Ts.mk.injEq, and_true] at h
    obtain ⟨h1, h2, h3⟩ := h
    exact ⟨v, h3, by unfold hmT; rw [show p = 0 by omega, show mm = 255 by omega]⟩

/-! ### The walk -/
section
variable {w : World} {A A' B : Option Addr} {n c m d pn pc : Nat} {L K : List Ts} {P : List Nat} (a b : Int)
set_option maxHeartbeats 4000000 in
set_option maxRecDepth 100000 in
theorem homes_big (h63 : (n : Int) ≤ 9223372036854775807) (k63 : (m : Int) ≤ 9223372036854775807) (p63 : (pn : Int) ≤ 9223372036854775807) (hbig : 40 < n ∨ (n ≤ 40 ∧ 40 < m) ∨ (n ≤ 40 ∧ m ≤ 40 ∧ 300 < pn)) :
    Calls Try.prog 6 #[.int .i64 a, .int .i64 b, .slice A n c, .slice A' m d, .slice B pn pc] w fun e w' => e = .returned (.bool true) ∧ Below w.heap.size w w' := by
  rcases hbig with hb | ⟨hb, hc⟩ | ⟨hb, hc, hd⟩
  · have hb1 : (40 : Int) < (n : Int) := by omega
    clear hb
    go_enter Try.func6, Try.ntmps6
    go_wp2_with (go_at_call 8; refine (known_anyF _).mono ?_; rintro e w1 ⟨rfl, hbk⟩)
    all_goals
      go_ret
      exact ⟨rfl, hbk⟩
  · have hb1 : ¬ (40 : Int) < (n : Int) := by omega
    have hb2 : (40 : Int) < (m : Int) := by omega
    clear hb hc
    go_enter Try.func6, Try.ntmps6
    go_wp2_with (go_at_call 8; refine (known_anyF _).mono ?_; rintro e w1 ⟨rfl, hbk⟩)
    all_goals
      go_ret
      exact ⟨rfl, hbk⟩
  · have hb1 : ¬ (40 : Int) < (n : Int) := by omega
    have hb2 : ¬ (40 : Int) < (m : Int) := by omega
    have hb3 : (300 : Int) < (pn : Int) := by omega
    clear hb hc hd
    go_enter Try.func6, Try.ntmps6
    go_wp2_with (go_at_call 8; refine (known_anyF _).mono ?_; rintro e w1 ⟨rfl, hbk⟩)
    all_goals
      go_ret
      exact ⟨rfl, hbk⟩
set_option maxHeartbeats 8000000 in
set_option maxRecDepth 100000 in
theorem homes_not (h : FlIn w A n c L) (k : FlIn w A' m d K) (hn : n ≤ 40) (hm : m ≤ 40) (hpn : pn ≤ 300) (hbad : a < 0 ∨ (¬ a < 0 ∧ 255 < a) ∨ (¬ a < 0 ∧ ¬ 255 < a ∧ mayF L = false)) :
    Calls Try.prog 6 #[.int .i64 a, .int .i64 b, .slice A n c, .slice A' m d, .slice B pn pc] w fun e w' => e = .returned (.bool true) ∧ Below w.heap.size w w' := by
  have H := Lib.hid h
  have K' := Lib.hid k
  have HW := Lib.hid (Below.refl w.heap.size w)
  have hb1 : ¬ (40 : Int) < (n : Int) := by omega
  have hb2 : ¬ (40 : Int) < (m : Int) := by omega
  have hb3 : ¬ (300 : Int) < (pn : Int) := by omega
  have hh : (mayF L && mayF [⟨0, 255, a⟩]) = false := by
    rcases hbad with h | h | h
    · rw [hm_not (.inl h)]; simp
    · rw [hm_not (.inr h.2)]; simp
    · rw [h.2.2]; rfl
  have H1 := Lib.hid (fun (w' : World) (hb : Below w.heap.size w w') => home_to (H.out.below hb) (by omega) a _ _ (bothR_not hh))
  obtain ⟨c2, T2, e2⟩ : ∃ c2 T2, BothR K [⟨0, 255, b⟩] = (c2, T2) := ⟨_, _, rfl⟩
  have H2 := Lib.hid (fun (w' : World) (hb : Below w.heap.size w w') => home_to (K'.out.below hb) (by omega) b _ _ e2)
  have HQ := Lib.hid (fun (w' : World) (hb : Below w.heap.size w w') => qmay_any (H.out.below hb).ts n c H.out.len (by omega))
  clear h k hh e2
  rcases hbad with h1 | ⟨h1, h2⟩ | ⟨h1, h2, h3⟩
  case' inr.inr => rw [h3] at HQ; clear h3
  all_goals
    go_enter Try.func6, Try.ntmps6
    go_wp2_with (first
      | (go_at_call 8; refine (known_anyF _).mono ?_; rintro e w1 ⟨rfl, hb⟩; have HW := Lib.hid (HW.out.trans (hb.mono HW.out.size)); clear hb)
      | (go_at_call 24; with_reducible refine (H1.out _ HW.out).mono ?_; rintro e w1 ⟨A1, c1, rfl, -, hb⟩; have HW := Lib.hid (HW.out.trans (hb.mono HW.out.size)); clear hb H1)
      | (go_at_call 24; refine (H2.out _ HW.out).mono ?_; rintro e w1 ⟨A2, c2', rfl, -, hb⟩; have HW := Lib.hid (HW.out.trans (hb.mono HW.out.size)); clear hb)
      | (go_at_call 10; refine (HQ.out _ HW.out).mono ?_; rintro e w1 ⟨rfl, rfl⟩))
    all_goals
      go_ret
      exact ⟨rfl, HW.out⟩
set_option maxHeartbeats 8000000 in
set_option maxRecDepth 100000 in
theorem homes_err (h : FlIn w A n c L) (k : FlIn w A' m d K) (hn : n ≤ 40) (hm : m ≤ 40) (hpn : pn ≤ 300) (h0 : ¬ a < 0) (h1 : ¬ 255 < a) (hmay : mayF L = true) (code : Int) (hcode : code = 210 ∨ code = 3) (e1 : BothR L [⟨0, 255, a⟩] = (code, [])) :
    Calls Try.prog 6 #[.int .i64 a, .int .i64 b, .slice A n c, .slice A' m d, .slice B pn pc] w fun e w' => e = .returned (.bool true) ∧ Below w.heap.size w w' := by
  have H := Lib.hid h
  have K' := Lib.hid k
  have HW := Lib.hid (Below.refl w.heap.size w)
  have hb1 : ¬ (40 : Int) < (n : Int) := by omega
  have hb2 : ¬ (40 : Int) < (m : Int) := by omega
  have hb3 : ¬ (300 : Int) < (pn : Int) := by omega
  have H1 := Lib.hid (fun (w' : World) (hb : Below w.heap.size w w') => home_to (H.out.below hb) (by omega) a _ _ e1)
  obtain ⟨c2, T2, e2⟩ : ∃ c2 T2, BothR K [⟨0, 255, b⟩] = (c2, T2) := ⟨_, _, rfl⟩
  have H2 := Lib.hid (fun (w' : World) (hb : Below w.heap.size w w') => home_to (K'.out.below hb) (by omega) b _ _ e2)
  have HQ := Lib.hid (fun (w' : World) (hb : Below w.heap.size w w') => qmay_any (H.out.below hb).ts n c H.out.len (by omega))
  rw [hmay] at HQ
  clear h k e2 e1 hmay
  rcases hcode with rfl | rfl
  all_goals
    go_enter Try.func6, Try.ntmps6
    go_wp2_with (first
      | (go_at_call 8; refine (known_anyF _).mono ?_; rintro e w1 ⟨rfl, hb⟩; have HW := Lib.hid (HW.out.trans (hb.mono HW.out.size)); clear hb)
      | (go_at_call 24; with_reducible refine (H1.out _ HW.out).mono ?_; rintro e w1 ⟨A1, c1, rfl, -, hb⟩; have HW := Lib.hid (HW.out.trans (hb.mono HW.out.size)); clear hb H1)
      | (go_at_call 24; refine (H2.out _ HW.out).mono ?_; rintro e w1 ⟨A2, c2', rfl, -, hb⟩; have HW := Lib.hid (HW.out.trans (hb.mono HW.out.size)); clear hb)
      | (go_at_call 10; refine (HQ.out _ HW.out).mono ?_; rintro e w1 ⟨rfl, rfl⟩))
    all_goals
      go_ret
      exact ⟨rfl, HW.out⟩
set_option maxHeartbeats 16000000 in
set_option maxRecDepth 100000 in
theorem homes_ok {N : List Tn} {a : Nat} (h : FlIn w A n c (N.map Tn.ts)) (k : FlIn w A' m d K) (hp : PkIn w B P) (hpl : P.length = pn) (hn : n ≤ 40) (hm : m ≤ 40) (hpn : pn ≤ 300) (ha : a < 256) (hN : NOk N) (g : Good (N ++ [hmT a])) (h8 : (testsS (sumN (N ++ [hmT a]))).length ≤ 8) :
    Calls Try.prog 6 #[.int .i64 (a : Int), .int .i64 b, .slice A n c, .slice A' m d, .slice B pn pc] w fun e w' => e = .returned (.bool true) ∧ Below w.heap.size w w' := by
  have H := Lib.hid h
  have K' := Lib.hid k
  have HP := Lib.hid hp
  have HPN := Lib.hid hpl
  have HW := Lib.hid (Below.refl w.heap.size w)
  have hb1 : ¬ (40 : Int) < (n : Int) := by omega
  have hb2 : ¬ (40 : Int) < (m : Int) := by omega
  have hb3 : ¬ (300 : Int) < (pn : Int) := by omega
  have ha0 : ¬ (a : Int) < 0 := by omega
  have ha1 : ¬ (255 : Int) < (a : Int) := by omega
  have h256 : ∀ x ∈ P, x < 256 := fun x hx => by
    obtain ⟨i, hi, e⟩ := List.getElem_of_mem hx
    exact (hp i x (by rw [List.getElem?_eq_getElem hi, e])).1
  have e1 : BothR (N.map Tn.ts) [⟨0, 255, (a : Int)⟩] = (0, plT (N ++ [hmT a])) := bothR_good hN (hm_ok ha) g h8
  have H1 := Lib.hid (fun (w' : World) (hb : Below w.heap.size w w') => home_to (H.out.below hb) (by omega) (a : Int) _ _ e1)
  obtain ⟨c2, T2, e2⟩ : ∃ c2 T2, BothR K [⟨0, 255, b⟩] = (c2, T2) := ⟨_, _, rfl⟩
  have H2 := Lib.hid (fun (w' : World) (hb : Below w.heap.size w w') => home_to (K'.out.below hb) (by omega) b _ _ e2)
  have HQ := Lib.hid (fun (w' : World) (hb : Below w.heap.size w w') => qmay_any (H.out.below hb).ts n c H.out.len (by omega))
  rw [hN.may] at HQ
  have HM := Lib.hid (fun (w' : World) (hb : Below w.heap.size w w') => qmatch_any (H.out.below hb).ts n c H.out.len (by omega) (pc := pc) (HP.out.below hb) HPN.out (by omega))
  have HHM := home_match hN ha g h8 h256
  have HL1 : Hid ((plT (N ++ [hmT a])).length ≤ 8) := Lib.hid (by unfold plT; rw [List.length_map]; exact h8)
  -- the second home, and whether the two are apart
  have HAP : (c2 ≠ 0) ∨ (c2 = 0 ∧ T2.length ≤ 8 ∧ ∃ z, ApartR (plT (N ++ [hmT a])) T2 = (z, 0) ∧ ((a : Int) ≠ b → z = true)) := by
    by_cases hc : c2 = 0
    · subst hc
      obtain ⟨N', M', e3, e4, o1, o2, g', k8, rfl⟩ := bothR_zero e2
      obtain ⟨q, rfl, rfl⟩ := hm_list e4
      obtain ⟨q', hq', hq2⟩ := hm_may (a := (q : Int)) (by have := o2.may; rwa [hm_ts] at this)
      have hqq : q < 256 := by omega
      obtain ⟨z, hz, hz2⟩ := homes_apart ha hqq hN o1 g g' h8 k8
      exact .inr ⟨rfl, by unfold plT; rw [List.length_map]; exact k8, z, hz, fun hne => hz2 (fun e => hne (by rw [e]))⟩
    · exact .inl hc
  have HPA := Lib.hid (fun (w' : World) (A1 : Option Addr) (c1 : Nat) (F1 : FlIn w' A1 (plT (N ++ [hmT a])).length c1 (plT (N ++ [hmT a]))) (hb : Below w.heap.size w w') => match_any F1.ts _ c1 rfl (by have := HL1.out; omega) (pc := pc) (HP.out.below hb) HPN.out (by omega))
  clear e1 e2 g h8 hN h k
  -- the packet
  have WAYS : (matchL (N.map Tn.ts) P = false ∧ matchL (plT (N ++ [hmT a])) P = false) ∨ (matchL (N.map Tn.ts) P = true ∧ ¬ (0 : Int) < (pn : Int) ∧ matchL (plT (N ++ [hmT a])) P = false) ∨
      (matchL (N.map Tn.ts) P = true ∧ (0 : Int) < (pn : Int) ∧ ∃ x, P[0]? = some x ∧ matchL (plT (N ++ [hmT a])) P = (x == a)) := by
    cases hmf : matchL (N.map Tn.ts) P with
    | false => exact .inl ⟨rfl, by rw [HHM, hmf]; rfl⟩
    | true =>
      rcases Nat.eq_zero_or_pos pn with h0 | h0
      · exact .inr (.inl ⟨rfl, by omega, by rw [HHM, hmf, decide_eq_false (by rw [HPN.out]; omega)]; rfl⟩)
      · have hx : P[0]? = some (P[0]'(by rw [HPN.out]; exact h0)) := List.getElem?_eq_getElem _
        exact .inr (.inr ⟨rfl, by omega, _, hx, by rw [HHM, hmf, decide_eq_true (by rw [HPN.out]; exact h0), List.getD_eq_getElem?_getD, hx]; rfl⟩)
  clear HHM
  generalize matchL (N.map Tn.ts) P = mf at HM WAYS
  generalize matchL (plT (N ++ [hmT a])) P = mx at HPA WAYS
  generalize plT (N ++ [hmT a]) = T1 at H1 HL1 HAP HPA
  have WAYS2 : (mf = false ∧ mx = false) ∨ (mf = true ∧ ¬ (0 : Int) < (pn : Int) ∧ mx = false) ∨ (mf = true ∧ (0 : Int) < (pn : Int) ∧ ∃ (bp op x : Nat), B = some ⟨bp, op, none⟩ ∧ bp < w.heap.size ∧ w.cell? ⟨bp, op, none⟩ = some (.int .u8 (x : Int)) ∧ x < 256 ∧ ((x = a ∧ mx = true) ∨ (x ≠ a ∧ mx = false))) := by
    rcases WAYS with h | h | ⟨h1, h2, x, hx, h3⟩
    · exact .inl h
    · exact .inr (.inl h)
    · obtain ⟨x8, bp, op, rfl, hbl, hc⟩ := HP.out 0 x hx
      refine .inr (.inr ⟨h1, h2, bp, op, x, rfl, hbl, hc, x8, ?_⟩)
      by_cases e : x = a
      · exact .inl ⟨e, by rw [h3, e]; simp⟩
      · exact .inr ⟨e, by rw [h3]; simp [e]⟩
  clear WAYS
  rcases WAYS2 with ⟨rfl, rfl⟩ | ⟨rfl, hlen, rfl⟩ | ⟨rfl, hlen, bp, op, x, rfl, hbl, hc, x8, hx⟩
  case' inr.inr => have HCELL := Lib.hid (fun (w' : World) (hb : Below w.heap.size w w') => (hb.cell (p := ⟨bp, op, none⟩) hbl).trans hc)
  case' inr.inr => clear hc
  case' inr.inr => rcases hx with ⟨hne, rfl⟩ | ⟨hne, rfl⟩
  case' inr.inr.inl => have hxe : ((x : Int) == (a : Int)) = true := by rw [hne]; simp
  case' inr.inr.inr => have hxe : ((x : Int) == (a : Int)) = false := by simp; omega
  case' inr.inr.inl => clear hne
  case' inr.inr.inr => clear hne
  all_goals
    rcases HAP with hc2 | ⟨rfl, hT2, z, hz, hz2⟩
    case' inl => have hc2' : (c2 == 0) = false := by simpa using hc2
    case' inl => clear hc2
    case' inr => have HAC := Lib.hid (fun (w' : World) (A1 A2 : Option Addr) (c1 c2' : Nat) (F1 : FlIn w' A1 T1.length c1 T1) (F2 : FlIn w' A2 T2.length c2' T2) => apart_any F1 F2 (by have := HL1.out; omega) (by omega))
    case' inr => rw [hz] at HAC
    case' inr => clear hz
    case' inr => rcases Bool.eq_false_or_eq_true z with rfl | rfl
    case' inr.inr => have hab : ((a : Int) != b) = false := by (cases hq : ((a : Int) != b) with | false => rfl | true => exact absurd (hz2 (by simpa using hq)) (by simp))
    all_goals
      go_enter Try.func6, Try.ntmps6
      go_wp2_with (first
        | (go_at_call 8; refine (known_anyF _).mono ?_; rintro e w1 ⟨rfl, hb⟩; have HW := Lib.hid (HW.out.trans (hb.mono HW.out.size)); clear hb)
        | (go_at_call 24; with_reducible refine (H1.out _ HW.out).mono ?_; rintro e w1 ⟨A1, c1, rfl, hf1, hb⟩; have HW := Lib.hid (HW.out.trans (hb.mono HW.out.size)); have F1 := Lib.hid hf1; clear hb hf1 H1)
        | (go_at_call 24; refine (H2.out _ HW.out).mono ?_; rintro e w2 ⟨A2, c2', rfl, hf2, hb⟩; have HW := Lib.hid (HW.out.trans (hb.mono HW.out.size)); have F1 := Lib.hid (F1.out.below hb); have F2 := Lib.hid hf2; clear hb hf2)
        | (go_at_call 10; refine (HQ.out _ HW.out).mono ?_; rintro e w3 ⟨rfl, rfl⟩)
        | (go_at_call 11; refine (HPA.out _ _ _ F1.out HW.out).mono ?_; rintro e w4 ⟨rfl, hb⟩; have HW := Lib.hid (HW.out.trans (hb.mono HW.out.size)); have F1 := Lib.hid (F1.out.below hb); have F2 := Lib.hid (F2.out.below hb); clear hb)
        | (go_at_call 12; refine (HM.out _ HW.out).mono ?_; rintro e w5 ⟨rfl, hb⟩; have HW := Lib.hid (HW.out.trans (hb.mono HW.out.size)); have F1 := Lib.hid (F1.out.below hb); have F2 := Lib.hid (F2.out.below hb); (try have hcx := HCELL.out _ HW.out); clear hb)
        | (go_at_call 20; refine (HAC.out _ _ _ _ _ F1.out F2.out).mono ?_; intro e w6 hbe; obtain ⟨rfl, hb⟩ := be_to hbe rfl; have HW := Lib.hid (HW.out.trans (hb.mono HW.out.size)); clear hb hbe))
      all_goals
        go_ret
        exact ⟨rfl, HW.out⟩
theorem homes_law (h : FlIn w A n c L) (h63 : (n : Int) ≤ 9223372036854775807) (k : FlIn w A' m d K) (k63 : (m : Int) ≤ 9223372036854775807) (hp : PkIn w B P) (hpn : P.length = pn) (p63 : (pn : Int) ≤ 9223372036854775807) :
    Calls Try.prog 6 #[.int .i64 a, .int .i64 b, .slice A n c, .slice A' m d, .slice B pn pc] w fun e w' => e = .returned (.bool true) ∧ Below w.heap.size w w' := by
  by_cases hbig : 40 < n ∨ (n ≤ 40 ∧ 40 < m) ∨ (n ≤ 40 ∧ m ≤ 40 ∧ 300 < pn)
  · exact homes_big a b h63 k63 p63 hbig
  · by_cases h0 : a < 0
    · exact homes_not a b h k (by omega) (by omega) (by omega) (.inl h0)
    · by_cases h1 : 255 < a
      · exact homes_not a b h k (by omega) (by omega) (by omega) (.inr (.inl ⟨h0, h1⟩))
      · cases hm : mayF L with
        | false => exact homes_not a b h k (by omega) (by omega) (by omega) (.inr (.inr ⟨h0, h1, hm⟩))
        | true =>
          obtain ⟨q, rfl⟩ : ∃ q : Nat, a = q := ⟨a.toNat, by omega⟩
          have hq : q < 256 := by omega
          obtain ⟨N, rfl, hN⟩ := may_n hm
          by_cases g : Good (N ++ [hmT q])
          · by_cases h8 : (testsS (sumN (N ++ [hmT q]))).length ≤ 8
            · exact homes_ok b h k hp hpn (by omega) (by omega) (by omega) hq hN g h8
            · exact homes_err _ b h k (by omega) (by omega) (by omega) h0 h1 hm 3 (.inr rfl) (bothR_long hN (hm_ok hq) g h8)
          · exact homes_err _ b h k (by omega) (by omega) (by omega) h0 h1 hm 210 (.inl rfl) (bothR_bad hN (hm_ok hq) g)
end
end Go.Proofs.Yteibholghonajaa
