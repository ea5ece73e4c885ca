/- What together answers, told by the document's words. -/
import Derived.Test.YteibholghonajaaFiM
namespace Go.Proofs.Yteibholghonajaa

theorem map_ts_n (N : List Tn) : (N.map Tn.ts).map Ts.n = N := by
  rw [List.map_map]
  conv => rhs; rw [← List.map_id N]
  exact List.map_congr_left fun n _ => rfl
theorem may_nil : mayF [] = true := by decide
structure NOk (N : List Tn) : Prop where
  ok : ∀ n ∈ N, n.Ok
  l8 : N.length ≤ 8
theorem NOk.may {N : List Tn} (h : NOk N) : mayF (N.map Tn.ts) = true := may_of h.ok h.l8
theorem NOk.nil : NOk [] := ⟨by simp, by simp⟩
theorem may_n {L : List Ts} (h : mayF L = true) : ∃ N : List Tn, L = N.map Tn.ts ∧ NOk N := by
  obtain ⟨N, e, h8, ho⟩ := may_nat h
  exact ⟨N, e, ho, h8⟩
theorem app_ok {N K : List Tn} (h : ∀ n ∈ N, n.Ok) (k : ∀ n ∈ K, n.Ok) : ∀ n ∈ N ++ K, n.Ok := fun n hn => by
  rcases List.mem_append.1 hn with hn | hn
  · exact h n hn
  · exact k n hn
theorem togR_two {N K : List Tn} (h : NOk N) (k : NOk K) (o : Option Sm) (ht : tog sm0 (N ++ K) = o) : TogR [N.map Tn.ts, K.map Tn.ts] = o.elim (210, sm0) (fun s => (0, s)) := by
  unfold TogR
  have e : ([N.map Tn.ts, K.map Tn.ts] : List (List Ts)).flatten.map Ts.n = N ++ K := by
    simp only [List.flatten_cons, List.flatten_nil, List.append_nil, List.map_append, map_ts_n]
  rw [if_pos (by simp [h.may, k.may]), e, ht]
  cases o <;> rfl
theorem togR_one {N : List Tn} (h : NOk N) (o : Option Sm) (ht : tog sm0 N = o) : TogR [N.map Tn.ts] = o.elim (210, sm0) (fun s => (0, s)) := by
  unfold TogR
  have e : ([N.map Tn.ts] : List (List Ts)).flatten.map Ts.n = N := by
    simp only [List.flatten_cons, List.flatten_nil, List.append_nil, map_ts_n]
  rw [if_pos (by simp [h.may]), e, ht]
  cases o <;> rfl
theorem togR_not {Ls : List (List Ts)} (h : Ls.all mayF = false) : TogR Ls = (2, sm0) := by
  unfold TogR
  rw [if_neg (by rw [h]; simp)]
theorem two_good {N K : List Tn} (h : NOk N) (k : NOk K) (g : Good (N ++ K)) : TogR [N.map Tn.ts, K.map Tn.ts] = (0, sumN (N ++ K)) := togR_two h k _ (tog_good (app_ok h.ok k.ok) g)
theorem two_bad {N K : List Tn} (h : NOk N) (k : NOk K) (g : ¬ Good (N ++ K)) : TogR [N.map Tn.ts, K.map Tn.ts] = (210, sm0) := togR_two h k _ (tog_bad (app_ok h.ok k.ok) g)
theorem one_good {N : List Tn} (h : NOk N) (g : Good N) : TogR [N.map Tn.ts] = (0, sumN N) := togR_one h _ (tog_good h.ok g)
theorem one_bad {N : List Tn} (h : NOk N) (g : ¬ Good N) : TogR [N.map Tn.ts] = (210, sm0) := togR_one h _ (tog_bad h.ok g)
/-- The plain one. -/
def plT (N : List Tn) : List Ts := (testsS (sumN N)).map Tn.ts
theorem plT_nok {N : List Tn} (h : NOk N) : NOk (testsS (sumN N)) := ⟨tests_ok h.ok, Nat.le_trans (tests_len N) h.l8⟩
theorem bothR_good {N K : List Tn} (h : NOk N) (k : NOk K) (g : Good (N ++ K)) (h8 : (testsS (sumN (N ++ K))).length ≤ 8) : BothR (N.map Tn.ts) (K.map Tn.ts) = (0, plT (N ++ K)) := by
  unfold BothR
  rw [two_good h k g]
  simp only [if_true]
  rw [if_pos h8]; rfl
theorem bothR_long {N K : List Tn} (h : NOk N) (k : NOk K) (g : Good (N ++ K)) (h8 : ¬ (testsS (sumN (N ++ K))).length ≤ 8) : BothR (N.map Tn.ts) (K.map Tn.ts) = (3, []) := by
  unfold BothR
  rw [two_good h k g]
  simp only [if_true]
  rw [if_neg h8]
theorem bothR_bad {N K : List Tn} (h : NOk N) (k : NOk K) (g : ¬ Good (N ++ K)) : BothR (N.map Tn.ts) (K.map Tn.ts) = (210, []) := by
  unfold BothR
  rw [two_bad h k g, if_neg (by decide)]
theorem bothR_not {L K : List Ts} (h : (mayF L && mayF K) = false) : BothR L K = (2, []) := by
  unfold BothR
  rw [togR_not (by simpa using h), if_neg (by decide)]
theorem apartR_good {N K : List Tn} (h : NOk N) (k : NOk K) (g : Good (N ++ K)) : ApartR (N.map Tn.ts) (K.map Tn.ts) = (false, 0) := by
  unfold ApartR
  rw [two_good h k g, if_neg (by simp)]; rfl
theorem apartR_bad {N K : List Tn} (h : NOk N) (k : NOk K) (g : ¬ Good (N ++ K)) : ApartR (N.map Tn.ts) (K.map Tn.ts) = (true, 0) := by
  unfold ApartR
  rw [two_bad h k g, if_neg (by decide)]; rfl
theorem apartR_not {L K : List Ts} (h : (mayF L && mayF K) = false) : ApartR L K = (false, 2) := by
  unfold ApartR
  rw [togR_not (by simpa using h), if_pos rfl]
theorem plainR_good {N : List Tn} (h : NOk N) (g : Good N) : BothR (N.map Tn.ts) [] = (0, plT N) := by
  have := bothR_good h NOk.nil (by rw [List.append_nil]; exact g) (by rw [List.append_nil]; exact (plT_nok h).l8)
  rwa [List.append_nil] at this
theorem plainR_bad {N : List Tn} (h : NOk N) (g : ¬ Good N) : BothR (N.map Tn.ts) [] = (210, []) := bothR_bad h NOk.nil (by rw [List.append_nil]; exact g)
theorem neverR_good {N : List Tn} (h : NOk N) (g : Good N) : ApartR (N.map Tn.ts) [] = (false, 0) := apartR_good h NOk.nil (by rw [List.append_nil]; exact g)
theorem neverR_bad {N : List Tn} (h : NOk N) (g : ¬ Good N) : ApartR (N.map Tn.ts) [] = (true, 0) := apartR_bad h NOk.nil (by rw [List.append_nil]; exact g)
def lsT (N : List Tn) : List Nat := (List.range (longN N)).map (sumN N).V
theorem leastR_good {N : List Tn} (h : NOk N) (g : Good N) : LeastR (N.map Tn.ts) = (0, lsT N) := by
  unfold LeastR
  rw [one_good h g, if_pos rfl, sum_size]; rfl
theorem leastR_bad {N : List Tn} (h : NOk N) (g : ¬ Good N) : LeastR (N.map Tn.ts) = (210, []) := by
  unfold LeastR
  rw [one_bad h g, if_neg (by decide)]
theorem leastR_not {L : List Ts} (h : mayF L = false) : LeastR L = (2, []) := by
  unfold LeastR
  rw [togR_not (by simpa using h), if_neg (by decide)]
theorem lsT_256 {N : List Tn} (h : ∀ n ∈ N, n.Ok) : ∀ x ∈ lsT N, x < 256 := fun x hx => by
  obtain ⟨q, -, rfl⟩ := List.mem_map.1 hx
  exact sum_V256 h q
theorem lsT_len (N : List Tn) : (lsT N).length = longN N := by simp [lsT]
theorem again_good {N : List Tn} (h : NOk N) (g : Good N) : BothR (plT N) [] = (0, plT N) := by
  have := plainR_good (plT_nok h) (tests_good g)
  unfold plT at this ⊢
  rw [tests_sum g] at this
  exact this
theorem match_plain {N : List Tn} (h : NOk N) (g : Good N) (P : List Nat) : matchL (plT N) P = matchL (N.map Tn.ts) P := by
  unfold plT
  rw [matchL_nat (plT_nok h).ok (plT_nok h).l8, matchL_nat h.ok h.l8]
  congr 1
  rw [Bool.eq_iff_iff, pass_iff (tests_good g), pass_iff g, tests_sum g, ← sum_size, tests_sum g, sum_size]
theorem least_passes {N : List Tn} (h : NOk N) (g : Good N) : matchL (N.map Tn.ts) (lsT N) = true := by
  rw [matchL_nat h.ok h.l8, decide_eq_true (by rw [lsT_len]; exact long_bound h.ok), Bool.true_and, pass_iff g]
  refine ⟨by rw [lsT_len]; exact Nat.le_refl _, fun q => ?_⟩
  have e : (lsT N).getD q 0 = (sumN N).V q := by
    rw [List.getD_eq_getElem?_getD]
    rcases Nat.lt_or_ge q (longN N) with hq | hq
    · unfold lsT; rw [List.getElem?_map, List.getElem?_range hq]; rfl
    · rw [List.getElem?_eq_none (by rw [lsT_len]; exact hq), (sum_out hq).2]; rfl
  rw [e]
  refine Nat.eq_of_testBit_eq fun i => ?_
  rw [Nat.testBit_and]
  cases hv : ((sumN N).V q).testBit i with
  | false => rfl
  | true => rw [sum_sub g q i hv]; rfl
theorem match_bad {N : List Tn} (h : NOk N) (g : ¬ Good N) (P : List Nat) : matchL (N.map Tn.ts) P = false := by
  rw [matchL_nat h.ok h.l8]
  cases hp : N.all (passN P) with
  | true => exact absurd (good_of_pass hp) g
  | false => simp
end Go.Proofs.Yteibholghonajaa
