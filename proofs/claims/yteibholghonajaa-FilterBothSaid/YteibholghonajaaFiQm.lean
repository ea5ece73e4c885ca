/- What Within and Same answer, told by the document's words. -/
import Derived.Test.YteibholghonajaaFiRm
namespace Go.Proofs.Yteibholghonajaa

theorem ts_inj {m n : Tn} (h : m.ts = n.ts) : m = n := by
  obtain ⟨p, q, v⟩ := m
  obtain ⟨p', q', v'⟩ := n
  simp only [Tn.ts, Ts.mk.injEq] at h
  obtain ⟨h1, h2, h3⟩ := h
  simp only [Tn.mk.injEq]
  omega
theorem map_ts_inj : ∀ {A B : List Tn}, A.map Tn.ts = B.map Tn.ts → A = B
  | [], [], _ => rfl
  | [], _ :: _, h => by simp at h
  | _ :: _, [], h => by simp at h
  | a :: A, b :: B, h => by
    simp only [List.map_cons, List.cons.injEq] at h
    rw [ts_inj h.1, map_ts_inj h.2]
theorem smEq_sum {A B : List Tn} (ha : ∀ n ∈ A, n.Ok) (hb : ∀ n ∈ B, n.Ok) : smEq (sumN A) (sumN B) = true ↔ sumN A = sumN B := by
  rw [smEq_iff]
  constructor
  · rintro ⟨h1, h2⟩
    have l1 := long_bound ha
    have l2 := long_bound hb
    refine Sm.ext' h1 (funext fun q => ?_) (funext fun q => ?_)
    · rcases Nat.lt_or_ge q 64 with hq | hq
      · exact (h2 q hq).1
      · rw [(sum_out (N := A) (by omega)).1, (sum_out (N := B) (by omega)).1]
    · rcases Nat.lt_or_ge q 64 with hq | hq
      · exact (h2 q hq).2
      · rw [(sum_out (N := A) (by omega)).2, (sum_out (N := B) (by omega)).2]
  · intro h; rw [h]; exact ⟨rfl, fun _ _ => ⟨rfl, rfl⟩⟩
theorem plT_inj {A B : List Tn} (ga : Good A) (gb : Good B) : plT A = plT B ↔ sumN A = sumN B := by
  constructor
  · intro h
    have e := map_ts_inj h
    rw [← tests_sum ga, ← tests_sum gb, e]
  · intro h; unfold plT; rw [h]
theorem smEq_pl {A B : List Tn} (ha : ∀ n ∈ A, n.Ok) (hb : ∀ n ∈ B, n.Ok) (ga : Good A) (gb : Good B) : smEq (sumN A) (sumN B) = decide (plT B = plT A) := by
  rw [Bool.eq_iff_iff, smEq_sum ha hb, decide_eq_true_iff, plT_inj gb ga]
  exact eq_comm
theorem good_right {A B : List Tn} (h : Good (A ++ B)) : Good B := ⟨fun n hn => h.1 n (by simp [hn]), fun n hn k hk => h.2 n (by simp [hn]) k (by simp [hk])⟩
theorem mem_swap {A B : List Tn} (n : Tn) : n ∈ A ++ B ↔ n ∈ B ++ A := by simp [or_comm]
theorem good_swap {A B : List Tn} : Good (A ++ B) ↔ Good (B ++ A) := good_ext mem_swap
theorem plT_swap (A B : List Tn) : plT (A ++ B) = plT (B ++ A) := by unfold plT; rw [sum_ext mem_swap]
theorem withinR_good {N M : List Tn} (h : NOk N) (k : NOk M) (g : Good (N ++ M)) : WithinR (N.map Tn.ts) (M.map Tn.ts) = (decide (plT (N ++ M) = plT N), 0) := by
  unfold WithinR
  rw [two_good h k g, one_good h (good_left g), if_neg (by simp)]
  simp only [beq_self_eq_true, Bool.and_true]
  rw [smEq_pl h.ok (app_ok h.ok k.ok) (good_left g) g]
theorem withinR_bad {N M : List Tn} (h : NOk N) (k : NOk M) (g : ¬ Good (N ++ M)) (gn : Good N) : WithinR (N.map Tn.ts) (M.map Tn.ts) = (false, 0) := by
  unfold WithinR
  rw [two_bad h k g, one_good h gn, if_neg (by decide)]
  simp
theorem withinR_none {N M : List Tn} (h : NOk N) (k : NOk M) (g : ¬ Good (N ++ M)) (gn : ¬ Good N) : WithinR (N.map Tn.ts) (M.map Tn.ts) = (true, 0) := by
  unfold WithinR
  rw [two_bad h k g, one_bad h gn, if_neg (by decide)]
  decide
theorem withinR_not {L K : List Ts} (h : (mayF L && mayF K) = false) : WithinR L K = (false, 2) := by
  unfold WithinR
  rw [togR_not (by simpa using h), if_pos rfl]
theorem sameR_not {L K : List Ts} (h : (mayF L && mayF K) = false) : SameR L K = (false, 2) := by
  unfold SameR
  rw [withinR_not h, withinR_not (L := K) (K := L) (by rw [Bool.and_comm]; exact h)]; rfl
theorem sameR_good {N M : List Tn} (h : NOk N) (k : NOk M) (g : Good (N ++ M)) : SameR (N.map Tn.ts) (M.map Tn.ts) = (decide (plT (N ++ M) = plT N) && decide (plT (N ++ M) = plT M), 0) := by
  unfold SameR
  rw [withinR_good h k g, withinR_good k h (good_swap.1 g), plT_swap M N]
theorem pass_sum {A B : List Tn} (ga : Good A) (gb : Good B) (h : plT A = plT B) (P : List Nat) : A.all (passN P) = B.all (passN P) := by
  have e := (plT_inj ga gb).1 h
  rw [Bool.eq_iff_iff, pass_iff ga, pass_iff gb, e, ← sum_size, e, sum_size]
/-- What a packet has to do with all this, where some packet passes both. -/
theorem ways_good {N M : List Tn} (h : NOk N) (k : NOk M) (g : Good (N ++ M)) (P : List Nat) :
    (plT (N ++ M) = plT N → matchL (N.map Tn.ts) P = true → matchL (M.map Tn.ts) P = true) ∧ (plT (N ++ M) = plT M → matchL (M.map Tn.ts) P = true → matchL (N.map Tn.ts) P = true) := by
  rw [matchL_nat h.ok h.l8, matchL_nat k.ok k.l8]
  constructor
  · intro e hm
    rw [Bool.and_eq_true] at hm
    have := hm.2
    rw [← pass_sum g (good_left g) e, List.all_append, Bool.and_eq_true] at this
    rw [hm.1, this.2]; rfl
  · intro e hm
    rw [Bool.and_eq_true] at hm
    have := hm.2
    rw [← pass_sum g (good_right g) e, List.all_append, Bool.and_eq_true] at this
    rw [hm.1, this.1]; rfl
theorem ways_bad {N M : List Tn} (h : NOk N) (k : NOk M) (g : ¬ Good (N ++ M)) (P : List Nat) : (matchL (N.map Tn.ts) P = true → matchL (M.map Tn.ts) P = false) ∧ (¬ Good N → matchL (N.map Tn.ts) P = false) ∧ (¬ Good M → matchL (M.map Tn.ts) P = false) := by
  refine ⟨fun hm => ?_, fun gn => match_bad h gn P, fun gm => match_bad k gm P⟩
  cases hm2 : matchL (M.map Tn.ts) P with
  | false => rfl
  | true =>
    rw [matchL_nat h.ok h.l8, Bool.and_eq_true] at hm
    rw [matchL_nat k.ok k.l8, Bool.and_eq_true] at hm2
    exact absurd (good_of_pass (P := P) (by rw [List.all_append, hm.2, hm2.2]; rfl)) g
end Go.Proofs.Yteibholghonajaa
