/- Both, Plain, Home, Apart, Never, Within, Same and Least of the project. -/
import Derived.Test.YteibholghonajaaFiK
import Derived.Great.Walk
import Derived.Deep.WholeRow
namespace Go.Proofs.Yteibholghonajaa
open Go.RowKit

theorem sum_ok {N : List Tn} (h : ∀ n ∈ N, n.Ok) : SmOk (sumN N) := ⟨by rw [sum_size]; exact long_bound h, sum_M256 h, sum_V256 h⟩
theorem togR_ok (Ls : List (List Ts)) : SmOk (TogR Ls).2 := by
  unfold TogR
  split
  · rename_i ha
    have hok := (nats_of (any_flat ha)).2
    by_cases hg : Good (Ls.flatten.map Ts.n)
    · rw [tog_good hok hg]; exact sum_ok hok
    · rw [tog_bad hok hg]; exact sm0_ok
  · exact sm0_ok
theorem togR_code (Ls : List (List Ts)) : (TogR Ls).1 = 0 ∨ (TogR Ls).1 = 2 ∨ (TogR Ls).1 = 210 := by
  unfold TogR
  split
  · split
    · exact .inr (.inr rfl)
    · exact .inl rfl
  · exact .inr (.inl rfl)
theorem wpList_box_sm {ops : Array Oper} {rest : List Oper} {o1 o2 : Oper} {a : Act} {w : World} {Q : Exit → Act → World → Prop} (hg1 : o1.guard = none) (ho1 : o1.op = .alloc 57) (d : Nat) (hd1 : o1.dst = some d)
    (hg2 : o2.guard = none) (y : Operand) (ho2 : o2.op = .store 57 (.tmp d) y) (hd2 : o2.dst = none) (s : Sm) (hp : (a.put (some d) (.pointer (some ⟨w.heap.size, 0, none⟩))).eval (.tmp d) = .pointer (some ⟨w.heap.size, 0, none⟩)) (hy : (a.put (some d) (.pointer (some ⟨w.heap.size, 0, none⟩))).eval y = .agg (smA s))
    (h : wpList Try.prog ops Q rest (a.put (some d) (.pointer (some ⟨w.heap.size, 0, none⟩))) (w.alloc (.cells (smA s) 57))) : wpList Try.prog ops Q (o1 :: o2 :: rest) a w := by
  have hrun : (execOp a.eval o1).run Try.prog w = .ok (.value (.pointer (some ⟨w.heap.size, 0, none⟩))) (w.alloc (.cells (smA sm0) 57)) := by
    unfold execOp
    simp only [ho1, Sem.run_bind]
    have := Try.zSum w
    generalize smA sm0 = A at this ⊢
    simp [this, newVar, newRow, go_sem]
  refine Go.Great.wpList_allocTo hg1 (some d) hd1 _ _ hrun ?_
  refine wpList_store_sm hg2 (.tmp d) y ho2 hd2 w.heap.size s sm0 hp hy (SmAt.new w sm0) ?_
  rw [World.setRow_alloc_new]
  exact h
def BothR (L K : List Ts) : Int × List Ts := if (TogR [L, K]).1 = 0 then (if (testsS (TogR [L, K]).2).length ≤ 8 then (0, (testsS (TogR [L, K]).2).map Tn.ts) else (3, [])) else ((TogR [L, K]).1, [])
def BothOut (r : Int × List Ts) (w : World) (e : Ending) (w' : World) : Prop := ∃ v, e = .returned (.tuple #[v, .int .i64 r.1]) ∧ w'.ownsRow w.heap.size 52 3 v r.2.length (rowT r.2) ∧ Below w.heap.size w w'
section
variable {w : World} {A B : Option Addr} {n c m d : Nat} {L K : List Ts}
theorem fs_two (h : FlIn w A n c L) (k : FlIn w B m d K) : FsIn (w.alloc (.cells #[.slice A n c, .slice B m d] 22)) w.heap.size [⟨A, n, c, L⟩, ⟨B, m, d, K⟩] := by
  refine ⟨heap_alloc_new w _, fun x hx => ?_⟩
  have hb := (Below.refl w.heap.size w).alloc (Nat.le_refl _) (.cells #[.slice A n c, .slice B m d] 22)
  simp only [List.mem_cons, List.not_mem_nil, or_false] at hx
  rcases hx with rfl | rfl
  · exact h.below hb
  · exact k.below hb
theorem fs_one (h : FlIn w A n c L) : FsIn (w.alloc (.cells #[.slice A n c] 22)) w.heap.size [⟨A, n, c, L⟩] := by
  refine ⟨heap_alloc_new w _, fun x hx => ?_⟩
  simp only [List.mem_cons, List.not_mem_nil, or_false] at hx
  subst hx
  exact h.below ((Below.refl w.heap.size w).alloc (Nat.le_refl _) _)
theorem tog_two (h : FlIn w A n c L) (k : FlIn w B m d K) (h63 : (n : Int) ≤ 9223372036854775807) (k63 : (m : Int) ≤ 9223372036854775807) :
    Calls Try.prog 29 #[.slice (some ⟨w.heap.size, 0, none⟩) 2 2] (w.alloc (.cells #[.slice A n c, .slice B m d] 22)) (fun e w' => e = .returned (.tuple #[.agg (smA (TogR [L, K]).2), .int .i64 (TogR [L, K]).1]) ∧ Below w.heap.size w w') := by
  refine (together_any (fs_two h k) 2 rfl (by omega) (fun x hx => ?_)).mono ?_
  · simp only [List.mem_cons, List.not_mem_nil, or_false] at hx
    rcases hx with rfl | rfl
    · exact h63
    · exact k63
  · rintro e w' ⟨he, hb⟩
    have hb1 := (Below.refl w.heap.size w).alloc (Nat.le_refl _) (.cells #[.slice A n c, .slice B m d] 22)
    exact ⟨he, hb1.trans (hb.mono hb1.size)⟩
theorem tog_one (h : FlIn w A n c L) (h63 : (n : Int) ≤ 9223372036854775807) :
    Calls Try.prog 29 #[.slice (some ⟨w.heap.size, 0, none⟩) 1 1] (w.alloc (.cells #[.slice A n c] 22)) (fun e w' => e = .returned (.tuple #[.agg (smA (TogR [L]).2), .int .i64 (TogR [L]).1]) ∧ Below w.heap.size w w') := by
  refine (together_any (fs_one h) 1 rfl (by omega) (fun x hx => ?_)).mono ?_
  · simp only [List.mem_cons, List.not_mem_nil, or_false] at hx
    subst hx; exact h63
  · rintro e w' ⟨he, hb⟩
    have hb1 := (Below.refl w.heap.size w).alloc (Nat.le_refl _) (.cells #[.slice A n c] 22)
    exact ⟨he, hb1.trans (hb.mono hb1.size)⟩
set_option maxHeartbeats 2000000 in
set_option maxRecDepth 100000 in
theorem both_any (h : FlIn w A n c L) (k : FlIn w B m d K) (h63 : (n : Int) ≤ 9223372036854775807) (k63 : (m : Int) ≤ 9223372036854775807) :
    Calls Try.prog 19 #[.slice A n c, .slice B m d] w (BothOut (BothR L K) w) := by
  have HT := Lib.hid (tog_two h k h63 k63)
  have hok := togR_ok [L, K]
  unfold BothR
  generalize TogR [L, K] = r at HT hok ⊢
  obtain ⟨code, s⟩ := r
  simp only at HT hok ⊢
  have HOK := Lib.hid hok
  clear h k hok
  by_cases hc : code = 0
  · subst hc
    rw [if_pos rfl]
    have hlen : (testsS s).length ≤ 64 := by
      have h1 := testsTo_len s s.size
      rw [testsTo_all] at h1
      exact Nat.le_trans h1 HOK.out.n
    obtain ⟨q, hq⟩ : ∃ q, (testsS s).length = q := ⟨_, rfl⟩
    have HQ := Lib.hid hq
    rw [hq] at hlen ⊢
    clear hq
    by_cases h8 : q ≤ 8
    · rw [if_pos h8]
      have h8' : ¬ (8 : Int) < (q : Int) := by omega
      go_enter Try.func19, Try.ntmps19
      go_wp2_with (first
        | (go_at_call 29; refine HT.out.mono ?_; rintro e w1 ⟨rfl, hb1⟩; have HB1 := Lib.hid hb1; have NEW := Lib.hid (SmAt.new w1 s); have BN := Lib.hid ((Below.refl _ w1).alloc (Nat.le_refl _) (Obj.cells (smA s) 57)); clear hb1)
        | (refine wpList_box_sm rfl rfl 6 rfl rfl _ rfl rfl s rfl rfl ?_)
        | (go_at_call 34; refine (tests_any NEW.out HOK.out).mono ?_; rintro e w3 ⟨v3, rfl, ho3, hb3⟩; rw [List.length_map, HQ.out] at ho3; have HO3 := Lib.hid ho3; obtain ⟨A3, c3, rfl, -, -⟩ := own_form ho3; have HB3 := Lib.hid (HB1.out.trans ((BN.out.trans (hb3.mono BN.out.size)).mono HB1.out.size)); clear ho3 hb3))
      go_ret2
      refine ⟨_, rfl, ?_, HB3.out⟩
      have ho := own_base HO3.out (show w.heap.size ≤ _ from Nat.le_trans HB1.out.size BN.out.size)
      show w3.ownsRow w.heap.size 52 3 _ ((testsS s).map Tn.ts).length (rowT ((testsS s).map Tn.ts))
      rw [List.length_map, HQ.out]
      exact ho
    · rw [if_neg h8]
      have h8' : (8 : Int) < (q : Int) := by omega
      go_enter Try.func19, Try.ntmps19
      go_wp2_with (first
        | (go_at_call 29; refine HT.out.mono ?_; rintro e w1 ⟨rfl, hb1⟩; have HB1 := Lib.hid hb1; have NEW := Lib.hid (SmAt.new w1 s); have BN := Lib.hid ((Below.refl _ w1).alloc (Nat.le_refl _) (Obj.cells (smA s) 57)); clear hb1)
        | (refine wpList_box_sm rfl rfl 6 rfl rfl _ rfl rfl s rfl rfl ?_)
        | (go_at_call 34; refine (tests_any NEW.out HOK.out).mono ?_; rintro e w3 ⟨v3, rfl, ho3, hb3⟩; rw [List.length_map, HQ.out] at ho3; have HO3 := Lib.hid ho3; obtain ⟨A3, c3, rfl, -, -⟩ := own_form ho3; have HB3 := Lib.hid (HB1.out.trans ((BN.out.trans (hb3.mono BN.out.size)).mono HB1.out.size)); clear ho3 hb3))
      go_ret2
      exact ⟨_, rfl, World.ownsRow_nil _ _ _ _, HB3.out⟩
  · rw [if_neg hc]
    have hc1 : (code != 0) = true := by rw [bne_iff_ne]; exact hc
    clear hc
    go_enter Try.func19, Try.ntmps19
    go_wp2_with (first
      | (go_at_call 29; refine HT.out.mono ?_; rintro e w1 ⟨rfl, hb1⟩; have HB1 := Lib.hid hb1; have NEW := Lib.hid (SmAt.new w1 s); have BN := Lib.hid ((Below.refl _ w1).alloc (Nat.le_refl _) (Obj.cells (smA s) 57)); clear hb1)
      | (refine wpList_box_sm rfl rfl 6 rfl rfl _ rfl rfl s rfl rfl ?_))
    all_goals
      go_ret2
      exact ⟨_, rfl, World.ownsRow_nil _ _ _ _, HB1.out.trans (BN.out.mono HB1.out.size)⟩
/-- What Apart answers. -/
def ApartR (L K : List Ts) : Bool × Int := if (TogR [L, K]).1 = 2 then (false, 2) else ((TogR [L, K]).1 == 210, 0)
def BEOut (r : Bool × Int) (w : World) (e : Ending) (w' : World) : Prop := e = .returned (.tuple #[.bool r.1, .int .i64 r.2]) ∧ Below w.heap.size w w'
set_option maxHeartbeats 2000000 in
set_option maxRecDepth 100000 in
theorem apart_any (h : FlIn w A n c L) (k : FlIn w B m d K) (h63 : (n : Int) ≤ 9223372036854775807) (k63 : (m : Int) ≤ 9223372036854775807) :
    Calls Try.prog 20 #[.slice A n c, .slice B m d] w (BEOut (ApartR L K) w) := by
  have HT := Lib.hid (tog_two h k h63 k63)
  have hcd := togR_code [L, K]
  unfold ApartR
  generalize TogR [L, K] = r at HT hcd ⊢
  obtain ⟨code, s⟩ := r
  simp only at HT hcd ⊢
  clear h k
  rcases hcd with rfl | rfl | rfl
  all_goals
    go_enter Try.func20, Try.ntmps20
    go_wp2_with (first
      | (go_at_call 29; refine HT.out.mono ?_; rintro e w1 ⟨rfl, hb1⟩; have HB1 := Lib.hid hb1; have NEW := Lib.hid (SmAt.new w1 s); have BN := Lib.hid ((Below.refl _ w1).alloc (Nat.le_refl _) (Obj.cells (smA s) 57)); clear hb1)
      | (refine wpList_box_sm rfl rfl 6 rfl rfl _ rfl rfl s rfl rfl ?_))
    go_ret2
    exact ⟨rfl, HB1.out.trans (BN.out.mono HB1.out.size)⟩
end
end Go.Proofs.Yteibholghonajaa
