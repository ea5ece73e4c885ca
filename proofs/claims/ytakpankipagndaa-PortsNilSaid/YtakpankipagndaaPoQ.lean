/- The document's New; begin. -/
import Derived.Test.YtakpankipagndaaPoP
namespace Go.Proofs.Ytakpankipagndaa
open Go.RowKit (wrap64)
open Go.RowKit
open Go.Maps (Keyed)
attribute [local go_sem] Oper.semAt_some

/-- The document's ports, new: made since w0. -/
structure KnQ (w0 W : World) (r : Nat) (s : Ps) (R : Nat → Prop) (Y : LayQ) : Prop where
  qa : QAt W R r Y s
  lo : ∀ k, QAt.own Y s k ∨ R k → w0.heap.size ≤ k
def QnewOut (w : World) (s : Ps) (e : Ending) (w' : World) : Prop := ∃ r R Y, e = .returned (.tuple #[.pointer (some ⟨r, 0, none⟩), .int .i64 0]) ∧ KnQ w w' r s R Y ∧ Below w.heap.size w w'
def qN (qs : List Int) (i : Nat) : Nat := (qs.getD i 0).toNat
theorem qN_at {qs : List Int} {i : Nat} {x : Int} (h : qs[i]? = some x) : qN qs i = x.toNat := by
  unfold qN; rw [List.getD_eq_getElem?_getD, h]; rfl
theorem qn_done {w W : World} {qs : List Int} (hq : newQ qs = true) {n : Nat} (hn : qs.length = n) {v : Value} {b : Nat → Nat} (h : QnIs w.heap.size n (qN qs) v b W) (hb : Below w.heap.size w W) :
    ∃ R Y, KnQ w W w.heap.size (newPs qs) R Y := by
  have hok := newPs_ok hq
  have h1 : 1 ≤ n := by
    have := hok.q1
    unfold newPs at this
    rw [List.length_map, hn] at this
    exact this
  obtain ⟨A, c, rfl, h0, h2⟩ := own_form h.own
  cases A with
  | none => have := (h0 rfl).1; omega
  | some ad =>
    obtain ⟨g, rfl, hg1, hg2, -⟩ := h2 ad rfl
    have hlen : (newPs qs).q.length = n := by unfold newPs; rw [List.length_map, hn]
    have hat : ∀ (a x : Nat), (newPs qs).q[a]? = some x → a < n ∧ qN qs a = x := fun a x hx => by
      have hl := (List.getElem?_eq_some_iff.1 hx).1
      rw [hlen] at hl
      unfold newPs at hx
      rw [List.getElem?_map] at hx
      obtain ⟨y, hy, rfl⟩ := Option.map_eq_some_iff.1 hx
      exact ⟨hl, qN_at hy⟩
    refine ⟨fun k => k = w.heap.size ∨ k = g, ⟨g, c, b⟩, ⟨hok, by rw [hlen]; exact h.rb, fun a x hx => ?_, fun a x hx => ?_, fun a x m hx hm => ?_, fun a a' x x' hx hx' e => ?_, .inl rfl, .inr rfl, fun k hk => ?_, fun a x hx hR => ?_⟩, fun k hk => ?_⟩
    · obtain ⟨hl, rfl⟩ := hat a x hx
      have := h.own.cells (g := g) rfl a (rowQ (b a) (qN qs a)) (by unfold rowsQ; rw [List.getElem?_map, List.getElem?_range hl]; rfl)
      rwa [add_plain, Nat.zero_add] at this
    · obtain ⟨hl, rfl⟩ := hat a x hx
      exact ⟨_, (h.row a hl).2.2.2, made_size _ _⟩
    · obtain ⟨hl, rfl⟩ := hat a x hx
      exact made_range (h.row a hl).2.2.2 hm
    · exact h.apart a a' (hat a x hx).1 (hat a' x' hx').1 e
    · rcases hk with rfl | rfl
      · exact (Array.getElem?_eq_some_iff.1 h.rb).1
      · exact hg2
    · obtain ⟨hl, -⟩ := hat a x hx
      obtain ⟨r1, r2, r3, -⟩ := h.row a hl
      rcases hR with e | e
      · have e : b a = w.heap.size := e
        omega
      · exact r3 (by rw [show b a = g from e]; rfl)
    · rcases hk with ⟨a, x, hx, rfl⟩ | rfl | rfl
      · obtain ⟨hl, -⟩ := hat a x hx
        have := (h.row a hl).1
        simp only
        omega
      · exact Nat.le_refl _
      · omega
set_option maxHeartbeats 4000000 in
set_option maxRecDepth 100000 in
theorem qnew_yes12 {w : World} {A : Option Addr} {qs : List Int} (h : IntsAt w A qs) (c : Nat) (hq : newQ qs = true) :
    Calls Try.prog 29 #[.slice A qs.length c] w (QnewOut w (newPs qs)) := by
  have H := Lib.hid h
  obtain ⟨n, hnn⟩ : ∃ n, qs.length = n := ⟨_, rfl⟩
  have HN := Lib.hid hnn
  have HQ := Lib.hid hq
  have hq' := hq
  unfold newQ at hq'
  simp only [Bool.and_eq_true, decide_eq_true_eq] at hq'
  rw [hnn] at hq' ⊢
  obtain ⟨⟨hn1, hn8⟩, hfit⟩ := hq'
  have HF := Lib.hid ((fitQ_iff qs 16).1 hfit)
  obtain ⟨i0, hi, hz0, hz1, hz2⟩ := info_parts Try.infoQL
  have hz2 : i0.bytes = 24 := hz2
  have h1 : ¬ (n : Int) = 0 := by omega
  have h8 : ¬ (8 : Int) < n := by omega
  clear h hnn hq hfit
  go_enter Try.func29, Try.ntmps29
  go_wp2_with fail
  go_loopw [5, 6] (fun l i W => ∃ k : Nat, k ≤ n ∧ i = .int .i64 (k : Int) ∧ l = .int .i64 (leftQ qs k) ∧ 0 ≤ leftQ qs k ∧ leftQ qs k ≤ 16 ∧ (∃ v b, QnIs w.heap.size k (qN qs) v b W) ∧ Below w.heap.size w W) (fun _ i _ => n - (intOf i).toNat)
  case atStart =>
    refine ⟨0, Nat.zero_le _, rfl, by rw [leftQ_zero], by rw [leftQ_zero]; decide, by rw [leftQ_zero]; decide, ⟨.slice none 0 0, fun i => i, heap_alloc_new w _, World.ownsRow_nil _ _ _ _, fun i hi => absurd hi (by omega), fun i j hi => absurd hi (by omega)⟩, (Below.refl _ w).alloc (Nat.le_refl _) _⟩
  case round =>
    obtain ⟨k, hk, rfl, rfl, hl0, hl16, ⟨v, b, hqn⟩, hb⟩ := hrel
    have HQN := Lib.hid hqn
    have HB := Lib.hid hb
    obtain ⟨va, vn, vc, rfl⟩ : ∃ a n c, v = .slice a n c := by
      obtain ⟨A', c', rfl, -⟩ := own_form hqn.own
      exact ⟨_, _, _, rfl⟩
    have hr := hqn.rb
    have ho := hqn.own
    have hrl := (Array.getElem?_eq_some_iff.1 hr).1
    have c0 : wr.cell? ⟨w.heap.size, 0, none⟩ = some (.slice va vn vc) := cell_of_row _ _ 0 _ _ _ hr
    have f0 : ∀ j, wr.frozen? ⟨w.heap.size, j, none⟩ = false := fun j => frozen_of_row _ _ _ _ _ hr
    have HO := Lib.hid ho
    clear hqn hb hr ho
    by_cases hlt : k < n
    · have hlt' : (k : Int) < n := by omega
      obtain ⟨x, hx⟩ : ∃ x, qs[k]? = some x := ⟨_, List.getElem?_eq_getElem (by rw [HN.out]; exact hlt)⟩
      obtain ⟨b1, o1, rfl, hb1, hc⟩ := (IntsAt.below H.out HB.out) k x hx
      obtain ⟨f1, f2⟩ := HF.out k x hx
      have f2 : x ≤ leftQ qs k := f2
      have HS := Lib.hid (leftQ_succ hx)
      obtain ⟨m, rfl⟩ : ∃ m : Nat, x = m := ⟨x.toNat, by omega⟩
      have HM := Lib.hid (show qN qs k = m by rw [qN_at hx]; omega)
      generalize leftQ qs k = lq at *
      have hx0 : ¬ (m : Int) < 0 := by omega
      have hxl : ¬ lq < (m : Int) := by omega
      have hw : IntKind.i64.wrap (lq - (m : Int)) = lq - (m : Int) := IntWalk.i64_in _ (by omega)
      have hmk := fun w => run_makeQ m (by omega) w
      unfold rowQ at hmk
      clear hx hb1
      go_wp2_with fail
      go_region_law (refine step_append_own rfl _ _ 99 rfl (w.heap.size + 1) 102 i0 (.slice none 0 0) 1 24 Try.underlying99 hi hz0 hz1 hz2 rfl (by decide) _ k (rowsQ b (qN qs) k) rfl ((HO.out.alloc (.cells (madeCells zeroQ (m * 4)) 87)).alloc (.cells #[rowQ wr.heap.size m] 102)) ⟨wr.heap.size + 1, 0, none⟩ 1 1 [rowQ wr.heap.size m] rfl rfl (cell_one_two12 wr _ _ _) (by simp [Value.oneCell', rowQ]) (by unfold maxLen; omega) (by omega) (by simp; have := HB.out.size; omega) ?_; intro v' w3 hown' hg3; obtain ⟨va', vc', hva', -⟩ := own_form hown'; subst hva'; rw [← HM.out] at hown' hg3; obtain ⟨hB3, hQ3⟩ := qn_round HQN.out HB.out hown' hg3; have HB3 := Lib.hid hB3; have HQ3 := Lib.hid hQ3; have hw3 := qn_mid HQN.out hg3; have c3 := cell_of_row _ _ 0 _ _ _ hw3; have f3 := fun o => frozen_of_row _ _ o _ _ hw3; clear hB3 hQ3 hg3 hown' hw3)
      all_goals go_wp2_with fail
      all_goals go_roundw
      all_goals first
        | exact ⟨k + 1, hlt, by go_num, by rw [HS.out], by rw [HS.out]; omega, by rw [HS.out]; omega, ⟨_, HQ3.out⟩, HB3.out⟩
        | (simp [intOf]; omega)
    · have hlt' : ¬ (k : Int) < n := by omega
      obtain rfl : k = n := by omega
      go_wp2_with fail
      go_ret2
      obtain ⟨R, Y, hkq⟩ := qn_done HQ.out HN.out HQN.out HB.out
      exact ⟨w.heap.size, R, Y, rfl, hkq, HB.out⟩
end Go.Proofs.Ytakpankipagndaa
