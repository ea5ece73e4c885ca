/- New. -/
import Derived.Test.YtakpankipagndaaPoJ
namespace Go.Proofs.Ytakpankipagndaa
open Go.RowKit (wrap64)
open Go.RowKit
open Go.Maps (Keyed)
attribute [local go_sem] Oper.semAt_some

/-- Ints that came in. -/
def IntsAt (w : World) (A : Option Addr) (qs : List Int) : Prop := ∀ (i : Nat) (x : Int), qs[i]? = some x → ∃ b o, A = some ⟨b, o, none⟩ ∧ b < w.heap.size ∧ w.cell? ⟨b, o + i, none⟩ = some (.int .i64 x)
theorem IntsAt.below {w w' : World} {A : Option Addr} {qs : List Int} (h : IntsAt w A qs) (hb : Below w.heap.size w w') : IntsAt w' A qs := fun i x hx => by
  obtain ⟨b, o, e, l, c⟩ := h i x hx
  exact ⟨b, o, e, Nat.lt_of_lt_of_le l hb.size, (hb.cell (p := ⟨b, _, none⟩) l).trans c⟩
theorem ints_row12 {w : World} {g : Nat} {qs : List Int} (h : w.heap[g]? = some (.cells (qs.map (Value.int .i64)).toArray 3 (0, 0))) : IntsAt w (some ⟨g, 0, none⟩) qs := fun i x hx => by
  refine ⟨g, 0, rfl, (Array.getElem?_eq_some_iff.1 h).1, ?_⟩
  rw [cell_of_row _ _ _ _ _ _ h, Nat.zero_add, List.getElem?_toArray, List.getElem?_map, hx]
  rfl
theorem ints_nil12 (w : World) (A : Option Addr) : IntsAt w A [] := fun i x h => by simp at h
/-- May these be quotas, where so many ports are left? -/
def fitQ : Int → List Int → Bool
  | _, [] => true
  | left, x :: l => decide (0 ≤ x) && decide (x ≤ left) && fitQ (left - x) l
def newQ (qs : List Int) : Bool := decide (1 ≤ qs.length) && decide (qs.length ≤ 8) && fitQ 16 qs
def newPs (qs : List Int) : Ps := ⟨qs.map Int.toNat, fun _ _ => none, 0⟩
theorem fitQ_le : ∀ (qs : List Int) (left : Int), fitQ left qs = true → ∀ x ∈ qs, 0 ≤ x ∧ x ≤ left
  | [], _, _, _, h => by simp at h
  | y :: l, left, h, x, hx => by
    unfold fitQ at h
    simp only [Bool.and_eq_true, decide_eq_true_eq] at h
    rcases List.mem_cons.1 hx with rfl | hx
    · omega
    · have := fitQ_le l (left - y) h.2 x hx
      omega
theorem newPs_ok {qs : List Int} (h : newQ qs = true) : PsOk (newPs qs) := by
  unfold newQ at h
  simp only [Bool.and_eq_true, decide_eq_true_eq] at h
  refine ⟨by unfold newPs; simp; omega, by unfold newPs; simp; omega, fun x hx => ?_, (fun a n X hX => by cases hX), (fun a n X hX => by cases hX)⟩
  obtain ⟨y, hy, rfl⟩ := List.mem_map.1 hx
  have := fitQ_le qs 16 h.2 y hy
  omega
/-- What is left behind the first ones. -/
def leftQ (qs : List Int) (k : Nat) : Int := 16 - (qs.take k).sum
theorem leftQ_zero (qs : List Int) : leftQ qs 0 = 16 := by unfold leftQ; simp
theorem leftQ_succ {qs : List Int} {k : Nat} {x : Int} (h : qs[k]? = some x) : leftQ qs (k + 1) = leftQ qs k - x := by
  unfold leftQ
  rw [List.take_add_one, h, List.sum_append]
  simp
  omega
theorem fitQ_iff : ∀ (qs : List Int) (left : Int), fitQ left qs = true ↔ ∀ k x, qs[k]? = some x → 0 ≤ x ∧ x ≤ left - (qs.take k).sum
  | [], left => by simp [fitQ]
  | y :: l, left => by
    unfold fitQ
    rw [Bool.and_eq_true, Bool.and_eq_true, decide_eq_true_eq, decide_eq_true_eq, fitQ_iff l (left - y)]
    constructor
    · rintro ⟨⟨h1, h2⟩, h3⟩ k x hk
      cases k with
      | zero => simp at hk; subst hk; simp; omega
      | succ k =>
        have := h3 k x (by simpa using hk)
        rw [List.take_succ_cons, List.sum_cons]
        omega
    · intro h
      have h0 := h 0 y rfl
      simp at h0
      refine ⟨h0, fun k x hk => ?_⟩
      have := h (k + 1) x (by simpa using hk)
      rw [List.take_succ_cons, List.sum_cons] at this
      omega
def ClintsOut (w : World) (qs : List Int) (e : Ending) (w' : World) : Prop := ∃ g c, e = .returned (.slice (some ⟨g, 0, none⟩) qs.length c) ∧ w.heap.size ≤ g ∧ g < w'.heap.size ∧ (∀ (i : Nat) (x : Int), qs[i]? = some x → w'.cell? ⟨g, i, none⟩ = some (.int .i64 x)) ∧ Below w.heap.size w w'
set_option maxHeartbeats 1000000 in
set_option maxRecDepth 100000 in
theorem clints_any12 {w : World} {A : Option Addr} {qs : List Int} (h : IntsAt w A qs) (h1 : 1 ≤ qs.length) (hn : qs.length ≤ 1000) (c : Nat) :
    Calls Try.prog 57 #[.slice A qs.length c] w (ClintsOut w qs) := by
  obtain ⟨i0, hi, hz0, hz1, hz2⟩ := info_parts Try.inInt12
  have q22 : ∀ (w : World) (a : Option Addr) (n c n' c' : Nat), (binOp .eql 22 (.slice a n c) (.slice none n' c')).run Try.prog w = .ok (.bool a.isNone) w := fun w a n c n' c' => Lib.run_eql_slice_nil w _ _ a n c n' c' Try.underlying22
  obtain ⟨b, o, rfl, -, -⟩ := h 0 qs[0] (List.getElem?_eq_getElem (by omega))
  have H := Lib.hid h
  have H1 := Lib.hid h1
  clear h h1
  obtain ⟨n, hnn⟩ : ∃ n, qs.length = n := ⟨_, rfl⟩
  have HN := Lib.hid hnn
  rw [hnn] at hn ⊢
  clear hnn
  go_enter Try.func57, Try.ntmps57
  go_wp2_with (at_builtin; refine wpList_append_own _ rfl _ _ 22 rfl w.heap.size 3 i0 (.int .i64 0) 1 8 Try.underlying22 hi hz0 hz1 hz2 rfl (by decide) _ _ _ rfl (World.ownsRow_made w #[] 0 (Nat.le_refl _) (Nat.zero_le _) rfl) ⟨b, o, none⟩ n c (qs.map (Value.int .i64)) rfl ?qc1 ?qc2 ?qc3 ?qc4 ?qc5 ?qc6 ?_)
  case qc1 => rw [List.length_map, HN.out, Nat.mul_one]
  case qc2 =>
    intro j u hj
    rw [add_plain]
    rw [List.getElem?_map] at hj
    obtain ⟨x, hx, rfl⟩ := Option.map_eq_some_iff.1 hj
    obtain ⟨b', o', e, -, hc⟩ := H.out j x hx
    cases e
    exact Lib.cell?_alloc_some _ hc
  case qc3 =>
    intro v hv
    obtain ⟨x, -, rfl⟩ := List.mem_map.1 hv
    rfl
  case qc4 => unfold maxLen; omega
  case qc5 => omega
  case qc6 => simp
  intro v' w1 hown hgrow hnil
  have hown : w1.ownsRow w.heap.size 3 1 v' n (qs.map (Value.int .i64)) := by simpa using hown
  obtain ⟨A, cc, rfl, h0, h2⟩ := own_form hown
  cases A with
  | none =>
    exfalso
    have := (h0 rfl).1; have := H1.out; have := HN.out; omega
  | some ad =>
    obtain ⟨g, rfl, hg1, hg2, -⟩ := h2 ad rfl
    have HC := Lib.hid (show ∀ (i : Nat) (x : Int), qs[i]? = some x → w1.cell? ⟨g, i, none⟩ = some (.int .i64 x) from fun i x hx => by
      have := hown.cells (g := g) rfl i (.int .i64 x) (by rw [List.getElem?_map, hx]; rfl)
      rwa [add_plain, Nat.zero_add] at this)
    have HB := Lib.hid (((Below.refl _ w).alloc (Nat.le_refl _) (.cells #[] 3)).grown hgrow (by simp) (by intro k hk; simp [Value.ownBlock] at hk; omega))
    clear hown hgrow hnil h0 h2
    go_wp2
    go_ret
    exact ⟨g, cc, (by rw [HN.out]; rfl), hg1, hg2, HC.out, HB.out⟩
set_option maxHeartbeats 2000000 in
set_option maxRecDepth 100000 in
theorem new_no12 {w : World} {A : Option Addr} {qs : List Int} (h : IntsAt w A qs) (c : Nat) (hq : newQ qs = false) (hn : (qs.length : Int) ≤ 9223372036854775807) :
    Calls Try.prog 24 #[.slice A qs.length c] w fun e w' => e = .returned (.tuple #[.pointer none, .int .i64 2]) ∧ w = w' := by
  have H := Lib.hid h
  obtain ⟨n, hnn⟩ : ∃ n, qs.length = n := ⟨_, rfl⟩
  have HN := Lib.hid hnn
  rw [hnn] at hn ⊢
  have HQ := Lib.hid hq
  clear h hnn hq
  by_cases h1 : (n : Int) < 1
  · go_enter Try.func24, Try.ntmps24
    go_wp2
    go_ret2
    exact ⟨rfl, rfl⟩
  by_cases h8 : (8 : Int) < n
  · go_enter Try.func24, Try.ntmps24
    go_wp2
    go_ret2
    exact ⟨rfl, rfl⟩
  · go_enter Try.func24, Try.ntmps24
    go_wp2_with fail
    go_loop [4, 17] (fun l i => ∃ k : Nat, k ≤ n ∧ i = .int .i64 (k : Int) ∧ l = .int .i64 (leftQ qs k) ∧ (∀ j, j < k → ∀ x, qs[j]? = some x → 0 ≤ x ∧ x ≤ leftQ qs j) ∧ 0 ≤ leftQ qs k ∧ leftQ qs k ≤ 16) (fun _ i => n - (intOf i).toNat)
    case atStart => exact ⟨0, Nat.zero_le _, rfl, by rw [leftQ_zero], fun j hj => by omega, by rw [leftQ_zero]; decide, by rw [leftQ_zero]; decide⟩
    case round =>
      obtain ⟨k, hk, rfl, rfl, hj, hl0, hl16⟩ := hrel
      have HJ := Lib.hid hj
      clear hj
      by_cases hlt : k < n
      · have hlt' : (k : Int) < n := by omega
        obtain ⟨x, hx⟩ : ∃ x, qs[k]? = some x := ⟨_, List.getElem?_eq_getElem (by rw [HN.out]; exact hlt)⟩
        obtain ⟨b, o, rfl, hb, hc⟩ := H.out k x hx
        have HX := Lib.hid hx
        have HS := Lib.hid (leftQ_succ hx)
        generalize hL : leftQ qs k = lq at *
        have HL := Lib.hid hL
        clear hL hx
        by_cases hx0 : x < 0
        · go_wp2_with fail
          go_ret2
          exact ⟨rfl, rfl⟩
        by_cases hxl : lq < x
        · go_wp2_with fail
          go_ret2
          exact ⟨rfl, rfl⟩
        · have hw : IntKind.i64.wrap (lq - x) = lq - x := IntWalk.i64_in _ (by omega)
          go_wp2_with fail
          go_round
          case rel =>
            refine ⟨k + 1, hlt, by go_num, by rw [HS.out], fun j hj y hy => ?_, by rw [HS.out]; omega, by rw [HS.out]; omega⟩
            rcases Nat.lt_succ_iff_lt_or_eq.1 hj with hj | rfl
            · exact HJ.out j hj y hy
            · rw [HX.out] at hy
              cases hy
              rw [HL.out]
              omega
          case measure => simp [intOf]; omega
      · exfalso
        have hkn : k = n := by omega
        subst hkn
        have : newQ qs = true := by
          unfold newQ
          simp only [Bool.and_eq_true, decide_eq_true_eq]
          refine ⟨⟨by rw [HN.out]; omega, by rw [HN.out]; omega⟩, (fitQ_iff qs 16).2 fun j x hj => ?_⟩
          exact HJ.out j (by rw [← HN.out]; exact (List.getElem?_eq_some_iff.1 hj).1) x hj
        rw [HQ.out] at this
        cases this
/-- Ports that are new. -/
def NewOut12 (w : World) (s : Ps) (e : Ending) (w' : World) : Prop := ∃ p O R L, e = .returned (.tuple #[.pointer (some ⟨p, 0, none⟩), .int .i64 0]) ∧ PoAt w' O R p L s ∧ (∀ k, O k ∨ R k → w.heap.size ≤ k) ∧ Below w.heap.size w w'
set_option maxHeartbeats 2000000 in
set_option maxRecDepth 100000 in
theorem new_yes12 {w : World} {A : Option Addr} {qs : List Int} (h : IntsAt w A qs) (c : Nat) (hq : newQ qs = true) :
    Calls Try.prog 24 #[.slice A qs.length c] w (NewOut12 w (newPs qs)) := by
  have hmm := @run_makeMap Try.prog
  have H := Lib.hid h
  obtain ⟨n, hnn⟩ : ∃ n, qs.length = n := ⟨_, rfl⟩
  have HN := Lib.hid hnn
  have HQ := Lib.hid hq
  have hq' := hq
  unfold newQ at hq'
  simp only [Bool.and_eq_true, decide_eq_true_eq] at hq'
  rw [hnn] at hq' ⊢
  obtain ⟨⟨hn1, hn8⟩, hfit⟩ := hq'
  have HF := Lib.hid ((fitQ_iff qs 16).1 hfit)
  have HCL := Lib.hid (clints_any12 h (by omega) (by omega) c)
  rw [hnn] at HCL
  have h1 : ¬ (n : Int) < 1 := by omega
  have h8 : ¬ (8 : Int) < n := by omega
  clear h hnn hq hfit
  go_enter Try.func24, Try.ntmps24
  go_wp2_with fail
  go_loop [4, 17] (fun l i => ∃ k : Nat, k ≤ n ∧ i = .int .i64 (k : Int) ∧ l = .int .i64 (leftQ qs k) ∧ 0 ≤ leftQ qs k ∧ leftQ qs k ≤ 16) (fun _ i => n - (intOf i).toNat)
  case atStart => exact ⟨0, Nat.zero_le _, rfl, by rw [leftQ_zero], by rw [leftQ_zero]; decide, by rw [leftQ_zero]; decide⟩
  case round =>
    obtain ⟨k, hk, rfl, rfl, hl0, hl16⟩ := hrel
    by_cases hlt : k < n
    · have hlt' : (k : Int) < n := by omega
      obtain ⟨x, hx⟩ : ∃ x, qs[k]? = some x := ⟨_, List.getElem?_eq_getElem (by rw [HN.out]; exact hlt)⟩
      obtain ⟨b, o, rfl, hb, hc⟩ := H.out k x hx
      obtain ⟨f1, f2⟩ := HF.out k x hx
      have f2 : x ≤ leftQ qs k := f2
      have HS := Lib.hid (leftQ_succ hx)
      generalize leftQ qs k = lq at *
      have hx0 : ¬ x < 0 := by omega
      have hxl : ¬ lq < x := by omega
      have hw : IntKind.i64.wrap (lq - x) = lq - x := IntWalk.i64_in _ (by omega)
      clear hx
      go_wp2_with fail
      go_round
      case rel => exact ⟨k + 1, hlt, by go_num, by rw [HS.out], by rw [HS.out]; omega, by rw [HS.out]; omega⟩
      case measure => simp [intOf]; omega
    · have hlt' : ¬ (k : Int) < n := by omega
      go_wp2_with (go_at_call 57; refine HCL.out.mono ?_; rintro e w1 ⟨g, cc, rfl, hg1, hg2, hcs, hb⟩; rw [HN.out]; have HG := Lib.hid (And.intro hg1 hg2); have HCS := Lib.hid hcs; have HB := Lib.hid hb; clear hg1 hg2 hcs hb)
      go_ret2
      have hb2 : Below w1.heap.size w1 ((w1.alloc (.map #[] 0)).alloc (.cells #[.slice (some ⟨g, 0, none⟩) n cc, .map (some w1.heap.size)] 68 (0, 0))) := ((Below.refl _ w1).alloc (Nat.le_refl _) _).alloc (by rw [World.size_alloc]; omega) _
      have hd := heap_alloc_new (w1.alloc (.map #[] 0)) (.cells #[.slice (some ⟨g, 0, none⟩) n cc, .map (some w1.heap.size)] 68 (0, 0))
      rw [World.size_alloc] at hd
      have hqlen : (newPs qs).q.length = n := by unfold newPs; rw [List.length_map, HN.out]
      refine ⟨w1.heap.size + 1, fun k => k = w1.heap.size + 1 ∨ k = w1.heap.size, fun k => k = g, ⟨g, cc, w1.heap.size, fun _ _ => 0⟩, rfl, ⟨newPs_ok HQ.out, by rw [hqlen]; exact hd, fun i x hx => ?_, ⟨.map [], ownsMap_eq12 (World.ownsMap_made w1 _ _ _) (Below.heap_alloc _ _ _ (by rw [World.size_alloc]; exact Nat.lt_succ_self _)), ⟨fun a n _ _ => rfl, fun a n _ _ => rfl⟩⟩,
        (fun a n X hX => by cases hX), (fun a n a' n' X X' hX => by cases hX), .inl rfl, .inr rfl, (fun a n X hX => by cases hX), rfl, fun k hk => ?_, fun k hk => ?_, fun k hk hk' => ?_⟩, fun k hk => ?_, HB.out.trans (hb2.mono HB.out.size)⟩
      · unfold newPs at hx
        rw [List.getElem?_map] at hx
        obtain ⟨y, hy, rfl⟩ := Option.map_eq_some_iff.1 hx
        have hf := (HF.out i y hy).1
        rw [show ((y.toNat : Nat) : Int) = y by omega]
        exact (hb2.cell (p := ⟨g, i, none⟩) HG.out.2).trans (HCS.out i y hy)
      · simp only [World.size_alloc]; omega
      · have := HG.out.2; simp only [World.size_alloc]; omega
      · have := HG.out.2; omega
      · have := HB.out.size
        have := HG.out.1
        omega
end Go.Proofs.Ytakpankipagndaa
