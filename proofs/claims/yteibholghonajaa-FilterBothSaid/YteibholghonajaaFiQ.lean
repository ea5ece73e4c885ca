/- The walk of FilterBoth. -/
import Derived.Test.YteibholghonajaaFiP
import Derived.Test.YteibholghonajaaFiQm
namespace Go.Proofs.Yteibholghonajaa
open Go.RowKit

/-! ### Contracts as the law meets them -/
theorem qleast_b {w : World} {A : Option Addr} {N : List Tn} (h : TsIn w A (N.map Tn.ts)) (ho : ∀ t ∈ N, t.Ok) (hg : Good N) (n c : Nat) (hn : N.length = n) (hn2 : n ≤ 1000) :
    Calls Try.prog 16 #[.slice A n c] w fun e w' => ∃ v, e = .returned (.tuple #[v, .bool true]) ∧ Below w.heap.size w w' := by
  refine (qleast_some h ho hg n c hn hn2).mono ?_
  rintro e w' ⟨A', c', rfl, -, hb⟩
  exact ⟨_, rfl, hb⟩
theorem qleast_n {w : World} {A : Option Addr} {N : List Tn} (h : TsIn w A (N.map Tn.ts)) (ho : ∀ t ∈ N, t.Ok) (hg : ¬ Good N) (n c : Nat) (hn : N.length = n) (hn2 : n ≤ 1000) :
    Calls Try.prog 16 #[.slice A n c] w fun e w' => ∃ v, e = .returned (.tuple #[v, .bool false]) ∧ Below w.heap.size w w' := by
  refine (qleast_none h ho hg n c hn hn2).mono ?_
  rintro e w' ⟨rfl, hb⟩
  exact ⟨_, rfl, hb⟩
theorem qleast_gb {w : World} {A : Option Addr} {N : List Tn} (h : TsIn w A (N.map Tn.ts)) (ho : ∀ t ∈ N, t.Ok) (b : Bool) (hg : (Good N ∧ b = true) ∨ (¬ Good N ∧ b = false)) (n c : Nat) (hn : N.length = n) (hn2 : n ≤ 1000) :
    Calls Try.prog 16 #[.slice A n c] w fun e w' => ∃ v, e = .returned (.tuple #[v, .bool b]) ∧ Below w.heap.size w w' := by
  rcases hg with ⟨hg, rfl⟩ | ⟨hg, rfl⟩
  · exact qleast_b h ho hg n c hn hn2
  · exact qleast_n h ho hg n c hn hn2
theorem qboth_to {w : World} {A B : Option Addr} {n c m d : Nat} {L K : List Ts} (h : FlIn w A n c L) (k : FlIn w B m d K) (hn : n ≤ 1000) (hm : m ≤ 1000) :
    Calls Try.prog 23 #[.slice A n c, .slice B m d] w fun e w' => ∃ A' c', e = .returned (.slice A' (n + m) c') ∧ FlIn w' A' (n + m) c' (L ++ K) ∧ Below w.heap.size w w' := by
  refine (qboth_any h k hn hm).mono ?_
  rintro e w' ⟨v, rfl, ho', hb⟩
  obtain ⟨A', c', rfl, hf⟩ := fl_own ho'
  rw [List.length_append, h.len, k.len] at hf ⊢
  exact ⟨A', c', rfl, hf, hb⟩
theorem apart_to {w : World} {A B : Option Addr} {n c m d : Nat} {L K : List Ts} (h : FlIn w A n c L) (k : FlIn w B m d K) (hn : n ≤ 1000) (hm : m ≤ 1000) {x : Bool} {e0 : Int} (e : ApartR L K = (x, e0)) :
    Calls Try.prog 20 #[.slice A n c, .slice B m d] w fun e w' => e = .returned (.tuple #[.bool x, .int .i64 e0]) ∧ Below w.heap.size w w' := by
  refine (apart_any h k (by omega) (by omega)).mono fun e' w' hh => be_to hh e
theorem within_to {w : World} {A B : Option Addr} {n c m d : Nat} {L K : List Ts} (h : FlIn w A n c L) (k : FlIn w B m d K) (hn : n ≤ 1000) (hm : m ≤ 1000) {x : Bool} {e0 : Int} (e : WithinR L K = (x, e0)) :
    Calls Try.prog 21 #[.slice A n c, .slice B m d] w fun e w' => e = .returned (.tuple #[.bool x, .int .i64 e0]) ∧ Below w.heap.size w w' := by
  refine (within_anyF h k (by omega) (by omega)).mono fun e' w' hh => be_to hh e
theorem same_to {w : World} {A B : Option Addr} {n c m d : Nat} {L K : List Ts} (h : FlIn w A n c L) (k : FlIn w B m d K) (hn : n ≤ 1000) (hm : m ≤ 1000) {x : Bool} {e0 : Int} (e : SameR L K = (x, e0)) :
    Calls Try.prog 22 #[.slice A n c, .slice B m d] w fun e w' => e = .returned (.tuple #[.bool x, .int .i64 e0]) ∧ Below w.heap.size w w' := by
  refine (same_anyF h k (by omega) (by omega)).mono fun e' w' hh => be_to hh e
section
variable {w : World} {A A' B : Option Addr} {n c m d pn pc : Nat} {L K : List Ts} {P : List Nat}
set_option maxHeartbeats 4000000 in
set_option maxRecDepth 100000 in
theorem fboth_big (h63 : (n : Int) ≤ 9223372036854775807) (k63 : (m : Int) ≤ 9223372036854775807) (p63 : (pn : Int) ≤ 9223372036854775807) (hbig : 40 < n ∨ (n ≤ 40 ∧ 40 < m) ∨ (n ≤ 40 ∧ m ≤ 40 ∧ 300 < pn)) :
    Calls Try.prog 5 #[.slice A n c, .slice A' m d, .slice B pn pc] w fun e w' => e = .returned (.bool true) ∧ Below w.heap.size w w' := by
  rcases hbig with hb | ⟨hb, hc⟩ | ⟨hb, hc, hd⟩
  case' inl => have hb1 : (40 : Int) < (n : Int) := by omega
  case' inl => clear hb
  case' inr.inl => have hb1 : ¬ (40 : Int) < (n : Int) := by omega
  case' inr.inl => have hb2 : (40 : Int) < (m : Int) := by omega
  case' inr.inl => clear hb hc
  case' inr.inr => have hb1 : ¬ (40 : Int) < (n : Int) := by omega
  case' inr.inr => have hb2 : ¬ (40 : Int) < (m : Int) := by omega
  case' inr.inr => have hb3 : (300 : Int) < (pn : Int) := by omega
  case' inr.inr => clear hb hc hd
  all_goals
    go_enter Try.func5, Try.ntmps5
    go_wp2_with (go_at_call 8; refine (known_anyF _).mono ?_; rintro e w1 ⟨rfl, hbk⟩)
    all_goals
      go_ret
      exact ⟨rfl, hbk⟩
set_option maxHeartbeats 8000000 in
set_option maxRecDepth 100000 in
theorem fboth_not (h : FlIn w A n c L) (k : FlIn w A' m d K) (hn : n ≤ 40) (hm : m ≤ 40) (hpn : pn ≤ 300) (hbad : mayF L = false ∨ (mayF L = true ∧ mayF K = false)) :
    Calls Try.prog 5 #[.slice A n c, .slice A' m d, .slice B pn pc] w fun e w' => e = .returned (.bool true) ∧ Below w.heap.size w w' := by
  have H := Lib.hid h
  have K' := Lib.hid k
  have HW := Lib.hid (Below.refl w.heap.size w)
  have hb1 : ¬ (40 : Int) < (n : Int) := by omega
  have hb2 : ¬ (40 : Int) < (m : Int) := by omega
  have hb3 : ¬ (300 : Int) < (pn : Int) := by omega
  have hh : (mayF L && mayF K) = false := by
    rcases hbad with h | h
    · rw [h]; rfl
    · rw [h.2]; simp
  have HBO := Lib.hid (fun (w' : World) (hb : Below w.heap.size w w') => both_to (H.out.below hb) (K'.out.below hb) (by omega) (by omega) _ _ (bothR_not hh))
  have HAP := Lib.hid (fun (w' : World) (hb : Below w.heap.size w w') => apart_to (H.out.below hb) (K'.out.below hb) (by omega) (by omega) (apartR_not hh))
  have HWI := Lib.hid (fun (w' : World) (hb : Below w.heap.size w w') => within_to (H.out.below hb) (K'.out.below hb) (by omega) (by omega) (withinR_not hh))
  have HSA := Lib.hid (fun (w' : World) (hb : Below w.heap.size w w') => same_to (H.out.below hb) (K'.out.below hb) (by omega) (by omega) (sameR_not hh))
  have HQF := Lib.hid (fun (w' : World) (hb : Below w.heap.size w w') => qmay_any (H.out.below hb).ts n c H.out.len (by omega))
  have HQG := Lib.hid (fun (w' : World) (hb : Below w.heap.size w w') => qmay_any (K'.out.below hb).ts m d K'.out.len (by omega))
  clear h k hh
  rcases hbad with h1 | ⟨h1, h2⟩
  case' inl => rw [h1] at HQF
  case' inl => clear h1
  case' inr => rw [h1] at HQF
  case' inr => rw [h2] at HQG
  case' inr => clear h1 h2
  all_goals
    go_enter Try.func5, Try.ntmps5
    go_wp2_with (first
      | (go_at_call 8; refine (known_anyF _).mono ?_; rintro e w1 ⟨rfl, hb⟩; have HW := Lib.hid (HW.out.trans (hb.mono HW.out.size)); (try have FB := Lib.hid (FB.out.below hb)); (try have FA := Lib.hid (FA.out.below hb)); (try have F7 := Lib.hid (F7.out.below hb)); (try have F8 := Lib.hid (F8.out.below hb)); (try have F9 := Lib.hid (F9.out.below hb)); clear hb)
      | (go_at_call 19; refine (HBO.out _ HW.out).mono ?_; rintro e w1 ⟨Ab, cb, rfl, hfb, hb⟩; have HW := Lib.hid (HW.out.trans (hb.mono HW.out.size)); (try have FB := Lib.hid (FB.out.below hb)); (try have FA := Lib.hid (FA.out.below hb)); (try have F7 := Lib.hid (F7.out.below hb)); (try have F8 := Lib.hid (F8.out.below hb)); (try have F9 := Lib.hid (F9.out.below hb)); have FB := Lib.hid hfb; clear hb hfb)
      | (go_at_call 20; refine (HAP.out _ HW.out).mono ?_; rintro e w1 ⟨rfl, hb⟩; have HW := Lib.hid (HW.out.trans (hb.mono HW.out.size)); (try have FB := Lib.hid (FB.out.below hb)); (try have FA := Lib.hid (FA.out.below hb)); (try have F7 := Lib.hid (F7.out.below hb)); (try have F8 := Lib.hid (F8.out.below hb)); (try have F9 := Lib.hid (F9.out.below hb)); clear hb)
      | (go_at_call 21; refine (HWI.out _ HW.out).mono ?_; rintro e w1 ⟨rfl, hb⟩; have HW := Lib.hid (HW.out.trans (hb.mono HW.out.size)); (try have FB := Lib.hid (FB.out.below hb)); (try have FA := Lib.hid (FA.out.below hb)); (try have F7 := Lib.hid (F7.out.below hb)); (try have F8 := Lib.hid (F8.out.below hb)); (try have F9 := Lib.hid (F9.out.below hb)); clear hb)
      | (go_at_call 22; refine (HSA.out _ HW.out).mono ?_; rintro e w1 ⟨rfl, hb⟩; have HW := Lib.hid (HW.out.trans (hb.mono HW.out.size)); (try have FB := Lib.hid (FB.out.below hb)); (try have FA := Lib.hid (FA.out.below hb)); (try have F7 := Lib.hid (F7.out.below hb)); (try have F8 := Lib.hid (F8.out.below hb)); (try have F9 := Lib.hid (F9.out.below hb)); clear hb)
      | (with_reducible (go_at_call 10; refine (HQF.out _ HW.out).mono ?_); rintro e w1 ⟨rfl, rfl⟩)
      | (with_reducible (go_at_call 10; refine (HQG.out _ HW.out).mono ?_); rintro e w1 ⟨rfl, rfl⟩))
    all_goals
      go_ret
      exact ⟨rfl, HW.out⟩
set_option maxHeartbeats 16000000 in
set_option maxRecDepth 100000 in
theorem fboth_bad {N M : List Tn} (h : FlIn w A n c (N.map Tn.ts)) (k : FlIn w A' m d (M.map Tn.ts)) (hn : n ≤ 40) (hm : m ≤ 40) (hpn : pn ≤ 300) (hp : PkIn w B P) (hpl : P.length = pn) (hN : NOk N) (hM : NOk M) (g : ¬ Good (N ++ M)) :
    Calls Try.prog 5 #[.slice A n c, .slice A' m d, .slice B pn pc] w fun e w' => e = .returned (.bool true) ∧ Below w.heap.size w w' := by
  have H := Lib.hid h
  have K' := Lib.hid k
  have HW := Lib.hid (Below.refl w.heap.size w)
  have hb1 : ¬ (40 : Int) < (n : Int) := by omega
  have hb2 : ¬ (40 : Int) < (m : Int) := by omega
  have hb3 : ¬ (300 : Int) < (pn : Int) := by omega
  have HP := Lib.hid hp
  have HPN := Lib.hid hpl
  have nN : N.length = n := by have := h.len; rwa [List.length_map] at this
  have nM : M.length = m := by have := k.len; rwa [List.length_map] at this
  have HQF := Lib.hid (fun (w' : World) (hb : Below w.heap.size w w') => qmay_any (H.out.below hb).ts n c H.out.len (by omega))
  have HQG := Lib.hid (fun (w' : World) (hb : Below w.heap.size w w') => qmay_any (K'.out.below hb).ts m d K'.out.len (by omega))
  rw [hN.may] at HQF
  rw [hM.may] at HQG
  have HAL := Lib.hid (fun (w' : World) (hb : Below w.heap.size w w') => qboth_to (H.out.below hb) (K'.out.below hb) (by omega) (by omega))
  have HMF := Lib.hid (fun (w' : World) (hb : Below w.heap.size w w') => qmatch_any (H.out.below hb).ts n c H.out.len (by omega) (pc := pc) (HP.out.below hb) HPN.out (by omega))
  have HMG := Lib.hid (fun (w' : World) (hb : Below w.heap.size w w') => qmatch_any (K'.out.below hb).ts m d K'.out.len (by omega) (pc := pc) (HP.out.below hb) HPN.out (by omega))
  have HBO := Lib.hid (fun (w' : World) (hb : Below w.heap.size w w') => both_to (H.out.below hb) (K'.out.below hb) (by omega) (by omega) _ _ (bothR_bad hN hM g))
  have HAP := Lib.hid (fun (w' : World) (hb : Below w.heap.size w w') => apart_to (H.out.below hb) (K'.out.below hb) (by omega) (by omega) (apartR_bad hN hM g))
  obtain ⟨x, hx, gx⟩ : ∃ x : Bool, WithinR (N.map Tn.ts) (M.map Tn.ts) = (!x, 0) ∧ ((Good N ∧ x = true) ∨ (¬ Good N ∧ x = false)) := by
    by_cases gn : Good N
    · exact ⟨true, withinR_bad hN hM g gn, .inl ⟨gn, rfl⟩⟩
    · exact ⟨false, withinR_none hN hM g gn, .inr ⟨gn, rfl⟩⟩
  obtain ⟨y, hy, gy⟩ : ∃ y : Bool, WithinR (M.map Tn.ts) (N.map Tn.ts) = (!y, 0) ∧ ((Good M ∧ y = true) ∨ (¬ Good M ∧ y = false)) := by
    by_cases gm : Good M
    · exact ⟨true, withinR_bad hM hN (fun e => g (good_swap.1 e)) gm, .inl ⟨gm, rfl⟩⟩
    · exact ⟨false, withinR_none hM hN (fun e => g (good_swap.1 e)) gm, .inr ⟨gm, rfl⟩⟩
  have hs : SameR (N.map Tn.ts) (M.map Tn.ts) = (!x && !y, 0) := by unfold SameR; rw [hx, hy]
  have HWI := Lib.hid (fun (w' : World) (hb : Below w.heap.size w w') => within_to (H.out.below hb) (K'.out.below hb) (by omega) (by omega) hx)
  have HSA := Lib.hid (fun (w' : World) (hb : Below w.heap.size w w') => same_to (H.out.below hb) (K'.out.below hb) (by omega) (by omega) hs)
  have HLA := Lib.hid (fun (w' : World) (A1 : Option Addr) (c1 : Nat) (F : FlIn w' A1 (n + m) c1 (N.map Tn.ts ++ M.map Tn.ts)) => qleast_n (N := N ++ M) (by rw [List.map_append]; exact F.ts) (app_ok hN.ok hM.ok) g (n + m) c1 (by rw [List.length_append, nN, nM]) (by omega))
  have HLF := Lib.hid (fun (w' : World) (hb : Below w.heap.size w w') => qleast_gb (H.out.below hb).ts hN.ok x gx n c nN (by omega))
  have HLG := Lib.hid (fun (w' : World) (hb : Below w.heap.size w w') => qleast_gb (K'.out.below hb).ts hM.ok y gy m d nM (by omega))
  obtain ⟨v1, v2, v3⟩ := ways_bad hN hM g P
  have c2 : x = false → matchL (N.map Tn.ts) P = false := fun e => v2 (by rcases gx with ⟨_, e2⟩ | ⟨e2, _⟩; rw [e] at e2; cases e2; exact e2)
  have c3 : y = false → matchL (M.map Tn.ts) P = false := fun e => v3 (by rcases gy with ⟨_, e2⟩ | ⟨e2, _⟩; rw [e] at e2; cases e2; exact e2)
  clear v2 v3 hx hy hs gx gy g hN hM h k hp hpl
  generalize matchL (N.map Tn.ts) P = mf at HMF v1 c2
  generalize matchL (M.map Tn.ts) P = mg at HMG v1 c3
  cases x <;> cases y <;> cases mf <;> cases mg
  all_goals first | (exact absurd (v1 rfl) (by decide)) | (exact absurd (c2 rfl) (by decide)) | (exact absurd (c3 rfl) (by decide)) | skip
  all_goals
    clear v1 c2 c3
    simp only [Bool.not_true, Bool.not_false, Bool.and_true, Bool.and_false, Bool.true_and, Bool.false_and] at HWI HSA
    go_enter Try.func5, Try.ntmps5
    go_wp2_with (first
      | (go_at_call 8; refine (known_anyF _).mono ?_; rintro e w1 ⟨rfl, hb⟩; have HW := Lib.hid (HW.out.trans (hb.mono HW.out.size)); (try have FB := Lib.hid (FB.out.below hb)); (try have FA := Lib.hid (FA.out.below hb)); (try have F7 := Lib.hid (F7.out.below hb)); (try have F8 := Lib.hid (F8.out.below hb)); (try have F9 := Lib.hid (F9.out.below hb)); clear hb)
      | (go_at_call 19; refine (HBO.out _ HW.out).mono ?_; rintro e w1 ⟨Ab, cb, rfl, hfb, hb⟩; have HW := Lib.hid (HW.out.trans (hb.mono HW.out.size)); (try have FB := Lib.hid (FB.out.below hb)); (try have FA := Lib.hid (FA.out.below hb)); (try have F7 := Lib.hid (F7.out.below hb)); (try have F8 := Lib.hid (F8.out.below hb)); (try have F9 := Lib.hid (F9.out.below hb)); have FB := Lib.hid hfb; clear hb hfb)
      | (go_at_call 20; refine (HAP.out _ HW.out).mono ?_; rintro e w1 ⟨rfl, hb⟩; have HW := Lib.hid (HW.out.trans (hb.mono HW.out.size)); (try have FB := Lib.hid (FB.out.below hb)); (try have FA := Lib.hid (FA.out.below hb)); (try have F7 := Lib.hid (F7.out.below hb)); (try have F8 := Lib.hid (F8.out.below hb)); (try have F9 := Lib.hid (F9.out.below hb)); clear hb)
      | (go_at_call 21; refine (HWI.out _ HW.out).mono ?_; rintro e w1 ⟨rfl, hb⟩; have HW := Lib.hid (HW.out.trans (hb.mono HW.out.size)); (try have FB := Lib.hid (FB.out.below hb)); (try have FA := Lib.hid (FA.out.below hb)); (try have F7 := Lib.hid (F7.out.below hb)); (try have F8 := Lib.hid (F8.out.below hb)); (try have F9 := Lib.hid (F9.out.below hb)); clear hb)
      | (go_at_call 22; refine (HSA.out _ HW.out).mono ?_; rintro e w1 ⟨rfl, hb⟩; have HW := Lib.hid (HW.out.trans (hb.mono HW.out.size)); (try have FB := Lib.hid (FB.out.below hb)); (try have FA := Lib.hid (FA.out.below hb)); (try have F7 := Lib.hid (F7.out.below hb)); (try have F8 := Lib.hid (F8.out.below hb)); (try have F9 := Lib.hid (F9.out.below hb)); clear hb)
      | (with_reducible (go_at_call 10; refine (HQF.out _ HW.out).mono ?_); rintro e w1 ⟨rfl, rfl⟩)
      | (with_reducible (go_at_call 10; refine (HQG.out _ HW.out).mono ?_); rintro e w1 ⟨rfl, rfl⟩)
      | (go_at_call 23; refine (HAL.out _ HW.out).mono ?_; rintro e w1 ⟨Aa, ca, rfl, hfa, hb⟩; have HW := Lib.hid (HW.out.trans (hb.mono HW.out.size)); (try have FB := Lib.hid (FB.out.below hb)); (try have FA := Lib.hid (FA.out.below hb)); (try have F7 := Lib.hid (F7.out.below hb)); (try have F8 := Lib.hid (F8.out.below hb)); (try have F9 := Lib.hid (F9.out.below hb)); have FA := Lib.hid hfa; clear hb hfa)
      | (with_reducible (go_at_call 16; refine (HLA.out _ _ _ FA.out).mono ?_); rintro e w1 ⟨v1, rfl, hb⟩; have HW := Lib.hid (HW.out.trans (hb.mono HW.out.size)); (try have FB := Lib.hid (FB.out.below hb)); (try have FA := Lib.hid (FA.out.below hb)); (try have F7 := Lib.hid (F7.out.below hb)); (try have F8 := Lib.hid (F8.out.below hb)); (try have F9 := Lib.hid (F9.out.below hb)); clear hb)
      | (with_reducible (go_at_call 16; refine (HLF.out _ HW.out).mono ?_); rintro e w1 ⟨v2, rfl, hb⟩; have HW := Lib.hid (HW.out.trans (hb.mono HW.out.size)); (try have FB := Lib.hid (FB.out.below hb)); (try have FA := Lib.hid (FA.out.below hb)); (try have F7 := Lib.hid (F7.out.below hb)); (try have F8 := Lib.hid (F8.out.below hb)); (try have F9 := Lib.hid (F9.out.below hb)); clear hb)
      | (with_reducible (go_at_call 16; refine (HLG.out _ HW.out).mono ?_); rintro e w1 ⟨v3, rfl, hb⟩; have HW := Lib.hid (HW.out.trans (hb.mono HW.out.size)); (try have FB := Lib.hid (FB.out.below hb)); (try have FA := Lib.hid (FA.out.below hb)); (try have F7 := Lib.hid (F7.out.below hb)); (try have F8 := Lib.hid (F8.out.below hb)); (try have F9 := Lib.hid (F9.out.below hb)); clear hb)
      | (with_reducible (go_at_call 12; refine (HMF.out _ HW.out).mono ?_); rintro e w1 ⟨rfl, hb⟩; have HW := Lib.hid (HW.out.trans (hb.mono HW.out.size)); (try have FB := Lib.hid (FB.out.below hb)); (try have FA := Lib.hid (FA.out.below hb)); (try have F7 := Lib.hid (F7.out.below hb)); (try have F8 := Lib.hid (F8.out.below hb)); (try have F9 := Lib.hid (F9.out.below hb)); clear hb)
      | (with_reducible (go_at_call 12; refine (HMG.out _ HW.out).mono ?_); rintro e w1 ⟨rfl, hb⟩; have HW := Lib.hid (HW.out.trans (hb.mono HW.out.size)); (try have FB := Lib.hid (FB.out.below hb)); (try have FA := Lib.hid (FA.out.below hb)); (try have F7 := Lib.hid (F7.out.below hb)); (try have F8 := Lib.hid (F8.out.below hb)); (try have F9 := Lib.hid (F9.out.below hb)); clear hb))
    all_goals
      go_ret
      exact ⟨rfl, HW.out⟩
end
end Go.Proofs.Yteibholghonajaa
