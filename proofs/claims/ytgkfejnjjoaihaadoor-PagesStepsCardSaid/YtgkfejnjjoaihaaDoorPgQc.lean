/- The document's Ask, Set. -/
import Derived.Test.YtgkfejnjjoaihaaDoorPgQb
namespace Go.Proofs.YtgkfejnjjoaihaaDoor
open Go.RowKit

theorem q_ask_any {w : World} {q : Nat} {T : Tb} (h : QT w q T) (s : Int) (a : Nat) (r : Int) (ha : a < 4294967296) :
    Calls Tryd.prog 37 #[.pointer (some ⟨q, 0, none⟩), .int .i64 s, .int .u32 a, .int .i64 r] w fun e w' =>
      e = .returned (.tuple #[.int .i64 (askF T s a r), .int .i64 (askP T s a r), .int .i64 (askE T s a r)]) ∧ QT w' q (askT T s a r) ∧ Turned w w' [q] := by
  unfold askF askP askT
  cases hb : spaceB s && rightB r with
  | false =>
    have e : askE T s a r = 2 := by unfold askE; rw [hb]; rfl
    rw [e]
    refine (q_ask_bad h s a r hb).mono ?_
    rintro e w' ⟨rfl, rfl⟩
    exact ⟨rfl, h, Turned.refl _ _⟩
  | true =>
    have hs : spaceB s = true := by cases h1 : spaceB s <;> simp_all
    have hr : rightB r = true := by cases h1 : rightB r <;> simp_all
    by_cases hE : takE T s (a / 256 : Nat) = 0
    · obtain ⟨i, j, rfl, hj, h1, h2, h3⟩ := takE_yes hE
      obtain rfl : a / 256 = j := by omega
      by_cases hbits : bits .and .i64 (atT T i (a / 256 : Nat)).ri r = 0
      · have e : askE T i a r = 8 := by unfold askE; rw [hb, if_pos rfl, if_pos hE, if_pos hbits]
        rw [e]
        refine (q_ask_right h i a (a / 256) r ha h1 rfl h2 hr h3 hbits).mono ?_
        rintro e w' ⟨rfl, hb⟩
        exact ⟨rfl, h.step hb, Turned.of_below _ hb⟩
      · have e : askE T i a r = 0 := by unfold askE; rw [hb, if_pos rfl, if_pos hE, if_neg hbits]
        rw [e, if_pos rfl, if_pos rfl, if_pos rfl]
        exact q_ask_yes h i a (a / 256) r ha h1 rfl h2 hr h3 (beq_eq_false_iff_ne.2 hbits)
    · have e : askE T s a r = 10 := by unfold askE; rw [hb, if_pos rfl, if_neg hE]
      rw [e]
      obtain ⟨i, rfl, hi⟩ : ∃ i : Nat, s = i ∧ i < 16 := ⟨s.toNat, by have := (spaceB_iff s).1 hs; omega, by have := (spaceB_iff s).1 hs; omega⟩
      refine (q_ask_far h i a (a / 256) r ha hi rfl hr hE).mono ?_
      rintro e w' ⟨rfl, rfl⟩
      exact ⟨rfl, h, Turned.refl _ _⟩

/-! ### Set -/
set_option maxRecDepth 100000 in
set_option maxHeartbeats 1000000 in
theorem q_set {w : World} {q : Nat} {T : Tb} (h : QT w q T) (s p f r : Int) :
    Calls Tryd.prog 32 #[.pointer (some ⟨q, 0, none⟩), .int .i64 s, .int .i64 p, .int .i64 f, .int .i64 r] w fun e w' => e = .returned (.int .i64 (setE T s p f r)) ∧ QT w' q (setO T s p f r) ∧ Turned w w' [q] := by
  unfold setO
  have H := Lib.hid h
  by_cases hb : (inB s p && (frameB f && rightsB r)) = true
  · have hi : inB s p = true := by cases h1 : inB s p <;> simp_all
    have hf : 0 ≤ f ∧ f < 256 := by
      have : frameB f = true := by cases h1 : frameB f <;> simp_all
      simpa [frameB] using this
    have hr : 0 ≤ r ∧ r ≤ 7 := by
      have : rightsB r = true := by cases h1 : rightsB r <;> simp_all
      exact (rightsB_iff r).1 this
    obtain ⟨f0, f1⟩ := hf
    obtain ⟨r0, r1⟩ := hr
    have hE : setE T s p f r = if (atT T s p).is then 7 else 0 := by unfold setE; rw [hb, if_pos rfl]
    obtain ⟨i, j, rfl, rfl, h1, h2⟩ := inB_nat hi
    have hE : setE T i j f r = if (T i j).is = true then 7 else 0 := hE
    simp only [Int.toNat_natCast]
    have c0 := h.c0 i j h1 h2
    have c1 := h.c1 i j h1 h2
    have c2 := h.c2 i j h1 h2
    have c3 := h.c3 i j h1 h2
    have c4 := h.c4 i j h1 h2
    have hlt := h.lt
    have fz := h.row.fz
    have h1' : (i : Int) < 16 := by omega
    have h2' : (j : Int) < 32 := by omega
    clear h hb
    rcases Bool.eq_false_or_eq_true (T i j).is with hx | hx
    · rw [if_pos hx] at hE
      rw [hE, if_neg (by decide)]
      rw [hx] at c0
      clear hx hE
      go_enter Tryd.func32, Tryd.ntmps32
      go_wp2_with (go_at_call 57; refine (q_in _ _ _).mono ?_; rintro e w' ⟨rfl, rfl⟩; rw [hi])
      go_ret
      exact ⟨rfl, H.out, Turned.refl _ _⟩
    · rw [if_neg (by rw [hx]; decide)] at hE
      rw [hE, if_pos rfl]
      rw [hx] at c0
      clear hx hE
      go_enter Tryd.func32, Tryd.ntmps32
      go_wp2_with (go_at_call 57; refine (q_in _ _ _).mono ?_; rintro e w' ⟨rfl, rfl⟩; rw [hi])
      go_ret
      refine ⟨rfl, H.out.put i j h1 h2 (layE f r) ⟨f0, f1, r0, by show r < 8; omega, fun hn => by cases hn⟩, ?_⟩
      exact ((((Turned.of_set (by simp) _).trans (Turned.of_set (by simp) _)).trans (Turned.of_set (by simp) _)).trans (Turned.of_set (by simp) _)).trans (Turned.of_set (by simp) _)
  · have hE : setE T s p f r = 2 := by unfold setE; rw [if_neg hb]
    rw [hE, if_neg (by decide)]
    have hb' : (inB s p && (frameB f && rightsB r)) = false := by simpa using hb
    clear hb hE h
    cases hi : inB s p with
    | false =>
      clear hb'
      go_enter Tryd.func32, Tryd.ntmps32
      go_wp2_with (go_at_call 57; refine (q_in _ _ _).mono ?_; rintro e w' ⟨rfl, rfl⟩; rw [hi])
      go_ret
      exact ⟨rfl, H.out, Turned.refl _ _⟩
    | true =>
      by_cases f0 : 0 ≤ f
      · by_cases f1 : f < 256
        · by_cases r0 : 0 ≤ r
          · have r1 : 7 < r := by
              rw [hi] at hb'
              simp [frameB, rightsB, f0, f1, r0] at hb'
              omega
            clear hb'
            go_enter Tryd.func32, Tryd.ntmps32
            go_wp2_with (go_at_call 57; refine (q_in _ _ _).mono ?_; rintro e w' ⟨rfl, rfl⟩; rw [hi])
            go_ret
            exact ⟨rfl, H.out, Turned.refl _ _⟩
          · clear hb'
            go_enter Tryd.func32, Tryd.ntmps32
            go_wp2_with (go_at_call 57; refine (q_in _ _ _).mono ?_; rintro e w' ⟨rfl, rfl⟩; rw [hi])
            go_ret
            exact ⟨rfl, H.out, Turned.refl _ _⟩
        · clear hb'
          go_enter Tryd.func32, Tryd.ntmps32
          go_wp2_with (go_at_call 57; refine (q_in _ _ _).mono ?_; rintro e w' ⟨rfl, rfl⟩; rw [hi])
          go_ret
          exact ⟨rfl, H.out, Turned.refl _ _⟩
      · clear hb'
        go_enter Tryd.func32, Tryd.ntmps32
        go_wp2_with (go_at_call 57; refine (q_in _ _ _).mono ?_; rintro e w' ⟨rfl, rfl⟩; rw [hi])
        go_ret
        exact ⟨rfl, H.out, Turned.refl _ _⟩
end Go.Proofs.YtgkfejnjjoaihaaDoor
