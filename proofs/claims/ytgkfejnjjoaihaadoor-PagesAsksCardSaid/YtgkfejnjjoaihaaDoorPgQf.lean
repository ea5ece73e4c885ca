/- The document's Share at any spaces; Drop. -/
import Derived.Test.YtgkfejnjjoaihaaDoorPgQe
namespace Go.Proofs.YtgkfejnjjoaihaaDoor
open Go.RowKit

theorem pagesL_any (T : Tb) (s : Int) (hs : spaceB s = true) : anyT T s = decide (0 < (pagesL T s).length) := by
  obtain ⟨i, rfl, hi⟩ : ∃ i : Nat, s = i ∧ i < 16 := ⟨s.toNat, by have := (spaceB_iff s).1 hs; omega, by have := (spaceB_iff s).1 hs; omega⟩
  rw [pagesN_any T i hi, pagesL_nat T i hi, List.length_map]
set_option maxRecDepth 100000 in
set_option maxHeartbeats 1000000 in
theorem q_share_bad {q : Nat} (f g : Int) (hb : shareB f g = false) (w : World) :
    Calls Tryd.prog 40 #[.pointer (some ⟨q, 0, none⟩), .int .i64 f, .int .i64 g] w fun e w' => e = .returned (.tuple #[.int .i64 0, .int .i64 2]) ∧ w = w' := by
  cases h1 : spaceB f with
  | false =>
    have i1 : inB f 0 = false := by rw [inB_zero]; exact h1
    clear hb
    go_enter Tryd.func40, Tryd.ntmps40
    go_wp2_with (go_at_call 57; refine (q_in _ _ _).mono ?_; rintro e w1 ⟨rfl, rfl⟩; rw [i1])
    go_ret2
    exact ⟨rfl, rfl⟩
  | true =>
    have i1 : inB f 0 = true := by rw [inB_zero]; exact h1
    cases h2 : spaceB g with
    | false =>
      have i2 : inB g 0 = false := by rw [inB_zero]; exact h2
      clear hb
      go_enter Tryd.func40, Tryd.ntmps40
      go_wp2_with (go_at_call 57; refine (q_in _ _ _).mono ?_; rintro e w1 ⟨rfl, rfl⟩; first | rw [i1] | rw [i2])
      go_ret2
      exact ⟨rfl, rfl⟩
    | true =>
      have i2 : inB g 0 = true := by rw [inB_zero]; exact h2
      obtain rfl : f = g := by
        unfold shareB at hb
        rw [h1, h2] at hb
        simpa using hb
      clear hb
      go_enter Tryd.func40, Tryd.ntmps40
      go_wp2_with (go_at_call 57; refine (q_in _ _ _).mono ?_; rintro e w1 ⟨rfl, rfl⟩; first | rw [i1] | rw [i2])
      go_ret2
      exact ⟨rfl, rfl⟩
set_option maxRecDepth 100000 in
set_option maxHeartbeats 1000000 in
theorem q_share_there {w : World} {q : Nat} {T : Tb} (h : QT w q T) (f g : Int) (hb : shareB f g = true) (ha : anyT T g = true) :
    Calls Tryd.prog 40 #[.pointer (some ⟨q, 0, none⟩), .int .i64 f, .int .i64 g] w fun e w' => e = .returned (.tuple #[.int .i64 0, .int .i64 7]) ∧ Below w.heap.size w w' := by
  have h1 : spaceB f = true := by unfold shareB at hb; cases h1 : spaceB f <;> simp_all
  have h2 : spaceB g = true := by unfold shareB at hb; cases h1 : spaceB g <;> simp_all
  have hne : (f == g) = false := by
    unfold shareB at hb
    rw [h1, h2] at hb
    cases h1 : f == g <;> simp_all
  have i1 : inB f 0 = true := by rw [inB_zero]; exact h1
  have i2 : inB g 0 = true := by rw [inB_zero]; exact h2
  have HG := Lib.hid (q_pages h g)
  obtain ⟨n, hn⟩ : ∃ n, (pagesL T g).length = n := ⟨_, rfl⟩
  have hpos : (0 : Int) < n := by rw [pagesL_any T g h2, hn] at ha; simp at ha; omega
  clear hb ha h
  go_enter Tryd.func40, Tryd.ntmps40
  go_wp2_with (first
    | (go_at_call 57; refine (q_in _ _ _).mono ?_; rintro e w1 ⟨rfl, rfl⟩; first | rw [i1] | rw [i2])
    | (go_at_call 56; with_reducible refine HG.out.mono ?_; rintro e w1 ⟨v, rfl, hown, hb⟩; obtain ⟨a1, c1, rfl, hc1⟩ := ints_base hown; have HB1 := Lib.hid hb; rw [hn]; clear hown hc1 hb))
  go_ret2
  exact ⟨rfl, HB1.out⟩
theorem q_share {w : World} {q : Nat} {T : Tb} (h : QT w q T) (f g : Int) :
    Calls Tryd.prog 40 #[.pointer (some ⟨q, 0, none⟩), .int .i64 f, .int .i64 g] w fun e w' => e = .returned (.tuple #[.int .i64 (shareN T f g), .int .i64 (shareE T f g)]) ∧ QT w' q (shareT T f g) ∧ Turned w w' [q] := by
  unfold shareN shareT
  by_cases hb : shareB f g = true
  · by_cases ha : anyT T g = true
    · have e : shareE T f g = 7 := by unfold shareE; rw [if_pos hb, if_pos ha]
      rw [e]
      refine (q_share_there h f g hb ha).mono ?_
      rintro e w' ⟨rfl, hb⟩
      exact ⟨rfl, h.step hb, Turned.of_below _ hb⟩
    · have e : shareE T f g = 0 := by unfold shareE; rw [if_pos hb, if_neg ha]
      rw [e, if_pos rfl, if_pos rfl]
      have h1 : spaceB f = true := by unfold shareB at hb; cases h1 : spaceB f <;> simp_all
      have h2 : spaceB g = true := by unfold shareB at hb; cases h1 : spaceB g <;> simp_all
      have hne : (f == g) = false := by
        unfold shareB at hb
        rw [h1, h2] at hb
        cases h1 : f == g <;> simp_all
      obtain ⟨i, rfl, hi⟩ : ∃ i : Nat, f = i ∧ i < 16 := ⟨f.toNat, by have := (spaceB_iff f).1 h1; omega, by have := (spaceB_iff f).1 h1; omega⟩
      obtain ⟨j, rfl, hj⟩ : ∃ i : Nat, g = i ∧ i < 16 := ⟨g.toNat, by have := (spaceB_iff g).1 h2; omega, by have := (spaceB_iff g).1 h2; omega⟩
      exact q_share_in h i j hi hj (by rintro rfl; simp at hne) (by simpa using ha)
  · have e : shareE T f g = 2 := by unfold shareE; rw [if_neg hb]
    rw [e]
    refine (q_share_bad f g (by simpa using hb) w).mono ?_
    rintro e w' ⟨rfl, rfl⟩
    exact ⟨rfl, h, Turned.refl _ _⟩

/-! ### Drop -/
def dropA (T : Tb) (s : Nat) (l : List Nat) : Tb := fun i j => if i = s ∧ j ∈ l then nilE else T i j
theorem dropA_nil (T : Tb) (s : Nat) : dropA T s [] = T := by funext i j; simp [dropA]
theorem dropA_at (T : Tb) (s : Nat) (l : List Nat) (p : Nat) (h : p ∉ l) : dropA T s l s p = T s p := by unfold dropA; rw [if_neg (fun e => h e.2)]
theorem dropA_add (T : Tb) (s : Nat) (l : List Nat) (p : Nat) : setT (dropA T s l) s p nilE = dropA T s (l ++ [p]) := by
  funext i j
  unfold setT dropA
  by_cases h : i = s ∧ j = p
  · obtain ⟨rfl, rfl⟩ := h
    rw [if_pos ⟨rfl, rfl⟩, if_pos ⟨rfl, by simp⟩]
  · rw [if_neg h]
    by_cases h2 : i = s ∧ j ∈ l
    · rw [if_pos h2, if_pos ⟨h2.1, by simp [h2.2]⟩]
    · rw [if_neg h2, if_neg]
      rintro ⟨h3, h4⟩
      rcases List.mem_append.1 h4 with h5 | h5
      · exact h2 ⟨h3, h5⟩
      · exact h ⟨h3, by simpa using h5⟩
theorem dropA_all {T : Tb} (hT : TbOk T) (s : Nat) : dropA T s (pagesN T s) = dropK T s 32 := by
  funext i j
  unfold dropA dropK
  simp only [pagesN_mem]
  by_cases h : i = s ∧ j < 32
  · rw [if_pos h]
    split
    · rfl
    · rename_i h2
      obtain ⟨rfl, h3⟩ := h
      cases hx : (T i j).is with
      | false => exact (hT.ok i j).no hx
      | true => exact absurd ⟨rfl, h3, hx⟩ h2
  · rw [if_neg h, if_neg (fun e => h ⟨e.1, e.2.1⟩)]
theorem dropL_nat (T : Tb) (s : Nat) : dropL T s 32 = (pagesN T s).map (fun p => (T s p).fr) := rfl
end Go.Proofs.YtgkfejnjjoaihaaDoor
