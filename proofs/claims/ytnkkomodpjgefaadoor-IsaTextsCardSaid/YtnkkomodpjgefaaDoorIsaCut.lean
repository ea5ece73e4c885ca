/- Contracts of the document's cut and number. -/
import Derived.Test.YtnkkomodpjgefaaDoorIsaBack
import Derived.Lib.Strings
namespace Go.Proofs.YtnkkomodpjgefaaDoor
open Go.RowKit Go.Sort

/-! ### A text at its blanks, nine parts at most -/
def cutStep (st : List (List UInt8) × List UInt8) (c : UInt8) : List (List UInt8) × List UInt8 :=
  if st.1.length < 9 then (if c = 32 then (st.1 ++ [st.2], []) else (st.1, st.2 ++ [c])) else st
def cutAt (S : List UInt8) (k : Nat) : List (List UInt8) × List UInt8 := (S.take k).foldl cutStep ([], [])
def cutL (S : List UInt8) : List (List UInt8) := if (cutAt S S.length).1.length < 9 then (cutAt S S.length).1 ++ [(cutAt S S.length).2] else (cutAt S S.length).1

theorem cutAt_succ (S : List UInt8) (k : Nat) (hk : k < S.length) : cutAt S (k + 1) = cutStep (cutAt S k) S[k] := by
  unfold cutAt; rw [List.take_succ_eq_append_getElem hk, List.foldl_append]; rfl
theorem cut_stop : ∀ (r : List UInt8) (st : List (List UInt8) × List UInt8), ¬ st.1.length < 9 → r.foldl cutStep st = st
  | [], _, _ => rfl
  | c :: r, st, h => by
    have e : cutStep st c = st := by unfold cutStep; rw [if_neg h]
    rw [List.foldl_cons, e]; exact cut_stop r st h
theorem cut_full (S : List UInt8) (k : Nat) (h : ¬ (cutAt S k).1.length < 9) : cutL S = (cutAt S k).1 := by
  have e : cutAt S S.length = cutAt S k := by
    unfold cutAt
    rw [List.take_length]
    conv => lhs; rw [← List.take_append_drop k S]
    rw [List.foldl_append]; exact cut_stop _ _ h
  unfold cutL; rw [e, if_neg h]
/-- Where the part that is under way begins. -/
def CutInv (S : List UInt8) (k p : Nat) : Prop := p ≤ k ∧ (cutAt S k).2 = (S.take k).drop p
theorem cut_blank {S : List UInt8} {k p : Nat} (hk : k < S.length) (h9 : (cutAt S k).1.length < 9) (hi : CutInv S k p) (hc : S[k] = 32) :
    (cutAt S (k + 1)).1 = (cutAt S k).1 ++ [(S.take k).drop p] ∧ CutInv S (k + 1) (k + 1) := by
  have e := cutAt_succ S k hk
  unfold cutStep at e
  rw [if_pos h9, if_pos hc] at e
  refine ⟨by rw [e, hi.2], Nat.le_refl _, ?_⟩
  rw [e]; simp
theorem cut_char {S : List UInt8} {k p : Nat} (hk : k < S.length) (h9 : (cutAt S k).1.length < 9) (hi : CutInv S k p) (hc : S[k] ≠ 32) :
    (cutAt S (k + 1)).1 = (cutAt S k).1 ∧ CutInv S (k + 1) p := by
  have e := cutAt_succ S k hk
  unfold cutStep at e
  rw [if_pos h9, if_neg hc] at e
  refine ⟨by rw [e], by have := hi.1; omega, ?_⟩
  rw [e]
  show (cutAt S k).2 ++ [S[k]] = _
  have := hi.1
  rw [hi.2, List.take_succ_eq_append_getElem hk, List.drop_append_of_le_length (by simp; omega)]
theorem cut_end {S : List UInt8} {p : Nat} (h9 : (cutAt S S.length).1.length < 9) (hi : CutInv S S.length p) : cutL S = (cutAt S S.length).1 ++ [S.drop p] := by
  unfold cutL; rw [if_pos h9, hi.2, List.take_length]
theorem cut_len (S : List UInt8) (k : Nat) : (cutAt S k).1.length ≤ 9 := by
  unfold cutAt
  suffices ∀ (r : List UInt8) (st : List (List UInt8) × List UInt8), st.1.length ≤ 9 → (r.foldl cutStep st).1.length ≤ 9 from this _ _ (by simp)
  intro r
  induction r with
  | nil => intro st h; exact h
  | cons c r ih =>
    intro st h
    refine ih _ ?_
    unfold cutStep
    split
    · split
      · simp; omega
      · exact h
    · exact h
theorem cutL_len (S : List UInt8) : (cutL S).length ≤ 9 := by
  unfold cutL; have := cut_len S S.length
  split
  · rw [List.length_append]; simp; omega
  · exact this
theorem extract_part (s : ByteArray) (p k : Nat) : s.extract p k = ⟨((s.data.toList.take k).drop p).toArray⟩ := by
  apply ba_eq
  rw [Lib.extract_data, List.drop_take]
theorem cut_small (S : List UInt8) (k : Nat) : (∀ x ∈ (cutAt S k).1, x.length ≤ k) ∧ (cutAt S k).2.length ≤ k := by
  induction k with
  | zero => exact ⟨by simp [cutAt], by simp [cutAt]⟩
  | succ k ih =>
    by_cases hk : k < S.length
    · rw [cutAt_succ S k hk]
      unfold cutStep
      split
      · split
        · refine ⟨fun x hx => ?_, Nat.zero_le _⟩
          rcases List.mem_append.1 hx with h | h
          · have := ih.1 x h; omega
          · have := ih.2; simp at h; subst h; omega
        · refine ⟨fun x hx => by have := ih.1 x hx; omega, ?_⟩
          show ((cutAt S k).2 ++ [S[k]]).length ≤ k + 1
          have := ih.2; simp; omega
      · exact ⟨fun x hx => by have := ih.1 x hx; omega, by have := ih.2; omega⟩
    · have e : cutAt S (k + 1) = cutAt S k := by unfold cutAt; rw [List.take_of_length_le (by omega), List.take_of_length_le (by omega)]
      rw [e]
      exact ⟨fun x hx => by have := ih.1 x hx; omega, by have := ih.2; omega⟩
theorem cutL_small (S : List UInt8) : ∀ x ∈ cutL S, x.length ≤ S.length := by
  have := cut_small S S.length
  unfold cutL
  split
  · intro x hx
    rcases List.mem_append.1 hx with h | h
    · exact this.1 x h
    · simp at h; subst h; exact this.2
  · exact this.1
theorem cutL_pos (S : List UInt8) : cutL S ≠ [] := by
  unfold cutL
  split
  · simp
  · rename_i h; intro e; rw [e] at h; simp at h

def strV (p : List UInt8) : Value := .string ⟨p.toArray⟩
theorem Tryd.infoStr : (Tryd.prog.info? 9).map (fun i => (i.zero, i.size, i.bytes)) = some (some (.string ⟨#[]⟩), 1, 16) := by kernel_rfl
theorem own_form {w : World} {B : Nat} {e : TypeId} {v : Value} {n : Nat} {xs : List Value} (h : w.ownsRow B e 1 v n xs) : ∃ a c, v = .slice a n c := by
  obtain ⟨h1, h2⟩ := h
  rcases h2 with ⟨hv, hx⟩ | ⟨g, cap, cur, rfl, _⟩
  · have hn : n = 0 := by rw [hx] at h1; simp at h1; omega
    subst hn; exact ⟨_, _, hv⟩
  · exact ⟨_, _, rfl⟩

set_option maxHeartbeats 1600000 in
set_option maxRecDepth 100000 in
theorem cut_walk (s : ByteArray) (S : List UInt8) (hS : s.data.toList = S) (hs : s.size ≤ 4000) (w : World) :
    Calls Tryd.prog 47 #[.string s] w fun e w' => ∃ v, e = .returned v ∧ w'.ownsRow w.heap.size 9 1 v (cutL S).length ((cutL S).map strV) ∧ Below w.heap.size w w' := by
  obtain ⟨i0, hi, hz0, hz1, hz2⟩ := info_parts Tryd.infoStr
  have HSZ : Hid (s.size = S.length) := Lib.hid (by rw [← hS]; simp)
  have HSS := Lib.hid hS
  clear hS
  go_enter Tryd.func47, Tryd.ntmps47
  go_wp2
  go_loopw [3, 4, 5] (fun v pv i wr => ∃ (k p : Nat) (L : List (List UInt8)), i = .int .i64 k ∧ pv = .int .i64 p ∧ wr.ownsRow w.heap.size 9 1 v L.length (L.map strV) ∧ ((k ≤ s.size ∧ L = (cutAt S k).1 ∧ (L.length < 9 → CutInv S k p)) ∨ (k = s.size + 1 ∧ L = cutL S)) ∧ Below w.heap.size w wr)
    (fun _ _ i _ => s.size + 1 - (intOf i).toNat)
  case atStart => exact ⟨0, 0, [], rfl, rfl, World.ownsRow_nil .., Or.inl ⟨Nat.zero_le _, rfl, fun _ => ⟨Nat.le_refl _, rfl⟩⟩, Below.refl _ _⟩
  case round =>
    obtain ⟨k, p, L, rfl, rfl, hown, hst, hbw⟩ := hrel
    obtain ⟨sa, sc, rfl⟩ := own_form hown
    by_cases hk : k ≤ s.size
    · obtain ⟨-, hL, hinv⟩ : k ≤ s.size ∧ L = (cutAt S k).1 ∧ (L.length < 9 → CutInv S k p) := by
        rcases hst with h | h
        · exact h
        · omega
      by_cases h9 : L.length < 9
      · have hI := Lib.hid (hinv h9)
        have hp : p ≤ k := hI.out.1
        have HL := Lib.hid hL
        have h9' : (L.length : Int) < 9 := by omega
        have hk0 : (0 : Int) ≤ (k : Int) := by omega
        have hp0 : (0 : Int) ≤ (p : Int) := by omega
        have hp' : (p : Int) ≤ (k : Int) := by omega
        have hk' : (k : Int) ≤ (s.size : Int) := by omega
        have hsz' : s.size ≤ 4000 := hs
        clear hinv hL hst
        by_cases hlt : k < s.size
        · have hlt' : (k : Int) < (s.size : Int) := by omega
          have hne : ((k : Int) == (s.size : Int)) = false := by rw [beq_eq_false_iff_ne]; omega
          have tok : True := trivial
          have hkS : k < S.length := by rw [← HSZ.out]; exact hlt
          have HC : Hid (s[k] = S[k]) := Lib.hid (by have e := HSS.out; subst e; rfl)
          cases hch : ((s[k].toNat : Int) == 32)
          · have HN : Hid (S[k] ≠ 32) := Lib.hid (by rw [← HC.out]; intro e; rw [e] at hch; exact absurd hch (by decide))
            go_wp2
            go_roundw
            case rel =>
              obtain ⟨e1, e2⟩ := cut_char hkS (by rw [← HL.out]; exact h9) hI.out HN.out
              exact ⟨k + 1, p, L, by go_num, rfl, hown, Or.inl ⟨by omega, by rw [e1]; exact HL.out, fun _ => e2⟩, hbw⟩
            case measure => simp [intOf]; omega
          · have HN : Hid (S[k] = 32) := Lib.hid (by rw [← HC.out]; apply UInt8.toNat_inj.1; simp only [beq_iff_eq] at hch; have := hch; show s[k].toNat = 32; omega)
            go_wp2_with (at_builtin; have tik := tok; clear tik tok; refine wpList_append_own _ rfl _ _ 62 rfl w.heap.size 9 i0 (.string ⟨#[]⟩) 1 16 Tryd.underlying62 hi hz0 hz1 hz2 rfl (by decide) _ _ _ rfl (hown.alloc _) ⟨wr.heap.size, 0, none⟩ 1 1 [.string (s.extract p k)] rfl rfl (cell_one_new _ _ _) (by simp [Value.oneCell']) (by unfold maxLen; omega) (by omega) (by have := hbw.size; simp; omega) ?_; intro v2 w3 h3 g3 _)
            have b3 : Below w.heap.size w w3 := (Bl.alloc hbw _).grown g3 (by have := hbw.size; simp; omega) (fun q e => ((hown.alloc (.cells #[.string (s.extract p k)] 9)).lt q e).1)
            go_roundw
            case rel =>
              obtain ⟨e1, e2⟩ := cut_blank hkS (by rw [← HL.out]; exact h9) hI.out HN.out
              refine ⟨k + 1, k + 1, L ++ [((S.take k).drop p)], by go_num, by go_num, own_cast h3 (by simp) ?_, Or.inl ⟨by omega, by rw [e1, ← HL.out], fun _ => e2⟩, b3⟩
              rw [extract_part, HSS.out]; simp [strV]
            case measure => simp [intOf]; omega
        · obtain rfl : k = s.size := by omega
          have tok : True := trivial
          go_wp2_with (at_builtin; have tik := tok; clear tik tok; refine wpList_append_own _ rfl _ _ 62 rfl w.heap.size 9 i0 (.string ⟨#[]⟩) 1 16 Tryd.underlying62 hi hz0 hz1 hz2 rfl (by decide) _ _ _ rfl (hown.alloc _) ⟨wr.heap.size, 0, none⟩ 1 1 [.string (s.extract p s.size)] rfl rfl (cell_one_new _ _ _) (by simp [Value.oneCell']) (by unfold maxLen; omega) (by omega) (by have := hbw.size; simp; omega) ?_; intro v2 w3 h3 g3 _)
          have b3 : Below w.heap.size w w3 := (Bl.alloc hbw _).grown g3 (by have := hbw.size; simp; omega) (fun q e => ((hown.alloc (.cells #[.string (s.extract p s.size)] 9)).lt q e).1)
          go_roundw
          case rel =>
            have e9 : (cutAt S S.length).1.length < 9 := by have := HL.out; rw [HSZ.out] at this; rw [← this]; exact h9
            refine ⟨s.size + 1, s.size + 1, L ++ [(S.drop p)], by go_num, by go_num, own_cast h3 (by simp) ?_, Or.inr ⟨rfl, ?_⟩, b3⟩
            · rw [extract_part, HSS.out, HSZ.out, List.take_length]; simp [strV]
            · rw [cut_end e9 (by have := hI.out; rwa [HSZ.out] at this), ← HSZ.out, ← HL.out]
          case measure => simp [intOf]
      · have h9' : (9 : Int) ≤ (L.length : Int) := by omega
        have hk' : (k : Int) ≤ (s.size : Int) := by omega
        have hfin : L = cutL S := by rw [hL] at h9 ⊢; exact (cut_full S k h9).symm
        have HF := Lib.hid hfin
        clear hinv hL hst h9 hfin
        go_wp2
        go_ret
        exact ⟨_, rfl, by rw [← HF.out]; exact hown, hbw⟩
    · have hfin : L = cutL S := by
        rcases hst with h | h
        · exact absurd h.1 hk
        · exact h.2
      have hk' : (s.size : Int) < (k : Int) := by omega
      have HF := Lib.hid hfin
      clear hst hk hfin
      go_wp2
      go_ret
      exact ⟨_, rfl, by rw [← HF.out]; exact hown, hbw⟩

/-! ### A part as a number -/
def numR (L : List (List UInt8)) (p r : Nat) : Int := if p < L.length ∧ r ≤ (L.getD p []).length then atoiV ((L.getD p []).drop r) else 0

set_option maxHeartbeats 800000 in
set_option maxRecDepth 100000 in
theorem number_walk {B : Nat} {v : Value} {L : List (List UInt8)} {w : World} (h : w.ownsRow B 9 1 v L.length (L.map strV)) (hl : L.length ≤ 9) (hx : ∀ x ∈ L, x.length ≤ 4000) (he : Env w) (p r : Nat) (hp : p ≤ 9) (hr : r ≤ 1) :
    Calls Tryd.prog 48 #[v, .int .i64 p, .int .i64 r] w fun e w' => e = .returned (.int .i64 (numR L p r)) ∧ Below w.heap.size w w' := by
  obtain ⟨sa, sc, rfl⟩ := own_form h
  have hp0 : (0 : Int) ≤ p := by omega
  by_cases h1 : p < L.length
  · have hsa : ∃ g, sa = some ⟨g, 0, none⟩ := by
      rcases h.2 with ⟨_, hx⟩ | ⟨g, cap, cur, hv, _⟩
      · have : L = [] := by simpa using hx
        subst this; simp at h1
      · simp at hv; exact ⟨g, hv.1⟩
    obtain ⟨g, rfl⟩ := hsa
    have hc : w.cell? ⟨g, p, none⟩ = some (strV (L.getD p [])) := by
      rw [h.cellAt p (by omega)]; simp [List.getD, List.getElem?_eq_getElem h1]
    have hX : (L.getD p []).length ≤ 4000 := hx _ (by simp [List.getD, List.getElem?_eq_getElem h1])
    generalize hy : L.getD p [] = y at *
    have h1' : (p : Int) < (L.length : Int) := by omega
    by_cases h2 : r ≤ y.length
    · have e : numR L p r = atoiV (y.drop r) := by unfold numR; rw [hy, if_pos ⟨h1, h2⟩]
      rw [e]
      have hv : atoiV (({ data := y.toArray } : ByteArray).extract r y.length).data.toList = atoiV (y.drop r) := by
        rw [Lib.extract_data]; simp only []; rw [List.take_of_length_le (by simp)]
      have HV := Lib.hid hv
      have hc' : w.cell? ⟨g, p, none⟩ = some (.string ⟨y.toArray⟩) := hc
      have hz : (⟨y.toArray⟩ : ByteArray).size = y.length := by show y.toArray.size = _; simp
      have hr' : (r : Int) ≤ (y.length : Int) := by omega
      have hr0 : (0 : Int) ≤ (r : Int) := by omega
      clear hc hv e
      go_enter Tryd.func48, Tryd.ntmps48
      go_wp2_with (go_at_call 45; refine (atoi_any (({ data := y.toArray } : ByteArray).extract r y.length) (by rw [ByteArray.size_extract]; omega) _ he).mono ?_; rw [HV.out]; rintro e w1 ⟨ev, rfl, hb1⟩)
      go_ret
      refine ⟨rfl, ?_⟩
      repeat (first | exact Below.refl _ _ | refine Bl.drew ?_ | refine Bl.drewN ?_ _ | refine Bl.alloc ?_ _ | refine Bl.step ?_ (by assumption))
    · have e : numR L p r = 0 := by unfold numR; rw [hy, if_neg (by omega)]
      rw [e]
      have hc' : w.cell? ⟨g, p, none⟩ = some (.string ⟨y.toArray⟩) := hc
      have hz : (⟨y.toArray⟩ : ByteArray).size = y.length := by show y.toArray.size = _; simp
      have hr' : (y.length : Int) < (r : Int) := by omega
      clear hc e
      go_enter Tryd.func48, Tryd.ntmps48
      go_wp2
      go_ret
      refine ⟨rfl, ?_⟩
      repeat (first | exact Below.refl _ _ | refine Bl.drew ?_ | refine Bl.drewN ?_ _ | refine Bl.alloc ?_ _ | refine Bl.step ?_ (by assumption))
  · have e : numR L p r = 0 := by unfold numR; rw [if_neg (by omega)]
    rw [e]
    have h1' : (L.length : Int) ≤ (p : Int) := by omega
    go_enter Tryd.func48, Tryd.ntmps48
    go_wp2
    go_ret
    refine ⟨rfl, ?_⟩
    repeat (first | exact Below.refl _ _ | refine Bl.drew ?_ | refine Bl.drewN ?_ _ | refine Bl.alloc ?_ _ | refine Bl.step ?_ (by assumption))

end Go.Proofs.YtnkkomodpjgefaaDoor
