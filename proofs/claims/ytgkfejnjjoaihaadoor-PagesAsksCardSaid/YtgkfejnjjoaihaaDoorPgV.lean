/- Spaces; Drop. -/
import Derived.Test.YtgkfejnjjoaihaaDoorPgT
import Derived.OwnWalk
namespace Go.Proofs.YtgkfejnjjoaihaaDoor
open Go.RowKit

theorem Tryd.infoI : (Tryd.prog.info? 3).map (fun i => (i.zero, i.size, i.bytes)) = some (some (.int .i64 0), 1, 8) := by kernel_rfl
def intV (x : Int) : Value := .int .i64 x
theorem owns_base {w : World} {base base' : Nat} {e : TypeId} {size : Nat} {v : Value} {n : Nat} {xs : List Value} (h : w.ownsRow base e size v n xs) (hb : base' ≤ base) : w.ownsRow base' e size v n xs := by
  obtain ⟨h1, h2 | ⟨g, cap, cur, h3, h4, h5⟩⟩ := h
  · exact ⟨h1, .inl h2⟩
  · exact ⟨h1, .inr ⟨g, cap, cur, h3, Nat.le_trans hb h4, h5⟩⟩
theorem owns_below {w w' : World} {base B : Nat} {e : TypeId} {size : Nat} {v : Value} {n : Nat} {xs : List Value} (h : w.ownsRow base e size v n xs) (hb : Below B w w') (hB : w.heap.size ≤ B) : w'.ownsRow base e size v n xs := by
  obtain ⟨h1, h2 | ⟨g, cap, cur, h3, h4, h5, h6⟩⟩ := h
  · exact ⟨h1, .inl h2⟩
  · exact ⟨h1, .inr ⟨g, cap, cur, h3, h4, (hb.block g (Nat.lt_of_lt_of_le (Array.getElem?_eq_some_iff.1 h5).1 hB)).trans h5, h6⟩⟩
theorem owns_turned {w w' : World} {base : Nat} {e : TypeId} {size : Nat} {v : Value} {n : Nat} {xs : List Value} {gs : List Nat} (h : w.ownsRow base e size v n xs) (hb : Turned w w' gs) (hg : ∀ g ∈ gs, g < base) : w'.ownsRow base e size v n xs := by
  obtain ⟨h1, h2 | ⟨g, cap, cur, h3, h4, h5, h6⟩⟩ := h
  · exact ⟨h1, .inl h2⟩
  · exact ⟨h1, .inr ⟨g, cap, cur, h3, h4, (hb.block g (Array.getElem?_eq_some_iff.1 h5).1 (fun hm => by have := hg g hm; omega)).trans h5, h6⟩⟩
def picked (p : Nat → Bool) (f : Nat → Int) (k : Nat) : List Int := ((List.range k).filter p).map f
theorem picked_succ (p : Nat → Bool) (f : Nat → Int) (k : Nat) : picked p f (k + 1) = picked p f k ++ (if p k then [f k] else []) := by
  unfold picked
  rw [List.range_succ, List.filter_append, List.map_append]
  congr 1
  by_cases h : p k = true
  · rw [if_pos h]; simp [h]
  · simp [h]
theorem picked_len (p : Nat → Bool) (f : Nat → Int) (k : Nat) : (picked p f k).length ≤ k := by
  unfold picked; rw [List.length_map]; exact Nat.le_trans (List.length_filter_le _ _) (by simp)

def spacesL (T : Tb) : List Int := picked (fun j => anyT T j) (fun j => j) 16
set_option maxRecDepth 100000 in
set_option maxHeartbeats 1000000 in
theorem spaces_any {w : World} {t b N : Nat} {T : Tb} (h : PT w t b N T) :
    Calls Tryd.prog 30 #[.pointer (some ⟨t, 0, none⟩)] w fun e w' => ∃ v : Value, e = .returned v ∧ w'.ownsRow w.heap.size 3 1 v (spacesL T).length ((spacesL T).map intV) ∧ Below w.heap.size w w' := by
  obtain ⟨i0, hi, hz0, hz1, hz2⟩ := info_parts Tryd.infoI
  have H := Lib.hid h
  clear h
  unfold spacesL
  obtain ⟨p, hp⟩ : ∃ p : Nat → Bool, p = fun j : Nat => anyT T j := ⟨_, rfl⟩
  have HP := Lib.hid hp
  rw [← hp]
  clear hp
  go_enter Tryd.func30, Tryd.ntmps30
  go_wp2_with fail
  go_loopw [3, 5] (fun v x wr => ∃ k : Nat, k ≤ 16 ∧ x = .int .i64 k ∧ wr.ownsRow w.heap.size 3 1 v (picked p (fun j => j) k).length ((picked p (fun j => j) k).map intV) ∧ Below w.heap.size w wr)
    (fun _ x _ => 16 - (intOf x).toNat)
  case atStart => exact ⟨0, Nat.zero_le _, rfl, ⟨rfl, .inl ⟨rfl, rfl⟩⟩, Below.refl _ _⟩
  case round =>
    obtain ⟨k, hk, rfl, hrow, hbl⟩ := hrel
    have HR := Lib.hid hrow
    have HB := Lib.hid hbl
    clear hrow hbl
    by_cases hlt : k < 16
    · have hlt' : (k : Int) < 16 := by omega
      have hlen := picked_len p (fun j => j) k
      obtain ⟨pk, hpk⟩ : ∃ pk, anyT T k = pk := ⟨_, rfl⟩
      have HPK := Lib.hid (show p k = pk by rw [HP.out]; exact hpk)
      have HC := Lib.hid (any_any (H.out.step HB.out) k)
      rw [hpk] at HC
      clear hpk
      cases pk with
      | false =>
        go_wp2_with (go_at_call 53; refine HC.out.mono ?_; rintro e w1 ⟨rfl, hb1⟩; have HB1 := Lib.hid hb1; clear hb1)
        go_roundw
        case rel =>
          refine ⟨k + 1, hlt, by go_num, ?_, HB.out.trans (HB1.out.mono HB.out.size)⟩
          rw [picked_succ, HPK.out]
          simpa using owns_below HR.out HB1.out (Nat.le_refl _)
        case measure => simp [intOf]; omega
      | true =>
        go_wp2_with (first
          | (go_at_call 53; refine HC.out.mono ?_; rintro e w1 ⟨rfl, hb1⟩; have HB1 := Lib.hid hb1; have HR1 := Lib.hid (owns_below HR.out hb1 (Nat.le_refl _)); clear hb1)
          | (at_builtin; refine wpList_append_own _ rfl _ _ 73 rfl w.heap.size 3 i0 (.int .i64 0) 1 8 Tryd.underlying73 hi hz0 hz1 hz2 rfl (by decide) _ _ _ rfl (HR1.out.alloc _) ⟨_, 0, none⟩ 1 1 [intV k] rfl rfl (cell_one_new _ _ _) (by simp [Value.oneCell', intV]) (by unfold maxLen; omega) (by omega) (by have h1 := HB.out.size; have h2 := HB1.out.size; simp; omega) ?_; intro v' w3 hown' hg3 hnil3; try go_frame))
        go_roundw
        case rel =>
          refine ⟨k + 1, hlt, by go_num, ?_, ?_⟩
          · rw [picked_succ, HPK.out, if_pos rfl, List.length_append, List.map_append]; exact hown'
          · have hb2 := (HB.out.trans (HB1.out.mono HB.out.size)).alloc (by have h1 := HB.out.size; have h2 := HB1.out.size; omega) (.cells #[.int .i64 k] 3)
            exact hb2.grown hg3 (by have h1 := HB.out.size; have h2 := HB1.out.size; simp; omega) (fun j hj => (HR1.out.lt j hj).1)
        case measure => simp [intOf]; omega
    · obtain rfl : k = 16 := by omega
      go_wp2_with fail
      go_ret
      exact ⟨_, rfl, HR.out, HB.out⟩

/-- What was there at the beginning stays, where a later step keeps it. -/
theorem Turned.trans2 {w w1 w2 : World} {gs : List Nat} (h : Turned w w1 gs) (k : (w2.os = w1.os) ∧ (w2.tape = w1.tape) ∧ (w2.output = w1.output) ∧ w1.heap.size ≤ w2.heap.size ∧ ∀ j, j < w.heap.size → j ∉ gs → w2.heap[j]? = w1.heap[j]?) : Turned w w2 gs :=
  ⟨k.1.trans h.os, k.2.1.trans h.tape, k.2.2.1.trans h.output, Nat.le_trans h.size k.2.2.2.1, fun j hj hn => (k.2.2.2.2 j hj hn).trans (h.block j hj hn)⟩

/-! ### Drop -/
theorem Tryd.fEntry (a b c d : Value) (w : World) : (Instr.field 38 (.agg #[a, b, c, d]) 0).run Tryd.prog w = .ok a w := by kernel_rfl
def dropK (T : Tb) (s k : Nat) : Tb := fun i j => if i = s ∧ j < k then nilE else T i j
def dropL (T : Tb) (s k : Nat) : List Int := picked (fun p => (T s p).is) (fun p => (T s p).fr) k
theorem dropK_zero (T : Tb) (s : Nat) : dropK T s 0 = T := by funext i j; simp [dropK]
theorem dropK_at (T : Tb) (s k : Nat) : dropK T s k s k = T s k := by simp [dropK]
theorem dropK_take (T : Tb) (s k : Nat) : setT (dropK T s k) s k nilE = dropK T s (k + 1) := by
  funext i j
  unfold setT dropK
  by_cases h : i = s ∧ j = k
  · rw [if_pos h, if_pos ⟨h.1, by omega⟩]
  · rw [if_neg h]
    by_cases h2 : i = s ∧ j < k
    · rw [if_pos h2, if_pos ⟨h2.1, by omega⟩]
    · rw [if_neg h2, if_neg (by omega)]
theorem dropK_none {T : Tb} (hT : TbOk T) {s k : Nat} (h : (T s k).is = false) : dropK T s k = dropK T s (k + 1) := by
  funext i j
  unfold dropK
  by_cases h2 : i = s ∧ j < k
  · rw [if_pos h2, if_pos ⟨h2.1, by omega⟩]
  · by_cases h3 : i = s ∧ j < k + 1
    · rw [if_neg h2, if_pos h3]
      obtain ⟨rfl, h4⟩ := h3
      obtain rfl : j = k := by omega
      exact (hT.ok i j).no h
    · rw [if_neg h2, if_neg h3]
set_option maxRecDepth 100000 in
set_option maxHeartbeats 1000000 in
theorem drop_yes {w : World} {t b N : Nat} {T : Tb} (h : PT w t b N T) (hN : N + 32 < maxLen) (s : Nat) (hs : s < 16) :
    Calls Tryd.prog 41 #[.pointer (some ⟨t, 0, none⟩), .int .i64 s] w fun e w' => ∃ v : Value, e = .returned (.tuple #[v, .int .i64 0]) ∧ w'.ownsRow w.heap.size 3 1 v (dropL T s 32).length ((dropL T s 32).map intV) ∧ PT w' t b (N + 32) (dropK T s 32) ∧ Turned w w' [t, b] := by
  obtain ⟨i0, hi, hz0, hz1, hz2⟩ := info_parts Tryd.infoI
  have H := Lib.hid h
  have HN := Lib.hid hN
  have hsb : spaceB s = true := (spaceB_iff _).2 ⟨by omega, by omega⟩
  have hs' : (s : Int) < 16 := by omega
  have htb : ∀ g ∈ [t, b], g < w.heap.size := fun g hg => by
    have h1 := h.ht; have h2 := h.hb
    simp at hg
    rcases hg with rfl | rfl <;> assumption
  have HTB := Lib.hid htb
  clear h hN htb
  go_enter Tryd.func41, Tryd.ntmps41
  go_wp2_with fail
  go_step3
  go_wp2_with (first
    | (go_at_call 43; refine (there_any H.out).mono ?_; rintro e w' ⟨rfl, rfl⟩)
    | (go_at_call 46; refine (isSpace_any s _).mono ?_; rintro e w' ⟨rfl, rfl⟩))
  go_step3
  go_wp2_with fail
  go_loopw [6, 7] (fun v x wr => ∃ k : Nat, k ≤ 32 ∧ x = .int .i64 k ∧ wr.ownsRow w.heap.size 3 1 v (dropL T s k).length ((dropL T s k).map intV) ∧ PT wr t b (N + k) (dropK T s k) ∧ Turned w wr [t, b])
    (fun _ x _ => 32 - (intOf x).toNat)
  case atStart => exact ⟨0, Nat.zero_le _, rfl, ⟨rfl, .inl ⟨rfl, rfl⟩⟩, by rw [dropK_zero]; exact H.out, Turned.refl _ _⟩
  case round =>
    obtain ⟨k, hk, rfl, hrow, hpt, htu⟩ := hrel
    have HR := Lib.hid hrow
    have HT := Lib.hid htu
    by_cases hlt : k < 32
    · have hlt' : ((k : Int) == 32) = false := by simp; omega
      have hlt2 : (k : Int) < 32 := by omega
      have hlen := picked_len (fun p => (T s p).is) (fun p => (T s p).fr) k
      have hlt3 := hpt.ht
      have c4 := hpt.c4 s k hs hlt
      rw [dropK_at] at c4
      have HP := Lib.hid hpt
      clear hrow hpt htu
      cases hpk : (T s k).is with
      | false =>
        rw [hpk] at c4
        have HPK := Lib.hid hpk
        clear hpk
        go_wp2_with fail
        go_roundw
        case rel =>
          refine ⟨k + 1, hlt, by go_num, ?_, ?_, HT.out⟩
          · unfold dropL; rw [picked_succ, HPK.out]; simpa [dropL] using HR.out
          · rw [← dropK_none H.out.ok HPK.out]; exact HP.out.mono (by omega)
        case measure => simp [intOf]; omega
      | true =>
        rw [hpk] at c4
        have HPK := Lib.hid hpk
        clear hpk
        have HL := Lib.hid (lift_walk HP.out (by have := HN.out; omega) s k hs hlt (by rw [dropK_at]; exact HPK.out))
        rw [dropK_at, dropK_take] at HL
        obtain ⟨E, hE⟩ : ∃ E, T s k = E := ⟨_, rfl⟩
        have HE := Lib.hid hE
        rw [hE] at HL
        clear hE
        unfold entV at HL
        have hfl := Tryd.fEntry
        go_wp2_with (first
          | (go_at_call 58; refine HL.out.mono ?_; rintro e w1 ⟨rfl, hp1, ht1⟩; have HP1 := Lib.hid hp1; have HT1 := Lib.hid ht1; have HR1 := Lib.hid (owns_turned HR.out ht1 HTB.out); clear hp1 ht1)
          | (at_builtin; refine wpList_append_own _ rfl _ _ 73 rfl w.heap.size 3 i0 (.int .i64 0) 1 8 Tryd.underlying73 hi hz0 hz1 hz2 rfl (by decide) _ _ _ rfl (HR1.out.alloc _) ⟨_, 0, none⟩ 1 1 [intV E.fr] rfl rfl (cell_one_new _ _ _) (by simp [Value.oneCell', intV]) (by unfold maxLen dropL; omega) (by unfold dropL; omega) (by have h1 := HT.out.size; have h2 := HT1.out.size; simp; omega) ?_; intro v' w3 hown' hg3 hnil3; try go_frame))
        have hB : w.heap.size ≤ w1.heap.size := Nat.le_trans HT.out.size HT1.out.size
        have hbel : Below w1.heap.size w1 (w1.alloc (.cells #[.int .i64 E.fr] 3)) := (Below.refl _ _).alloc (Nat.le_refl _) _
        have hlow := HR1.out.lt
        have hh := H.out
        go_roundw
        case rel =>
          refine ⟨k + 1, hlt, by go_num, ?_, ?_, ?_⟩
          · unfold dropL; rw [picked_succ, HPK.out, if_pos rfl, List.length_append, List.map_append, HE.out]; exact hown'
          · have hp2 := HP1.out.step hbel
            refine hp2.keep (hg3.block _ hp2.ht (fun e => ?_)) (hg3.block _ hp2.hb (fun e => ?_))
            · have h1 := (hlow _ e.symm).1; have h2 := hh.ht; omega
            · have h1 := (hlow _ e.symm).1; have h2 := hh.hb; omega
          · refine ((HT.out.trans HT1.out).trans (Turned.of_below _ hbel)).trans2 ⟨hg3.os, hg3.tape, hg3.output, hg3.size, fun j hj hn => hg3.block j ?_ (fun e => ?_)⟩
            · simp; omega
            · have h1 := (hlow _ e.symm).1; omega
        case measure => simp [intOf]; omega
    · obtain rfl : k = 32 := by omega
      have HP := Lib.hid hpt
      clear hrow hpt htu
      go_wp2_with fail
      simp only [Exit.noGoto_ret]
      go_ret2
      exact ⟨_, rfl, HR.out, HP.out, HT.out⟩
def dropT (T : Tb) (s : Int) : Tb := if spaceB s then dropK T s.toNat 32 else T
def dropR (T : Tb) (s : Int) : List Int := if spaceB s then dropL T s.toNat 32 else []
def dropE (s : Int) : Int := if spaceB s then 0 else 2
theorem drop_bad {w : World} {t b N : Nat} {T : Tb} (h : PT w t b N T) (s : Int) (hs : spaceB s = false) :
    Calls Tryd.prog 41 #[.pointer (some ⟨t, 0, none⟩), .int .i64 s] w fun e w' => e = .returned (.tuple #[.slice none 0 0, .int .i64 2]) ∧ w = w' := by
  have H := Lib.hid h
  clear h
  go_enter Tryd.func41, Tryd.ntmps41
  go_wp2_with fail
  go_step3
  go_wp2_with (first
    | (go_at_call 43; refine (there_any H.out).mono ?_; rintro e w' ⟨rfl, rfl⟩)
    | (go_at_call 46; refine (isSpace_any s _).mono ?_; rintro e w' ⟨rfl, rfl⟩))
  simp only [Exit.noGoto_ret]
  go_ret2
  exact ⟨rfl, rfl⟩
theorem drop_no {q : Option Addr} {w : World} (hq : Calls Tryd.prog 43 #[.pointer q] w fun e w' => e = .returned (.bool false) ∧ w = w') (s : Int) :
    Calls Tryd.prog 41 #[.pointer q, .int .i64 s] w fun e w' => e = .returned (.tuple #[.slice none 0 0, .int .i64 1]) ∧ w = w' := by
  go_enter Tryd.func41, Tryd.ntmps41
  go_wp2_with fail
  go_step3
  go_wp2_with (go_at_call 43; refine hq.mono ?_; rintro e w' ⟨rfl, rfl⟩)
  simp only [Exit.noGoto_ret]
  go_ret2
  exact ⟨rfl, rfl⟩
/-- Drop. -/
theorem drop_any {w : World} {t b N : Nat} {T : Tb} (h : PT w t b N T) (hN : N + 32 < maxLen) (s : Int) :
    Calls Tryd.prog 41 #[.pointer (some ⟨t, 0, none⟩), .int .i64 s] w fun e w' => ∃ v : Value, e = .returned (.tuple #[v, .int .i64 (dropE s)]) ∧ w'.ownsRow w.heap.size 3 1 v (dropR T s).length ((dropR T s).map intV) ∧ PT w' t b (N + 32) (dropT T s) ∧ Turned w w' [t, b] := by
  unfold dropE dropR dropT
  cases hs : spaceB s with
  | true =>
    obtain ⟨h1, h2⟩ := (spaceB_iff s).1 hs
    obtain ⟨k, rfl⟩ : ∃ k : Nat, s = k := ⟨s.toNat, by omega⟩
    exact drop_yes h hN k (by omega)
  | false =>
    refine (drop_bad h s hs).mono ?_
    rintro e w' ⟨rfl, rfl⟩
    exact ⟨_, rfl, ⟨rfl, .inl ⟨rfl, rfl⟩⟩, h.mono (by omega), Turned.refl _ _⟩
end Go.Proofs.YtgkfejnjjoaihaaDoor
