/- The document's Clear, Pages. -/
import Derived.Test.YtgkfejnjjoaihaaDoorPgQc
namespace Go.Proofs.YtgkfejnjjoaihaaDoor
open Go.RowKit

set_option maxRecDepth 100000 in
set_option maxHeartbeats 1000000 in
theorem q_clear {w : World} {q : Nat} {T : Tb} (h : QT w q T) (s p : Int) :
    Calls Tryd.prog 34 #[.pointer (some ⟨q, 0, none⟩), .int .i64 s, .int .i64 p] w fun e w' => e = .returned (.tuple #[entV (getO T s p), .int .i64 (takE T s p)]) ∧ QT w' q (clearO T s p) ∧ Turned w w' [q] := by
  have H := fun o => Lib.hid (h.step (w' := w.alloc o) ((Below.refl _ w).alloc (Nat.le_refl _) _))
  have hlt := h.lt
  unfold clearO
  by_cases hE : takE T s p = 0
  · obtain ⟨i, j, rfl, rfl, h1, h2, h3⟩ := takE_yes hE
    rw [(getO_yes h1 h2 h3).1, if_pos hE, hE]
    have c0 := h.c0 i j h1 h2
    have c1 := h.c1 i j h1 h2
    have c2 := h.c2 i j h1 h2
    have c3 := h.c3 i j h1 h2
    have c4 := h.c4 i j h1 h2
    have fz := h.row.fz
    have HQ := fun o => Lib.hid (q_ask (H o).out i j 0)
    rw [qE_zero, hE] at HQ
    have h1' : (i : Int) < 16 := by omega
    have h2' : (j : Int) < 32 := by omega
    have ne : (q = w.heap.size) = False := eq_false (Nat.ne_of_lt hlt)
    have ne' : (w.heap.size = q) = False := eq_false (fun e => Nat.ne_of_lt hlt e.symm)
    have ne1 : (q = w.heap.size + 1) = False := eq_false (by omega)
    have ne1' : (w.heap.size + 1 = q) = False := eq_false (by omega)
    obtain ⟨E, hEE⟩ : ∃ E, T i j = E := ⟨_, rfl⟩
    have HH := Lib.hid h
    simp only [Int.toNat_natCast]
    rw [hEE] at c0 c1 c2 c3 c4 ⊢
    clear h hE h3 hEE
    go_enter Tryd.func34, Tryd.ntmps34
    go_wp2_with (go_at_call 55; refine (HQ _).out.mono ?_; rintro e w' ⟨rfl, rfl⟩)
    refine bodyPost_ret (v := .tuple #[entV E, .int .i64 0]) (by simp [results, Tryd.results34, go_sem, entV]) rfl ⟨rfl, ?_, ?_⟩
    · have h1 := HH.out.put i j h1 h2 nilE nilE_ok
      exact ((h1.step ((Below.refl _ _).alloc (Nat.le_refl _) _)).step ((Below.refl _ _).alloc (Nat.le_refl _) _)).keep rfl
    · exact (((((Turned.of_set (by simp) _).trans (Turned.of_set (by simp) _)).trans (Turned.of_set (by simp) _)).trans (Turned.of_set (by simp) _)).trans (Turned.of_set (by simp) _)).trans (Turned.of_below _ ((((Below.refl _ _).alloc (Nat.le_refl _) _).alloc (by simp) _)))
  · rw [(getO_no hE).1, if_neg hE]
    have HQ := fun o => Lib.hid (q_ask (H o).out s p 0)
    rw [qE_zero] at HQ
    have hne : (takE T s p != 0) = true := by simpa using hE
    have HH := Lib.hid h
    clear h hE
    go_enter Tryd.func34, Tryd.ntmps34
    go_wp2_with (go_at_call 55; refine (HQ _).out.mono ?_; rintro e w' ⟨rfl, rfl⟩)
    refine bodyPost_ret (v := .tuple #[entV nilE, .int .i64 (takE T s p)]) (by simp [results, Tryd.results34, go_sem, entV, nilE]) rfl ⟨rfl, ?_, ?_⟩
    · exact HH.out.step ((Below.refl _ w).alloc (Nat.le_refl _) _)
    · exact Turned.of_below _ ((Below.refl _ w).alloc (Nat.le_refl _) _)

/-! ### Pages -/
def pagesL (T : Tb) (s : Int) : List Int := if spaceB s then picked (fun p => (atT T s p).is) (fun p => p) 32 else []
theorem inB_zero (s : Int) : inB s 0 = spaceB s := by unfold inB; simp
set_option maxRecDepth 100000 in
set_option maxHeartbeats 1000000 in
theorem q_pages_no (s : Int) (w : World) : Calls Tryd.prog 56 #[.pointer none, .int .i64 s] w fun e w' => e = .returned (.slice none 0 0) ∧ Below w.heap.size w w' := by
  go_enter Tryd.func56, Tryd.ntmps56
  go_wp2_with fail
  go_loopw [5, 6] (fun v x wr => v = .slice none 0 0 ∧ x = .int .i64 0 ∧ Below w.heap.size w wr) (fun _ _ _ => 0)
  case atStart => exact ⟨rfl, rfl, Below.refl _ _⟩
  case round =>
    obtain ⟨rfl, rfl, hbl⟩ := hrel
    go_wp2_with fail
    go_ret
    exact ⟨rfl, hbl⟩
set_option maxRecDepth 100000 in
set_option maxHeartbeats 1000000 in
theorem q_pages {w : World} {q : Nat} {T : Tb} (h : QT w q T) (s : Int) :
    Calls Tryd.prog 56 #[.pointer (some ⟨q, 0, none⟩), .int .i64 s] w fun e w' => ∃ v : Value, e = .returned v ∧ w'.ownsRow w.heap.size 3 1 v (pagesL T s).length ((pagesL T s).map intV) ∧ Below w.heap.size w w' := by
  by_cases hs : spaceB s = true
  · obtain ⟨i, rfl, hi⟩ : ∃ i : Nat, s = i ∧ i < 16 := ⟨s.toNat, by have := (spaceB_iff s).1 hs; omega, by have := (spaceB_iff s).1 hs; omega⟩
    unfold pagesL
    rw [if_pos hs]
    obtain ⟨i0, hin, hz0, hz1, hz2⟩ := info_parts Tryd.infoI
    have H := Lib.hid h
    have hlt0 := h.lt
    have hin0 : inB i 0 = true := inB_of hi (by decide)
    have hi' : (i : Int) < 16 := by omega
    unfold atT
    simp only [Int.toNat_natCast]
    obtain ⟨p, hp⟩ : ∃ p : Nat → Bool, p = fun j : Nat => (T i j).is := ⟨_, rfl⟩
    have HP := Lib.hid hp
    rw [← hp]
    clear hp h hs
    go_enter Tryd.func56, Tryd.ntmps56
    go_wp2_with fail
    go_loopw [5, 6] (fun v x wr => ∃ k : Nat, k ≤ 32 ∧ x = .int .i64 k ∧ wr.ownsRow w.heap.size 3 1 v (picked p (fun j => j) k).length ((picked p (fun j => j) k).map intV) ∧ Below w.heap.size w wr)
      (fun _ x _ => 32 - (intOf x).toNat)
    case atStart => exact ⟨0, Nat.zero_le _, rfl, ⟨rfl, .inl ⟨rfl, rfl⟩⟩, Below.refl _ _⟩
    case round =>
      obtain ⟨k, hk, rfl, hrow, hbl⟩ := hrel
      have HR := Lib.hid hrow
      have HB := Lib.hid hbl
      have hsz := hbl.size
      clear hrow hbl
      by_cases hlt : k < 32
      · have hlt' : (k : Int) < 32 := by omega
        have hlen := picked_len p (fun j => j) k
        have c0 := (H.out.step HB.out).c0 i k hi hlt
        obtain ⟨pk, hpk⟩ : ∃ pk, (T i k).is = pk := ⟨_, rfl⟩
        have HPK := Lib.hid (show p k = pk by rw [HP.out]; exact hpk)
        rw [hpk] at c0
        clear hpk
        cases pk with
        | false =>
          go_wp2_with (go_at_call 57; refine (q_in _ _ _).mono ?_; rintro e w1 ⟨rfl, rfl⟩; rw [hin0])
          go_roundw
          case rel =>
            refine ⟨k + 1, hlt, by go_num, ?_, HB.out⟩
            rw [picked_succ, HPK.out]
            simpa using HR.out
          case measure => simp [intOf]; omega
        | true =>
          go_wp2_with (first
            | (go_at_call 57; refine (q_in _ _ _).mono ?_; rintro e w1 ⟨rfl, rfl⟩; rw [hin0])
            | (at_builtin; refine wpList_append_own _ rfl _ _ 73 rfl w.heap.size 3 i0 (.int .i64 0) 1 8 Tryd.underlying73 hin hz0 hz1 hz2 rfl (by decide) _ _ _ rfl (HR.out.alloc _) ⟨_, 0, none⟩ 1 1 [intV k] rfl rfl (cell_one_new _ _ _) (by simp [Value.oneCell', intV]) (by unfold maxLen; omega) (by omega) (by have h1 := HB.out.size; simp; omega) ?_; intro v' w3 hown' hg3 hnil3; try go_frame))
          go_roundw
          case rel =>
            refine ⟨k + 1, hlt, by go_num, ?_, ?_⟩
            · rw [picked_succ, HPK.out, if_pos rfl, List.length_append, List.map_append]; exact hown'
            · have hb2 := HB.out.alloc (by have h1 := HB.out.size; omega) (.cells #[.int .i64 k] 3)
              exact hb2.grown hg3 (by have h1 := HB.out.size; simp; omega) (fun j hj => (HR.out.lt j hj).1)
          case measure => simp [intOf]; omega
      · obtain rfl : k = 32 := by omega
        go_wp2_with fail
        go_ret
        exact ⟨_, rfl, HR.out, HB.out⟩
  · have hs' : spaceB s = false := by simpa using hs
    unfold pagesL
    rw [if_neg hs]
    have hin0 : inB s 0 = false := by rw [inB_zero]; exact hs'
    clear h hs
    go_enter Tryd.func56, Tryd.ntmps56
    go_wp2_with fail
    go_loopw [5, 6] (fun v x wr => v = .slice none 0 0 ∧ x = .int .i64 0 ∧ Below w.heap.size w wr) (fun _ _ _ => 0)
    case atStart => exact ⟨rfl, rfl, Below.refl _ _⟩
    case round =>
      obtain ⟨rfl, rfl, hbl⟩ := hrel
      go_wp2_with (go_at_call 57; refine (q_in _ _ _).mono ?_; rintro e w1 ⟨rfl, rfl⟩; rw [hin0])
      go_ret
      exact ⟨_, rfl, ⟨rfl, .inl ⟨rfl, rfl⟩⟩, hbl⟩
end Go.Proofs.YtgkfejnjjoaihaaDoor
