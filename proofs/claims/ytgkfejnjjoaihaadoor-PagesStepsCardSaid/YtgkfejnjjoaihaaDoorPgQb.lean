/- The document's Clean, Ask, Set, Clear. -/
import Derived.Test.YtgkfejnjjoaihaaDoorPgQa
namespace Go.Proofs.YtgkfejnjjoaihaaDoor
open Go.RowKit

set_option maxRecDepth 100000 in
set_option maxHeartbeats 1000000 in
theorem q_clean {w : World} {q : Nat} {T : Tb} (h : QT w q T) (s p : Int) :
    Calls Tryd.prog 39 #[.pointer (some ⟨q, 0, none⟩), .int .i64 s, .int .i64 p] w fun e w' => e = .returned (.tuple #[entV (getO T s p), .int .i64 (takE T s p)]) ∧ QT w' q (cleanO T s p) ∧ Turned w w' [q] := by
  have H := fun o => Lib.hid (h.step (w' := w.alloc o) ((Below.refl _ w).alloc (Nat.le_refl _) _))
  have hlt := h.lt
  unfold cleanO
  by_cases hE : takE T s p = 0
  · obtain ⟨i, j, rfl, rfl, h1, h2, h3⟩ := takE_yes hE
    rw [(getO_yes h1 h2 h3).1, if_pos hE, hE]
    have c0 := h.c0 i j h1 h2
    have c1 := h.c1 i j h1 h2
    have c2 := h.c2 i j h1 h2
    have c3 := h.c3 i j h1 h2
    have c4 := h.c4 i j h1 h2
    have fz := h.row.fz
    have HQ := fun o => Lib.hid (q_ask (H o).out i j 0)
    rw [qE_zero, hE] at HQ
    have h1' : (i : Int) < 16 := by omega
    have h2' : (j : Int) < 32 := by omega
    have ne : (q = w.heap.size) = False := eq_false (Nat.ne_of_lt hlt)
    have ne' : (w.heap.size = q) = False := eq_false (fun e => Nat.ne_of_lt hlt e.symm)
    have ne1 : (q = w.heap.size + 1) = False := eq_false (by omega)
    have ne1' : (w.heap.size + 1 = q) = False := eq_false (by omega)
    obtain ⟨E, hEE⟩ : ∃ E, T i j = E := ⟨_, rfl⟩
    have HE := Lib.hid hEE
    have HI := Lib.hid h3
    have HH := Lib.hid h
    simp only [Int.toNat_natCast]
    unfold atT
    simp only [Int.toNat_natCast]
    rw [hEE] at c0 c1 c2 c3 c4 ⊢
    clear h hE h3 hEE
    go_enter Tryd.func39, Tryd.ntmps39
    go_wp2_with (go_at_call 55; refine (HQ _).out.mono ?_; rintro e w' ⟨rfl, rfl⟩)
    go_region
    all_goals
      go_wp2_with fail
      refine bodyPost_ret (v := .tuple #[entV E, .int .i64 0]) (by simp [results, Tryd.results39, go_sem, entV]) rfl ⟨rfl, ?_, ?_⟩
      · first
          | (have h1 := HH.out.tcwr h1 h2 HI.out false false
             rw [HE.out] at h1
             exact ((h1.step ((Below.refl _ _).alloc (Nat.le_refl _) _)).step ((Below.refl _ _).alloc (Nat.le_refl _) _)).keep rfl)
          | (have h1 := HH.out.wrtc h1 h2 HI.out false false
             rw [HE.out] at h1
             exact ((h1.step ((Below.refl _ _).alloc (Nat.le_refl _) _)).step ((Below.refl _ _).alloc (Nat.le_refl _) _)).keep rfl)
      · exact ((Turned.of_set (by simp) _).trans (Turned.of_set (by simp) _)).trans (Turned.of_below _ ((((Below.refl _ _).alloc (Nat.le_refl _) _).alloc (by simp) _).drew))
  · rw [(getO_no hE).1, if_neg hE]
    have HQ := fun o => Lib.hid (q_ask (H o).out s p 0)
    rw [qE_zero] at HQ
    have hne : (takE T s p != 0) = true := by simpa using hE
    have HH := Lib.hid h
    clear h hE
    go_enter Tryd.func39, Tryd.ntmps39
    go_wp2_with (go_at_call 55; refine (HQ _).out.mono ?_; rintro e w' ⟨rfl, rfl⟩)
    refine bodyPost_ret (v := .tuple #[entV nilE, .int .i64 (takE T s p)]) (by simp [results, Tryd.results39, go_sem, entV, nilE]) rfl ⟨rfl, ?_, ?_⟩
    · exact HH.out.step ((Below.refl _ w).alloc (Nat.le_refl _) _)
    · exact Turned.of_below _ ((Below.refl _ w).alloc (Nat.le_refl _) _)

/-! ### Ask -/
set_option maxRecDepth 100000 in
set_option maxHeartbeats 1000000 in
theorem q_ask_bad {w : World} {q : Nat} {T : Tb} (h : QT w q T) (s : Int) (a : Nat) (r : Int) (hb : (spaceB s && rightB r) = false) :
    Calls Tryd.prog 37 #[.pointer (some ⟨q, 0, none⟩), .int .i64 s, .int .u32 a, .int .i64 r] w fun e w' => e = .returned (.tuple #[.int .i64 0, .int .i64 0, .int .i64 2]) ∧ w = w' := by
  clear h
  by_cases h0 : 0 ≤ s
  · by_cases h1 : s < 16
    · have hs : spaceB s = true := (spaceB_iff s).2 ⟨h0, h1⟩
      rw [hs] at hb
      have h1 : (r != 1) = true := by unfold rightB at hb; simp at hb; simp; omega
      have h2 : (r != 2) = true := by unfold rightB at hb; simp at hb; simp; omega
      have h4 : (r != 4) = true := by unfold rightB at hb; simp at hb; simp; omega
      clear hb hs
      go_enter Tryd.func37, Tryd.ntmps37
      go_wp2_with fail
      go_ret3
      exact ⟨rfl, rfl⟩
    · clear hb
      go_enter Tryd.func37, Tryd.ntmps37
      go_wp2_with fail
      go_ret3
      exact ⟨rfl, rfl⟩
  · clear hb
    go_enter Tryd.func37, Tryd.ntmps37
    go_wp2_with fail
    go_ret3
    exact ⟨rfl, rfl⟩
set_option maxRecDepth 100000 in
set_option maxHeartbeats 1000000 in
theorem q_ask_far {w : World} {q : Nat} {T : Tb} (h : QT w q T) (s : Nat) (a g : Nat) (r : Int) (ha : a < 4294967296) (hs : s < 16) (hg : a / 256 = g) (hr : rightB r = true) (hE : takE T s g ≠ 0) :
    Calls Tryd.prog 37 #[.pointer (some ⟨q, 0, none⟩), .int .i64 s, .int .u32 a, .int .i64 r] w fun e w' => e = .returned (.tuple #[.int .i64 0, .int .i64 0, .int .i64 10]) ∧ w = w' := by
  have hs' : (s : Int) < 16 := by omega
  have hg' : (a : Int) / 256 = (g : Int) := by omega
  unfold rightB at hr
  have hr3 : r = 1 ∨ r = 2 ∨ r = 4 := by simpa [or_assoc] using hr
  have hlt := h.lt
  by_cases hp : g < 32
  · have hi : (T s g).is = false := by
      rw [takE_of hs hp] at hE
      cases hx : (T s g).is with
      | false => rfl
      | true => simp [hx] at hE
    have c0 := h.c0 s g hs hp
    rw [hi] at c0
    have hp' : (g : Int) < 32 := by omega
    clear h hE hi hr hg
    rcases hr3 with rfl | rfl | rfl <;>
    · go_enter Tryd.func37, Tryd.ntmps37
      go_wp2_with fail
      go_ret3
      exact ⟨rfl, rfl⟩
  · have hp' : (32 : Int) ≤ g := by omega
    clear h hE hr hg
    rcases hr3 with rfl | rfl | rfl <;>
    · go_enter Tryd.func37, Tryd.ntmps37
      go_wp2_with fail
      go_ret3
      exact ⟨rfl, rfl⟩
set_option maxRecDepth 100000 in
set_option maxHeartbeats 1000000 in
theorem q_ask_right {w : World} {q : Nat} {T : Tb} (h : QT w q T) (s : Nat) (a g : Nat) (r : Int) (ha : a < 4294967296) (hs : s < 16) (hg : a / 256 = g) (hp : g < 32) (hr : rightB r = true) (hi : (T s g).is = true) (hb : bits .and .i64 (T s g).ri r = 0) :
    Calls Tryd.prog 37 #[.pointer (some ⟨q, 0, none⟩), .int .i64 s, .int .u32 a, .int .i64 r] w fun e w' => e = .returned (.tuple #[.int .i64 0, .int .i64 0, .int .i64 8]) ∧ Below w.heap.size w w' := by
  have hs' : (s : Int) < 16 := by omega
  have hp' : (g : Int) < 32 := by omega
  have hg' : (a : Int) / 256 = (g : Int) := by omega
  unfold rightB at hr
  have hr3 : r = 1 ∨ r = 2 ∨ r = 4 := by simpa [or_assoc] using hr
  have hlt := h.lt
  have c0 := h.c0 s g hs hp
  have c1 := h.c1 s g hs hp
  have c2 := h.c2 s g hs hp
  have c3 := h.c3 s g hs hp
  have c4 := h.c4 s g hs hp
  rw [hi] at c0
  obtain ⟨E, hE⟩ : ∃ E, T s g = E := ⟨_, rfl⟩
  rw [hE] at c1 c2 c3 c4 hb
  clear h hi hr hg hE
  rcases hr3 with rfl | rfl | rfl <;>
  · go_enter Tryd.func37, Tryd.ntmps37
    go_wp2_with fail
    go_ret3
    exact ⟨rfl, (Below.refl _ w).alloc (Nat.le_refl _) _⟩
set_option maxRecDepth 100000 in
set_option maxHeartbeats 1000000 in
theorem q_ask_yes {w : World} {q : Nat} {T : Tb} (h : QT w q T) (s : Nat) (a g : Nat) (r : Int) (ha : a < 4294967296) (hs : s < 16) (hg : a / 256 = g) (hp : g < 32) (hr : rightB r = true) (hi : (T s g).is = true) (hb : (bits .and .i64 (T s g).ri r == 0) = false) :
    Calls Tryd.prog 37 #[.pointer (some ⟨q, 0, none⟩), .int .i64 s, .int .u32 a, .int .i64 r] w fun e w' =>
      e = .returned (.tuple #[.int .i64 (T s g).fr, .int .i64 (a % 256 : Nat), .int .i64 0]) ∧ QT w' q (setT T s g (touchE (T s g) true ((T s g).wr || decide (r = 2)))) ∧ Turned w w' [q] := by
  have hs' : (s : Int) < 16 := by omega
  have hp' : (g : Int) < 32 := by omega
  have hg' : (a : Int) / 256 = (g : Int) := by omega
  have HA := Lib.hid (show (a : Int) % 256 = ((a % 256 : Nat) : Int) by omega)
  unfold rightB at hr
  have hr3 : r = 1 ∨ r = 2 ∨ r = 4 := by simpa [or_assoc] using hr
  have hlt := h.lt
  have fz := h.row.fz
  have c0 := h.c0 s g hs hp
  have c1 := h.c1 s g hs hp
  have c2 := h.c2 s g hs hp
  have c3 := h.c3 s g hs hp
  have c4 := h.c4 s g hs hp
  have ne : (q = w.heap.size) = False := eq_false (Nat.ne_of_lt hlt)
  have ne' : (w.heap.size = q) = False := eq_false (fun e => Nat.ne_of_lt hlt e.symm)
  have H := Lib.hid h
  have HI := Lib.hid hi
  rw [hi] at c0
  obtain ⟨E, hE⟩ : ∃ E, T s g = E := ⟨_, rfl⟩
  have HE := Lib.hid hE
  rw [hE] at c1 c2 c3 c4 hb ⊢
  clear h hi hr hg hE
  have HF := Lib.hid (show ∀ o : Obj, QT ((w.setCell ⟨q, s * 160 + g * 5 + 3, none⟩ (.bool true)).alloc o) q (setT T s g (touchE E true E.wr)) from fun o => by
    have h1 := H.out.tc hs hp HI.out true
    rw [HE.out] at h1
    exact h1.step ((Below.refl _ _).alloc (Nat.le_refl _) _))
  have HF2 := Lib.hid (show ∀ (d : Bool) (o : Obj), QT (((w.setCell ⟨q, s * 160 + g * 5 + 3, none⟩ (.bool true)).setCell ⟨q, s * 160 + g * 5 + 4, none⟩ (.bool d)).alloc o) q (setT T s g (touchE E true d)) from fun d o => by
    have h1 := H.out.tcwr hs hp HI.out true d
    rw [HE.out] at h1
    exact h1.step ((Below.refl _ _).alloc (Nat.le_refl _) _))
  rcases hr3 with rfl | rfl | rfl
  · go_enter Tryd.func37, Tryd.ntmps37
    go_wp2_with fail
    go_ret3
    rw [HA.out]
    refine ⟨rfl, by simpa using HF.out _, (Turned.of_set (by simp) _).trans (Turned.of_below _ ((Below.refl _ _).alloc (Nat.le_refl _) _))⟩
  · go_enter Tryd.func37, Tryd.ntmps37
    go_wp2_with fail
    go_ret3
    rw [HA.out]
    refine ⟨rfl, by simpa using HF2.out true _, ((Turned.of_set (by simp) _).trans (Turned.of_set (by simp) _)).trans (Turned.of_below _ ((Below.refl _ _).alloc (Nat.le_refl _) _))⟩
  · go_enter Tryd.func37, Tryd.ntmps37
    go_wp2_with fail
    go_ret3
    rw [HA.out]
    refine ⟨rfl, by simpa using HF.out _, (Turned.of_set (by simp) _).trans (Turned.of_below _ ((Below.refl _ _).alloc (Nat.le_refl _) _))⟩
end Go.Proofs.YtgkfejnjjoaihaaDoor
