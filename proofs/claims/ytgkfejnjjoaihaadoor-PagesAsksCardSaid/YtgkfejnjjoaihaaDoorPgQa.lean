/- The document's table: in, ask, Get, Rights, Clean, Ask, Set, Clear. -/
import Derived.Test.YtgkfejnjjoaihaaDoorPgK
namespace Go.Proofs.YtgkfejnjjoaihaaDoor
open Go.RowKit

/-- The document's table in memory. -/
structure QT (w : World) (q : Nat) (T : Tb) : Prop where
  ok : TbOk T
  row : RowIs cvD w q 70 [] T
section
variable {w w' : World} {q : Nat} {T : Tb}
theorem QT.lt (h : QT w q T) : q < w.heap.size := h.row.lt
theorem QT.keep (h : QT w q T) (e : w'.heap[q]? = w.heap[q]?) : QT w' q T := ⟨h.ok, h.row.keep e⟩
theorem QT.step (h : QT w q T) (hb : Below w.heap.size w w') : QT w' q T := h.keep (hb.block _ h.lt)
theorem QT.other {gs : List Nat} (h : QT w q T) (hb : Turned w w' gs) (h1 : q ∉ gs) : QT w' q T := h.keep (hb.block _ h.lt h1)
theorem QT.fresh (h : QT w q T) {n o : Nat} (ht : q ≠ n) (v : Value) : QT (w.setCell ⟨n, o, none⟩ v) q T := h.keep (Below.heap_setCell _ _ _ _ ht)
theorem QT.c0 (h : QT w q T) (s p : Nat) (hs : s < 16) (hp : p < 32) : w.cell? ⟨q, s * 160 + p * 5, none⟩ = some (.bool (T s p).is) := h.row.cell s p 0 hs hp (by omega)
theorem QT.c1 (h : QT w q T) (s p : Nat) (hs : s < 16) (hp : p < 32) : w.cell? ⟨q, s * 160 + p * 5 + 1, none⟩ = some (.int .i64 (T s p).fr) := h.row.cell s p 1 hs hp (by omega)
theorem QT.c2 (h : QT w q T) (s p : Nat) (hs : s < 16) (hp : p < 32) : w.cell? ⟨q, s * 160 + p * 5 + 2, none⟩ = some (.int .i64 (T s p).ri) := h.row.cell s p 2 hs hp (by omega)
theorem QT.c3 (h : QT w q T) (s p : Nat) (hs : s < 16) (hp : p < 32) : w.cell? ⟨q, s * 160 + p * 5 + 3, none⟩ = some (.bool (T s p).tc) := h.row.cell s p 3 hs hp (by omega)
theorem QT.c4 (h : QT w q T) (s p : Nat) (hs : s < 16) (hp : p < 32) : w.cell? ⟨q, s * 160 + p * 5 + 4, none⟩ = some (.bool (T s p).wr) := h.row.cell s p 4 hs hp (by omega)
theorem QT.ri (h : QT w q T) {s p : Nat} (hs : s < 16) (hp : p < 32) (hi : (T s p).is = true) (r : Int) (h0 : 0 ≤ r) (h1 : r ≤ 7) : QT (w.setCell ⟨q, s * 160 + p * 5 + 2, none⟩ (.int .i64 r)) q (setT T s p (rightsE (T s p) r)) :=
  ⟨h.ok.set hs hp ⟨(h.ok.ok s p).f0, (h.ok.ok s p).f1, h0, by show r < 8; omega, fun hn => by have : (T s p).is = false := hn; rw [hi] at this; cases this⟩, h.row.set s p 2 hs hp (by omega) _ _ rfl (fun m' h1 h2 => by unfold cvD rightsE; simp [h2])⟩
theorem QT.tc (h : QT w q T) {s p : Nat} (hs : s < 16) (hp : p < 32) (hi : (T s p).is = true) (c : Bool) : QT (w.setCell ⟨q, s * 160 + p * 5 + 3, none⟩ (.bool c)) q (setT T s p (touchE (T s p) c (T s p).wr)) :=
  ⟨h.ok.set hs hp ⟨(h.ok.ok s p).f0, (h.ok.ok s p).f1, (h.ok.ok s p).r0, (h.ok.ok s p).r1, fun hn => by have : (T s p).is = false := hn; rw [hi] at this; cases this⟩, h.row.set s p 3 hs hp (by omega) _ _ rfl (fun m' h1 h2 => by unfold cvD touchE; simp [h2])⟩
theorem QT.wr (h : QT w q T) {s p : Nat} (hs : s < 16) (hp : p < 32) (hi : (T s p).is = true) (c : Bool) : QT (w.setCell ⟨q, s * 160 + p * 5 + 4, none⟩ (.bool c)) q (setT T s p (touchE (T s p) (T s p).tc c)) :=
  ⟨h.ok.set hs hp ⟨(h.ok.ok s p).f0, (h.ok.ok s p).f1, (h.ok.ok s p).r0, (h.ok.ok s p).r1, fun hn => by have : (T s p).is = false := hn; rw [hi] at this; cases this⟩, h.row.set s p 4 hs hp (by omega) _ _ rfl (fun m' h1 h2 => by rcases (show m' = 0 ∨ m' = 1 ∨ m' = 2 ∨ m' = 3 by omega) with rfl | rfl | rfl | rfl <;> rfl)⟩
theorem QT.tcwr (h : QT w q T) {s p : Nat} (hs : s < 16) (hp : p < 32) (hi : (T s p).is = true) (c d : Bool) :
    QT ((w.setCell ⟨q, s * 160 + p * 5 + 3, none⟩ (.bool c)).setCell ⟨q, s * 160 + p * 5 + 4, none⟩ (.bool d)) q (setT T s p (touchE (T s p) c d)) := by
  have h1 := h.tc hs hp hi c
  have h2 := h1.wr (s := s) (p := p) hs hp (by rw [setT_same]; exact hi) d
  rw [setT_setT, setT_same] at h2
  exact h2
theorem QT.wrtc (h : QT w q T) {s p : Nat} (hs : s < 16) (hp : p < 32) (hi : (T s p).is = true) (c d : Bool) :
    QT ((w.setCell ⟨q, s * 160 + p * 5 + 4, none⟩ (.bool d)).setCell ⟨q, s * 160 + p * 5 + 3, none⟩ (.bool c)) q (setT T s p (touchE (T s p) c d)) := by
  have h1 := h.wr hs hp hi d
  have h2 := h1.tc (s := s) (p := p) hs hp (by rw [setT_same]; exact hi) c
  rw [setT_setT, setT_same] at h2
  exact h2
theorem QT.put (h : QT w q T) (s p : Nat) (hs : s < 16) (hp : p < 32) (e : Ent) (he : EntOk e) :
    QT (((((w.setCell ⟨q, s * 160 + p * 5, none⟩ (.bool e.is)).setCell ⟨q, s * 160 + p * 5 + 1, none⟩ (.int .i64 e.fr)).setCell ⟨q, s * 160 + p * 5 + 2, none⟩ (.int .i64 e.ri)).setCell ⟨q, s * 160 + p * 5 + 3, none⟩ (.bool e.tc)).setCell ⟨q, s * 160 + p * 5 + 4, none⟩ (.bool e.wr)) q (setT T s p e) := by
  refine ⟨h.ok.set hs hp he, ?_⟩
  have h0 := h.row.set s p 0 hs hp (by omega) { T s p with is := e.is } _ rfl (fun m' _ h2 => by unfold cvD; simp [h2])
  have h1 := h0.set s p 1 hs hp (by omega) { T s p with is := e.is, fr := e.fr } _ rfl (fun m' _ h2 => by rw [setT_same]; unfold cvD; simp [h2])
  have h2 := h1.set s p 2 hs hp (by omega) { T s p with is := e.is, fr := e.fr, ri := e.ri } _ rfl (fun m' _ h2 => by rw [setT_same]; unfold cvD; simp [h2])
  have h3 := h2.set s p 3 hs hp (by omega) { T s p with is := e.is, fr := e.fr, ri := e.ri, tc := e.tc } _ rfl (fun m' _ h2 => by rw [setT_same]; unfold cvD; simp [h2])
  have h4 := h3.set s p 4 hs hp (by omega) e _ rfl (fun m' h1 h2 => by rw [setT_same]; unfold cvD; rcases (show m' = 0 ∨ m' = 1 ∨ m' = 2 ∨ m' = 3 by omega) with rfl | rfl | rfl | rfl <;> rfl)
  simp only [setT_setT] at h4
  exact h4
end

theorem q_in (s p : Int) (w : World) : Calls Tryd.prog 57 #[.int .i64 s, .int .i64 p] w fun e w' => e = .returned (.bool (inB s p)) ∧ w = w' := by
  by_cases h1 : 0 ≤ s
  · by_cases h2 : s < 16
    · by_cases h3 : 0 ≤ p
      · have e : inB s p = decide (p < 32) := by simp [inB, spaceB, h1, h2, h3]
        rw [e]; clear e
        go_enter Tryd.func57, Tryd.ntmps57
        go_wp2_with fail
        go_ret
        exact ⟨rfl, rfl⟩
      · have e : inB s p = false := by simp [inB, spaceB, h3]
        rw [e]; clear e
        go_enter Tryd.func57, Tryd.ntmps57
        go_wp2_with fail
        go_ret
        exact ⟨rfl, rfl⟩
    · have e : inB s p = false := by simp [inB, spaceB, h2]
      rw [e]; clear e
      go_enter Tryd.func57, Tryd.ntmps57
      go_wp2_with fail
      go_ret
      exact ⟨rfl, rfl⟩
  · have e : inB s p = false := by simp [inB, spaceB, h1]
    rw [e]; clear e
    go_enter Tryd.func57, Tryd.ntmps57
    go_wp2_with fail
    go_ret
    exact ⟨rfl, rfl⟩
/-- The document's error of a page behind which something must stand, with rights that may be. -/
def qE (T : Tb) (s p r : Int) : Int := if rightsB r then takE T s p else 2
set_option maxRecDepth 100000 in
set_option maxHeartbeats 1000000 in
theorem q_ask {w : World} {q : Nat} {T : Tb} (h : QT w q T) (s p r : Int) : Calls Tryd.prog 55 #[.pointer (some ⟨q, 0, none⟩), .int .i64 s, .int .i64 p, .int .i64 r] w fun e w' => e = .returned (.int .i64 (qE T s p r)) ∧ w = w' := by
  unfold qE takE
  by_cases hi : inB s p = true
  · rw [if_pos hi]
    by_cases h0 : 0 ≤ r
    · by_cases h7 : r ≤ 7
      · rw [if_pos ((rightsB_iff r).2 ⟨h0, h7⟩)]
        obtain ⟨i, j, rfl, rfl, h1, h2⟩ := inB_nat hi
        have c0 := h.c0 i j h1 h2
        have hlt := h.lt
        simp only [Int.toNat_natCast]
        have h1' : (i : Int) < 16 := by omega
        have h2' : (j : Int) < 32 := by omega
        clear h
        rcases Bool.eq_false_or_eq_true (T i j).is with hx | hx
        · rw [if_pos hx]
          rw [hx] at c0
          clear hx
          go_enter Tryd.func55, Tryd.ntmps55
          go_wp2_with (go_at_call 57; refine (q_in _ _ _).mono ?_; rintro e w' ⟨rfl, rfl⟩)
          go_ret
          exact ⟨rfl, rfl⟩
        · rw [if_neg (by rw [hx]; decide)]
          rw [hx] at c0
          clear hx
          go_enter Tryd.func55, Tryd.ntmps55
          go_wp2_with (go_at_call 57; refine (q_in _ _ _).mono ?_; rintro e w' ⟨rfl, rfl⟩)
          go_ret
          exact ⟨rfl, rfl⟩
      · rw [if_neg (by rw [rightsB_iff]; omega)]
        clear h
        go_enter Tryd.func55, Tryd.ntmps55
        go_wp2_with (go_at_call 57; refine (q_in _ _ _).mono ?_; rintro e w' ⟨rfl, rfl⟩)
        go_ret
        exact ⟨rfl, rfl⟩
    · rw [if_neg (by rw [rightsB_iff]; omega)]
      clear h
      go_enter Tryd.func55, Tryd.ntmps55
      go_wp2_with (go_at_call 57; refine (q_in _ _ _).mono ?_; rintro e w' ⟨rfl, rfl⟩)
      go_ret
      exact ⟨rfl, rfl⟩
  · have hi' : inB s p = false := by simpa using hi
    rw [if_neg hi, ite_self]
    clear h hi
    go_enter Tryd.func55, Tryd.ntmps55
    go_wp2_with (go_at_call 57; refine (q_in _ _ _).mono ?_; rintro e w' ⟨rfl, rfl⟩)
    go_ret
    exact ⟨rfl, rfl⟩
theorem qE_zero (T : Tb) (s p : Int) : qE T s p 0 = takE T s p := by unfold qE; rw [if_pos (by decide)]

/-! ### Get -/
set_option maxRecDepth 100000 in
set_option maxHeartbeats 1000000 in
theorem q_get {w : World} {q : Nat} {T : Tb} (h : QT w q T) (s p : Int) :
    Calls Tryd.prog 26 #[.pointer (some ⟨q, 0, none⟩), .int .i64 s, .int .i64 p] w fun e w' => e = .returned (.tuple #[entV (getO T s p), .bool (gotB T s p)]) ∧ Below w.heap.size w w' := by
  have H := fun o => Lib.hid (h.step (w' := w.alloc o) ((Below.refl _ w).alloc (Nat.le_refl _) _))
  have hlt := h.lt
  by_cases hE : takE T s p = 0
  · obtain ⟨i, j, rfl, rfl, h1, h2, h3⟩ := takE_yes hE
    rw [(getO_yes h1 h2 h3).1, (getO_yes h1 h2 h3).2]
    have c1 := h.c1 i j h1 h2
    have c2 := h.c2 i j h1 h2
    have c3 := h.c3 i j h1 h2
    have c4 := h.c4 i j h1 h2
    have HQ := fun o => Lib.hid (q_ask (H o).out i j 0)
    rw [qE_zero, hE] at HQ
    have h1' : (i : Int) < 16 := by omega
    have h2' : (j : Int) < 32 := by omega
    obtain ⟨E, hEE⟩ : ∃ E, T i j = E := ⟨_, rfl⟩
    rw [hEE] at c1 c2 c3 c4 ⊢
    clear h hE h3 hEE
    go_enter Tryd.func26, Tryd.ntmps26
    go_wp2_with (go_at_call 55; refine (HQ _).out.mono ?_; rintro e w' ⟨rfl, rfl⟩)
    refine bodyPost_ret (v := .tuple #[entV E, .bool true]) (by simp [results, Tryd.results26, go_sem, entV]) rfl ⟨rfl, ?_⟩
    exact (Below.refl _ w).alloc (Nat.le_refl _) _
  · rw [(getO_no hE).1, (getO_no hE).2]
    have HQ := fun o => Lib.hid (q_ask (H o).out s p 0)
    rw [qE_zero] at HQ
    have hne : (takE T s p != 0) = true := by simpa using hE
    clear h hE
    go_enter Tryd.func26, Tryd.ntmps26
    go_wp2_with (go_at_call 55; refine (HQ _).out.mono ?_; rintro e w' ⟨rfl, rfl⟩)
    refine bodyPost_ret (v := .tuple #[entV nilE, .bool false]) (by simp [results, Tryd.results26, go_sem, entV, nilE]) rfl ⟨rfl, ?_⟩
    exact (Below.refl _ w).alloc (Nat.le_refl _) _

/-! ### Rights -/
set_option maxRecDepth 100000 in
set_option maxHeartbeats 1000000 in
theorem q_rights {w : World} {q : Nat} {T : Tb} (h : QT w q T) (s p r : Int) :
    Calls Tryd.prog 36 #[.pointer (some ⟨q, 0, none⟩), .int .i64 s, .int .i64 p, .int .i64 r] w fun e w' => e = .returned (.int .i64 (rightsO T s p r).2) ∧ QT w' q (rightsO T s p r).1 ∧ Turned w w' [q] := by
  have HQ := Lib.hid (q_ask h s p r)
  have H := Lib.hid h
  by_cases hE : qE T s p r = 0
  · have hr : rightsB r = true := by unfold qE at hE; split at hE; assumption; omega
    have ht : takE T s p = 0 := by unfold qE at hE; rw [if_pos hr] at hE; exact hE
    have e : rightsO T s p r = (setT T s.toNat p.toNat (rightsE (atT T s p) r), 0) := by unfold rightsO; rw [if_pos hr, if_pos ht]
    rw [e]
    obtain ⟨i, j, rfl, rfl, h1, h2, h3⟩ := takE_yes ht
    have c2 := h.c2 i j h1 h2
    have hlt := h.lt
    have fz := h.row.fz (i * 160 + j * 5 + 2)
    have H3 := Lib.hid h3
    have h1' : (i : Int) < 16 := by omega
    have h2' : (j : Int) < 32 := by omega
    rw [hE] at HQ
    clear h h3 hE ht e
    go_enter Tryd.func36, Tryd.ntmps36
    go_wp2_with (go_at_call 55; refine HQ.out.mono ?_; rintro e w' ⟨rfl, rfl⟩)
    go_ret
    exact ⟨rfl, H.out.ri h1 h2 H3.out r ((rightsB_iff r).1 hr).1 ((rightsB_iff r).1 hr).2, Turned.of_set (by simp) _⟩
  · have e : rightsO T s p r = (T, qE T s p r) := by
      unfold rightsO qE at *
      by_cases hr : rightsB r = true
      · rw [if_pos hr] at hE ⊢
        rw [if_neg hE, if_pos hr]
      · rw [if_neg hr, if_neg hr]
    rw [e]
    have hne : (qE T s p r != 0) = true := by simpa using hE
    clear h hE e
    go_enter Tryd.func36, Tryd.ntmps36
    go_wp2_with (go_at_call 55; refine HQ.out.mono ?_; rintro e w' ⟨rfl, rfl⟩)
    go_ret
    exact ⟨rfl, H.out, Turned.refl _ _⟩
end Go.Proofs.YtgkfejnjjoaihaaDoor
