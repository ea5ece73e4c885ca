/- The contracts of Get, Clean, Rights, Ask. -/
import Derived.Test.YtgkfejnjjoaihaaDoorPgB
import Derived.Laws.BitsAllLaws
namespace Go.Proofs.YtgkfejnjjoaihaaDoor
open Go.RowKit

def entV (e : Ent) : Value := .agg #[.int .i64 e.fr, .int .i64 e.ri, .bool e.tc, .bool e.wr]
/-- The error of a page behind which something must stand. -/
def takE (T : Tb) (s p : Int) : Int := if inB s p then (if (T s.toNat p.toNat).is then 0 else 6) else 2
def atT (T : Tb) (s p : Int) : Ent := T s.toNat p.toNat
def getO (T : Tb) (s p : Int) : Ent := if takE T s p = 0 then atT T s p else nilE
def gotB (T : Tb) (s p : Int) : Bool := decide (takE T s p = 0)

theorem takE_yes {T : Tb} {s p : Int} (h : takE T s p = 0) : ∃ i j : Nat, s = i ∧ p = j ∧ i < 16 ∧ j < 32 ∧ (T i j).is = true := by
  unfold takE at h
  split at h
  · rename_i hi
    obtain ⟨i, j, rfl, rfl, h1, h2⟩ := inB_nat hi
    split at h
    · rename_i h3
      exact ⟨i, j, rfl, rfl, h1, h2, by simpa using h3⟩
    · omega
  · omega
theorem takE_of {T : Tb} {i j : Nat} (hi : i < 16) (hj : j < 32) : takE T i j = if (T i j).is then 0 else 6 := by
  unfold takE; rw [if_pos (inB_of hi hj)]; rfl
theorem takE_zero {T : Tb} {i j : Nat} (hi : i < 16) (hj : j < 32) (h : (T i j).is = true) : takE T i j = 0 := by rw [takE_of hi hj, h]; rfl
theorem taken_err {w : World} {t b N : Nat} {T : Tb} (h : PT w t b N T) (s p : Int) (hE : takE T s p ≠ 0) :
    Calls Tryd.prog 45 #[.pointer (some ⟨t, 0, none⟩), .int .i64 s, .int .i64 p] w fun e w' => e = .returned (.tuple #[.pointer none, .int .i64 (takE T s p)]) ∧ w = w' := by
  unfold takE at hE ⊢
  by_cases hi : inB s p = true
  · rw [if_pos hi] at hE ⊢
    obtain ⟨i, j, rfl, rfl, h1, h2⟩ := inB_nat hi
    have hn : (T i j).is = false := by
      simp only [Int.toNat_natCast] at hE
      cases hx : (T i j).is with
      | false => rfl
      | true => simp [hx] at hE
    simp only [Int.toNat_natCast, hn]
    exact taken_none h i j h1 h2 hn
  · rw [if_neg hi]
    exact taken_bad h s p (by simpa using hi)

/-- The four cells of an entry. -/
theorem four_of {w : World} {n : Nat} {a b c d : Value} {ty : Nat} (h : w.heap[n]? = some (.cells #[a, b, c, d] ty (0, 0))) :
    (w.cell? ⟨n, 0, none⟩ = some a ∧ w.cell? ⟨n, 1, none⟩ = some b ∧ w.cell? ⟨n, 2, none⟩ = some c ∧ w.cell? ⟨n, 3, none⟩ = some d) ∧ (∀ o, w.frozen? ⟨n, o, none⟩ = false) ∧ n < w.heap.size := by
  refine ⟨⟨?_, ?_, ?_, ?_⟩, fun o => frozen_of_row _ _ _ _ _ h, (Array.getElem?_eq_some_iff.1 h).1⟩ <;> (rw [cell_of_row _ _ _ _ _ _ h]; rfl)

set_option maxRecDepth 100000 in
set_option maxHeartbeats 1000000 in
theorem get_err {q : Option Addr} {w : World} {s p : Int} {E : Int} (hE : (E != 0) = true)
    (ht : ∀ o, Calls Tryd.prog 45 #[.pointer q, .int .i64 s, .int .i64 p] (w.alloc o) fun e w' => e = .returned (.tuple #[.pointer none, .int .i64 E]) ∧ w.alloc o = w') :
    Calls Tryd.prog 16 #[.pointer q, .int .i64 s, .int .i64 p] w fun e w' => e = .returned (.tuple #[entV nilE, .bool false]) ∧ Below w.heap.size w w' := by
  go_enter Tryd.func16, Tryd.ntmps16
  go_wp2_with (go_at_call 45; refine (ht _).mono ?_; rintro e w' ⟨rfl, rfl⟩)
  refine bodyPost_ret (v := .tuple #[entV nilE, .bool false]) (by simp [results, Tryd.results16, go_sem, entV, nilE]) rfl ⟨rfl, ?_⟩
  exact (Below.refl _ w).alloc (Nat.le_refl _) _
set_option maxRecDepth 100000 in
set_option maxHeartbeats 1000000 in
theorem get_yes {w : World} {t b N : Nat} {T : Tb} (h : PT w t b N T) (s p : Nat) (hs : s < 16) (hp : p < 32) (hi : (T s p).is = true) :
    Calls Tryd.prog 16 #[.pointer (some ⟨t, 0, none⟩), .int .i64 s, .int .i64 p] w fun e w' => e = .returned (.tuple #[entV (T s p), .bool true]) ∧ Below w.heap.size w w' := by
  have H := fun o => Lib.hid (h.step (w' := w.alloc o) ((Below.refl _ w).alloc (Nat.le_refl _) _))
  have hlt := h.ht
  have c0 := h.c0 s p hs hp
  have c1 := h.c1 s p hs hp
  have c2 := h.c2 s p hs hp
  have c3 := h.c3 s p hs hp
  have HI := Lib.hid hi
  obtain ⟨E, hE⟩ : ∃ E, T s p = E := ⟨_, rfl⟩
  rw [hE] at c0 c1 c2 c3 ⊢
  clear h hE hi
  go_enter Tryd.func16, Tryd.ntmps16
  go_wp2_with (go_at_call 45; refine (taken_yes (H _).out s p hs hp HI.out).mono ?_; rintro e w' ⟨rfl, rfl⟩)
  refine bodyPost_ret (v := .tuple #[entV E, .bool true]) (by simp [results, Tryd.results16, go_sem, entV]) rfl ⟨rfl, ?_⟩
  exact (Below.refl _ w).alloc (Nat.le_refl _) _
theorem getO_no {T : Tb} {s p : Int} (h : takE T s p ≠ 0) : getO T s p = nilE ∧ gotB T s p = false := by unfold getO gotB; rw [if_neg h]; exact ⟨rfl, by simpa using h⟩
theorem getO_yes {T : Tb} {i j : Nat} (hi : i < 16) (hj : j < 32) (h : (T i j).is = true) : getO T i j = T i j ∧ gotB T i j = true := by
  unfold getO gotB; rw [if_pos (takE_zero hi hj h), takE_zero hi hj h]; exact ⟨rfl, by simp⟩
theorem getO_nat {T : Tb} (hT : TbOk T) {i j : Nat} (hi : i < 16) (hj : j < 32) : getO T i j = T i j ∧ gotB T i j = (T i j).is := by
  cases h : (T i j).is with
  | true => exact getO_yes hi hj h
  | false => rw [(hT.ok i j).no h]; exact getO_no (by rw [takE_of hi hj, h]; decide)
/-- Get. -/
theorem get_any {w : World} {t b N : Nat} {T : Tb} (h : PT w t b N T) (s p : Int) :
    Calls Tryd.prog 16 #[.pointer (some ⟨t, 0, none⟩), .int .i64 s, .int .i64 p] w fun e w' => e = .returned (.tuple #[entV (getO T s p), .bool (gotB T s p)]) ∧ Below w.heap.size w w' := by
  by_cases hE : takE T s p = 0
  · obtain ⟨i, j, rfl, rfl, h1, h2, h3⟩ := takE_yes hE
    rw [(getO_yes h1 h2 h3).1, (getO_yes h1 h2 h3).2]
    exact get_yes h i j h1 h2 h3
  · rw [(getO_no hE).1, (getO_no hE).2]
    exact get_err (E := takE T s p) (by simpa using hE) (fun o => taken_err (h.step ((Below.refl _ w).alloc (Nat.le_refl _) _)) s p hE)

/-! ### What is there is changed -/
theorem MapIs.same {D : DataW Unit} {T T' : Tb} (h : MapIs D T) (e : ∀ f s p, hitB T' f s p = hitB T f s p) : MapIs D T' := fun f s hf hs => by
  rw [h f s hf hs]
  have : mask T' f s = mask T f s := by unfold mask; congr 1; funext p; exact e f s p
  rw [this]
theorem hit_set {T : Tb} {s p : Nat} {e : Ent} (hf : e.fr = (T s p).fr) (hi : e.is = (T s p).is) (f : Int) (i j : Nat) : hitB (setT T s p e) f i j = hitB T f i j := by
  unfold hitB setT
  by_cases c : i = s ∧ j = p
  · rw [if_pos c, c.1, c.2, hf, hi]
  · rw [if_neg c]
theorem PT.poke {w : World} {t b N : Nat} {T : Tb} (h : PT w t b N T) {s p : Nat} (m : Nat) (hs : s < 16) (hp : p < 32) (hm : m < 5) (e : Ent) (v : Value) (hv : cvP e m = v) (ho : ∀ m', m' < 5 → m' ≠ m → cvP e m' = cvP (T s p) m')
    (hf : e.fr = (T s p).fr) (hi : e.is = (T s p).is) (he : EntOk e) : PT (w.setCell ⟨t, s * 160 + p * 5 + m, none⟩ v) t b N (setT T s p e) := by
  obtain ⟨D, h1, h2⟩ := h.map
  exact ⟨h.ok.set hs hp he, h.row.set s p m hs hp hm e v hv ho, D, ownsMap_eq h1 (heap_setCell_other _ _ _ _ h.ne.symm), h2.same (hit_set hf hi)⟩
def rightsE (e : Ent) (r : Int) : Ent := { e with ri := r }
def touchE (e : Ent) (c w : Bool) : Ent := { e with tc := c, wr := w }
theorem PT.ri {w : World} {t b N : Nat} {T : Tb} (h : PT w t b N T) {s p : Nat} (hs : s < 16) (hp : p < 32) (hi : (T s p).is = true) (r : Int) (h0 : 0 ≤ r) (h1 : r ≤ 7) : PT (w.setCell ⟨t, s * 160 + p * 5 + 1, none⟩ (.int .i64 r)) t b N (setT T s p (rightsE (T s p) r)) :=
  h.poke 1 hs hp (by omega) _ _ rfl (fun m' h1 h2 => by unfold cvP rightsE; simp [h2]) rfl rfl ⟨(h.ok.ok s p).f0, (h.ok.ok s p).f1, h0, by show r < 8; omega, fun hn => by have : (T s p).is = false := hn; rw [hi] at this; cases this⟩
theorem PT.tc {w : World} {t b N : Nat} {T : Tb} (h : PT w t b N T) {s p : Nat} (hs : s < 16) (hp : p < 32) (hi : (T s p).is = true) (c : Bool) : PT (w.setCell ⟨t, s * 160 + p * 5 + 2, none⟩ (.bool c)) t b N (setT T s p (touchE (T s p) c (T s p).wr)) :=
  h.poke 2 hs hp (by omega) _ _ rfl (fun m' h1 h2 => by unfold cvP touchE; simp [h2]) rfl rfl ⟨(h.ok.ok s p).f0, (h.ok.ok s p).f1, (h.ok.ok s p).r0, (h.ok.ok s p).r1, fun hn => by have : (T s p).is = false := hn; rw [hi] at this; cases this⟩
theorem PT.wr {w : World} {t b N : Nat} {T : Tb} (h : PT w t b N T) {s p : Nat} (hs : s < 16) (hp : p < 32) (hi : (T s p).is = true) (c : Bool) : PT (w.setCell ⟨t, s * 160 + p * 5 + 3, none⟩ (.bool c)) t b N (setT T s p (touchE (T s p) (T s p).tc c)) :=
  h.poke 3 hs hp (by omega) _ _ rfl (fun m' h1 h2 => by unfold cvP touchE; simp [h2]) rfl rfl ⟨(h.ok.ok s p).f0, (h.ok.ok s p).f1, (h.ok.ok s p).r0, (h.ok.ok s p).r1, fun hn => by have : (T s p).is = false := hn; rw [hi] at this; cases this⟩
theorem PT.tcwr {w : World} {t b N : Nat} {T : Tb} (h : PT w t b N T) {s p : Nat} (hs : s < 16) (hp : p < 32) (hi : (T s p).is = true) (c d : Bool) :
    PT ((w.setCell ⟨t, s * 160 + p * 5 + 2, none⟩ (.bool c)).setCell ⟨t, s * 160 + p * 5 + 3, none⟩ (.bool d)) t b N (setT T s p (touchE (T s p) c d)) := by
  have h1 := h.tc hs hp hi c
  have h2 := h1.wr (s := s) (p := p) hs hp (by rw [setT_same]; exact hi) d
  rw [setT_setT, setT_same] at h2
  exact h2

/-! ### Rights -/
def rightsO (T : Tb) (s p r : Int) : Tb × Int := if rightsB r then (if takE T s p = 0 then (setT T s.toNat p.toNat (rightsE (atT T s p) r), 0) else (T, takE T s p)) else (T, 2)
theorem rightsB_iff (r : Int) : rightsB r = true ↔ 0 ≤ r ∧ r ≤ 7 := by simp [rightsB]
set_option maxRecDepth 100000 in
set_option maxHeartbeats 1000000 in
theorem rights_any {w : World} {t b N : Nat} {T : Tb} (h : PT w t b N T) (s p r : Int) :
    Calls Tryd.prog 35 #[.pointer (some ⟨t, 0, none⟩), .int .i64 s, .int .i64 p, .int .i64 r] w fun e w' => e = .returned (.int .i64 (rightsO T s p r).2) ∧ PT w' t b N (rightsO T s p r).1 ∧ Turned w w' [t] := by
  have H := Lib.hid h
  unfold rightsO
  by_cases hr : rightsB r = true
  · rw [if_pos hr]
    by_cases hE : takE T s p = 0
    · rw [if_pos hE]
      obtain ⟨i, j, rfl, rfl, h1, h2, h3⟩ := takE_yes hE
      have c1 := h.c1 i j h1 h2
      have hlt := h.ht
      have fz := h.row.fz (i * 160 + j * 5 + 1)
      have H3 := Lib.hid h3
      clear h h3 hE
      go_enter Tryd.func35, Tryd.ntmps35
      go_wp2_with (first
        | (go_at_call 43; refine (there_any H.out).mono ?_; rintro e w' ⟨rfl, rfl⟩)
        | (go_at_call 51; refine (areRights_any r _).mono ?_; rintro e w' ⟨rfl, rfl⟩)
        | (go_at_call 45; refine (taken_yes H.out i j h1 h2 H3.out).mono ?_; rintro e w' ⟨rfl, rfl⟩))
      go_ret
      refine ⟨rfl, H.out.ri h1 h2 H3.out r ((rightsB_iff r).1 hr).1 ((rightsB_iff r).1 hr).2, Turned.of_set (by simp) _⟩
    · rw [if_neg hE]
      have HE := Lib.hid hE
      have hE' : (takE T s p != 0) = true := by simpa using hE
      clear h hE
      go_enter Tryd.func35, Tryd.ntmps35
      go_wp2_with (first
        | (go_at_call 43; refine (there_any H.out).mono ?_; rintro e w' ⟨rfl, rfl⟩)
        | (go_at_call 51; refine (areRights_any r _).mono ?_; rintro e w' ⟨rfl, rfl⟩)
        | (go_at_call 45; refine (taken_err H.out s p HE.out).mono ?_; rintro e w' ⟨rfl, rfl⟩))
      go_ret
      exact ⟨rfl, H.out, Turned.refl _ _⟩
  · rw [if_neg hr]
    have hr' : rightsB r = false := by simpa using hr
    clear h hr
    go_enter Tryd.func35, Tryd.ntmps35
    go_wp2_with (first
      | (go_at_call 43; refine (there_any H.out).mono ?_; rintro e w' ⟨rfl, rfl⟩)
      | (go_at_call 51; refine (areRights_any r _).mono ?_; rintro e w' ⟨rfl, rfl⟩))
    go_ret
    exact ⟨rfl, H.out, Turned.refl _ _⟩

/-! ### Clean -/
def cleanO (T : Tb) (s p : Int) : Tb := if takE T s p = 0 then setT T s.toNat p.toNat (touchE (atT T s p) false false) else T
set_option maxRecDepth 100000 in
set_option maxHeartbeats 1000000 in
theorem clean_err {q : Option Addr} {w : World} {s p : Int} {E : Int} (hE : (E != 0) = true)
    (ht : ∀ o, Calls Tryd.prog 45 #[.pointer q, .int .i64 s, .int .i64 p] (w.alloc o) fun e w' => e = .returned (.tuple #[.pointer none, .int .i64 E]) ∧ w.alloc o = w') :
    Calls Tryd.prog 38 #[.pointer q, .int .i64 s, .int .i64 p] w fun e w' => e = .returned (.tuple #[entV nilE, .int .i64 E]) ∧ Below w.heap.size w w' := by
  go_enter Tryd.func38, Tryd.ntmps38
  go_wp2_with (go_at_call 45; refine (ht _).mono ?_; rintro e w' ⟨rfl, rfl⟩)
  refine bodyPost_ret (v := .tuple #[entV nilE, .int .i64 E]) (by simp [results, Tryd.results38, go_sem, entV, nilE]) rfl ⟨rfl, ?_⟩
  exact (Below.refl _ w).alloc (Nat.le_refl _) _
set_option maxRecDepth 100000 in
set_option maxHeartbeats 1000000 in
theorem clean_yes {w : World} {t b N : Nat} {T : Tb} (h : PT w t b N T) (s p : Nat) (hs : s < 16) (hp : p < 32) (hi : (T s p).is = true) :
    Calls Tryd.prog 38 #[.pointer (some ⟨t, 0, none⟩), .int .i64 s, .int .i64 p] w fun e w' => e = .returned (.tuple #[entV (T s p), .int .i64 0]) ∧ PT w' t b N (setT T s p (touchE (T s p) false false)) ∧ Turned w w' [t] := by
  have H := fun o => Lib.hid (h.step (w' := w.alloc o) ((Below.refl _ w).alloc (Nat.le_refl _) _))
  have hlt := h.ht
  have ne : (t = w.heap.size) = False := eq_false (Nat.ne_of_lt hlt)
  have ne' : (w.heap.size = t) = False := eq_false (fun e => Nat.ne_of_lt hlt e.symm)
  have c0 := h.c0 s p hs hp
  have c1 := h.c1 s p hs hp
  have c2 := h.c2 s p hs hp
  have c3 := h.c3 s p hs hp
  have fz := h.row.fz
  have HI := Lib.hid hi
  obtain ⟨E, hE⟩ : ∃ E, T s p = E := ⟨_, rfl⟩
  have HE := Lib.hid hE
  have HH := Lib.hid h
  rw [hE] at c0 c1 c2 c3 ⊢
  clear h hE hi
  go_enter Tryd.func38, Tryd.ntmps38
  go_wp2_with (go_at_call 45; refine (taken_yes (H _).out s p hs hp HI.out).mono ?_; rintro e w' ⟨rfl, rfl⟩)
  refine bodyPost_ret (v := .tuple #[entV E, .int .i64 0]) (by simp [results, Tryd.results38, go_sem, entV]) rfl ⟨rfl, ?_, ?_⟩
  · have h1 := HH.out.tcwr hs hp HI.out false false
    rw [HE.out] at h1
    exact (h1.step ((Below.refl _ _).alloc (Nat.le_refl _) _)).step ((Below.refl _ _).alloc (Nat.le_refl _) _)
  · exact ((Turned.of_set (by simp) _).trans (Turned.of_set (by simp) _)).trans (Turned.of_below _ (((Below.refl _ _).alloc (Nat.le_refl _) _).alloc (by simp) _))
theorem clean_any {w : World} {t b N : Nat} {T : Tb} (h : PT w t b N T) (s p : Int) :
    Calls Tryd.prog 38 #[.pointer (some ⟨t, 0, none⟩), .int .i64 s, .int .i64 p] w fun e w' => e = .returned (.tuple #[entV (getO T s p), .int .i64 (takE T s p)]) ∧ PT w' t b N (cleanO T s p) ∧ Turned w w' [t] := by
  unfold cleanO
  by_cases hE : takE T s p = 0
  · rw [if_pos hE]
    obtain ⟨i, j, rfl, rfl, h1, h2, h3⟩ := takE_yes hE
    rw [(getO_yes h1 h2 h3).1, hE]
    exact clean_yes h i j h1 h2 h3
  · rw [if_neg hE, (getO_no hE).1]
    refine (clean_err (E := takE T s p) (by simpa using hE) (fun o => taken_err (h.step ((Below.refl _ w).alloc (Nat.le_refl _) _)) s p hE)).mono ?_
    rintro e w' ⟨rfl, hb⟩
    exact ⟨rfl, h.step hb, Turned.of_below _ hb⟩

/-! ### Ask -/
def rightB (r : Int) : Bool := decide (r = 1) || decide (r = 2) || decide (r = 4)
/-- What a page is asked for comes to: the frame, the error; what stands there behind it. -/
def askE (T : Tb) (s : Int) (a : Nat) (r : Int) : Int := if spaceB s && rightB r then (if takE T s (a / 256 : Nat) = 0 then (if bits .and .i64 (atT T s (a / 256 : Nat)).ri r = 0 then 8 else 0) else 10) else 2
def askF (T : Tb) (s : Int) (a : Nat) (r : Int) : Int := if askE T s a r = 0 then (atT T s (a / 256 : Nat)).fr else 0
def askP (T : Tb) (s : Int) (a : Nat) (r : Int) : Int := if askE T s a r = 0 then (a % 256 : Nat) else 0
def askT (T : Tb) (s : Int) (a : Nat) (r : Int) : Tb := if askE T s a r = 0 then setT T s.toNat (a / 256) (touchE (atT T s (a / 256 : Nat)) true ((atT T s (a / 256 : Nat)).wr || decide (r = 2))) else T

set_option maxRecDepth 100000 in
set_option maxHeartbeats 1000000 in
theorem ask_fault {w : World} {t b N : Nat} {T : Tb} (h : PT w t b N T) (s : Int) (a : Nat) (r : Int) (ha : a < 4294967296) (hs : spaceB s = true) (hr : rightB r = true) (hE : takE T s (a / 256 : Nat) ≠ 0) :
    Calls Tryd.prog 19 #[.pointer (some ⟨t, 0, none⟩), .int .i64 s, .int .u32 a, .int .i64 r] w fun e w' => e = .returned (.tuple #[.int .i64 0, .int .i64 0, .int .i64 10]) ∧ w = w' := by
  have H := Lib.hid h
  obtain ⟨g, hg⟩ : ∃ g, a / 256 = g := ⟨_, rfl⟩
  have hg' : (a : Int) / 256 = (g : Int) := by omega
  rw [hg] at hE
  have HE := Lib.hid hE
  have hE' : (takE T s g != 0) = true := by simpa using hE
  clear hg h hE
  unfold rightB at hr
  have hr3 : r = 1 ∨ r = 2 ∨ r = 4 := by simpa [or_assoc] using hr
  clear hr
  rcases hr3 with rfl | rfl | rfl <;>
  · go_enter Tryd.func19, Tryd.ntmps19
    go_wp2_with (first
      | (go_at_call 43; refine (there_any H.out).mono ?_; rintro e w' ⟨rfl, rfl⟩)
      | (go_at_call 46; refine (isSpace_any s _).mono ?_; rintro e w' ⟨rfl, rfl⟩)
      | (go_at_call 45; refine (taken_err H.out s g HE.out).mono ?_; rintro e w' ⟨rfl, rfl⟩))
    go_ret3
    exact ⟨rfl, rfl⟩
set_option maxRecDepth 100000 in
set_option maxHeartbeats 1000000 in
theorem ask_right {w : World} {t b N : Nat} {T : Tb} (h : PT w t b N T) (s : Nat) (a g : Nat) (r : Int) (ha : a < 4294967296) (hs : s < 16) (hg : a / 256 = g) (hp : g < 32) (hr : rightB r = true) (hi : (T s g).is = true)
    (hb : bits .and .i64 (T s g).ri r = 0) :
    Calls Tryd.prog 19 #[.pointer (some ⟨t, 0, none⟩), .int .i64 s, .int .u32 a, .int .i64 r] w fun e w' => e = .returned (.tuple #[.int .i64 0, .int .i64 0, .int .i64 8]) ∧ w = w' := by
  have H := Lib.hid h
  have HI := Lib.hid hi
  have hs' : spaceB s = true := (spaceB_iff _).2 ⟨by omega, by omega⟩
  have c1 := h.c1 s g hs hp
  have hlt := h.ht
  have hg' : (a : Int) / 256 = (g : Int) := by omega
  obtain ⟨E, hE⟩ : ∃ E, T s g = E := ⟨_, rfl⟩
  rw [hE] at c1 hb
  unfold rightB at hr
  have hr3 : r = 1 ∨ r = 2 ∨ r = 4 := by simpa [or_assoc] using hr
  clear h hE hi hg hr
  rcases hr3 with rfl | rfl | rfl <;>
  · go_enter Tryd.func19, Tryd.ntmps19
    go_wp2_with (first
      | (go_at_call 43; refine (there_any H.out).mono ?_; rintro e w' ⟨rfl, rfl⟩)
      | (go_at_call 46; refine (isSpace_any s _).mono ?_; rintro e w' ⟨rfl, rfl⟩)
      | (go_at_call 45; refine (taken_yes H.out s g hs hp HI.out).mono ?_; rintro e w' ⟨rfl, rfl⟩))
    go_ret3
    exact ⟨rfl, rfl⟩
set_option maxRecDepth 100000 in
set_option maxHeartbeats 1000000 in
theorem ask_yes {w : World} {t b N : Nat} {T : Tb} (h : PT w t b N T) (s : Nat) (a g : Nat) (r : Int) (ha : a < 4294967296) (hs : s < 16) (hg : a / 256 = g) (hp : g < 32) (hr : rightB r = true) (hi : (T s g).is = true)
    (hb : (bits .and .i64 (T s g).ri r == 0) = false) :
    Calls Tryd.prog 19 #[.pointer (some ⟨t, 0, none⟩), .int .i64 s, .int .u32 a, .int .i64 r] w fun e w' =>
      e = .returned (.tuple #[.int .i64 (T s g).fr, .int .i64 (a % 256 : Nat), .int .i64 0]) ∧ PT w' t b N (setT T s g (touchE (T s g) true ((T s g).wr || decide (r = 2)))) ∧ Turned w w' [t] := by
  have H := Lib.hid h
  have HI := Lib.hid hi
  have hs' : spaceB s = true := (spaceB_iff _).2 ⟨by omega, by omega⟩
  have c0 := h.c0 s g hs hp
  have c1 := h.c1 s g hs hp
  have c2 := h.c2 s g hs hp
  have c3 := h.c3 s g hs hp
  have fz := h.row.fz
  have hlt := h.ht
  have hg' : (a : Int) / 256 = (g : Int) := by omega
  have HA := Lib.hid (show (a % 256 : Nat) = a - g * 256 by omega)
  obtain ⟨E, hE⟩ : ∃ E, T s g = E := ⟨_, rfl⟩
  have HE := Lib.hid hE
  rw [hE] at c0 c1 c2 c3 hb ⊢
  unfold rightB at hr
  have hr3 : r = 1 ∨ r = 2 ∨ r = 4 := by simpa [or_assoc] using hr
  clear h hE hi hg hr
  have he : (a : Int) - g * 256 = ((a % 256 : Nat) : Int) := by have := HA.out; omega
  have HX := Lib.hid he
  clear he
  have HF := Lib.hid (show ∀ d : Bool, PT ((w.setCell ⟨t, s * 160 + g * 5 + 2, none⟩ (.bool true)).setCell ⟨t, s * 160 + g * 5 + 3, none⟩ (.bool d)) t b N (setT T s g (touchE E true d)) from fun d => by
    have h1 := H.out.tcwr hs hp HI.out true d
    rw [HE.out] at h1
    exact h1)
  rcases hr3 with rfl | rfl | rfl <;>
  · go_enter Tryd.func19, Tryd.ntmps19
    go_wp2_with (first
      | (go_at_call 43; refine (there_any H.out).mono ?_; rintro e w' ⟨rfl, rfl⟩)
      | (go_at_call 46; refine (isSpace_any s _).mono ?_; rintro e w' ⟨rfl, rfl⟩)
      | (go_at_call 45; refine (taken_yes H.out s g hs hp HI.out).mono ?_; rintro e w' ⟨rfl, rfl⟩))
    all_goals
      go_ret3
      rw [HX.out]
      refine ⟨rfl, ?_, (Turned.of_set (by simp) _).trans (Turned.of_set (by simp) _)⟩
      rename_i hw
      rw [show E.wr = _ from by simpa using hw]
      exact HF.out _
end Go.Proofs.YtgkfejnjjoaihaaDoor
