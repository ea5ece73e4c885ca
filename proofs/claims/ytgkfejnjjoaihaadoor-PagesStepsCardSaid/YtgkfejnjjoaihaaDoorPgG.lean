/- Set and Clear. -/
import Derived.Test.YtgkfejnjjoaihaaDoorPgF
import Derived.OwnWalk
import Derived.Sort.OwnSorted
namespace Go.Proofs.YtgkfejnjjoaihaaDoor
open Go.RowKit

def frameB (f : Int) : Bool := decide (0 ≤ f) && decide (f < 256)
def layE (f r : Int) : Ent := ⟨f, r, false, false, true⟩
def setE (T : Tb) (s p f r : Int) : Int := if inB s p && (frameB f && rightsB r) then (if (atT T s p).is then 7 else 0) else 2
def setO (T : Tb) (s p f r : Int) : Tb := if setE T s p f r = 0 then setT T s.toNat p.toNat (layE f r) else T

set_option maxRecDepth 100000 in
set_option maxHeartbeats 1000000 in
theorem set_err {q : Option Addr} {w : World} {s p f r E : Int} (hE : (E != 0) = true) (ht : Calls Tryd.prog 50 #[.pointer q, .int .i64 s, .int .i64 p] w fun e w' => e = .returned (.tuple #[.pointer none, .int .i64 E]) ∧ w = w') :
    Calls Tryd.prog 23 #[.pointer q, .int .i64 s, .int .i64 p, .int .i64 f, .int .i64 r] w fun e w' => e = .returned (.int .i64 E) ∧ w = w' := by
  go_enter Tryd.func23, Tryd.ntmps23
  go_wp2_with (go_at_call 50; refine ht.mono ?_; rintro e w' ⟨rfl, rfl⟩)
  go_ret
  exact ⟨rfl, rfl⟩
set_option maxRecDepth 100000 in
set_option maxHeartbeats 1000000 in
theorem set_arg {w : World} {t b N : Nat} {T : Tb} (h : PT w t b N T) (s p : Nat) (f r : Int) (hs : s < 16) (hp : p < 32) (hb : (frameB f && rightsB r) = false) :
    Calls Tryd.prog 23 #[.pointer (some ⟨t, 0, none⟩), .int .i64 s, .int .i64 p, .int .i64 f, .int .i64 r] w fun e w' => e = .returned (.int .i64 2) ∧ w = w' := by
  have H := Lib.hid h
  clear h
  by_cases h0 : 0 ≤ f
  · by_cases h1 : f < 256
    · have hr : rightsB r = false := by unfold frameB at hb; simpa [h0, h1] using hb
      clear hb
      go_enter Tryd.func23, Tryd.ntmps23
      go_wp2_with (first
        | (go_at_call 50; refine (slot_yes H.out s p hs hp).mono ?_; rintro e w' ⟨rfl, rfl⟩)
        | (go_at_call 51; refine (areRights_any r _).mono ?_; rintro e w' ⟨rfl, rfl⟩))
      go_ret
      exact ⟨rfl, rfl⟩
    · clear hb
      go_enter Tryd.func23, Tryd.ntmps23
      go_wp2_with (go_at_call 50; refine (slot_yes H.out s p hs hp).mono ?_; rintro e w' ⟨rfl, rfl⟩)
      go_ret
      exact ⟨rfl, rfl⟩
  · clear hb
    go_enter Tryd.func23, Tryd.ntmps23
    go_wp2_with (go_at_call 50; refine (slot_yes H.out s p hs hp).mono ?_; rintro e w' ⟨rfl, rfl⟩)
    go_ret
    exact ⟨rfl, rfl⟩
set_option maxRecDepth 100000 in
set_option maxHeartbeats 1000000 in
theorem set_there {w : World} {t b N : Nat} {T : Tb} (h : PT w t b N T) (s p : Nat) (f r : Int) (hs : s < 16) (hp : p < 32) (hf : 0 ≤ f ∧ f < 256) (hr : rightsB r = true) (hi : (T s p).is = true) :
    Calls Tryd.prog 23 #[.pointer (some ⟨t, 0, none⟩), .int .i64 s, .int .i64 p, .int .i64 f, .int .i64 r] w fun e w' => e = .returned (.int .i64 7) ∧ w = w' := by
  have H := Lib.hid h
  have c4 := h.c4 s p hs hp
  have hlt := h.ht
  rw [hi] at c4
  obtain ⟨h0, h1⟩ := hf
  clear h hi
  go_enter Tryd.func23, Tryd.ntmps23
  go_wp2_with (first
    | (go_at_call 50; refine (slot_yes H.out s p hs hp).mono ?_; rintro e w' ⟨rfl, rfl⟩)
    | (go_at_call 51; refine (areRights_any r _).mono ?_; rintro e w' ⟨rfl, rfl⟩))
  go_ret
  exact ⟨rfl, rfl⟩
set_option maxRecDepth 100000 in
set_option maxHeartbeats 1000000 in
theorem set_yes {w : World} {t b N : Nat} {T : Tb} (h : PT w t b N T) (hN : N < maxLen) (s p : Nat) (f r : Int) (hs : s < 16) (hp : p < 32) (hf : 0 ≤ f ∧ f < 256) (hr : rightsB r = true) (hi : (T s p).is = false) :
    Calls Tryd.prog 23 #[.pointer (some ⟨t, 0, none⟩), .int .i64 s, .int .i64 p, .int .i64 f, .int .i64 r] w fun e w' => e = .returned (.int .i64 0) ∧ PT w' t b (N + 1) (setT T s p (layE f r)) ∧ Turned w w' [t, b] := by
  have H := Lib.hid h
  have c4 := h.c4 s p hs hp
  have hlt := h.ht
  have HI := Lib.hid hi
  have HN := Lib.hid hN
  have HR := Lib.hid ((rightsB_iff r).1 hr)
  rw [hi] at c4
  have hff := Lib.hid hf
  obtain ⟨h0, h1⟩ := hf
  clear h hi hN
  go_enter Tryd.func23, Tryd.ntmps23
  go_wp2_with (first
    | (go_at_call 50; refine (slot_yes H.out s p hs hp).mono ?_; rintro e w' ⟨rfl, rfl⟩)
    | (go_at_call 51; refine (areRights_any r _).mono ?_; rintro e w' ⟨rfl, rfl⟩)
    | (go_at_call 52; refine (lay_walk H.out HN.out s p f r hs hp hff.out ⟨HR.out.1, by have := HR.out.2; omega⟩ HI.out).mono ?_; rintro e w1 ⟨rfl, hp1, ht1⟩; have HP1 := Lib.hid hp1; have HT1 := Lib.hid ht1; clear hp1 ht1))
  go_ret
  exact ⟨rfl, HP1.out, HT1.out⟩
/-- Set. -/
theorem set_any {w : World} {t b N : Nat} {T : Tb} (h : PT w t b N T) (hN : N < maxLen) (s p f r : Int) :
    Calls Tryd.prog 23 #[.pointer (some ⟨t, 0, none⟩), .int .i64 s, .int .i64 p, .int .i64 f, .int .i64 r] w fun e w' => e = .returned (.int .i64 (setE T s p f r)) ∧ PT w' t b (N + 1) (setO T s p f r) ∧ Turned w w' [t, b] := by
  unfold setO
  by_cases hi : inB s p = true
  · obtain ⟨i, j, rfl, rfl, h1, h2⟩ := inB_nat hi
    cases hb : frameB f && rightsB r with
    | false =>
      have e : setE T i j f r = 2 := by unfold setE; rw [hb]; simp
      rw [e]
      refine (set_arg h i j f r h1 h2 hb).mono ?_
      rintro e w' ⟨rfl, rfl⟩
      exact ⟨rfl, h.mono (by omega), Turned.refl _ _⟩
    | true =>
      have hf : 0 ≤ f ∧ f < 256 := by unfold frameB at hb; simp at hb; exact hb.1
      have hr : rightsB r = true := by cases hx : rightsB r <;> simp_all
      cases ht : (T i j).is with
      | true =>
        have e : setE T i j f r = 7 := by unfold setE atT; rw [hb, hi]; simp [ht]
        rw [e]
        refine (set_there h i j f r h1 h2 hf hr ht).mono ?_
        rintro e w' ⟨rfl, rfl⟩
        exact ⟨rfl, h.mono (by omega), Turned.refl _ _⟩
      | false =>
        have e : setE T i j f r = 0 := by unfold setE atT; rw [hb, hi]; simp [ht]
        rw [e]
        exact set_yes h hN i j f r h1 h2 hf hr ht
  · have hi' : inB s p = false := by simpa using hi
    have e : setE T s p f r = 2 := by unfold setE; rw [hi']; rfl
    rw [e]
    refine (set_err (E := 2) (by decide) (slot_bad h s p hi')).mono ?_
    rintro e w' ⟨rfl, rfl⟩
    exact ⟨rfl, h.mono (by omega), Turned.refl _ _⟩

/-! ### Clear -/
def clearO (T : Tb) (s p : Int) : Tb := if takE T s p = 0 then setT T s.toNat p.toNat nilE else T
set_option maxRecDepth 100000 in
set_option maxHeartbeats 1000000 in
theorem clear_err {q : Option Addr} {w : World} {s p : Int} {E : Int} (hE : (E != 0) = true)
    (ht : ∀ o, Calls Tryd.prog 45 #[.pointer q, .int .i64 s, .int .i64 p] (w.alloc o) fun e w' => e = .returned (.tuple #[.pointer none, .int .i64 E]) ∧ w.alloc o = w') :
    Calls Tryd.prog 33 #[.pointer q, .int .i64 s, .int .i64 p] w fun e w' => e = .returned (.tuple #[entV nilE, .int .i64 E]) ∧ Below w.heap.size w w' := by
  go_enter Tryd.func33, Tryd.ntmps33
  go_wp2_with (go_at_call 45; refine (ht _).mono ?_; rintro e w' ⟨rfl, rfl⟩)
  refine bodyPost_ret (v := .tuple #[entV nilE, .int .i64 E]) (by simp [results, Tryd.results33, go_sem, entV, nilE]) rfl ⟨rfl, ?_⟩
  exact (Below.refl _ w).alloc (Nat.le_refl _) _
set_option maxRecDepth 100000 in
set_option maxHeartbeats 1000000 in
theorem clear_yes {w : World} {t b N : Nat} {T : Tb} (h : PT w t b N T) (hN : N < maxLen) (s p : Nat) (hs : s < 16) (hp : p < 32) (hi : (T s p).is = true) :
    Calls Tryd.prog 33 #[.pointer (some ⟨t, 0, none⟩), .int .i64 s, .int .i64 p] w fun e w' => e = .returned (.tuple #[entV (T s p), .int .i64 0]) ∧ PT w' t b (N + 1) (setT T s p nilE) ∧ Turned w w' [t, b] := by
  have H := fun o => Lib.hid (h.step (w' := w.alloc o) ((Below.refl _ w).alloc (Nat.le_refl _) _))
  have hlt := Lib.hid h.ht
  have hbl := Lib.hid h.hb
  have HI := Lib.hid hi
  have HN := Lib.hid hN
  obtain ⟨E, hE⟩ : ∃ E, T s p = E := ⟨_, rfl⟩
  have HE := Lib.hid hE
  rw [hE]
  clear h hE hi hN
  go_enter Tryd.func33, Tryd.ntmps33
  go_wp2_with (go_at_call 45; refine (taken_yes (H _).out s p hs hp HI.out).mono ?_; rintro e w' ⟨rfl, rfl⟩)
  refine (lift_walk (H _).out HN.out s p hs hp HI.out).mono ?_
  rintro e w1 ⟨rfl, hp1, ht1⟩
  have HT0 := Turned.of_below [t, b] ((Below.refl _ w).alloc (Nat.le_refl _) (.cells #[.int .i64 0, .int .i64 0, .bool false, .bool false] 38))
  have hne : w.heap.size ∉ [t, b] := by have h1 := hlt.out; have h2 := hbl.out; simp; omega
  have r0 : w1.heap[w.heap.size]? = _ := (ht1.block w.heap.size (by simp) hne).trans (heap_alloc_new w _)
  obtain ⟨⟨a0, a1, a2, a3⟩, af, al⟩ := four_of r0
  have HT1 := Lib.hid (HT0.trans ht1)
  have HP1 := Lib.hid hp1
  have R0 := Lib.hid r0
  clear hp1 ht1 HT0 hne r0
  rw [HE.out]
  unfold entV
  go_wp2_with fail
  obtain ⟨⟨z0, z1, z2, z3⟩, -, -⟩ := four_of (put4 (.int .i64 E.fr) (.int .i64 E.ri) (.bool E.tc) (.bool E.wr) R0.out)
  have h1 := hlt.out
  have h2 := hbl.out
  refine bodyPost_ret (v := .tuple #[entV E, .int .i64 0]) (by simp [results, Tryd.results33, go_sem, entV, z0, z1, z2, z3]) rfl ⟨rfl, ?_, ?_⟩
  · exact (((HP1.out.fresh (by omega) (by omega) _).fresh (by omega) (by omega) _).fresh (by omega) (by omega) _).fresh (by omega) (by omega) _
  · exact (((HT1.out.fresh (Nat.le_refl _) _).fresh (Nat.le_refl _) _).fresh (Nat.le_refl _) _).fresh (Nat.le_refl _) _
/-- Clear. -/
theorem clear_any {w : World} {t b N : Nat} {T : Tb} (h : PT w t b N T) (hN : N < maxLen) (s p : Int) :
    Calls Tryd.prog 33 #[.pointer (some ⟨t, 0, none⟩), .int .i64 s, .int .i64 p] w fun e w' => e = .returned (.tuple #[entV (getO T s p), .int .i64 (takE T s p)]) ∧ PT w' t b (N + 1) (clearO T s p) ∧ Turned w w' [t, b] := by
  unfold clearO
  by_cases hE : takE T s p = 0
  · rw [if_pos hE]
    obtain ⟨i, j, rfl, rfl, h1, h2, h3⟩ := takE_yes hE
    rw [(getO_yes h1 h2 h3).1, hE]
    exact clear_yes h hN i j h1 h2 h3
  · rw [if_neg hE, (getO_no hE).1]
    refine (clear_err (E := takE T s p) (by simpa using hE) (fun o => taken_err (h.step ((Below.refl _ w).alloc (Nat.le_refl _) _)) s p hE)).mono ?_
    rintro e w' ⟨rfl, hb⟩
    exact ⟨rfl, (h.step hb).mono (by omega), Turned.of_below _ hb⟩
end Go.Proofs.YtgkfejnjjoaihaaDoor
