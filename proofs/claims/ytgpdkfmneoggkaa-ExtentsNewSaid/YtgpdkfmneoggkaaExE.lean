/- Part, Quota, Take, Give; extents that are none. -/
import Derived.Test.YtgpdkfmneoggkaaExD
namespace Go.Proofs.Ytgpdkfmneoggkaa
open Go.RowKit

section
variable {w : World} {v : Value}
theorem xpart_no (h : NoEx w v) (a : Int) : Calls Try.prog 13 #[v, .int .i64 a] w fun e w' => e = .returned (.tuple #[.int .i64 0, .int .i64 0, .bool false]) ∧ w = w' := by
  go_enter Try.func13, Try.ntmps13
  go_wp2_with (go_at_call 51; refine (of_no h _).mono ?_; rintro e w' ⟨rfl, rfl⟩)
  go_ret3
  exact ⟨rfl, rfl⟩
theorem xquota_no (h : NoEx w v) (a : Int) : Calls Try.prog 44 #[v, .int .i64 a] w fun e w' => e = .returned (.int .i64 0) ∧ w = w' := by
  go_enter Try.func44, Try.ntmps44
  go_wp2_with (go_at_call 13; refine (xpart_no h _).mono ?_; rintro e w' ⟨rfl, rfl⟩)
  go_ret
  exact ⟨rfl, rfl⟩
theorem xtake_no (h : NoEx w v) (a n : Int) : Calls Try.prog 17 #[v, .int .i64 a, .int .i64 n] w fun e w' => e = .returned (.tuple #[.int .i64 0, .int .i64 1]) ∧ w = w' := by
  go_enter Try.func17, Try.ntmps17
  go_wp2_with (go_at_call 51; refine (of_no h _).mono ?_; rintro e w' ⟨rfl, rfl⟩)
  go_ret2
  exact ⟨rfl, rfl⟩
theorem xgive_no (h : NoEx w v) (a f n : Int) : Calls Try.prog 23 #[v, .int .i64 a, .int .i64 f, .int .i64 n] w fun e w' => e = .returned (.int .i64 1) ∧ w = w' := by
  go_enter Try.func23, Try.ntmps23
  go_wp2_with (go_at_call 51; refine (of_no h _).mono ?_; rintro e w' ⟨rfl, rfl⟩)
  go_ret
  exact ⟨rfl, rfl⟩
theorem xtaken_no (h : NoEx w v) (a : Int) : Calls Try.prog 18 #[v, .int .i64 a] w fun e w' => e = .returned (.int .i64 0) ∧ w = w' := by
  go_enter Try.func18, Try.ntmps18
  go_wp2_with (go_at_call 51; refine (of_no h _).mono ?_; rintro e w' ⟨rfl, rfl⟩)
  go_ret
  exact ⟨rfl, rfl⟩
theorem at_no (h : NoEx w v) (a i : Int) : Calls Try.prog 65 #[v, .int .i64 a, .int .i64 i] w fun e w' => e = .returned (.tuple #[.int .i64 0, .int .i64 1]) ∧ w = w' := by
  go_enter Try.func65, Try.ntmps65
  go_wp2_with (go_at_call 51; refine (of_no h _).mono ?_; rintro e w' ⟨rfl, rfl⟩)
  go_ret2
  exact ⟨rfl, rfl⟩
theorem xread_no (h : NoEx w v) (a i : Int) : Calls Try.prog 36 #[v, .int .i64 a, .int .i64 i] w fun e w' => e = .returned (.tuple #[.slice none 0 0, .int .i64 1]) ∧ w = w' := by
  go_enter Try.func36, Try.ntmps36
  go_wp2_with (go_at_call 65; refine (at_no h _ _).mono ?_; rintro e w' ⟨rfl, rfl⟩)
  go_ret2
  exact ⟨rfl, rfl⟩
theorem xwrite_no (h : NoEx w v) (a i : Int) (b : Value) : Calls Try.prog 26 #[v, .int .i64 a, .int .i64 i, b] w fun e w' => e = .returned (.int .i64 1) ∧ w = w' := by
  go_enter Try.func26, Try.ntmps26
  go_wp2_with (go_at_call 65; refine (at_no h _ _).mono ?_; rintro e w' ⟨rfl, rfl⟩)
  go_ret
  exact ⟨rfl, rfl⟩
theorem xflush_no (h : NoEx w v) (a : Int) : Calls Try.prog 28 #[v, .int .i64 a] w fun e w' => e = .returned (.int .i64 1) ∧ w = w' := by
  go_enter Try.func28, Try.ntmps28
  go_wp2_with (go_at_call 51; refine (of_no h _).mono ?_; rintro e w' ⟨rfl, rfl⟩)
  go_ret
  exact ⟨rfl, rfl⟩
theorem xowner_no (h : NoEx w v) (a : Int) : Calls Try.prog 25 #[v, .int .i64 a] w fun e w' => e = .returned (.tuple #[.int .i64 0, .int .i64 0, .bool false]) ∧ w = w' := by
  go_enter Try.func25, Try.ntmps25
  go_wp2_with (go_at_call 52; refine (xthere_no h).mono ?_; rintro e w' ⟨rfl, rfl⟩)
  go_ret3
  exact ⟨rfl, rfl⟩
theorem xkeeps_no (h : NoEx w v) (a : Int) (b : Value) : Calls Try.prog 38 #[v, .int .i64 a, b] w fun e w' => e = .returned (.tuple #[.slice none 0 0, .int .i64 1]) ∧ w = w' := by
  go_enter Try.func38, Try.ntmps38
  go_wp2_with (go_at_call 51; refine (of_no h _).mono ?_; rintro e w' ⟨rfl, rfl⟩)
  go_ret2
  exact ⟨rfl, rfl⟩
theorem xdisk_no (h : NoEx w v) : Calls Try.prog 48 #[v] w fun e w' => e = .returned (.pointer none) ∧ w = w' := by
  go_enter Try.func48, Try.ntmps48
  go_wp2_with (go_at_call 52; refine (xthere_no h).mono ?_; rintro e w' ⟨rfl, rfl⟩)
  go_ret
  exact ⟨rfl, rfl⟩
theorem xover_no (h : NoEx w v) (b : Value) : Calls Try.prog 14 #[v, b] w fun e w' => e = .returned (.tuple #[.pointer none, .int .i64 1]) ∧ w = w' := by
  go_enter Try.func14, Try.ntmps14
  go_wp2_with (go_at_call 52; refine (xthere_no h).mono ?_; rintro e w' ⟨rfl, rfl⟩)
  go_ret2
  exact ⟨rfl, rfl⟩
end

theorem bdN {B : Nat} {a w : World} (h : Below B a w) (n : Nat) : Below B a (w.drewN n) := h.trans ⟨rfl, rfl, rfl, Nat.le_refl _, fun _ _ => rfl⟩
/-! ### A run is looked for -/
open Classical in
noncomputable def Pt.room (p : Pt) (n : Nat) : Option Nat := (List.range (p.ct + 1)).find? (fun f => decide (p.free f n))
theorem Pt.room_some {p : Pt} {f n : Nat} (h : p.free f n) (hl : ∀ g, g < f → ¬ p.free g n) : p.room n = some f := by
  unfold Pt.room
  rw [List.find?_range_eq_some]
  refine ⟨by simpa using h, by have := h.1; simp; omega, fun j hj => by have := hl j hj; simp [this]⟩
theorem Pt.room_none {p : Pt} {n : Nat} (h : ∀ g, ¬ p.free g n) : p.room n = none := by
  unfold Pt.room
  rw [List.find?_range_eq_none]
  exact fun i _ => by simp [h i]
theorem Pt.room_free {p : Pt} {f n : Nat} (h : p.room n = some f) : p.free f n := by
  unfold Pt.room at h
  rw [List.find?_range_eq_some] at h
  simpa using h.1
/-- All of these are taken. -/
def Pt.full (p : Pt) (f n : Nat) : Prop := ∀ j, f ≤ j → j < f + n → p.bit j = true
theorem Pt.full_ct {p : Pt} (hp : PtOk p) {f n : Nat} (hn : 1 ≤ n) (h : p.full f n) : f + n ≤ p.ct := by
  apply Nat.le_of_not_lt
  intro hlt
  have h1 := h (f + n - 1) (by omega) (by omega)
  rw [hp.hi _ (by omega)] at h1
  cases h1
section
variable {w : World} {x d : Nat} {s : Xt}
theorem ExIs.pc0 (h : ExIs w x d s) {a : Nat} (ha : a < 8) : w.cell? ⟨x, 2 + a * 66, none⟩ = some (.int .i64 ((s.pt a).fi : Int)) := h.cp (j := 0) ha (by decide)
theorem ExIs.pc1 (h : ExIs w x d s) {a : Nat} (ha : a < 8) : w.cell? ⟨x, 2 + a * 66 + 1, none⟩ = some (.int .i64 ((s.pt a).ct : Int)) := h.cp (j := 1) ha (by decide)
theorem xpart_out (h : ExIs w x d s) (a : Int) (ha : a < 0 ∨ (s.n : Int) ≤ a) : Calls Try.prog 13 #[.pointer (some ⟨x, 0, none⟩), .int .i64 a] w fun e w' => e = .returned (.tuple #[.int .i64 0, .int .i64 0, .bool false]) ∧ w = w' := by
  have H := Lib.hid h
  clear h
  go_enter Try.func13, Try.ntmps13
  go_wp2_with (go_at_call 51; refine (of_out H.out a ha).mono ?_; rintro e w' ⟨rfl, rfl⟩)
  go_ret3
  exact ⟨rfl, rfl⟩
theorem xpart_yes (h : ExIs w x d s) (a : Nat) (ha : a < s.n) : Calls Try.prog 13 #[.pointer (some ⟨x, 0, none⟩), .int .i64 (a : Int)] w fun e w' => e = .returned (.tuple #[.int .i64 ((s.pt a).fi : Int), .int .i64 ((s.pt a).ct : Int), .bool true]) ∧ Below w.heap.size w w' := by
  have hn := h.n8
  have c0 := h.pc0 (a := a) (by omega)
  have c1 := h.pc1 (a := a) (by omega)
  have H := Lib.hid h
  clear h
  go_enter Try.func13, Try.ntmps13
  go_wp2_with (go_at_call 51; refine (of_yes H.out a ha).mono ?_; rintro e w' ⟨rfl, rfl⟩)
  go_quiet (fail)
  go_wp2
  go_ret3
  exact ⟨rfl, bdN (Below.refl _ w) _⟩
theorem xquota_out (h : ExIs w x d s) (a : Int) (ha : a < 0 ∨ (s.n : Int) ≤ a) : Calls Try.prog 44 #[.pointer (some ⟨x, 0, none⟩), .int .i64 a] w fun e w' => e = .returned (.int .i64 0) ∧ w = w' := by
  have H := Lib.hid h
  clear h
  go_enter Try.func44, Try.ntmps44
  go_wp2_with (go_at_call 13; refine (xpart_out H.out a ha).mono ?_; rintro e w' ⟨rfl, rfl⟩)
  go_ret
  exact ⟨rfl, rfl⟩
theorem xquota_yes (h : ExIs w x d s) (a : Nat) (ha : a < s.n) : Calls Try.prog 44 #[.pointer (some ⟨x, 0, none⟩), .int .i64 (a : Int)] w fun e w' => e = .returned (.int .i64 ((s.pt a).ct : Int)) ∧ Below w.heap.size w w' := by
  have H := Lib.hid h
  clear h
  go_enter Try.func44, Try.ntmps44
  go_wp2_with (go_at_call 13; refine (xpart_yes H.out a ha).mono ?_; rintro e w' ⟨rfl, hb⟩; have HB := Lib.hid hb; clear hb)
  go_ret
  exact ⟨rfl, HB.out⟩
theorem xtake_out (h : ExIs w x d s) (a n : Int) (ha : a < 0 ∨ (s.n : Int) ≤ a) : Calls Try.prog 17 #[.pointer (some ⟨x, 0, none⟩), .int .i64 a, .int .i64 n] w fun e w' => e = .returned (.tuple #[.int .i64 0, .int .i64 2]) ∧ w = w' := by
  have H := Lib.hid h
  clear h
  go_enter Try.func17, Try.ntmps17
  go_wp2_with (go_at_call 51; refine (of_out H.out a ha).mono ?_; rintro e w' ⟨rfl, rfl⟩)
  go_ret2
  exact ⟨rfl, rfl⟩
theorem xtake_few (h : ExIs w x d s) (a : Nat) (ha : a < s.n) (n : Int) (hn : n < 1) : Calls Try.prog 17 #[.pointer (some ⟨x, 0, none⟩), .int .i64 (a : Int), .int .i64 n] w fun e w' => e = .returned (.tuple #[.int .i64 0, .int .i64 2]) ∧ w = w' := by
  have H := Lib.hid h
  clear h
  go_enter Try.func17, Try.ntmps17
  go_wp2_with (go_at_call 51; refine (of_yes H.out a ha).mono ?_; rintro e w' ⟨rfl, rfl⟩)
  go_ret2
  exact ⟨rfl, rfl⟩
/-- What Take leaves. -/
def TakeOut (w : World) (x d : Nat) (s : Xt) (a n : Nat) (e : Ending) (w' : World) : Prop :=
  match (s.pt a).room n with
  | some f => e = .returned (.tuple #[.int .i64 (f : Int), .int .i64 0]) ∧ ExIs w' x d (s.set a ((s.pt a).turn f n)) ∧ TurnO (· = x) w w'
  | none => e = .returned (.tuple #[.int .i64 0, .int .i64 5]) ∧ w = w'
set_option maxHeartbeats 1000000 in
theorem xtake_yes (h : ExIs w x d s) (a : Nat) (ha : a < s.n) (n : Nat) (h1 : 1 ≤ n) (h2 : n ≤ 9223372036854775807) : Calls Try.prog 17 #[.pointer (some ⟨x, 0, none⟩), .int .i64 (a : Int), .int .i64 (n : Int)] w (TakeOut w x d s a n) := by
  have hn := h.n8
  have H := Lib.hid h
  clear h
  have hn1 : ¬ (n : Int) < 1 := by omega
  go_enter Try.func17, Try.ntmps17
  go_wp2_with (go_at_call 51; refine (of_yes H.out a ha).mono ?_; rintro e w' ⟨rfl, rfl⟩)
  go_at_call 57
  refine (room_any (H.out.part (by omega)) (H.out.ok a) n h1 h2).mono ?_
  rintro e w' ⟨(⟨f, rfl, hf, hl⟩ | ⟨rfl, hno⟩), rfl⟩
  · have HF := Lib.hid hf
    have HR := Lib.hid (Pt.room_some hf hl)
    clear hf hl
    go_wp2_with (go_at_call 58; refine (turn_any H.out a (by omega) f n HF.out.1).mono ?_; rintro e w1 ⟨rfl, hE, hT⟩; have HE := Lib.hid hE; have HT := Lib.hid hT; clear hE hT)
    go_ret2
    unfold TakeOut
    rw [HR.out]
    exact ⟨rfl, HE.out, HT.out⟩
  · have HR := Lib.hid (Pt.room_none hno)
    clear hno
    go_wp2_with fail
    go_ret2
    unfold TakeOut
    rw [HR.out]
    exact ⟨rfl, rfl⟩
theorem xgive_out (h : ExIs w x d s) (a f n : Int) (ha : a < 0 ∨ (s.n : Int) ≤ a) : Calls Try.prog 23 #[.pointer (some ⟨x, 0, none⟩), .int .i64 a, .int .i64 f, .int .i64 n] w fun e w' => e = .returned (.int .i64 2) ∧ w = w' := by
  have H := Lib.hid h
  clear h
  go_enter Try.func23, Try.ntmps23
  go_wp2_with (go_at_call 51; refine (of_out H.out a ha).mono ?_; rintro e w' ⟨rfl, rfl⟩)
  go_ret
  exact ⟨rfl, rfl⟩
theorem xgive_bad (h : ExIs w x d s) (a : Nat) (ha : a < s.n) (f n : Int) (hb : n < 1 ∨ f < 0) : Calls Try.prog 23 #[.pointer (some ⟨x, 0, none⟩), .int .i64 (a : Int), .int .i64 f, .int .i64 n] w fun e w' => e = .returned (.int .i64 2) ∧ w = w' := by
  have H := Lib.hid h
  clear h
  by_cases h1 : n < 1
  · clear hb
    go_enter Try.func23, Try.ntmps23
    go_wp2_with (go_at_call 51; refine (of_yes H.out a ha).mono ?_; rintro e w' ⟨rfl, rfl⟩)
    go_ret
    exact ⟨rfl, rfl⟩
  · have h2 : f < 0 := by omega
    clear hb
    go_enter Try.func23, Try.ntmps23
    go_wp2_with (go_at_call 51; refine (of_yes H.out a ha).mono ?_; rintro e w' ⟨rfl, rfl⟩)
    go_ret
    exact ⟨rfl, rfl⟩
/-- What Give leaves. -/
def GiveOut (w : World) (x d : Nat) (s : Xt) (a f n : Nat) (e : Ending) (w' : World) : Prop :=
  ((s.pt a).full f n ∧ e = .returned (.int .i64 0) ∧ ExIs w' x d (s.set a ((s.pt a).turn f n)) ∧ TurnO (· = x) w w') ∨ (¬ (s.pt a).full f n ∧ e = .returned (.int .i64 6) ∧ w = w')
set_option maxHeartbeats 1000000 in
theorem xgive_yes (h : ExIs w x d s) (a : Nat) (ha : a < s.n) (f n : Nat) (h1 : 1 ≤ n) (h2 : n ≤ 9223372036854775807) : Calls Try.prog 23 #[.pointer (some ⟨x, 0, none⟩), .int .i64 (a : Int), .int .i64 (f : Int), .int .i64 (n : Int)] w (GiveOut w x d s a f n) := by
  have hn := h.n8
  have hct := (h.ok a).c1
  have H := Lib.hid h
  have hp := (s.pt a).has_nat f
  clear h
  have hn1 : ¬ (n : Int) < 1 := by omega
  have hf0 : ¬ (f : Int) < 0 := by omega
  by_cases hb : f < (s.pt a).ct ∧ (s.pt a).bit f = true
  · have HB := Lib.hid hb
    rw [hb.2, decide_eq_true hb.1] at hp
    have HP := Lib.hid hp
    clear hp hb
    go_enter Try.func23, Try.ntmps23
    go_wp2_with (first
      | (go_at_call 51; refine (of_yes H.out a ha).mono ?_; rintro e w' ⟨rfl, rfl⟩)
      | (go_at_call 62; refine (phas_any (H.out.part (by omega)) (H.out.ok a) f).mono ?_; rintro e w' ⟨rfl, rfl⟩; rw [HP.out])
      | (go_at_call 63; refine (pend_any (H.out.part (by omega)) (H.out.ok a) f (Nat.le_of_lt HB.out.1)).mono ?_; rintro e w' ⟨k, hk, rfl, rfl⟩; have hsub : IntKind.i64.wrap ((k : Int) - f) = (k : Int) - f := IntWalk.i64_in _ (by have := hk.ct; have := hk.le; omega); have HK := Lib.hid hk; clear hk))
    · have hgt : (k : Int) - f < n := by assumption
      go_ret
      refine .inr ⟨fun hfl => ?_, rfl, rfl⟩
      have hc := Pt.full_ct (H.out.ok a) h1 hfl
      rcases HK.out.stop with e1 | e1
      · omega
      · exact e1 (by rw [hfl k HK.out.le (by omega), HB.out.2])
    · have hle : (n : Int) ≤ (k : Int) - f := by assumption
      have hfl : (s.pt a).full f n := fun j h1 h2 => by rw [HK.out.all j h1 (by omega)]; exact HB.out.2
      have HFL := Lib.hid hfl
      have HC := Lib.hid (show f + n ≤ (s.pt a).ct from by have := HK.out.ct; omega)
      clear hfl
      go_wp2_with (go_at_call 58; refine (turn_any H.out a (by omega) f n HC.out).mono ?_; rintro e w1 ⟨rfl, hE, hT⟩; have HE := Lib.hid hE; have HT := Lib.hid hT; clear hE hT)
      go_ret
      exact .inl ⟨HFL.out, rfl, HE.out, HT.out⟩
  · have e0 : (decide (f < (s.pt a).ct) && (s.pt a).bit f) = false := by
      cases hh : (s.pt a).bit f with
      | true => rw [hh] at hb; simp at hb; simp; exact hb
      | false => simp
    rw [e0] at hp
    have HP := Lib.hid hp
    have HB := Lib.hid hb
    clear hp e0 hb
    go_enter Try.func23, Try.ntmps23
    go_wp2_with (first
      | (go_at_call 51; refine (of_yes H.out a ha).mono ?_; rintro e w' ⟨rfl, rfl⟩)
      | (go_at_call 62; refine (phas_any (H.out.part (by omega)) (H.out.ok a) f).mono ?_; rintro e w' ⟨rfl, rfl⟩; rw [HP.out]))
    go_ret
    refine .inr ⟨fun hf => HB.out ⟨?_, hf f (Nat.le_refl _) (by omega)⟩, rfl, rfl⟩
    have := Pt.full_ct (H.out.ok a) h1 hf
    omega
end
end Go.Proofs.Ytgpdkfmneoggkaa
