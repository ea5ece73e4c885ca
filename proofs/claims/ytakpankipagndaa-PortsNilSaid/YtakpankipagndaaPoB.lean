/- there, asks, of, Quota, Len, Lost, Home. -/
import Derived.Test.YtakpankipagndaaPoA
import Derived.WalkSpells
import Derived.IntWalk
namespace Go.Proofs.Ytakpankipagndaa
open Go.RowKit
open Go.Maps (Keyed)

/-- Ports that are none: nil, or zero ones. -/
def NoPo (w : World) (v : Value) : Prop := v = .pointer none ∨ ∃ p, v = .pointer (some ⟨p, 0, none⟩) ∧ w.cell? ⟨p, 0, none⟩ = some (.slice none 0 0)
theorem NoPo.below {w w' : World} {v : Value} (h : NoPo w v) (hb : Below w.heap.size w w') : NoPo w' v := by
  rcases h with rfl | ⟨p, rfl, hc⟩
  · exact .inl rfl
  · exact .inr ⟨p, rfl, (hb.cell (World.block_lt_of_cell? w _ hc)).trans hc⟩
theorem there_no12 {w : World} {v : Value} (h : NoPo w v) : Calls Try.prog 45 #[v] w fun e w' => e = .returned (.bool false) ∧ w = w' := by
  rcases h with rfl | ⟨d, rfl, hc⟩
  · go_enter Try.func45, Try.ntmps45
    go_wp2
    go_ret
    exact ⟨rfl, rfl⟩
  · go_enter Try.func45, Try.ntmps45
    go_wp2
    go_ret
    exact ⟨rfl, rfl⟩
theorem asks_no12 {w : World} {v : Value} (h : NoPo w v) (a : Int) : Calls Try.prog 50 #[v, .int .i64 a] w fun e w' => e = .returned (.int .i64 1) ∧ w = w' := by
  go_enter Try.func50, Try.ntmps50
  go_wp2_with (go_at_call 45; refine (there_no12 h).mono ?_; rintro e w' ⟨rfl, rfl⟩)
  go_ret
  exact ⟨rfl, rfl⟩
theorem of_no12 {w : World} {v : Value} (h : NoPo w v) (a n : Int) : Calls Try.prog 55 #[v, .int .i64 a, .int .i64 n] w fun e w' => e = .returned (.tuple #[.pointer none, .int .i64 1]) ∧ w = w' := by
  go_enter Try.func55, Try.ntmps55
  go_wp2_with (go_at_call 50; refine (asks_no12 h a).mono ?_; rintro e w' ⟨rfl, rfl⟩)
  go_ret2
  exact ⟨rfl, rfl⟩
theorem quota_no12 {w : World} {v : Value} (h : NoPo w v) (a : Int) : Calls Try.prog 37 #[v, .int .i64 a] w fun e w' => e = .returned (.int .i64 0) ∧ w = w' := by
  go_enter Try.func37, Try.ntmps37
  go_wp2_with (go_at_call 50; refine (asks_no12 h a).mono ?_; rintro e w' ⟨rfl, rfl⟩)
  go_ret
  exact ⟨rfl, rfl⟩
theorem len_no12 {w : World} {v : Value} (h : NoPo w v) (a n : Int) : Calls Try.prog 20 #[v, .int .i64 a, .int .i64 n] w fun e w' => e = .returned (.int .i64 0) ∧ w = w' := by
  go_enter Try.func20, Try.ntmps20
  go_wp2_with (go_at_call 55; refine (of_no12 h a n).mono ?_; rintro e w' ⟨rfl, rfl⟩)
  go_ret
  exact ⟨rfl, rfl⟩
theorem lost_no12 {w : World} {v : Value} (h : NoPo w v) (a n : Int) : Calls Try.prog 26 #[v, .int .i64 a, .int .i64 n] w fun e w' => e = .returned (.int .i64 0) ∧ w = w' := by
  go_enter Try.func26, Try.ntmps26
  go_wp2_with (go_at_call 55; refine (of_no12 h a n).mono ?_; rintro e w' ⟨rfl, rfl⟩)
  go_ret
  exact ⟨rfl, rfl⟩

/-- Why nothing is told of a port that is not open. -/
def Ps.why (s : Ps) (a : Int) : Int := if s.acc a then 6 else 2
section
variable {w : World} {O R : Nat → Prop} {p : Nat} {L : Lay12} {s : Ps}
theorem there_yes12 (h : PoAt w O R p L s) : Calls Try.prog 45 #[.pointer (some ⟨p, 0, none⟩)] w fun e w' => e = .returned (.bool true) ∧ w = w' := by
  have c0 := h.c0
  have hn : 0 < s.q.length := h.ok.q1
  clear h
  go_enter Try.func45, Try.ntmps45
  go_wp2
  go_ret
  exact ⟨rfl, rfl⟩
theorem asks_any12 (h : PoAt w O R p L s) (a : Int) : Calls Try.prog 50 #[.pointer (some ⟨p, 0, none⟩), .int .i64 a] w fun e w' => e = .returned (.int .i64 (if s.acc a then 0 else 2)) ∧ w = w' := by
  have H := Lib.hid h
  have c0 := h.c0
  clear h
  cases ha : s.acc a with
  | true =>
    obtain ⟨h1, h2⟩ := Ps.acc_of ha
    have h1' : ¬ a < 0 := by omega
    have h2' : ¬ (s.q.length : Int) ≤ a := by omega
    clear ha h1 h2
    go_enter Try.func50, Try.ntmps50
    go_wp2_with (go_at_call 45; refine (there_yes12 H.out).mono ?_; rintro e w' ⟨rfl, rfl⟩)
    go_ret
    exact ⟨rfl, rfl⟩
  | false =>
    by_cases h1 : a < 0
    · clear ha
      go_enter Try.func50, Try.ntmps50
      go_wp2_with (go_at_call 45; refine (there_yes12 H.out).mono ?_; rintro e w' ⟨rfl, rfl⟩)
      go_ret
      exact ⟨rfl, rfl⟩
    · have h2 : (s.q.length : Int) ≤ a := by
        unfold Ps.acc at ha
        simp only [Bool.and_eq_false_iff, decide_eq_false_iff_not] at ha
        omega
      clear ha
      go_enter Try.func50, Try.ntmps50
      go_wp2_with (go_at_call 45; refine (there_yes12 H.out).mono ?_; rintro e w' ⟨rfl, rfl⟩)
      go_ret
      exact ⟨rfl, rfl⟩
theorem asks_yes12 (h : PoAt w O R p L s) {a : Int} (ha : s.acc a = true) : Calls Try.prog 50 #[.pointer (some ⟨p, 0, none⟩), .int .i64 a] w fun e w' => e = .returned (.int .i64 0) ∧ w = w' := by
  have := asks_any12 h a
  rwa [ha] at this
theorem asks_not12 (h : PoAt w O R p L s) {a : Int} (ha : s.acc a = false) : Calls Try.prog 50 #[.pointer (some ⟨p, 0, none⟩), .int .i64 a] w fun e w' => e = .returned (.int .i64 2) ∧ w = w' := by
  have := asks_any12 h a
  rwa [ha] at this
theorem of_yes12 (h : PoAt w O R p L s) {a n : Int} (ha : wf12 a) (hn : wf12 n) {X : Cl} (hc : s.c a n = some X) : Calls Try.prog 55 #[.pointer (some ⟨p, 0, none⟩), .int .i64 a, .int .i64 n] w fun e w' => e = .returned (.tuple #[.pointer (some ⟨L.C a n, 0, none⟩), .int .i64 0]) ∧ w = w' := by
  have HA := Lib.hid (asks_yes12 h (h.ok.dom a n X hc).1)
  have c1 := h.c1
  have hl := h.look_yes ha hn hc
  clear h hc ha hn
  go_enter Try.func55, Try.ntmps55
  go_wp2_with (go_at_call 50; refine HA.out.mono ?_; rintro e w' ⟨rfl, rfl⟩)
  go_ret2
  exact ⟨rfl, rfl⟩
set_option maxRecDepth 100000 in
theorem of_not12 (h : PoAt w O R p L s) {a n : Int} (ha : wf12 a) (hn : wf12 n) (hc : s.c a n = none) : Calls Try.prog 55 #[.pointer (some ⟨p, 0, none⟩), .int .i64 a, .int .i64 n] w fun e w' => e = .returned (.tuple #[.pointer none, .int .i64 (s.why a)]) ∧ w = w' := by
  unfold Ps.why
  cases hacc : s.acc a with
  | true =>
    rw [if_pos rfl]
    have HA := Lib.hid (asks_yes12 h hacc)
    have c1 := h.c1
    have hl := h.look_no ha hn hc
    clear h hc ha hn hacc
    go_enter Try.func55, Try.ntmps55
    go_wp2_with (go_at_call 50; refine HA.out.mono ?_; rintro e w' ⟨rfl, rfl⟩)
    go_ret2
    exact ⟨rfl, rfl⟩
  | false =>
    have HA := Lib.hid (asks_not12 h hacc)
    clear h hc ha hn hacc
    go_enter Try.func55, Try.ntmps55
    go_wp2_with (go_at_call 50; refine HA.out.mono ?_; rintro e w' ⟨rfl, rfl⟩)
    go_ret2
    exact ⟨rfl, rfl⟩
def Ps.quota (s : Ps) (a : Int) : Nat := if s.acc a then s.qt a else 0
theorem quota_any12 (h : PoAt w O R p L s) (a : Int) : Calls Try.prog 37 #[.pointer (some ⟨p, 0, none⟩), .int .i64 a] w fun e w' => e = .returned (.int .i64 (s.quota a : Int)) ∧ w = w' := by
  unfold Ps.quota
  cases hacc : s.acc a with
  | true =>
    have HA := Lib.hid (asks_yes12 h hacc)
    have c0 := h.c0
    have cq := h.cq hacc
    obtain ⟨h1, h2⟩ := Ps.acc_of hacc
    obtain ⟨i, rfl⟩ : ∃ i : Nat, a = i := ⟨a.toNat, by omega⟩
    rw [Int.toNat_natCast] at cq
    have h3 : i < s.q.length := by omega
    clear h hacc
    go_enter Try.func37, Try.ntmps37
    go_wp2_with (go_at_call 50; refine HA.out.mono ?_; rintro e w' ⟨rfl, rfl⟩)
    go_ret
    exact ⟨rfl, rfl⟩
  | false =>
    have HA := Lib.hid (asks_not12 h hacc)
    clear h hacc
    go_enter Try.func37, Try.ntmps37
    go_wp2_with (go_at_call 50; refine HA.out.mono ?_; rintro e w' ⟨rfl, rfl⟩)
    go_ret
    exact ⟨rfl, rfl⟩
def Ps.len (s : Ps) (a n : Int) : Nat := match s.c a n with
  | some X => X.rg.length
  | none => 0
def Ps.lost (s : Ps) (a n : Int) : Int := match s.c a n with
  | some X => X.lo
  | none => 0
theorem why_bne (s : Ps) (a : Int) : (s.why a != 0) = true := by unfold Ps.why; split <;> rfl
theorem len_any12 (h : PoAt w O R p L s) {a n : Int} (ha : wf12 a) (hn : wf12 n) : Calls Try.prog 20 #[.pointer (some ⟨p, 0, none⟩), .int .i64 a, .int .i64 n] w fun e w' => e = .returned (.int .i64 (s.len a n : Int)) ∧ w = w' := by
  unfold Ps.len
  cases hc : s.c a n with
  | some X =>
    have HA := Lib.hid (of_yes12 h ha hn hc)
    obtain ⟨FA, FC, V, hX⟩ := h.cl a n X hc
    have c10 := hX.c10
    clear h hc ha hn hX
    generalize L.C a n = cb at *
    go_enter Try.func20, Try.ntmps20
    go_wp2_with (go_at_call 55; refine HA.out.mono ?_; rintro e w' ⟨rfl, rfl⟩)
    go_ret
    exact ⟨rfl, rfl⟩
  | none =>
    have HA := Lib.hid (of_not12 h ha hn hc)
    have hw := why_bne s a
    clear h hc ha hn
    go_enter Try.func20, Try.ntmps20
    go_wp2_with (go_at_call 55; refine HA.out.mono ?_; rintro e w' ⟨rfl, rfl⟩)
    go_ret
    exact ⟨rfl, rfl⟩
theorem lost_any12 (h : PoAt w O R p L s) {a n : Int} (ha : wf12 a) (hn : wf12 n) : Calls Try.prog 26 #[.pointer (some ⟨p, 0, none⟩), .int .i64 a, .int .i64 n] w fun e w' => e = .returned (.int .i64 (s.lost a n)) ∧ w = w' := by
  unfold Ps.lost
  cases hc : s.c a n with
  | some X =>
    have HA := Lib.hid (of_yes12 h ha hn hc)
    obtain ⟨FA, FC, V, hX⟩ := h.cl a n X hc
    have c10 := hX.c11
    clear h hc ha hn hX
    generalize L.C a n = cb at *
    go_enter Try.func26, Try.ntmps26
    go_wp2_with (go_at_call 55; refine HA.out.mono ?_; rintro e w' ⟨rfl, rfl⟩)
    go_ret
    exact ⟨rfl, rfl⟩
  | none =>
    have HA := Lib.hid (of_not12 h ha hn hc)
    have hw := why_bne s a
    clear h hc ha hn
    go_enter Try.func26, Try.ntmps26
    go_wp2_with (go_at_call 55; refine HA.out.mono ?_; rintro e w' ⟨rfl, rfl⟩)
    go_ret
    exact ⟨rfl, rfl⟩
end

/-! ### A packet's home -/
def homeN : List Nat → Option Nat
  | [] => none
  | x :: _ => if x < 8 then some x else none
def homeV (P : List Nat) : Value := match homeN P with
  | some x => .tuple #[.int .i64 (x : Int), .bool true]
  | none => .tuple #[.int .i64 0, .bool false]
theorem home_any12 {w : World} {A : Option Addr} {P : List Nat} (h : PkIn w A P) {n c : Nat} (hn : P.length = n) : Calls Try.prog 13 #[.slice A n c] w fun e w' => e = .returned (homeV P) ∧ w = w' := by
  subst hn
  cases P with
  | nil =>
    clear h
    go_enter Try.func13, Try.ntmps13
    go_wp2
    go_ret2
    exact ⟨rfl, rfl⟩
  | cons x P =>
    obtain ⟨h8, b, o, rfl, hb, hc⟩ := h 0 x rfl
    rw [Nat.add_zero] at hc
    have hne : ((P.length + 1 : Nat) : Int) ≠ 0 := by omega
    have hpos : (0 : Int) < ((P.length + 1 : Nat) : Int) := by omega
    have hpos' : 0 < P.length + 1 := by omega
    have e1 : x < 8 → homeV (x :: P) = .tuple #[.int .i64 (x : Int), .bool true] := fun hx => by unfold homeV homeN; simp only [if_pos hx]
    have e2 : ¬ x < 8 → homeV (x :: P) = .tuple #[.int .i64 0, .bool false] := fun hx => by unfold homeV homeN; simp only [if_neg hx]
    clear h hb
    generalize homeV (x :: P) = hv at *
    rw [List.length_cons]
    generalize P.length + 1 = n at *
    have hq : (decide ((n : Int) = 0)) = false := by simpa using hne
    by_cases h1 : x < 8
    · have h1' : ¬ (8 : Int) ≤ (x : Int) := by omega
      obtain rfl := e1 h1
      clear e1 e2
      go_enter Try.func13, Try.ntmps13
      go_wp2
      go_ret2
      exact ⟨rfl, rfl⟩
    · have h1' : (8 : Int) ≤ (x : Int) := by omega
      obtain rfl := e2 h1
      clear e1 e2
      go_enter Try.func13, Try.ntmps13
      go_wp2
      go_ret2
      exact ⟨rfl, rfl⟩
end Go.Proofs.Ytakpankipagndaa
