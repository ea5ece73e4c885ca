/- Over another disk that will not do, Owner. -/
import Derived.Test.YtgpdkfmneoggkaaExG
namespace Go.Proofs.Ytgpdkfmneoggkaa
open Go.RowKit

section
variable {w : World} {O O2 : Nat → Prop} {x d d2 : Nat} {L L2 : Lay9} {s : Xt} {k k2 : Dk}
theorem xover_nil (h : ExIs w x d s) {v : Value} (hv : NoDk w v) : Calls Try.prog 14 #[.pointer (some ⟨x, 0, none⟩), v] w fun e w' => e = .returned (.tuple #[.pointer none, .int .i64 1]) ∧ w = w' := by
  have H := Lib.hid h
  clear h
  go_enter Try.func14, Try.ntmps14
  go_wp2_with (first
    | (go_at_call 52; refine (xthere_any H.out).mono ?_; rintro e w' ⟨rfl, rfl⟩)
    | (go_at_call 53; refine (size_no9 hv).mono ?_; rintro e w' ⟨rfl, rfl⟩))
  go_ret2
  exact ⟨rfl, rfl⟩
set_option maxHeartbeats 1000000 in
theorem xover_size (h : ExDk w O x d L s k) (h2 : DkAt w O2 d2 L2 k2) (hne : k2.fl.length ≠ k.fl.length) : Calls Try.prog 14 #[.pointer (some ⟨x, 0, none⟩), .pointer (some ⟨d2, 0, none⟩)] w fun e w' => e = .returned (.tuple #[.pointer none, .int .i64 2]) ∧ Below w.heap.size w w' := by
  have H := Lib.hid h
  have H2 := Lib.hid h2
  have c0 := h.ex.c0
  have hn1 := h2.ok.n1
  obtain ⟨y, hy⟩ : ∃ y, k.fl.length = y := ⟨_, rfl⟩
  obtain ⟨z, hz⟩ : ∃ z, k2.fl.length = z := ⟨_, rfl⟩
  have HY := Lib.hid hy
  have HZ := Lib.hid hz
  rw [hy, hz] at hne
  rw [hz] at hn1
  clear h h2 hy hz
  have hz0 : ¬ ((z : Int) = 0) := by omega
  have hzy : ((z : Int) != y) = true := by simp; omega
  have hzy2 : ¬ ((z : Int) = y) := by omega
  go_enter Try.func14, Try.ntmps14
  go_wp2_with (first
    | (go_at_call 52; refine (xthere_any H.out.ex).mono ?_; rintro e w' ⟨rfl, rfl⟩)
    | (go_at_call 53; with_reducible (refine Calls.mono (size_any9 H2.out) ?_); rintro e w' ⟨rfl, rfl⟩; rw [HZ.out]))
  have QS2 := fun n => (size_any9 (H2.out.step (bdN (Below.refl _ w) n))).mono (fun e w' hh => (⟨by rw [hh.1, HZ.out], hh.2.symm⟩ : e = .returned (.int .i64 (z : Int)) ∧ w' = w.drewN n))
  have QS1 := fun n => (size_any9 (H.out.dk.step (bdN (Below.refl _ w) n))).mono (fun e w' hh => (⟨by rw [hh.1, HY.out], hh.2.symm⟩ : e = .returned (.int .i64 (y : Int)) ∧ w' = w.drewN n))
  have Q2 := Lib.hid QS2
  have Q1 := Lib.hid QS1
  clear QS1 QS2
  go_quiet ((first
    | (with_reducible (go_at_call 53; exact Calls.quiet_of_same (Q2.out _)))
    | (with_reducible (go_at_call 53; exact Calls.quiet_of_same (Q1.out _)))))
  go_wp2
  go_ret2
  exact ⟨rfl, bdN (Below.refl _ w) _⟩
/-- Whose sector it is. -/
def OwnerOut (s : Xt) (i : Int) (v : Value) : Prop :=
  (∃ a : Nat, a < s.n ∧ ((s.pt a).fi : Int) ≤ i ∧ i < ((s.pt a).fi : Int) + (s.pt a).ct ∧ (∀ b, b < a → ¬ (((s.pt b).fi : Int) ≤ i ∧ i < ((s.pt b).fi : Int) + (s.pt b).ct)) ∧ v = .tuple #[.int .i64 (a : Int), .int .i64 (i - (s.pt a).fi), .bool true]) ∨
  ((∀ b, b < s.n → ¬ (((s.pt b).fi : Int) ≤ i ∧ i < ((s.pt b).fi : Int) + (s.pt b).ct)) ∧ v = .tuple #[.int .i64 0, .int .i64 0, .bool false])
set_option maxHeartbeats 4000000 in
set_option maxRecDepth 100000 in
theorem xowner_any (h : ExIs w x d s) (i : Int) : Calls Try.prog 25 #[.pointer (some ⟨x, 0, none⟩), .int .i64 i] w fun e w' => ∃ v, e = .returned v ∧ OwnerOut s i v ∧ Below w.heap.size w w' := by
  have hn := h.n8
  have c1 := h.c1
  have H := Lib.hid h
  clear h
  go_enter Try.func25, Try.ntmps25
  go_wp2_with (go_at_call 52; refine (xthere_any H.out).mono ?_; rintro e w' ⟨rfl, rfl⟩)
  obtain ⟨n, hsn⟩ : ∃ n, s.n = n := ⟨_, rfl⟩
  have HSN := Lib.hid hsn
  rw [hsn] at hn ⊢
  clear c1 hsn
  go_loopg [7, 8, 16] n (fun g i7 i8 j W => ∃ b : Nat, b + g = n ∧ j = .int .i64 (b : Int) ∧ (∀ c, c < b → ¬ (((s.pt c).fi : Int) ≤ i ∧ i < ((s.pt c).fi : Int) + (s.pt c).ct)) ∧ Below w.heap.size w W)
  case atStart => exact ⟨0, by omega, rfl, fun c hc => by omega, Below.refl _ _⟩
  case round =>
    obtain ⟨b, hb, rfl, hno, hB⟩ := hrel
    have HB := Lib.hid hB
    have HNO := Lib.hid hno
    clear hB hno
    by_cases hlt : b < n
    · have hlt' : (b : Int) < (n : Int) := by omega
      have hE := H.out.step HB.out
      have c2 := hE.pc0 (a := b) (by omega)
      have c3 := hE.pc1 (a := b) (by omega)
      have hct := (hE.ok b).c1
      clear hE
      obtain ⟨f, hf⟩ : ∃ f, (s.pt b).fi = f := ⟨_, rfl⟩
      obtain ⟨m, hm⟩ : ∃ m, (s.pt b).ct = m := ⟨_, rfl⟩
      have HF := Lib.hid hf
      have HM := Lib.hid hm
      rw [hf] at c2 hct
      rw [hm] at c3 hct
      clear hf hm
      have hw1 : IntKind.i64.wrap ((f : Int) + m) = (f : Int) + m := IntWalk.i64_in _ (by omega)
      by_cases g1 : (f : Int) ≤ i
      · by_cases g2 : i < (f : Int) + m
        · have hw2 : IntKind.i64.wrap (i - f) = i - f := IntWalk.i64_in _ (by omega)
          go_wp2_with fail
          go_quiet (fail)
          go_wp2_with fail
          go_quiet (fail)
          go_wp2
          go_ret3
          refine ⟨_, rfl, .inl ⟨b, by rw [HSN.out]; exact hlt, by rw [HF.out]; exact g1, by rw [HF.out, HM.out]; exact g2, HNO.out, by rw [HF.out]; rfl⟩, ?_⟩
          exact bdN (bdN HB.out _) _
        · go_wp2_with fail
          go_quiet (fail)
          go_wp2
          go_roundg (n - (b + 1))
          case measure => omega
          case rel => exact ⟨b + 1, by omega, by go_num, (fun c hc => by
            by_cases e : c = b
            · rw [e, HF.out, HM.out]; omega
            · exact HNO.out c (by omega)), bdN HB.out _⟩
      · have dz : decide ((f : Int) ≤ i) = false := by simpa using g1
        go_wp2_with fail
        go_quiet (fail)
        go_wp2
        go_roundg (n - (b + 1))
        case measure => omega
        case rel => exact ⟨b + 1, by omega, by go_num, (fun c hc => by
          by_cases e : c = b
          · rw [e, HF.out, HM.out]; omega
          · exact HNO.out c (by omega)), bdN HB.out _⟩
    · obtain rfl : b = n := by omega
      have hlt' : ¬ (b : Int) < (b : Int) := by omega
      go_wp2
      go_ret3
      exact ⟨_, rfl, .inr ⟨by rw [HSN.out]; exact HNO.out, rfl⟩, HB.out⟩
end
end Go.Proofs.Ytgpdkfmneoggkaa
