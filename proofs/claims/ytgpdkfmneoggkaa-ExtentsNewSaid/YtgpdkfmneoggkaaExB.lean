/- there, of, has, end. -/
import Derived.Test.YtgpdkfmneoggkaaExA
namespace Go.Proofs.Ytgpdkfmneoggkaa
open Go.RowKit

/-- Extents that are none: nil, or zero ones. -/
def NoEx (w : World) (v : Value) : Prop := v = .pointer none ∨ ∃ x, v = .pointer (some ⟨x, 0, none⟩) ∧ w.cell? ⟨x, 0, none⟩ = some (.pointer none)
theorem xthere_no {w : World} {v : Value} (h : NoEx w v) : Calls Try.prog 52 #[v] w fun e w' => e = .returned (.bool false) ∧ w = w' := by
  rcases h with rfl | ⟨d, rfl, hc⟩
  · go_enter Try.func52, Try.ntmps52
    go_wp2
    go_ret
    exact ⟨rfl, rfl⟩
  · go_enter Try.func52, Try.ntmps52
    go_wp2
    go_ret
    exact ⟨rfl, rfl⟩
theorem of_no {w : World} {v : Value} (h : NoEx w v) (i : Int) : Calls Try.prog 51 #[v, .int .i64 i] w fun e w' => e = .returned (.tuple #[.pointer none, .int .i64 1]) ∧ w = w' := by
  go_enter Try.func51, Try.ntmps51
  go_wp2_with (go_at_call 52; refine (xthere_no h).mono ?_; rintro e w' ⟨rfl, rfl⟩)
  go_ret2
  exact ⟨rfl, rfl⟩
section
variable {w : World} {x d : Nat} {s : Xt}
theorem xthere_any (h : ExIs w x d s) : Calls Try.prog 52 #[.pointer (some ⟨x, 0, none⟩)] w fun e w' => e = .returned (.bool true) ∧ w = w' := by
  have c0 := h.c0
  clear h
  go_enter Try.func52, Try.ntmps52
  go_wp2
  go_ret
  exact ⟨rfl, rfl⟩
theorem of_out (h : ExIs w x d s) (a : Int) (ha : a < 0 ∨ (s.n : Int) ≤ a) : Calls Try.prog 51 #[.pointer (some ⟨x, 0, none⟩), .int .i64 a] w fun e w' => e = .returned (.tuple #[.pointer none, .int .i64 2]) ∧ w = w' := by
  have H := Lib.hid h
  have c1 := h.c1
  clear h
  by_cases h0 : a < 0
  · go_enter Try.func51, Try.ntmps51
    go_wp2_with (go_at_call 52; refine (xthere_any H.out).mono ?_; rintro e w' ⟨rfl, rfl⟩)
    go_ret2
    exact ⟨rfl, rfl⟩
  · have h1 : (s.n : Int) ≤ a := by omega
    go_enter Try.func51, Try.ntmps51
    go_wp2_with (go_at_call 52; refine (xthere_any H.out).mono ?_; rintro e w' ⟨rfl, rfl⟩)
    go_ret2
    exact ⟨rfl, rfl⟩
theorem of_yes (h : ExIs w x d s) (a : Nat) (ha : a < s.n) : Calls Try.prog 51 #[.pointer (some ⟨x, 0, none⟩), .int .i64 (a : Int)] w fun e w' => e = .returned (.tuple #[.pointer (some ⟨x, 2 + a * 66, none⟩), .int .i64 0]) ∧ w = w' := by
  have H := Lib.hid h
  have c1 := h.c1
  have hn := h.n8
  clear h
  have h1 : ¬ (s.n : Int) ≤ a := by omega
  go_enter Try.func51, Try.ntmps51
  go_wp2_with (go_at_call 52; refine (xthere_any H.out).mono ?_; rintro e w' ⟨rfl, rfl⟩)
  go_ret2
  exact ⟨rfl, rfl⟩
end
section
variable {w : World} {b o : Nat} {p : Pt}
theorem pt_c1 (h : w.rangeAt b o (ptL p)) : w.cell? ⟨b, o + 1, none⟩ = some (.int .i64 (p.ct : Int)) := h 1 _ (ptL_get p (by decide))
theorem pt_cw (h : w.rangeAt b o (ptL p)) {k : Nat} (hk : k < 64) : w.cell? ⟨b, o + 2 + k, none⟩ = some (.int .u64 (p.wd k : Int)) := by
  have := h (2 + k) _ (ptL_get p (by omega))
  rw [← Nat.add_assoc] at this
  rw [this]
  unfold pcell
  rw [if_neg (by omega), if_neg (by omega), show 2 + k - 2 = k by omega]
theorem phas_any (h : w.rangeAt b o (ptL p)) (hp : PtOk p) (i : Int) : Calls Try.prog 62 #[.pointer (some ⟨b, o, none⟩), .int .i64 i] w fun e w' => e = .returned (.bool (p.has i)) ∧ w = w' := by
  have c1 := pt_c1 h
  unfold Pt.has
  by_cases h0 : 0 ≤ i
  · rw [decide_eq_true h0, Bool.true_and]
    by_cases h1 : i < (p.ct : Int)
    · rw [decide_eq_true h1, Bool.true_and]
      have hct := hp.c1
      obtain ⟨n, rfl⟩ : ∃ n : Nat, i = n := ⟨i.toNat, by omega⟩
      have cw := pt_cw h (k := n / 64) (by omega)
      clear h
      go_enter Try.func62, Try.ntmps62
      go_wp2
      go_ret
      exact ⟨congrArg (fun v => Ending.returned (.bool v)) (bit_and (hp.w1 _)), rfl⟩
    · rw [decide_eq_false h1, Bool.false_and]
      clear h
      go_enter Try.func62, Try.ntmps62
      go_wp2
      go_ret
      exact ⟨rfl, rfl⟩
  · rw [decide_eq_false h0, Bool.false_and]
    clear h
    go_enter Try.func62, Try.ntmps62
    go_wp2
    go_ret
    exact ⟨rfl, rfl⟩
end
end Go.Proofs.Ytgpdkfmneoggkaa
