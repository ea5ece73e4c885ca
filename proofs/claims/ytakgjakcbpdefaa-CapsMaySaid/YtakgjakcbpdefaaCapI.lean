/- Root, Derive, Grant. -/
import Derived.Test.YtakgjakcbpdefaaCapH
namespace Go.Proofs.Ytakgjakcbpdefaa
open Go.RowKit
open Go.Maps (Keyed)

/-- What a call that makes one leaves. -/
def MadeOut (w : World) (t b : Nat) (o : Out) (e : Ending) (w' : World) : Prop := e = .returned (.tuple #[.int .i64 o.num, .int .i64 o.err]) ∧ TabAt w' t b o.tab ∧ Turned t b w w'
theorem MadeOut.from {w w1 : World} {t b : Nat} {o : Out} {e : Ending} {w' : World} (hb : Turned t b w w1) (h : MadeOut w1 t b o e w') : MadeOut w t b o e w' := ⟨h.1, h.2.1, hb.trans h.2.2⟩
theorem add_any {w : World} {t b : Nat} {T : Tab} (h : TabAt w t b T) (hl : T.last < 1000) (c : Cap) (hok : TabOk (addT T c)) (hi : c.id = 0) : Calls Try.prog 48 #[.pointer (some ⟨t, 0, none⟩), capV c] w (MadeOut w t b (addO T c)) := by
  unfold MadeOut addO
  by_cases hf : 32 ≤ madeBy T.caps c.maker
  · rw [if_pos hf]
    exact (add_full h (Nat.le_of_lt hl) c hf).mono (by rintro e w' ⟨rfl, hb⟩; exact ⟨rfl, h.step hb, Turned.of_below hb⟩)
  · rw [if_neg hf]
    exact add_yes h hl c (by omega) hok hi
theorem rootB_parts (a k o r : Int) : rootB a k o r = (accB a && (!decide (k < 0) && (!decide (o < 0) && rightsB r))) := by
  unfold rootB
  have e : ∀ x : Int, decide (0 ≤ x) = !decide (x < 0) := fun x => by by_cases h : x < 0 <;> simp [h] <;> omega
  rw [e, e, Bool.and_assoc, Bool.and_assoc]
theorem root_new {T : Tab} (h : TabOk T) {a k o r : Int} (hb : rootB a k o r = true) (hk : k ≤ 9223372036854775807) (ho : o ≤ 9223372036854775807) : TabOk (addT T ⟨0, 0, a, a, k, o, r⟩) := by
  unfold rootB at hb
  simp only [Bool.and_eq_true, decide_eq_true_eq, accB_iff, rightsB_iff] at hb
  refine add_ok h _ ⟨?_, ?_, ?_, ?_, ?_, ?_, ?_, ?_, ?_, ?_, ?_, ?_, ?_, ?_⟩ (.inl rfl) <;> dsimp only <;> omega
set_option maxRecDepth 100000 in
set_option maxHeartbeats 2000000 in
theorem root_any {w : World} {t b : Nat} {T : Tab} (h : TabAt w t b T) (hl : T.last < 1000) (a k o r : Int) (hk : (Lit.int .i64 k).wf = true) (ho : (Lit.int .i64 o).wf = true) :
    Calls Try.prog 23 #[.pointer (some ⟨t, 0, none⟩), .int .i64 a, .int .i64 k, .int .i64 o, .int .i64 r] w (MadeOut w t b (rootO T a k o r)) := by
  have H := Lib.hid h
  have HL := Lib.hid hl
  have HN := Lib.hid (fun hb => root_new h.ok (a := a) (r := r) hb (wf64 hk).2 (wf64 ho).2)
  clear h hl hk ho
  have q := Try.qmap
  have e2 := rootB_parts a k o r
  cases hr : rootB a k o r
  · have e : rootO T a k o r = ⟨T, 0, 2⟩ := by unfold rootO; rw [hr]; rfl
    rw [e]; clear e HN
    rw [hr] at e2
    have HM := Lib.hid (show ∀ w', w = w' → MadeOut w t b ⟨T, 0, 2⟩ (.returned (.tuple #[.int .i64 0, .int .i64 2])) w' from fun w' e => e ▸ ⟨rfl, H.out, Turned.refl _ _ _⟩)
    clear hr
    have E2 := Lib.hid e2
    clear e2
    cases h1 : accB a
    case' true => cases h2 : decide (k < 0)
    case' true.false => cases h3 : decide (o < 0)
    case' true.false.false => have e2 := E2.out; rw [h1, h2, h3] at e2; replace e2 : rightsB r = false := by simpa using e2.symm
    all_goals
      go_enter Try.func23, Try.ntmps23
      go_wp2_with (first
        | (go_at_call 30; refine (there_any H.out).mono ?_; rintro e w' ⟨rfl, rfl⟩)
        | (go_at_call 47; refine (isAccount_any a _).mono ?_; rintro e w' ⟨rfl, rfl⟩)
        | (go_at_call 37; refine (areRights_any r _).mono ?_; rintro e w' ⟨rfl, rfl⟩))
      go_ret2
      exact HM.out _ rfl
  · have e : rootO T a k o r = addO T ⟨0, 0, a, a, k, o, r⟩ := by unfold rootO; rw [hr]; rfl
    rw [e]; clear e
    rw [hr] at e2
    have HA := Lib.hid (add_any H.out HL.out ⟨0, 0, a, a, k, o, r⟩ (HN.out hr) rfl)
    unfold capV at HA
    clear HN hr HL
    simp only [Bool.true_eq, Bool.and_eq_true, Bool.not_eq_true'] at e2
    obtain ⟨h1, h2, h3, h4⟩ := e2
    generalize addO T ⟨0, 0, a, a, k, o, r⟩ = out at HA
    go_enter Try.func23, Try.ntmps23
    go_wp2_with (first
      | (go_at_call 30; refine (there_any H.out).mono ?_; rintro e w' ⟨rfl, rfl⟩)
      | (go_at_call 47; refine (isAccount_any a _).mono ?_; rintro e w' ⟨rfl, rfl⟩)
      | (go_at_call 37; refine (areRights_any r _).mono ?_; rintro e w' ⟨rfl, rfl⟩)
      | (go_at_call 48; refine HA.out.mono ?_; rintro e w' ⟨rfl, hT, hb⟩; have HT := Lib.hid hT; have HB := Lib.hid hb; clear hT hb))
    go_ret2
    exact ⟨rfl, HT.out, HB.out⟩
end Go.Proofs.Ytakgjakcbpdefaa
