/- A step, done as it comes out. -/
import Derived.Test.YtakgjakcbpdefaaCapM
namespace Go.Proofs.Ytakgjakcbpdefaa
open Go.RowKit
open Go.Maps (Keyed)

structure StepS where
  kd : Int
  a : Int
  dst : Int
  th : Int
  ob : Int
  ri : Int
  id : Int
def stepL (s : StepS) : List Value := [.int .i64 s.kd, .int .i64 s.a, .int .i64 s.dst, .int .i64 s.th, .int .i64 s.ob, .int .i64 s.ri, .int .i64 s.id]
def stepV (s : StepS) : Value := .agg #[.int .i64 s.kd, .int .i64 s.a, .int .i64 s.dst, .int .i64 s.th, .int .i64 s.ob, .int .i64 s.ri, .int .i64 s.id]
def StepS.fits (s : StepS) : Prop := (Lit.int .i64 s.th).wf = true ∧ (Lit.int .i64 s.ob).wf = true ∧ (Lit.int .i64 s.id).wf = true
def oneO (T : Tab) (s : StepS) : Out :=
  if s.kd = 1 then rootO T s.a s.th s.ob s.ri
  else if s.kd = 2 then deriveO T s.a s.id s.a s.ri s.ri
  else if s.kd = 3 then deriveO T s.a s.id s.dst s.ri (bits .or .i64 s.ri 8)
  else if s.kd = 4 then revokeO T s.a s.id
  else if s.kd = 5 then dropO T s.a s.id
  else ⟨T, 0, 0⟩
theorem oneO_last {T : Tab} (h : TabOk T) (s : StepS) (hs : s.fits) : (oneO T s).tab.last ≤ T.last + 1 := by
  unfold oneO
  split
  · exact (rootO_ok h _ _ _ _ (wf64 hs.1).2 (wf64 hs.2.1).2).2
  · split
    · exact (deriveO_ok h _ _ _ _ _ (.inl rfl)).2
    · split
      · exact (deriveO_ok h _ _ _ _ _ (.inr rfl)).2
      · split
        · exact Nat.le_succ_of_le (revokeO_ok h _ _).2
        · split
          · exact Nat.le_succ_of_le (dropO_ok h _ _).2
          · exact Nat.le_succ _
set_option maxRecDepth 100000 in
set_option maxHeartbeats 2000000 in
theorem one_any {w : World} {t b : Nat} {T : Tab} (h : TabAt w t b T) (hl : T.last < 1000) (s : StepS) (hs : s.fits) :
    Calls Try.prog 17 #[.pointer (some ⟨t, 0, none⟩), stepV s] w fun e w' => e = .returned (.tuple #[]) ∧ TabAt w' t b (oneO T s).tab ∧ Turned t b w w' := by
  have hB := (Below.refl _ w).alloc (Nat.le_refl _) (.cells #[.int .i64 s.kd, .int .i64 s.a, .int .i64 s.dst, .int .i64 s.th, .int .i64 s.ob, .int .i64 s.ri, .int .i64 s.id] 31)
  have hT := h.step hB
  have HB := Lib.hid hB
  have HR := Lib.hid (root_any hT hl s.a s.th s.ob s.ri hs.1 hs.2.1)
  have HD := Lib.hid (Derive_any hT hl s.a s.id s.ri hs.2.2)
  have HG := Lib.hid (Grant_any hT hl s.a s.id s.dst s.ri hs.2.2)
  have HV := Lib.hid (Revoke_any hT (Nat.le_of_lt hl) s.a s.id hs.2.2)
  have HO := Lib.hid (Drop_any hT (Nat.le_of_lt hl) s.a s.id hs.2.2)
  have HT := Lib.hid hT
  clear h hl hs hB hT
  unfold stepV oneO
  generalize rootO T s.a s.th s.ob s.ri = oR at *
  generalize deriveO T s.a s.id s.a s.ri s.ri = oD at *
  generalize deriveO T s.a s.id s.dst s.ri (bits .or .i64 s.ri 8) = oG at *
  generalize revokeO T s.a s.id = oV at *
  generalize dropO T s.a s.id = oO at *
  by_cases h1 : s.kd = 1
  · rw [if_pos h1]
    generalize s.kd = kd at *
    subst h1
    go_enter Try.func17, Try.ntmps17
    go_wp2_with (go_at_call 23; refine HR.out.mono ?_; rintro e w2 ⟨rfl, hT, hb⟩; have HT2 := Lib.hid hT; have HB2 := Lib.hid hb; clear hT hb)
    go_end0
    exact ⟨rfl, HT2.out, (Turned.of_below HB.out).trans HB2.out⟩
  · skip
    by_cases h2 : s.kd = 2
    · rw [if_neg h1, if_pos h2]
      generalize s.kd = kd at *
      subst h2
      clear h1
      go_enter Try.func17, Try.ntmps17
      go_wp2_with (go_at_call 24; refine HD.out.mono ?_; rintro e w2 ⟨rfl, hT, hb⟩; have HT2 := Lib.hid hT; have HB2 := Lib.hid hb; clear hT hb)
      go_end0
      exact ⟨rfl, HT2.out, (Turned.of_below HB.out).trans HB2.out⟩
    · skip
      by_cases h3 : s.kd = 3
      · rw [if_neg h1, if_neg h2, if_pos h3]
        generalize s.kd = kd at *
        subst h3
        clear h1 h2
        go_enter Try.func17, Try.ntmps17
        go_wp2_with (go_at_call 26; refine HG.out.mono ?_; rintro e w2 ⟨rfl, hT, hb⟩; have HT2 := Lib.hid hT; have HB2 := Lib.hid hb; clear hT hb)
        go_end0
        exact ⟨rfl, HT2.out, (Turned.of_below HB.out).trans HB2.out⟩
      · skip
        by_cases h4 : s.kd = 4
        · rw [if_neg h1, if_neg h2, if_neg h3, if_pos h4]
          generalize s.kd = kd at *
          subst h4
          clear h1 h2 h3
          go_enter Try.func17, Try.ntmps17
          go_wp2_with (go_at_call 21; refine HV.out.mono ?_; rintro e w2 ⟨rfl, hT, hb⟩; have HT2 := Lib.hid hT; have HB2 := Lib.hid hb; clear hT hb)
          go_end0
          exact ⟨rfl, HT2.out, (Turned.of_below HB.out).trans HB2.out⟩
        · skip
          by_cases h5 : s.kd = 5
          · rw [if_neg h1, if_neg h2, if_neg h3, if_neg h4, if_pos h5]
            generalize s.kd = kd at *
            subst h5
            clear h1 h2 h3 h4
            go_enter Try.func17, Try.ntmps17
            go_wp2_with (go_at_call 22; refine HO.out.mono ?_; rintro e w2 ⟨rfl, hT, hb⟩; have HT2 := Lib.hid hT; have HB2 := Lib.hid hb; clear hT hb)
            go_end0
            exact ⟨rfl, HT2.out, (Turned.of_below HB.out).trans HB2.out⟩
          · rw [if_neg h1, if_neg h2, if_neg h3, if_neg h4, if_neg h5]
            have g1 : (s.kd == 1) = false := by simpa using h1
            have g2 : (s.kd == 2) = false := by simpa using h2
            have g3 : (s.kd == 3) = false := by simpa using h3
            have g4 : (s.kd == 4) = false := by simpa using h4
            have g5 : (s.kd == 5) = false := by simpa using h5
            clear h1 h2 h3 h4 h5
            go_enter Try.func17, Try.ntmps17
            go_wp2_with fail
            go_end0
            exact ⟨rfl, HT.out, Turned.of_below HB.out⟩

/-- Steps that came in. -/
def StepsOf (w : World) (A : Option Addr) (n : Nat) (R : Nat → StepS) : Prop := 0 < n → ∃ b o, A = some ⟨b, o, none⟩ ∧ ∀ i, i < n → ∀ j, j < 7 → w.cell? ⟨b, o + i * 7 + j, none⟩ = (stepL (R i))[j]?
theorem TabOwn.one {w0 w w' : World} {t b : Nat} {T T' : Tab} (h : TabOwn w0 w t b T) (hT : TabAt w' t b T') (hb : Turned t b w w') : TabOwn w0 w' t b T' := ⟨hT, h.below.trans (hb.below h.below.size h.ht h.hb), h.ht, h.hb⟩
end Go.Proofs.Ytakgjakcbpdefaa
