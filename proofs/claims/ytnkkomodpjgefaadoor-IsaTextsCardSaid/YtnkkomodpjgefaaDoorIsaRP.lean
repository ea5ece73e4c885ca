/- The document's Parse, for every text: it comes to the same as isa's. -/
import Derived.Test.YtnkkomodpjgefaaDoorIsaRP1
import Derived.Test.YtnkkomodpjgefaaDoorIsaRP2
namespace Go.Proofs.YtnkkomodpjgefaaDoor
open Go.RowKit Go.Sort

theorem rpV_q (s : ByteArray) : rpV (rcOp s) (rcD s) (rcA s) (rcB s) (rcM s) s = .tuple #[.agg #[.int .i64 (qOp s), .int .i64 (qD s), .int .i64 (qA s), .int .i64 (qB s), .int .i64 (qM s)], .int .i64 (qE s)] := by
  obtain ⟨h1, h2⟩ := read_same s
  unfold qOp qD qA qB qM qE
  unfold rpV
  have e : (mayB (rcOp s) (rcD s) (rcA s) (rcB s) (rcM s) && ((textOf (rcOp s) (rcD s) (rcA s) (rcB s) (rcM s)).toList == s.toList)) = okR s := rfl
  rw [e, ← h1]
  cases h : okR s
  · simp
  · obtain ⟨e0, e1, e2, e3, e4⟩ := h2 h
    rw [e0, e1, e2, e3, e4]; simp

theorem rparse_any (s : ByteArray) (hs : s.size ≤ 4000) (w : World) (he : Env w) :
    Calls Tryd.prog 21 #[.string s] w fun e w' => e = .returned (.tuple #[.agg #[.int .i64 (qOp s), .int .i64 (qD s), .int .i64 (qA s), .int .i64 (qB s), .int .i64 (qM s)], .int .i64 (qE s)]) ∧ Below w.heap.size w w' := by
  rw [← rpV_q]
  rcases form_range (rcOp s) with hf | hf | hf | hf | hf | hf | hf
  · have e1 : rcD s = 0 := by unfold rcD; rw [hf]; rfl
    have e2 : rcA s = 0 := by unfold rcA; rw [hf]; rfl
    have e3 : rcB s = 0 := by unfold rcB; rw [hf]; rfl
    have e4 : rcM s = 0 := by unfold rcM; rw [hf]; rfl
    rw [e1, e2, e3, e4]; exact rparse_0 s hs _ w he rfl hf
  · have e1 : rcD s = 0 := by unfold rcD; rw [hf]; rfl
    have e2 : rcA s = 0 := by unfold rcA; rw [hf]; rfl
    have e3 : rcB s = 0 := by unfold rcB; rw [hf]; rfl
    have e4 : rcM s = numR (rL s) 1 0 := by unfold rcM; rw [hf]; rfl
    rw [e1, e2, e3, e4]; exact rparse_1 s hs _ w he rfl hf
  · have e1 : rcD s = 0 := by unfold rcD; rw [hf]; rfl
    have e2 : rcA s = numR (rL s) 1 1 := by unfold rcA; rw [hf]; rfl
    have e3 : rcB s = 0 := by unfold rcB; rw [hf]; rfl
    have e4 : rcM s = 0 := by unfold rcM; rw [hf]; rfl
    rw [e1, e2, e3, e4]; exact rparse_2 s hs _ w he rfl hf
  · have e1 : rcD s = numR (rL s) 1 1 := by unfold rcD; rw [hf]; rfl
    have e2 : rcA s = 0 := by unfold rcA; rw [hf]; rfl
    have e3 : rcB s = 0 := by unfold rcB; rw [hf]; rfl
    have e4 : rcM s = numR (rL s) 2 0 := by unfold rcM; rw [hf]; rfl
    rw [e1, e2, e3, e4]; exact rparse_3 s hs _ w he rfl hf
  · have e1 : rcD s = numR (rL s) 1 1 := by unfold rcD; rw [hf]; rfl
    have e2 : rcA s = numR (rL s) 2 1 := by unfold rcA; rw [hf]; rfl
    have e3 : rcB s = 0 := by unfold rcB; rw [hf]; rfl
    have e4 : rcM s = 0 := by unfold rcM; rw [hf]; rfl
    rw [e1, e2, e3, e4]; exact rparse_4 s hs _ w he rfl hf
  · have e1 : rcD s = numR (rL s) 1 1 := by unfold rcD; rw [hf]; rfl
    have e2 : rcA s = numR (rL s) 2 1 := by unfold rcA; rw [hf]; rfl
    have e3 : rcB s = numR (rL s) 3 1 := by unfold rcB; rw [hf]; rfl
    have e4 : rcM s = 0 := by unfold rcM; rw [hf]; rfl
    rw [e1, e2, e3, e4]; exact rparse_5 s hs _ w he rfl hf
  · have e1 : rcD s = numR (rL s) 1 1 := by unfold rcD; rw [hf]; rfl
    have e2 : rcA s = numR (rL s) 2 1 := by unfold rcA; rw [hf]; rfl
    have e3 : rcB s = 0 := by unfold rcB; rw [hf]; rfl
    have e4 : rcM s = numR (rL s) 3 0 := by unfold rcM; rw [hf]; rfl
    rw [e1, e2, e3, e4]; exact rparse_6 s hs _ w he rfl hf

end Go.Proofs.YtnkkomodpjgefaaDoor
