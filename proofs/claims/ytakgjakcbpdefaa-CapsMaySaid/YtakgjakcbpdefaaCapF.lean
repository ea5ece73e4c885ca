/- What was derived of one: the closure that calls itself; Over. -/
import Derived.Test.YtakgjakcbpdefaaCapE
import Derived.Laws.EntriesVeiled
namespace Go.Proofs.Ytakgjakcbpdefaa
open Go.RowKit
open Go.Maps (Keyed)

theorem Try.fldParent (a b c d e f g : Int) (w : World) : (Instr.field 43 (.agg #[.int .i64 a, .int .i64 b, .int .i64 c, .int .i64 d, .int .i64 e, .int .i64 f, .int .i64 g]) 1).run Try.prog w = .ok (.int .i64 b) w := by kernel_rfl
/-- The closure's captured variables. -/
structure UnderFn (w : World) (B t : Nat) (top : Int) : Prop where
  u0 : w.cell? ⟨B, 0, none⟩ = some (.pointer (some ⟨t, 0, none⟩))
  u1 : w.cell? ⟨B + 1, 0, none⟩ = some (.int .i64 top)
  u2 : w.cell? ⟨B + 2, 0, none⟩ = some (.func (.func 59) #[] #[.pointer (some ⟨B, 0, none⟩), .pointer (some ⟨B + 1, 0, none⟩), .pointer (some ⟨B + 2, 0, none⟩)])
set_option maxRecDepth 100000 in
set_option maxHeartbeats 2000000 in
theorem under_lit {w : World} {t b B : Nat} {T : Tab} {top : Int} (h : TabAt w t b T) (hu : UnderFn w B t top) : ∀ (n : Nat) (id : Int), id.toNat < n → (Lit.int .i64 id).wf = true →
    Calls Try.prog 59 #[.int .i64 id, .pointer (some ⟨B, 0, none⟩), .pointer (some ⟨B + 1, 0, none⟩), .pointer (some ⟨B + 2, 0, none⟩)] w fun e w' => e = .returned (.bool (isUnder T.caps top id)) ∧ w = w' := by
  intro n
  induction n with
  | zero => intro id hn; omega
  | succ n ih =>
    intro id hn hw
    have hl := look_one h id hw
    have hstep := isUnder_step h.ok.par top id
    have hpar := h.ok.par id
    have wfp : (Lit.int .i64 (getC T.caps id).parent).wf = true := by
      have := wf64 hw
      simp [Lit.wf]; rcases hpar.2 with e | e
      · rw [e]; decide
      · exact ⟨by show (-9223372036854775808 : Int) ≤ _; omega, by omega⟩
    have IH := Lib.hid (fun (h0 : (getC T.caps id).parent ≠ 0) => ih (getC T.caps id).parent (by omega) wfp)
    clear hpar wfp ih hw hn
    have HST := Lib.hid hstep
    clear hstep
    generalize hc : getC T.caps id = c at hl HST IH
    clear hc
    have c0 := h.c0
    obtain ⟨u0, u1, u2⟩ := hu
    unfold capV at hl
    clear h
    rw [HST.out]
    have fp := Try.fldParent
    cases h1 : c.parent == top
    · cases h2 : c.parent == 0
      · have h3 : (c.parent != 0) = true := by simpa [bne] using h2
        go_enter Try.func59, Try.ntmps59
        go_wp2_with (go_at_call 59; refine (IH.out (by simpa using h2)).mono ?_; rintro e w' ⟨rfl, rfl⟩)
        go_ret
        exact ⟨rfl, rfl⟩
      · have h3 : (c.parent != 0) = false := by simpa [bne] using h2
        go_enter Try.func59, Try.ntmps59
        go_wp2_with fail
        go_ret
        exact ⟨rfl, rfl⟩
    · go_enter Try.func59, Try.ntmps59
      go_wp2_with fail
      go_ret
      exact ⟨rfl, rfl⟩
theorem heap_at (w : World) (o : Obj) (k : Nat) (hk : k = w.heap.size) : (w.alloc o).heap[k]? = some o := by subst hk; exact heap_alloc_new w o
def underV (B : Nat) : Value := .func (.func 59) #[] #[.pointer (some ⟨B, 0, none⟩), .pointer (some ⟨B + 1, 0, none⟩), .pointer (some ⟨B + 2, 0, none⟩)]
theorem under_any (w : World) (t : Nat) (top : Int) : Calls Try.prog 44 #[.pointer (some ⟨t, 0, none⟩), .int .i64 top] w fun e w' => ∃ B, e = .returned (underV B) ∧ UnderFn w' B t top ∧ Below w.heap.size w w' ∧ w.heap.size ≤ B ∧ w'.heap.size = B + 3 := by
  go_enter Try.func44, Try.ntmps44
  go_wp2_with fail
  go_ret
  refine ⟨w.heap.size, rfl, ⟨?_, ?_, ?_⟩, ?_, Nat.le_refl _, ?_⟩
  · rw [cell_of_row _ _ _ _ _ _ ((Below.heap_alloc _ _ _ (by simp; omega)).trans ((Below.heap_alloc _ _ _ (by simp)).trans (heap_alloc_new w _)))]; rfl
  · rw [cell_of_row _ _ _ _ _ _ ((Below.heap_alloc _ _ _ (by simp)).trans (heap_at _ _ _ (by simp)))]; rfl
  · rw [cell_of_row _ _ _ _ _ _ (heap_at _ _ _ (by simp))]; rfl
  · exact (((Below.refl _ w).alloc (Nat.le_refl _) _).alloc (by simp) _).alloc (by simp; omega) _
  · simp
theorem UnderFn.below {w w' : World} {B t : Nat} {top : Int} (h : UnderFn w B t top) (hb : Below (B + 3) w w') : UnderFn w' B t top :=
  ⟨(hb.cell (p := ⟨B, 0, none⟩) (show B < B + 3 by omega)).trans h.u0, (hb.cell (p := ⟨B + 1, 0, none⟩) (show B + 1 < B + 3 by omega)).trans h.u1, (hb.cell (p := ⟨B + 2, 0, none⟩) (show B + 2 < B + 3 by omega)).trans h.u2⟩

def bothB (S : List Cap) (a b : Int) : Bool := (findC S a).isSome && (findC S b).isSome
set_option maxRecDepth 100000 in
set_option maxHeartbeats 2000000 in
theorem over_any {w : World} {t b : Nat} {T : Tab} (h : TabAt w t b T) (x y : Int) (hx : (Lit.int .i64 x).wf = true) (hy : (Lit.int .i64 y).wf = true) :
    Calls Try.prog 20 #[.pointer (some ⟨t, 0, none⟩), .int .i64 x, .int .i64 y] w fun e w' =>
      e = .returned (.tuple #[.bool (bothB T.caps x y && overB T.caps x y), .int .i64 (if bothB T.caps x y then 0 else 6)]) ∧ Below w.heap.size w w' := by
  have H := fun w' (hb : Below w.heap.size w w') => Lib.hid (h.step hb)
  have O := fun w' (hb : Below w.heap.size w w') (id : Int) (hw : (Lit.int .i64 id).wf = true) (c : Cap) (f : Bool) (hc : getC T.caps id = c) (hf : (findC T.caps id).isSome = f) (h0 : f = false → c = nilC) => of_any (h.step hb) id hw c f hc hf h0
  have O' := Lib.hid O
  clear O
  have no : ∀ id f, (findC T.caps id).isSome = f → f = false → getC T.caps id = nilC := fun id f e1 e2 => get_none (by rw [e2] at e1; simpa using e1)
  unfold bothB
  generalize hfx : (findC T.caps x).isSome = fx
  generalize hfy : (findC T.caps y).isSome = fy
  have HX := fun w' hb => Lib.hid (O'.out w' hb x hx (getC T.caps x) fx rfl hfx (no x fx hfx))
  have HY := fun w' hb => Lib.hid (O'.out w' hb y hy (getC T.caps y) fy rfl hfy (no y fy hfy))
  have WX := Lib.hid hx
  have WY := Lib.hid hy
  clear no O' hfx hfy hx hy
  generalize getC T.caps x = cx at HX
  generalize getC T.caps y = cy at HY
  unfold capV at HX HY
  have HT := Lib.hid h
  clear h
  go_enter Try.func20, Try.ntmps20
  go_wp2_with fail
  refine (HX w (Below.refl _ _)).out.mono ?_
  rintro e w1 ⟨rfl, hb1⟩
  have b1 := Lib.hid hb1
  clear hb1 HX
  cases fx
  · go_wp2_with fail
    go_ret2
    exact ⟨rfl, b1.out.alloc b1.out.size _⟩
  · go_wp2_with fail
    refine (HY _ (b1.out.alloc b1.out.size _)).out.mono ?_
    rintro e w2 ⟨rfl, hb2⟩
    have b2 := Lib.hid ((b1.out.alloc b1.out.size _).trans (hb2.mono (by simp; have := b1.out.size; omega)))
    clear hb2 HY b1
    cases fy
    · go_wp2_with fail
      go_ret2
      exact ⟨rfl, b2.out.alloc b2.out.size _⟩
    · cases hxy : x == y
      · go_wp2_with fail
        refine (under_any _ t x).mono ?_
        rintro e w3 ⟨B, rfl, hu, hb3, -, -⟩
        have b3 := Lib.hid ((b2.out.alloc b2.out.size _).trans (hb3.mono (by simp; have := b2.out.size; omega)))
        have HU := Lib.hid hu
        clear hb3 hu b2
        unfold underV
        go_wp2_with fail
        refine (under_lit (H _ b3.out).out HU.out _ y (Nat.lt_succ_self _) WY.out).mono ?_
        rintro e w4 ⟨rfl, rfl⟩
        go_wp2_with fail
        go_ret2
        refine ⟨?_, b3.out⟩
        unfold overB; rw [hxy]; rfl
      · go_wp2_with fail
        go_ret2
        refine ⟨?_, b2.out.alloc b2.out.size _⟩
        unfold overB; rw [hxy]; rfl
end Go.Proofs.Ytakgjakcbpdefaa
