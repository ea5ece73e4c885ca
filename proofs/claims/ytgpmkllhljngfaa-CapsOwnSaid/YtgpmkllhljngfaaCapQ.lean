/- A range over an iterator that tells a row of capabilities: its rounds told by a number; a round may leave the loop. -/
import Derived.Test.YtgpmkllhljngfaaCapP
import Derived.RangeFuncNested
import Derived.RangeFuncBound
import Derived.RangeFuncCalls
import Derived.RangeFuncLeaves
import Derived.Shelf.Abstract
import Derived.Shelf.RegionOpen
import Derived.OwnWalkIn
import Derived.TacticsInMore
import Derived.LoopNIn
import Derived.LoopIn
namespace Go.Proofs.Ytgpmkllhljngfaa
open Go.RowKit
attribute [local go_sem] Oper.semAt_some

def atC (S : List Cap) (k : Nat) : Cap := S.getD k nilC
def boxC (c : Cap) : Obj := .cells #[.int .i64 c.id, .int .i64 c.parent, .int .i64 c.account, .int .i64 c.maker, .int .i64 c.kind, .int .i64 c.object, .int .i64 c.rights] 43
/-- How a round may end: off its end, or by a leave. -/
def RoundCap (I : Nat → World → Prop) (Ix : Code → World → Prop) (k : Nat) (W : World) : Exit → Act → World → Prop
  | .normal, _, W' => KeepsOthers W W' ∧ I (k + 1) W'
  | .ret, _, W' => KeepsOthers W W' ∧ Ix .ret W'
  | .exit id, _, W' => KeepsOthers W W' ∧ Ix (.exit id) W'
  | _, _, _ => False
/-- What an iterator over a row owes. -/
def StepsCap (F : Fence) (n : Nat) (P : Program) (gf : Nat) (lb : Array Value) (S : List Cap) (I : Nat → World → Prop) : Prop :=
  ∀ (l : Nat) (J : Nat → World → Prop) (Jx : World → Prop) (W : World), (∀ k W, J k W → I k W) → (∀ k W o, J k W → J k (W.alloc o)) →
    (∀ k W, k < S.length → J k W → YieldAt F (n - 1) P l #[capV (atC S k)] W fun e W' => (e = .returned (.bool true) ∧ J (k + 1) W') ∨ (e = .returned (.bool false) ∧ Jx W')) → J 0 W →
    CallsIn F n P gf (#[.func (.yield l) #[] #[]] ++ lb) W fun e W' => (∃ v, e = .returned v) ∧ (J S.length W' ∨ Jx W')

theorem range_cap {F : Fence} {n : Nat} {P : Program} {g : Operand} {ps : Array Tmp} {assign body : Code} {Q : Exit → Act → World → Prop} {a : Act} {w : World}
    (hro : F.round = none) (h1 : 1 ≤ n) {gf : Nat} {lb : Array Value} (hg : a.eval g = .func (.func gf) #[] lb) (hFg : F.fn gf) (eg : ∀ args w, (callFunc gf args).run P w = .ok (.enter gf args) w)
    {S : List Cap} {I : Nat → World → Prop} {Ix : Code → World → Prop} (hseq : StepsCap F (n - 1) P gf lb S I) (hps : ps.size = 1)
    (hI : OwnFrom w.heap.size I) (hIx : ∀ c, OwnFrom w.heap.size (fun (_ : Unit) W => Ix c W)) (h0 : I 0 w) (a₁ : Nat → Nat → Act)
    (hassign : ∀ (l k : Nat) (W : World) (K : Act → World → Prop), K (a₁ k W.heap.size) (W.alloc (boxC (atC S k))) →
      assign.wpIn (F.inRound l) (n - 1 - 1) P (Exit.then K (fun _ _ _ => False)) { tmps := (ps.zip #[capV (atC S k)]).foldl (fun t (p, v) => t.setIfInBounds p v) a.tmps, defers := [] } W)
    (hbody : ∀ (l k B : Nat) (W : World), k < S.length → w.heap.size ≤ B → W.heap[B]? = some (boxC (atC S k)) → I k W → body.wpIn (F.inRound l) (n - 1 - 1) P (RoundCap I Ix k W) (a₁ k B) W)
    (hdone : ∀ (D : Nat) (W : World), w.heap.size ≤ D → I S.length W → W.heap[D]? = some (.deferred (some [])) → Q .normal { a with defers := { target := .collected D, args := #[] } :: a.defers } W)
    (hstop : ∀ (D : Nat) (c : Code) (W : World), w.heap.size ≤ D → Ix c W → W.heap[D]? = some (.deferred (some [])) → c.wpIn F n P Q { a with defers := { target := .collected D, args := #[] } :: a.defers } W) :
    (Code.rangeFunc g ps assign body).wpIn F n P Q a w := by
  refine wpIn_rangeFunc fun fn hfn => ?_
  rw [hro]
  let R : LoopState → Option Code → Loop := fun st pe => { state := st, pending := pe, fn, tmps := a.tmps, params := ps, assign, body, defers := w.heap.size }
  have hR : R = fun st pe => { state := st, pending := pe, fn, tmps := a.tmps, params := ps, assign, body, defers := w.heap.size } := rfl
  clear_value R
  let V : World := (w.alloc (.deferred (some []))).alloc (.loop (R .ready none))
  have hL : V.heap[w.heap.size + 1]? = some (.loop (R .ready none)) := by
    have := World.alloc_heap_new (w.alloc (.deferred (some []))) (.loop (R .ready none)); rwa [World.size_alloc] at this
  have hD : V.heap[w.heap.size]? = some (.deferred (some [])) := (Below.heap_alloc _ _ _ (by simp)).trans (World.alloc_heap_new w _)
  have hV : I 0 V := hI.alloc _ (hI.alloc _ h0)
  refine ⟨w.heap.size + 1, [{ target := .collected w.heap.size, args := #[] }], V, { target := .fn (.func gf) lb, args := #[.func (.yield (w.heap.size + 1)) #[] #[]] }, V, gf,
    #[.func (.yield (w.heap.size + 1)) #[] #[]] ++ lb, V, ?_, ?_, ?_, ?_, fun _ => h1, ?_⟩
  · show _ = Result.ok _ ((w.alloc (.deferred (some []))).alloc (.loop (R .ready none)))
    rw [hR]; exact run_enterLoop_outer _ _ _ _ _
  · simp only [resolve, hg]
    simp [go_sem]
  · intro f' hf'; simp [Target.leads] at hf'; subst hf'; exact hFg
  · simp [invoke, go_sem, eg]
  refine (hseq (w.heap.size + 1) (fun k W => I k W ∧ W.heap[w.heap.size + 1]? = some (.loop (R .ready none)) ∧ W.heap[w.heap.size]? = some (.deferred (some [])))
    (fun W => ∃ c, Ix c W ∧ W.heap[w.heap.size + 1]? = some (.loop (R .done (some c))) ∧ W.heap[w.heap.size]? = some (.deferred (some []))) V (fun _ _ h => h.1)
    (fun k W o h => ⟨hI.alloc _ h.1, (Below.heap_alloc _ _ _ (Array.getElem?_eq_some_iff.1 h.2.1).1).trans h.2.1, (Below.heap_alloc _ _ _ (Array.getElem?_eq_some_iff.1 h.2.2).1).trans h.2.2⟩) ?_ ⟨hV, hL, hD⟩).mono ?_
  · rintro k W hk ⟨hi, hl, hd⟩
    have hlt : w.heap.size + 1 < W.heap.size := (Array.getElem?_eq_some_iff.1 hl).1
    have hy := run_yield (P := P) (args := #[capV (atC S k)]) hl (by rw [hR]; exact hps.symm)
    rw [hR] at hy
    refine ⟨fn, _, assign, body, hy, roundIn_of_wpIn hfn (hassign _ k W _ ?_)⟩
    have hlA : (W.alloc (boxC (atC S k))).heap[w.heap.size + 1]? = some (.loop (R .ready none)) := (Below.heap_alloc _ _ _ hlt).trans hl
    have hltA : w.heap.size + 1 < (W.alloc (boxC (atC S k))).heap.size := by simp; omega
    have hl2 : ((W.alloc (boxC (atC S k))).putObj (w.heap.size + 1) (.loop (R .busy none))).heap[w.heap.size + 1]? = some (.loop (R .busy none)) := World.putObj_heap_same hltA
    have hd2 : ((W.alloc (boxC (atC S k))).putObj (w.heap.size + 1) (.loop (R .busy none))).heap[w.heap.size]? = some (.deferred (some [])) :=
      (World.putObj_heap_other (by omega)).trans ((Below.heap_alloc _ _ _ (by omega)).trans hd)
    have hb2 : ((W.alloc (boxC (atC S k))).putObj (w.heap.size + 1) (.loop (R .busy none))).heap[W.heap.size]? = some (boxC (atC S k)) :=
      (World.putObj_heap_other (by omega)).trans (World.alloc_heap_new W _)
    refine ⟨(W.alloc (boxC (atC S k))).putObj (w.heap.size + 1) (.loop (R .busy none)), ?_, ?_⟩
    · have := run_beginRound (P := P) hlA (by rw [hR])
      rw [hR] at this ⊢; exact this
    refine wpIn_mono (hbody _ k W.heap.size _ hk (by omega) hb2 (hI.putObj _ (hI.alloc _ hi) (by omega) hlA rfl)) ?_
    have fin : ∀ (jump : Option Code) (W3 : World), KeepsOthers ((W.alloc (boxC (atC S k))).putObj (w.heap.size + 1) (.loop (R .busy none))) W3 →
        (Instr.endRound (w.heap.size + 1) jump).run P W3 = .ok (.bool jump.isNone) (W3.putObj (w.heap.size + 1) (.loop (R (if jump.isNone then .ready else .done) jump))) ∧ W3.heap[w.heap.size + 1]? = some (.loop (R .busy none)) ∧
        (W3.putObj (w.heap.size + 1) (.loop (R (if jump.isNone then .ready else .done) jump))).heap[w.heap.size + 1]? = some (.loop (R (if jump.isNone then .ready else .done) jump)) ∧
        (W3.putObj (w.heap.size + 1) (.loop (R (if jump.isNone then .ready else .done) jump))).heap[w.heap.size]? = some (.deferred (some [])) := fun jump W3 hk3 => by
      have hl3 := hk3.same _ _ hl2 rfl
      have := run_endRound (P := P) jump hl3
      rw [hR] at this ⊢
      exact ⟨this, by rw [hR] at hl3; exact hl3, World.putObj_heap_same (Array.getElem?_eq_some_iff.1 hl3).1, (World.putObj_heap_other (by omega)).trans (hk3.same _ _ hd2 rfl)⟩
    rintro e a3 W3 hp
    cases e with
    | normal =>
      obtain ⟨hk3, hi3⟩ := hp
      obtain ⟨hr, hl3, hl4, hd4⟩ := fin none W3 hk3
      exact ⟨_, _, hr, .inl ⟨rfl, hI.putObj _ hi3 (by omega) hl3 rfl, hl4, hd4⟩⟩
    | ret =>
      obtain ⟨hk3, hi3⟩ := hp
      obtain ⟨hr, hl3, hl4, hd4⟩ := fin (some .ret) W3 hk3
      exact ⟨_, _, hr, .inr ⟨rfl, .ret, (hIx _).putObj (s := ()) _ hi3 (by omega) hl3 rfl, hl4, hd4⟩⟩
    | exit id =>
      obtain ⟨hk3, hi3⟩ := hp
      obtain ⟨hr, hl3, hl4, hd4⟩ := fin (some (.exit id)) W3 hk3
      exact ⟨_, _, hr, .inr ⟨rfl, .exit id, (hIx _).putObj (s := ()) _ hi3 (by omega) hl3 rfl, hl4, hd4⟩⟩
    | goto t => exact hp.elim
    | panic ch => exact hp.elim
    | outgrown => exact hp.elim
  · rintro e W2 ⟨⟨v, rfl⟩, (⟨hi, hl, hd⟩ | ⟨c, hi, hl, hd⟩)⟩
    · exact ⟨none, _, by have := run_endLoop (P := P) hl (by rw [hR]; simp); rw [hR] at this; exact this, hdone _ _ (Nat.le_refl _) (hI.putObj _ hi (by omega) hl rfl) ((World.putObj_heap_other (by omega)).trans hd)⟩
    · exact ⟨some c, _, by have := run_endLoop (P := P) hl (by rw [hR]; simp); rw [hR] at this; exact this, hstop _ c _ (Nat.le_refl _) ((hIx c).putObj (s := ()) _ hi (by omega) hl rfl) ((World.putObj_heap_other (by omega)).trans hd)⟩

/-- The iterator's slice is that one. -/
structure SeqIs (w : World) (F : Nat) (A : Option Addr) (cap : Nat) (S : List Cap) : Prop where
  hF : F < w.heap.size
  cell : w.cell? ⟨F, 0, none⟩ = some (.slice A S.length cap)
  row : S ≠ [] → ∃ g, A = some ⟨g, 0, none⟩ ∧ g < w.heap.size ∧ RowAt w g S
theorem SeqAt.is {w : World} {F : Nat} {S : List Cap} (h : SeqAt w F S) : ∃ A cap, SeqIs w F A cap S := by
  obtain ⟨hF, A, cap, h1, h2⟩ := h
  exact ⟨A, cap, hF, h1, h2⟩
theorem SeqIs.below {w w' : World} {F B : Nat} {A : Option Addr} {cap : Nat} {S : List Cap} (h : SeqIs w F A cap S) (hb : Below B w w') (hB : w.heap.size ≤ B) : SeqIs w' F A cap S := by
  obtain ⟨hF, h1, h2⟩ := h
  refine ⟨Nat.lt_of_lt_of_le hF hb.size, (hb.cell (p := ⟨F, 0, none⟩) (show F < B by omega)).trans h1, fun hS => ?_⟩
  obtain ⟨g, e, hg, hr⟩ := h2 hS
  exact ⟨g, e, Nat.lt_of_lt_of_le hg hb.size, hr.below hb (by omega)⟩
theorem row_cells {w : World} {g : Nat} {S : List Cap} (h : RowAt w g S) (k : Nat) (hk : k < S.length) :
    w.cell? ⟨g, k * 7, none⟩ = some (.int .i64 (atC S k).id) ∧ w.cell? ⟨g, k * 7 + 1, none⟩ = some (.int .i64 (atC S k).parent) ∧ w.cell? ⟨g, k * 7 + 2, none⟩ = some (.int .i64 (atC S k).account) ∧ w.cell? ⟨g, k * 7 + 3, none⟩ = some (.int .i64 (atC S k).maker) ∧
    w.cell? ⟨g, k * 7 + 4, none⟩ = some (.int .i64 (atC S k).kind) ∧ w.cell? ⟨g, k * 7 + 5, none⟩ = some (.int .i64 (atC S k).object) ∧ w.cell? ⟨g, k * 7 + 6, none⟩ = some (.int .i64 (atC S k).rights) := by
  obtain ⟨cur, t, h1, -, h2⟩ := h
  refine ⟨?_, ?_, ?_, ?_, ?_, ?_, ?_⟩
  · rw [cell_of_row _ _ _ _ _ _ h1]; exact h2 k 0 hk (by omega)
  · rw [cell_of_row _ _ _ _ _ _ h1]; exact h2 k 1 hk (by omega)
  · rw [cell_of_row _ _ _ _ _ _ h1]; exact h2 k 2 hk (by omega)
  · rw [cell_of_row _ _ _ _ _ _ h1]; exact h2 k 3 hk (by omega)
  · rw [cell_of_row _ _ _ _ _ _ h1]; exact h2 k 4 hk (by omega)
  · rw [cell_of_row _ _ _ _ _ _ h1]; exact h2 k 5 hk (by omega)
  · rw [cell_of_row _ _ _ _ _ _ h1]; exact h2 k 6 hk (by omega)
set_option maxRecDepth 100000 in
set_option maxHeartbeats 2000000 in
theorem values_steps (m : Nat) (hm : 1 ≤ m) (Fb : Nat) (A : Option Addr) (cap : Nat) (S : List Cap) (hS : S.length ≤ 1000) (I : Nat → World → Prop) (hI : ∀ k W, I k W → SeqIs W Fb A cap S) : StepsCap Fence.wide m Try.prog 58 #[.pointer (some ⟨Fb, 0, none⟩)] S I := by
  intro l J Jx W hJI hJa hY h0
  have hc := (hI 0 W (hJI 0 W h0)).cell
  refine callsIn_of_wp Try.func58 rfl trivial ?_ rfl
  simp only [Try.ntmps58, List.size_toArray, List.length_cons, List.length_nil, Nat.reduceAdd, Nat.reduceSub, Array.replicate_succ, Array.replicate_zero, List.push_toArray, List.append_toArray, List.nil_append, List.cons_append]
  have HJ0 := Lib.hid h0
  have hN : (S.length : Int) ≤ 1000 := by omega
  clear h0
  gi_wp2
  clear hc
  gi_loopw [7] (fun i wr => ∃ k : Nat, k ≤ S.length ∧ i = .int .i64 k ∧ J k wr) (fun i _ => S.length - (intOf i).toNat)
  case atStart => exact ⟨0, Nat.zero_le _, rfl, HJ0.out⟩
  case round =>
    obtain ⟨k, hk, rfl, hJs⟩ := hrel
    have HJ := Lib.hid hJs
    clear hJs
    by_cases hlt : k < S.length
    · have hlt' : (k : Int) < S.length := by omega
      obtain ⟨g, rfl, hg, hr⟩ := (hI k wr (hJI k wr HJ.out)).row (by rintro rfl; simp at hlt)
      obtain ⟨r0, r1, r2, r3, r4, r5, r6⟩ := row_cells hr k hlt
      obtain ⟨fn, tmps, assign, body, hy, hR⟩ := hY k (wr.alloc (boxC (atC S k))) hlt (hJa _ _ _ HJ.out)
      clear hr
      unfold boxC at hy hR
      unfold capV at hy
      generalize atC S k = c at *
      gi_wp2
      refine hR.mono ?_
      rintro e W3 (⟨rfl, hJ3⟩ | ⟨rfl, hJx⟩)
      · have HJ3 := Lib.hid hJ3
        clear hJ3
        gi_wp2
        go_roundw
        case rel => exact ⟨k + 1, hlt, by go_num, HJ3.out⟩
        case measure => simp [intOf]; omega
      · have HJ3 := Lib.hid hJx
        clear hJx
        gi_wp2
        exact bodyPost_ret (v := .tuple #[]) (by simp [results, Try.results58, go_sem]) rfl ⟨⟨_, rfl⟩, .inr HJ3.out⟩
    · have hge : ¬ (k : Int) < S.length := by omega
      have ek : k = S.length := by omega
      subst ek
      gi_wp2
      go_end0
      exact ⟨⟨_, rfl⟩, .inl HJ.out⟩
end Go.Proofs.Ytgpmkllhljngfaa
