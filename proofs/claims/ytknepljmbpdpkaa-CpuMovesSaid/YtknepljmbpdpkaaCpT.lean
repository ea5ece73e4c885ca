/- The core's step, whatever stands there; Run. -/
import Derived.Test.YtknepljmbpdpkaaCpS
import Derived.Deep.WholeRow
import Derived.Deep.RegionHeld3
namespace Go.Proofs.Ytknepljmbpdpkaa
open Go.RowKit

theorem step_any {w : World} {L : Lay8} {s : St8} {m : Mem8} (h : Mach w L s m) :
    Calls Try.prog 27 #[.pointer (some ⟨L.C, 0, none⟩)] w (MachOut L (stepT s m) w) := by
  unfold stepT
  by_cases hp : s.pc % 4 = 0
  · rw [if_neg (by simpa using hp)]
    cases hm : (mayT m 4 4 s.pc).2 with
    | false => rw [if_pos rfl]; exact step_fault h hp hm
    | true =>
      rw [if_neg (by simp)]
      cases hw : isWord (wordT s m) with
      | false => rw [if_pos rfl]; exact step_none h hp hm hw
      | true =>
        rw [if_neg (by simp)]
        have hmay : mayB (wordT s m % 256) (cD (wordT s m)) (cA (wordT s m)) (cB (wordT s m)) (cM (wordT s m)) = true := by unfold isWord at hw; simp only [Bool.and_eq_true] at hw; exact hw.1
        obtain ⟨-, q2, q3, q4, -⟩ := may_parts hmay
        obtain ⟨v, hv⟩ : ∃ v, wordT s m = v := ⟨_, rfl⟩
        simp only [hv] at hw q2 q3 q4 ⊢
        obtain ⟨⟨s', m', ⟨k, c, x, n, u⟩⟩, hr⟩ : ∃ r, doT s m (v % 256) (cD v).toNat (cA v).toNat (cB v).toNat (cM v) = r := ⟨_, rfl⟩
        rw [hr]
        by_cases hk : k = 0
        · subst hk
          rw [if_pos rfl]
          exact step_go h hp hm v hv hw (cD v).toNat (cA v).toNat (cB v).toNat (by omega) (by omega) (by omega) s' m' c x n u hr
        · rw [if_neg hk]
          exact step_stop h hp hm v hv hw (cD v).toNat (cA v).toNat (cB v).toNat (by omega) (by omega) (by omega) s' m' k c x n u hr hk
  · rw [if_pos hp]; exact step_bad h hp

def coreA (s : St8) (F mp : Nat) : Array Value := (coreL s F mp).toArray
theorem coreA_one (s : St8) (F mp : Nat) : (coreA s F mp).all (·.oneCell') = true := by unfold coreA coreL ifV; simp [Value.oneCell']
theorem Try.coreSize : (Try.prog.info? 73).map (·.size) = some 19 := by kernel_rfl
theorem Try.coreBuilt (s : St8) (F mp : Nat) : Try.prog.built 73 [(0, .agg (stA s)), (1, .iface 32 (.pointer (some ⟨F, 0, none⟩))), (2, .map (some mp))] = some (coreA s F mp) := by kernel_rfl
abbrev core0 : Array Value := #[.int .u32 0, .int .u32 0, .int .u32 0, .int .u32 0, .int .u32 0, .int .u32 0, .int .u32 0, .int .u32 0, .int .u32 0, .int .u32 0, .int .u32 0, .int .u32 0, .int .u32 0, .int .u32 0, .int .u32 0, .int .u32 0, .int .u32 0, .nilIface, .map none]
theorem below_of_drew {w w' : World} (h : Below w.drew.heap.size w.drew w') : Below w.heap.size w w' := ⟨h.os, h.tape, h.output, h.size, h.block⟩
theorem range_below {w w' : World} {b o : Nat} {l : List Value} (h : w.rangeAt b o l) (hb : b < w.heap.size) (hk : Below w.heap.size w w') : w'.rangeAt b o l := fun j v hj => (hk.cell (p := ⟨b, o + j, none⟩) hb).trans (h j v hj)

theorem yieldsIf_build {P : Program} {ops : Array Oper} {S : World → Prop} {op : Oper} {a : Act} (hw : Region.wanted op (yielded ops a.tmps) = true) (t : TypeId) (parts : Array (Nat × Operand)) (ho : op.op = .build t parts)
    (cells : Array Value) (hf : P.built t (parts.map fun (i, x) => (i, a.eval x)).toList = some cells) : YieldsIf P ops S op (.agg cells) a :=
  .inl ⟨hw, fun w _ => by
    unfold execOp
    simp only [ho, Sem.run_bind, run_build w t _ cells hf, Result.andThen_ok]
    rfl⟩
theorem results_cct {P : Program} {fn : Func} {p q r : Tmp} {t1 t2 : TypeId} (h : fn.results = #[.cell p t1, .cell q t2, .tmp r]) (tmps : Array Value) (w : World) (b1 b2 : Nat) (c1 c2 : Array Value) (u1 u2 : TypeId) (d1 d2 : TypeDesc) (v : Value)
    (hp : tmps.getD p undef = .pointer (some ⟨b1, 0, none⟩)) (hq : tmps.getD q undef = .pointer (some ⟨b2, 0, none⟩)) (hr : tmps.getD r undef = v)
    (h1 : w.heap[b1]? = some (.cells c1 u1 (0, 0))) (h2 : w.heap[b2]? = some (.cells c2 u2 (0, 0)))
    (hu1 : P.underlying t1 = some d1) (hd1 : (match d1 with | .struct _ | .array _ _ => true | _ => false) = true) (hi1 : (P.info? t1).map (·.size) = some c1.size)
    (hu2 : P.underlying t2 = some d2) (hd2 : (match d2 with | .struct _ | .array _ _ => true | _ => false) = true) (hi2 : (P.info? t2).map (·.size) = some c2.size) :
    (results fn tmps).run P w = .ok (.tuple #[.agg c1, .agg c2, v]) w := by
  have hp' : tmps[p]?.getD undef = .pointer (some ⟨b1, 0, none⟩) := by simpa using hp
  have hq' : tmps[q]?.getD undef = .pointer (some ⟨b2, 0, none⟩) := by simpa using hq
  have hr' : tmps[r]?.getD undef = v := by simpa using hr
  simp [results, h, hp', hq', hr', asAddr, run_loadVar_row w b1 u1 t1 c1 (0, 0) d1 h1 hu1 hd1 hi1, run_loadVar_row w b2 u2 t2 c2 (0, 0) d2 h2 hu2 hd2 hi2]
theorem Try.uStop : Try.prog.underlying 38 = some (.struct (Try.prog.fieldsOf 38)) := by kernel_rfl
theorem Try.stopSize : (Try.prog.info? 38).map (·.size) = some 5 := by kernel_rfl
def st0 : St8 := ⟨fun _ => 0, 0⟩
/-- While Run goes on. -/
structure RunAt (w Wk : World) (L : Lay8) (b1 b2 : Nat) (s : St8) (m : Mem8) : Prop where
  M : Mach Wk L s m
  r1 : Wk.heap[b1]? = some (.cells (stA st0) 28 (0, 0))
  r2 : Wk.heap[b2]? = some z5
  t : Turned w Wk [L.C, L.B]
  n1 : b1 ≠ L.C
  n2 : b2 ≠ L.C
  g1 : L.B < b1
  g2 : L.B < b2
  gC : w.heap.size ≤ L.C
theorem RunAt.step {w Wk W' : World} {L : Lay8} {b1 b2 : Nat} {s s' : St8} {m m' : Mem8} (h : RunAt w Wk L b1 b2 s m) (hM : Mach W' L s' m') (hT : Turned Wk W' [L.C, L.B]) : RunAt w W' L b1 b2 s' m' :=
  ⟨hM, (hT.block b1 (Array.getElem?_eq_some_iff.1 h.r1).1 (by have := h.n1; have := h.g1; simp; omega)).trans h.r1, (hT.block b2 (Array.getElem?_eq_some_iff.1 h.r2).1 (by have := h.n2; have := h.g2; simp; omega)).trans h.r2, h.t.trans hT, h.n1, h.n2, h.g1, h.g2, h.gC⟩
theorem RunAt.alloc {w Wk : World} {L : Lay8} {b1 b2 : Nat} {s : St8} {m : Mem8} (h : RunAt w Wk L b1 b2 s m) (o : Obj) : RunAt w (Wk.alloc o) L b1 b2 s m :=
  h.step (h.M.malloc o) ((Turned.refl _ _).talloc o)
/-- What Run hands back. -/
def RunOut (F B : Nat) (ra : Option Addr) (rc bc : Nat) (r : St8 × Mem8 × Stop8) (w : World) (e : Ending) (w' : World) : Prop :=
  e = .returned (.tuple #[.agg (stA r.1), stp8 r.2.2.kind r.2.2.call r.2.2.at' r.2.2.need r.2.2.used, .int .i64 0]) ∧ FlatAt w' F B ra rc bc r.2.1 ∧ St8Ok r.1 ∧ Turned w w' [B]

theorem turned_rows' (W : World) (b1 b2 : Nat) (A1 A2 : Array Value) : Turned W ((W.setRow b1 A1).setRow b2 A2) [b1, b2] :=
  ⟨rfl, rfl, rfl, by simp [World.setRow], fun k _ hn => (setRow_other _ b2 k _ (fun e => hn (by simp [e]))).trans (setRow_other W b1 k _ (fun e => hn (by simp [e])))⟩
theorem turned_rows (W : World) (b1 b2 : Nat) (A1 A2 : Array Value) : Turned W ((W.drew.setRow b1 A1).setRow b2 A2) [b1, b2] :=
  ⟨rfl, rfl, rfl, by simp [World.setRow], fun k _ hn => (setRow_other _ b2 k _ (fun e => hn (by simp [e]))).trans (setRow_other W.drew b1 k _ (fun e => hn (by simp [e])))⟩
theorem run_close {w W2 W3 : World} {L : Lay8} {b1 b2 : Nat} {s : St8} {m : Mem8} (hA : RunAt w W2 L b1 b2 s m) (hF : L.F < w.heap.size) (hB : L.B < w.heap.size) (hR : ∀ b o, L.ra = some ⟨b, o, none⟩ → b < w.heap.size)
    (h1 : w.heap.size ≤ b1) (h2 : w.heap.size ≤ b2) (ht : Turned W2 W3 [b1, b2]) : FlatAt W3 L.F L.B L.ra L.rc L.bc m ∧ Turned w W3 [L.B] := by
  refine ⟨hA.M.flat.other ht (by simp; omega) (by simp; omega) (fun _ b o e => by have := hR b o e; simp; omega), ?_⟩
  have h := hA.t
  have hgC := hA.gC
  exact ⟨ht.os.trans h.os, ht.tape.trans h.tape, ht.output.trans h.output, Nat.le_trans h.size ht.size, fun k hk hn => (ht.block k (Nat.lt_of_lt_of_le hk h.size) (by simp; omega)).trans (h.block k hk (by simp at hn ⊢; omega))⟩
set_option maxHeartbeats 4000000 in
set_option maxRecDepth 100000 in
theorem run_any {w : World} {F B : Nat} {ra : Option Addr} {rc bc : Nat} {m : Mem8} (h : FlatAt w F B ra rc bc m) (hra : ∀ b o, ra = some ⟨b, o, none⟩ → b < w.heap.size) (s : St8) (hs : St8Ok s) (n : Nat) (hn : n ≤ 65536) :
    Calls Try.prog 12 #[.agg (stA s), ifV F, .int .i64 n] w (RunOut F B ra rc bc (runT n 0 s m) w) := by
  have H := Lib.hid h
  have HRA := Lib.hid hra
  have HS := Lib.hid hs
  obtain ⟨R, hR⟩ : ∃ R, runT n 0 s m = R := ⟨_, rfl⟩
  rw [hR]
  have HR := Lib.hid hR
  clear h hra hs hR
  unfold ifV
  go_enter Try.func12, Try.ntmps12
  go_wp2
  obtain ⟨W, hW⟩ : ∃ W, ((w.alloc (.cells (stA s) 28)).alloc (.cells (stA st0) 28)).alloc z5 = W := ⟨_, rfl⟩
  change Code.wp _ _ _ _ (((w.alloc (.cells (stA s) 28)).alloc (.cells (stA st0) 28)).alloc z5)
  rw [hW]
  have hrg : W.rangeAt w.heap.size 0 (stL s) := by
    rw [← hW]
    exact World.rangeAt_alloc (st_new w s _ _) _
  have hWs : W.heap.size = w.heap.size + 1 + 1 + 1 := by rw [← hW]; simp
  have HWS := Lib.hid hWs
  have hBW : Below w.heap.size w W := by rw [← hW]; exact Bl.alloc (Bl.alloc (Bl.alloc (Below.refl _ _) _) _) _
  have HBW := Lib.hid hBW
  have hr1 : W.heap[w.heap.size + 1]? = some (.cells (stA st0) 28 (0, 0)) := by rw [← hW]; exact (Below.heap_alloc _ _ _ (by simp)).trans (heap_alloc_new1 w _ _)
  have hr2 : W.heap[w.heap.size + 1 + 1]? = some z5 := by rw [← hW]; have := heap_alloc_new1 (w.alloc (.cells (stA s) 28)) (.cells (stA st0) 28) z5; simpa using this
  have HR1 := Lib.hid hr1
  have HR2 := Lib.hid hr2
  clear hW hWs hBW hr1 hr2
  refine wp_region_noPanic ?_
  refine wp_region_held_drew (S := (fun w' => w'.rangeAt w.heap.size 0 (stL s))) (by kernel_rfl) ?_ (fun hHeld => ?_)
  · exact hrg
  refine wpAnyH_take (i := 0) (v := .agg (stA s)) rfl (by kernel_rfl) (by kernel_rfl) (by kernel_rfl) (fun _ _ _ h => h) (yieldsIf_load_mid (by rfl) 28 _ rfl w.heap.size 0 rfl (stL s) _ (fun w h => h) Try.uState rfl Try.stSize) (by assumption) ?_
  try simp only [Act.put, List.getElem_toArray, List.getElem_cons_zero, List.getElem_cons_succ, List.setIfInBounds_toArray, List.set_cons_zero, List.set_cons_succ]
  refine wpAnyH_take (i := 1) (v := ?_) rfl (by kernel_rfl) (by kernel_rfl) (by kernel_rfl) (fun _ _ _ h => h) (Or.inl ⟨by rfl, ?_⟩) (by assumption) ?_
  rotate_left
  · (intro w hSw; (try dsimp only at hSw); (try simp only [List.getElem_toArray, List.getElem_cons_zero, List.getElem_cons_succ]); go_simp; try (with_reducible rfl))
  try simp only [Act.put, List.getElem_toArray, List.getElem_cons_zero, List.getElem_cons_succ, List.setIfInBounds_toArray, List.set_cons_zero, List.set_cons_succ]
  refine wpAnyH_ready (rs := [2, 4]) (by kernel_rfl) (by simp) ?_
  refine AllReadyH.cons rfl (fun K hK => ?wayA) (AllReadyH.cons rfl (fun K hK => ?wayB) AllReadyH.nil)
  case' wayA =>
    (try simp only [List.getElem_toArray, List.getElem_cons_zero, List.getElem_cons_succ]); go_simp
    refine (answers_any _).mono ?_
    rintro e w1 ⟨mp, D, rfl, hU, hb⟩
    refine hK.out _ _ ?_ (fun hHeld => ?_)
    · exact range_below hrg (by have := HWS.out; omega) (below_of_drew hb)
    clear hK K
    try simp only [Act.put, List.getElem_toArray, List.getElem_cons_zero, List.getElem_cons_succ, List.setIfInBounds_toArray, List.set_cons_zero, List.set_cons_succ]
    refine wpAnyH_take (i := 3) (v := .agg (coreA s F mp)) rfl (by kernel_rfl) (by kernel_rfl) (by kernel_rfl) (fun _ _ _ h => h) (yieldsIf_build (by rfl) 73 _ rfl (coreA s F mp) (by kernel_rfl)) (by assumption) ?_
    try simp only [Act.put, List.getElem_toArray, List.getElem_cons_zero, List.getElem_cons_succ, List.setIfInBounds_toArray, List.set_cons_zero, List.set_cons_succ]
    refine wpAnyH_ready (rs := [4]) (by kernel_rfl) (by simp) ?_
    refine AllReadyH.cons rfl (fun K hK => ?_) AllReadyH.nil
    (try simp only [List.getElem_toArray, List.getElem_cons_zero, List.getElem_cons_succ]); go_simp
    refine hK.out _ _ ?_ (fun hHeld => ?_)
    · exact World.rangeAt_alloc (range_below hrg (by have := HWS.out; omega) (below_of_drew hb)) _
    clear hK K
    try simp only [Act.put, List.getElem_toArray, List.getElem_cons_zero, List.getElem_cons_succ, List.setIfInBounds_toArray, List.set_cons_zero, List.set_cons_succ]
    refine wpAnyH_ready (rs := [5]) (by kernel_rfl) (by simp) ?_
    refine AllReadyH.cons rfl (fun K hK => ?_) AllReadyH.nil
    rw [if_pos (by rfl)]
    refine wp_store_row 73 _ _ rfl w1.heap.size (coreA s F mp) rfl rfl 73 core0 (heap_alloc_new w1 _) Try.coreSize rfl (coreA_one s F mp) ?_
    rw [World.setRow_alloc_new]
    refine hK.out _ _ ?_ (fun hHeld => ?_)
    · exact World.rangeAt_alloc (range_below hrg (by have := HWS.out; omega) (below_of_drew hb)) _
    clear hK K
    try simp only [Act.put, List.getElem_toArray, List.getElem_cons_zero, List.getElem_cons_succ, List.setIfInBounds_toArray, List.set_cons_zero, List.set_cons_succ]
    refine wpAnyH_done (by kernel_rfl) ?_ _
    refine NoPanic.normal ?_
    have HX : ∃ L : Lay8, RunAt w (w1.alloc (.cells (coreA s F mp) 73)) L (w.heap.size + 1) (w.heap.size + 1 + 1) s m ∧ L.C = w1.heap.size ∧ L.F = F ∧ L.B = B ∧ L.ra = ra ∧ L.rc = rc ∧ L.bc = bc := by
      have hb := below_of_drew hb
      have hws := HWS.out
      have hz := hb.size
      have hF := H.out.fl
      have hBB := H.out.bl
      refine ⟨⟨w1.heap.size, F, B, mp, W.heap.size, w1.heap.size, ra, rc, bc, w1.heap.size + 1⟩, ⟨⟨⟨HS.out, heap_alloc_new w1 _⟩, ((H.out.below HBW.out).below hb).below ((Below.refl _ _).alloc (Nat.le_refl _) _), ?_, by dsimp only; omega, .inl (Nat.le_refl _), by dsimp only; omega, fun b o e => by have := HRA.out b o e; dsimp only; omega, by dsimp only; omega, by dsimp only; omega, fun b o e => by have := HRA.out b o e; dsimp only; omega, by dsimp only; omega, by dsimp only; omega, by simp⟩, ?_, ?_, ?_, by dsimp only; omega, by dsimp only; omega, by dsimp only; omega, by dsimp only; omega, by dsimp only; omega⟩, rfl, rfl, rfl, rfl, rfl, rfl⟩
      · exact (Ans8.mk' hU).far' (by simp) (fun k hk => Below.heap_alloc _ _ _ hk)
      · exact (Below.heap_alloc _ _ _ (by omega)).trans ((hb.block _ (by omega)).trans HR1.out)
      · exact (Below.heap_alloc _ _ _ (by omega)).trans ((hb.block _ (by omega)).trans HR2.out)
      · exact Turned.of_below _ (Bl.alloc (Bl.step HBW.out hb) _)
    obtain ⟨⟨C, F', B', mp', lo, hi, ra', rc', bc', tp⟩, hx, hCw, h1, h2, h3, h4, h5⟩ := HX
    dsimp only at hCw h1 h2 h3 h4 h5
    subst h1 h2 h3 h4 h5
    rw [← hCw]
    generalize w1.alloc (.cells (coreA s F' mp) 73) = Wf at hx ⊢
    have HX := Lib.hid hx
    clear hx hb hU hCw hHeld hrg
  case' wayB =>
    (try simp only [List.getElem_toArray, List.getElem_cons_zero, List.getElem_cons_succ]); go_simp
    refine hK.out _ _ ?_ (fun hHeld => ?_)
    · exact World.rangeAt_alloc (w := W.drew) hrg _
    clear hK K
    try simp only [Act.put, List.getElem_toArray, List.getElem_cons_zero, List.getElem_cons_succ, List.setIfInBounds_toArray, List.set_cons_zero, List.set_cons_succ]
    refine wpAnyH_ready (rs := [2]) (by kernel_rfl) (by simp) ?_
    refine AllReadyH.cons rfl (fun K hK => ?_) AllReadyH.nil
    (try simp only [List.getElem_toArray, List.getElem_cons_zero, List.getElem_cons_succ]); go_simp
    refine (answers_any _).mono ?_
    rintro e w1 ⟨mp, D, rfl, hU, hb⟩
    refine hK.out _ _ ?_ (fun hHeld => ?_)
    · exact range_below (World.rangeAt_alloc (w := W.drew) hrg _) (by have := HWS.out; simp; omega) hb
    clear hK K
    try simp only [Act.put, List.getElem_toArray, List.getElem_cons_zero, List.getElem_cons_succ, List.setIfInBounds_toArray, List.set_cons_zero, List.set_cons_succ]
    refine wpAnyH_take (i := 3) (v := .agg (coreA s F mp)) rfl (by kernel_rfl) (by kernel_rfl) (by kernel_rfl) (fun _ _ _ h => h) (yieldsIf_build (by rfl) 73 _ rfl (coreA s F mp) (by kernel_rfl)) (by assumption) ?_
    try simp only [Act.put, List.getElem_toArray, List.getElem_cons_zero, List.getElem_cons_succ, List.setIfInBounds_toArray, List.set_cons_zero, List.set_cons_succ]
    refine wpAnyH_ready (rs := [5]) (by kernel_rfl) (by simp) ?_
    refine AllReadyH.cons rfl (fun K hK => ?_) AllReadyH.nil
    rw [if_pos (by rfl)]
    have hw1 : w1.heap[W.heap.size]? = some (.cells core0 73 (0, 0)) := (hb.block W.heap.size (by simp)).trans (heap_alloc_new W.drew _)
    refine wp_store_row 73 _ _ rfl W.heap.size (coreA s F mp) rfl rfl 73 core0 hw1 Try.coreSize rfl (coreA_one s F mp) ?_
    have htr : Turned w1 (w1.setRow W.heap.size (coreA s F mp)) [W.heap.size] := ⟨rfl, rfl, rfl, by simp [World.setRow], fun k _ hn => setRow_other w1 W.heap.size k _ (by simpa using hn)⟩
    have hbW : Below W.heap.size W w1 := ⟨hb.os, hb.tape, hb.output, by have := hb.size; simp at this; omega, fun k hk => (hb.block k (by simp; omega)).trans (Below.heap_alloc W _ k hk)⟩
    have hbs : W.heap.size + 1 ≤ w1.heap.size := by have := hb.size; simpa using this
    refine hK.out _ _ ?_ (fun hHeld => ?_)
    · intro j v hj
      have := range_below hrg (by have := HWS.out; omega) hbW j v hj
      exact (World.cell?_of_block (w := w1) (a := ⟨w.heap.size, 0 + j, none⟩) (htr.block w.heap.size (by have := HWS.out; omega) (by have := HWS.out; simp; omega))).trans this
    clear hK K
    try simp only [Act.put, List.getElem_toArray, List.getElem_cons_zero, List.getElem_cons_succ, List.setIfInBounds_toArray, List.set_cons_zero, List.set_cons_succ]
    refine wpAnyH_done (by kernel_rfl) ?_ _
    refine NoPanic.normal ?_
    have HX : ∃ L : Lay8, RunAt w (w1.setRow W.heap.size (coreA s F mp)) L (w.heap.size + 1) (w.heap.size + 1 + 1) s m ∧ L.C = W.heap.size ∧ L.F = F ∧ L.B = B ∧ L.ra = ra ∧ L.rc = rc ∧ L.bc = bc := by
      have hws := HWS.out
      have hF := H.out.fl
      have hBB := H.out.bl
      have hsz : (w1.setRow W.heap.size (coreA s F mp)).heap.size = w1.heap.size := by simp [World.setRow]
      refine ⟨⟨W.heap.size, F, B, mp, W.heap.size + 1, w1.heap.size, ra, rc, bc, w1.heap.size⟩, ⟨⟨⟨HS.out, setRow_heap _ _ _ _ _ _ hw1⟩, ((H.out.below HBW.out).below hbW).other htr (by simp; omega) (by simp; omega) (fun _ b o e => by have := HRA.out b o e; simp; omega), ?_, by dsimp only; omega, .inr (Nat.lt_succ_self _), by dsimp only; omega, fun b o e => by have := HRA.out b o e; dsimp only; omega, by dsimp only; omega, by dsimp only; omega, fun b o e => by have := HRA.out b o e; dsimp only; omega, by dsimp only; omega, by dsimp only; omega, by rw [hsz]; exact Nat.le_refl _⟩, ?_, ?_, ?_, by dsimp only; omega, by dsimp only; omega, by dsimp only; omega, by dsimp only; omega, by dsimp only; omega⟩, rfl, rfl, rfl, rfl, rfl, rfl⟩
      · have hU2 : AnsUp w1 (W.heap.size + 1) mp D 10 opsL := by
          have e : ((W.alloc (.cells core0 73)).drew).heap.size = W.heap.size + 1 := by simp
          rw [← e]
          exact hU
        have ha := Ans8.mk' hU2
        exact ha.turned (turned_cb htr) (show B < W.heap.size + 1 by omega) (.inr (Nat.lt_succ_self _))
      · exact (htr.block _ (by omega) (by simp; omega)).trans ((hbW.block _ (by omega)).trans HR1.out)
      · exact (htr.block _ (by omega) (by simp; omega)).trans ((hbW.block _ (by omega)).trans HR2.out)
      · exact (Turned.of_below _ (Bl.step HBW.out hbW)).trans (turned_cb htr)
    obtain ⟨⟨C, F', B', mp', lo, hi, ra', rc', bc', tp⟩, hx, hCw, h1, h2, h3, h4, h5⟩ := HX
    dsimp only at hCw h1 h2 h3 h4 h5
    subst h1 h2 h3 h4 h5
    rw [← hCw] at hx ⊢
    generalize w1.setRow C (coreA s F' mp) = Wf at hx ⊢
    have HX := Lib.hid hx
    clear hx hb hbW htr hw1 hbs hU hCw hHeld hrg
  all_goals
    go_wp2
    go_loopw [31] (fun i wr => ∃ (k : Nat) (sk : St8) (mk : Mem8), k ≤ n ∧ i = .int .i64 k ∧ RunAt w wr ⟨C, F', B', mp', lo, hi, ra', rc', bc', tp⟩ (w.heap.size + 1) (w.heap.size + 1 + 1) sk mk ∧ runT (n - k) k sk mk = R) (fun i _ => n - (intOf i).toNat)
    case atStart => exact ⟨0, s, m, Nat.zero_le _, rfl, HX.out, HR.out⟩
    case round =>
      obtain ⟨k, sk, mk, hk, rfl, hra, hrun⟩ := hrel
      have HA := Lib.hid hra
      by_cases hlt : k < n
      · have hlt' : decide (k < n) = true := by simpa using hlt
        obtain ⟨⟨s', m', ⟨kd, c, x, nd, u⟩⟩, hst⟩ : ∃ r, stepT sk mk = r := ⟨_, rfl⟩
        have HSTEP := step_any hra.M
        rw [hst] at HSTEP
        have HSTEP := Lib.hid HSTEP
        obtain ⟨q, hq⟩ : ∃ q, n - k = q + 1 := ⟨n - k - 1, by omega⟩
        rw [hq] at hrun
        unfold runT at hrun
        rw [hst] at hrun
        dsimp only at hrun
        by_cases hkd : kd = 0
        · subst hkd
          rw [if_pos rfl] at hrun
          have HRUN := Lib.hid hrun
          have HQ := Lib.hid hq
          clear hra hst hq hrun
          go_wp2_with (go_at_call 27; refine HSTEP.out.mono ?_; rintro e w1 ⟨rfl, hM, hT⟩; have HA1 := Lib.hid (HA.out.step hM hT); clear hM hT)
          go_roundw
          case rel => exact ⟨k + 1, s', m', hlt, by go_num, HA1.out.alloc _, by rw [show n - (k + 1) = q by have := HQ.out; omega]; exact HRUN.out⟩
          case measure => simp [intOf]; omega
        · rw [if_neg hkd] at hrun
          have hkd2 : (kd != 0) = true := by simpa using hkd
          have HRUN := Lib.hid hrun
          clear hra hst hq hrun hkd
          go_wp2_with (go_at_call 27; refine HSTEP.out.mono ?_; rintro e w1 ⟨rfl, hM, hT⟩; have HA1 := Lib.hid (HA.out.step hM hT); clear hM hT)
          have ha2 := HA1.out.alloc (.cells #[.int .i64 kd, .int .i64 c, .int .u32 x, .int .i64 nd, .int .i64 k] 38)
          have hN : (w1.alloc (.cells #[.int .i64 kd, .int .i64 c, .int .u32 x, .int .i64 nd, .int .i64 k] 38)).heap[w1.heap.size]? = _ := heap_alloc_new w1 _
          change Code.wp _ _ _ _ (w1.alloc (.cells #[.int .i64 kd, .int .i64 c, .int .u32 x, .int .i64 nd, .int .i64 k] 38))
          generalize w1.alloc (.cells #[.int .i64 kd, .int .i64 c, .int .u32 x, .int .i64 nd, .int .i64 k] 38) = W2 at ha2 hN ⊢
          have HA2 := Lib.hid ha2
          have hcr : W2.rangeAt C 0 (stL s') := core_range ha2.M.core
          have hnr : W2.rangeAt w1.heap.size 0 [.int .i64 kd, .int .i64 c, .int .u32 x, .int .i64 nd, .int .i64 k] := range_row hN (fun j v hj => by simpa using hj)
          have hw1C : w1.heap.size ≠ C := by have := HA1.out.M.core.lt; dsimp only at this; omega
          clear ha2 hN
          refine wp_region_noPanic ?_
          refine wp_region_held_drew (S := (fun w' => w'.rangeAt C 0 (stL s') ∧ w'.rangeAt w1.heap.size 0 [.int .i64 kd, .int .i64 c, .int .u32 x, .int .i64 nd, .int .i64 k])) (by kernel_rfl) ?_ (fun hHeld => ?_)
          · exact ⟨hcr, hnr⟩
          refine wpAnyH_take (i := 0) (v := ?_) rfl (by kernel_rfl) (by kernel_rfl) (by kernel_rfl) (fun _ _ _ h => h) (Or.inl ⟨by rfl, ?_⟩) (by assumption) ?_
          rotate_left
          · (intro w hSw; (try dsimp only at hSw); (try simp only [List.getElem_toArray, List.getElem_cons_zero]); go_simp; try (with_reducible rfl))
          try simp only [Act.put, List.getElem_toArray, List.getElem_cons_zero, List.getElem_cons_succ, List.setIfInBounds_toArray, List.set_cons_zero, List.set_cons_succ]
          refine wpAnyH_take (i := 1) (v := .agg (stA s')) rfl (by kernel_rfl) (by kernel_rfl) (by kernel_rfl) (fun _ _ _ h => h) (yieldsIf_load_mid (by rfl) 28 _ rfl C 0 rfl (stL s') _ (fun w h => h.1) Try.uState rfl Try.stSize) (by assumption) ?_
          try simp only [Act.put, List.getElem_toArray, List.getElem_cons_zero, List.getElem_cons_succ, List.setIfInBounds_toArray, List.set_cons_zero, List.set_cons_succ]
          refine wpAnyH_take (i := 2) (v := stp8 kd c x nd k) rfl (by kernel_rfl) (by kernel_rfl) (by kernel_rfl) (fun _ _ _ h => h) (yieldsIf_load_mid (by rfl) 38 _ rfl w1.heap.size 0 rfl [.int .i64 kd, .int .i64 c, .int .u32 x, .int .i64 nd, .int .i64 k] _ (fun w h => h.2) Try.uStop rfl Try.stopSize) (by assumption) ?_
          try simp only [Act.put, List.getElem_toArray, List.getElem_cons_zero, List.getElem_cons_succ, List.setIfInBounds_toArray, List.set_cons_zero, List.set_cons_succ]
          refine wpAnyH_ready (rs := [3]) (by kernel_rfl) (by simp) ?_
          refine AllReadyH.cons rfl (fun K hK => ?_) AllReadyH.nil
          rw [if_pos (by rfl)]
          refine wp_store_row 28 _ _ rfl (w.heap.size + 1) (stA s') rfl rfl 28 (stA st0) HA2.out.r1 Try.stSize rfl (stA_one s') ?_
          refine hK.out _ _ ?_ (fun hHeld => ?_)
          · have hn1 := HA2.out.n1
            have hk1 : ∀ b o l, b ≠ w.heap.size + 1 → W2.rangeAt b o l → (W2.drew.setRow (w.heap.size + 1) (stA s')).rangeAt b o l := fun b o l hb h j v hj => (World.cell?_of_block (w := W2.drew) (a := ⟨b, o + j, none⟩) (setRow_other W2.drew (w.heap.size + 1) b _ hb)).trans (h j v hj)
            exact ⟨hk1 _ _ _ (fun e => hn1 e.symm) hcr, hk1 _ _ _ (by have := (Array.getElem?_eq_some_iff.1 HA1.out.r1).1; omega) hnr⟩
          clear hK K
          try simp only [Act.put, List.getElem_toArray, List.getElem_cons_zero, List.getElem_cons_succ, List.setIfInBounds_toArray, List.set_cons_zero, List.set_cons_succ]
          refine wpAnyH_ready (rs := [4]) (by kernel_rfl) (by simp) ?_
          refine AllReadyH.cons rfl (fun K hK => ?_) AllReadyH.nil
          rw [if_pos (by rfl)]
          have hk1 : ∀ b o l, b ≠ w.heap.size + 1 → W2.rangeAt b o l → (W2.drew.setRow (w.heap.size + 1) (stA s')).rangeAt b o l := fun b o l hb h j v hj => (World.cell?_of_block (w := W2.drew) (a := ⟨b, o + j, none⟩) (setRow_other W2.drew (w.heap.size + 1) b _ hb)).trans (h j v hj)
          refine wp_store_row 38 _ _ rfl (w.heap.size + 1 + 1) #[.int .i64 kd, .int .i64 c, .int .u32 x, .int .i64 nd, .int .i64 k] rfl rfl 38 #[.int .i64 0, .int .i64 0, .int .u32 0, .int .i64 0, .int .i64 0] ((setRow_other _ _ _ _ (by omega)).trans HA2.out.r2) Try.stopSize rfl (by simp [Value.oneCell']) ?_
          refine hK.out _ _ ?_ (fun hHeld => ?_)
          · have hn1 := HA2.out.n1
            have hn2 := HA2.out.n2
            have hk2 : ∀ b o l, b ≠ w.heap.size + 1 → b ≠ w.heap.size + 1 + 1 → W2.rangeAt b o l → ((W2.drew.setRow (w.heap.size + 1) (stA s')).setRow (w.heap.size + 1 + 1) #[.int .i64 kd, .int .i64 c, .int .u32 x, .int .i64 nd, .int .i64 k]).rangeAt b o l := fun b o l hb hb2 h j v hj => (World.cell?_of_block (a := ⟨b, o + j, none⟩) (setRow_other (W2.drew.setRow (w.heap.size + 1) (stA s')) (w.heap.size + 1 + 1) b _ hb2)).trans (hk1 b o l hb h j v hj)
            have q1 := (Array.getElem?_eq_some_iff.1 HA1.out.r1).1
            have q2 := (Array.getElem?_eq_some_iff.1 HA1.out.r2).1
            exact ⟨hk2 _ _ _ (fun e => hn1 e.symm) (fun e => hn2 e.symm) hcr, hk2 _ _ _ (by omega) (by omega) hnr⟩
          clear hK K hk1
          try simp only [Act.put, List.getElem_toArray, List.getElem_cons_zero, List.getElem_cons_succ, List.setIfInBounds_toArray, List.set_cons_zero, List.set_cons_succ]
          refine wpAnyH_take (i := 5) (v := ?_) rfl (by kernel_rfl) (by kernel_rfl) (by kernel_rfl) (fun _ _ _ h => h) (Or.inl ⟨by rfl, ?_⟩) (by assumption) ?_
          rotate_left
          · (intro w hSw; (try dsimp only at hSw); (try simp only [List.getElem_toArray, List.getElem_cons_zero, List.getElem_cons_succ]); go_simp; try (with_reducible rfl))
          try simp only [Act.put, List.getElem_toArray, List.getElem_cons_zero, List.getElem_cons_succ, List.setIfInBounds_toArray, List.set_cons_zero, List.set_cons_succ]
          refine wpAnyH_done (by kernel_rfl) ?_ _
          refine NoPanic.normal ?_
          go_wp2
          have hcl := run_close HA2.out H.out.fl H.out.bl HRA.out (by omega) (by omega) (turned_rows W2 (w.heap.size + 1) (w.heap.size + 1 + 1) (stA s') #[.int .i64 kd, .int .i64 c, .int .u32 x, .int .i64 nd, .int .i64 k])
          refine bodyPost_ret (v := .tuple #[.agg (stA s'), stp8 kd c x nd k, .int .i64 0]) (results_cct rfl _ _ (w.heap.size + 1) (w.heap.size + 1 + 1) _ _ _ _ _ _ _ rfl rfl rfl ((setRow_other _ _ _ _ (by omega)).trans (setRow_heap _ _ _ _ _ _ HA2.out.r1)) (setRow_heap _ _ _ _ _ _ ((setRow_other _ _ _ _ (by omega)).trans HA2.out.r2)) Try.uState rfl Try.stSize Try.uStop rfl Try.stopSize) rfl ?_
          rw [← HRUN.out]
          exact ⟨rfl, hcl.1, HA2.out.M.core.ok, hcl.2⟩
      · obtain rfl : k = n := by omega
        have hlt' : decide (k < k) = false := by simp
        rw [Nat.sub_self] at hrun
        have HRUN := Lib.hid (show (sk, mk, ({ kind := 1, used := k } : Stop8)) = R from hrun)
        clear hra hrun
        go_wp2_with (first
          | (refine wpList_load_st rfl _ rfl C rfl sk (core_range HA.out.M.core) ?_)
          | (refine wpList_store_rowTo rfl 28 _ _ rfl rfl (w.heap.size + 1) _ rfl rfl 28 _ HA.out.r1 Try.stSize rfl (stA_one sk) ?_)
          | (refine wpList_store_rowTo rfl 38 _ _ rfl rfl (w.heap.size + 1 + 1) _ rfl rfl 38 _ ((setRow_other _ _ _ _ (by omega)).trans HA.out.r2) Try.stopSize rfl (by simp [Value.oneCell']) ?_))
        have hcl := run_close HA.out H.out.fl H.out.bl HRA.out (by omega) (by omega) (turned_rows' wr (w.heap.size + 1) (w.heap.size + 1 + 1) (stA sk) #[.int .i64 1, .int .i64 0, .int .u32 0, .int .i64 0, .int .i64 k])
        refine bodyPost_ret (v := .tuple #[.agg (stA sk), stp8 1 0 0 0 k, .int .i64 0]) (results_cct rfl _ _ (w.heap.size + 1) (w.heap.size + 1 + 1) _ _ _ _ _ _ _ rfl rfl rfl ((setRow_other _ _ _ _ (by omega)).trans (setRow_heap _ _ _ _ _ _ HA.out.r1)) (setRow_heap _ _ _ _ _ _ ((setRow_other _ _ _ _ (by omega)).trans HA.out.r2)) Try.uState rfl Try.stSize Try.uStop rfl Try.stopSize) rfl ?_
        rw [← HRUN.out]
        exact ⟨rfl, hcl.1, HA.out.M.core.ok, hcl.2⟩
end Go.Proofs.Ytknepljmbpdpkaa
