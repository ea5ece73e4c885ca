/- Crash: what is kept, in numbers. -/
import Derived.Test.YtbnfjceoogehmaaDkH
namespace Go.Proofs.Ytbnfjceoogehmaa
open Go.RowKit
open Go.Maps (Keyed)
attribute [local go_sem] Oper.semAt_some

abbrev Kp := Int × Int
/-- What is to be kept, in memory. -/
def KeepIn (w : World) (A : Option Addr) (KL : List Kp) : Prop := ∀ k x, KL[k]? = some x → ∃ b o, A = some ⟨b, o, none⟩ ∧ w.cell? ⟨b, o + k * 2, none⟩ = some (.int .i64 x.1) ∧ w.cell? ⟨b, o + k * 2 + 1, none⟩ = some (.int .i64 x.2)
theorem KeepIn.below {w w' : World} {A : Option Addr} {KL : List Kp} (h : KeepIn w A KL) (hb : Below w.heap.size w w') : KeepIn w' A KL := fun k x hx => by
  obtain ⟨b, o, e, h1, h2⟩ := h k x hx
  exact ⟨b, o, e, hb.cell (World.block_lt_of_cell? w _ h1) |>.trans h1, hb.cell (World.block_lt_of_cell? w _ h2) |>.trans h2⟩
def wfK (x : Kp) : Prop := ((-9223372036854775808 : Int) ≤ x.1 ∧ x.1 ≤ 9223372036854775807) ∧ ((-9223372036854775808 : Int) ≤ x.2 ∧ x.2 ≤ 9223372036854775807)
theorem wfK_wf {x : Kp} (h : wfK x) : (Lit.int .i64 x.1).wf = true := by
  rw [Lit.wf]
  simp
  exact ⟨by show (-9223372036854775808 : Int) ≤ _; exact h.1.1, by show _ ≤ (9223372036854775807 : Int); exact h.1.2⟩
/-- How often a sector is named among the first k. -/
def cntK (KL : List Kp) (k : Nat) (i : Int) : Nat := ((KL.take k).filter (fun x => x.1 == i)).length
theorem cntK_zero (KL : List Kp) (i : Int) : cntK KL 0 i = 0 := rfl
theorem take_more {KL : List Kp} {k : Nat} {x : Kp} (h : KL[k]? = some x) : KL.take (k + 1) = KL.take k ++ [x] := by rw [List.take_add_one, h]; rfl
theorem cntK_succ {KL : List Kp} {k : Nat} {x : Kp} (h : KL[k]? = some x) (i : Int) : cntK KL (k + 1) i = cntK KL k i + if x.1 = i then 1 else 0 := by
  unfold cntK
  rw [take_more h, List.filter_append, List.length_append]
  by_cases e : x.1 = i
  · rw [if_pos e]; simp [e]
  · rw [if_neg e]; simp [e]
theorem cntK_le (KL : List Kp) (k : Nat) (i : Int) : cntK KL k i ≤ k := by
  unfold cntK
  exact Nat.le_trans (List.length_filter_le _ _) (by rw [List.length_take]; omega)
/-- May this be kept, behind these? -/
def okK (s : Dk) (KL : List Kp) (k : Nat) (x : Kp) : Prop := s.has x.1 = true ∧ 0 ≤ x.2 ∧ x.2 ≤ ((s.pd x.1).length : Int) ∧ cntK KL k x.1 = 0
def keep1 (s t : Dk) (x : Kp) : Dk := if 0 < x.2 then ⟨t.fl.set x.1.toNat ((s.pd x.1).getD (x.2.toNat - 1) []), t.pd, t.wr⟩ else t
def Dk.crash (s : Dk) (KL : List Kp) (k : Nat) : Dk := (KL.take k).foldl (keep1 s) s.last
theorem Dk.crash_zero (s : Dk) (KL : List Kp) : s.crash KL 0 = s.last := rfl
theorem Dk.crash_succ (s : Dk) {KL : List Kp} {k : Nat} {x : Kp} (h : KL[k]? = some x) : s.crash KL (k + 1) = keep1 s (s.crash KL k) x := by
  unfold Dk.crash
  rw [take_more h, List.foldl_append]
  rfl
theorem Dk.has_iff {s : Dk} {i : Int} (h : s.has i = true) : ∃ n : Nat, i = n ∧ n < s.fl.length := by
  unfold Dk.has at h
  simp at h
  exact ⟨i.toNat, by omega, by omega⟩
theorem keep1_len (s t : Dk) (x : Kp) : (keep1 s t x).fl.length = t.fl.length := by unfold keep1; split <;> simp
theorem keep1_pd (s t : Dk) (x : Kp) : (keep1 s t x).pd = t.pd := by unfold keep1; split <;> rfl
theorem keep1_wr (s t : Dk) (x : Kp) : (keep1 s t x).wr = t.wr := by unfold keep1; split <;> rfl
theorem Dk.crash_len (s : Dk) (KL : List Kp) : ∀ k, (s.crash KL k).fl.length = s.fl.length ∧ (s.crash KL k).pd = (fun _ => []) ∧ (s.crash KL k).wr = s.wr := by
  intro k
  induction k with
  | zero => exact ⟨rfl, rfl, rfl⟩
  | succ k ih =>
    cases h : KL[k]? with
    | none =>
      have e : s.crash KL (k + 1) = s.crash KL k := by
        unfold Dk.crash
        rw [List.take_add_one, h]
        simp
      rw [e]; exact ih
    | some x => rw [Dk.crash_succ s h, keep1_len, keep1_pd, keep1_wr]; exact ih
theorem kept_get {s : Dk} {x : Kp} (h1 : 0 < x.2) (h2 : x.2 ≤ ((s.pd x.1).length : Int)) : (s.pd x.1)[x.2.toNat - 1]? = some ((s.pd x.1).getD (x.2.toNat - 1) []) := by
  rw [List.getElem?_eq_getElem (by omega), List.getD_eq_getElem?_getD, List.getElem?_eq_getElem (by omega)]
  rfl
theorem kept_ok {s : Dk} (h : DkOk s) {x : Kp} (h1 : 0 < x.2) (h2 : x.2 ≤ ((s.pd x.1).length : Int)) : SecOk ((s.pd x.1).getD (x.2.toNat - 1) []) := h.p _ _ (List.mem_of_getElem? (kept_get h1 h2))
theorem keep1_ok {s t : Dk} (hs : DkOk s) (ht : DkOk t) {x : Kp} (h2 : x.2 ≤ ((s.pd x.1).length : Int)) : DkOk (keep1 s t x) := by
  unfold keep1
  split
  · rename_i h1
    refine ⟨by simpa using ht.n1, by simpa using ht.n2, fun c hc => ?_, ht.p, fun i hi => ht.out i (by simpa using hi), ht.pl, ht.w1⟩
    rcases List.mem_or_eq_of_mem_set hc with h3 | h3
    · exact ht.f c h3
    · rw [h3]; exact kept_ok hs h1 h2
  · exact ht

/-- A disk whose flushed sectors were written. -/
theorem set_at {w : World} {O : Nat → Prop} {d : Nat} {L : Lay9} {s : Dk} (h : DkAt w O d L s) (i : Nat) (hi : i < s.fl.length) (c : Sec) (hc : SecOk c) {cs : Array Value}
    (ho2 : (w.setRow L.F cs).ownsRow 0 85 128 (.slice (some ⟨L.F, 0, none⟩) s.fl.length L.cap) s.fl.length (rowV (s.fl.set i c))) : DkAt (w.setRow L.F cs) O d L ⟨s.fl.set i c, s.pd, s.wr⟩ := by
  obtain ⟨D, m, p⟩ := h.pend
  have blk : ∀ k, k ≠ L.F → (w.setRow L.F cs).heap[k]? = w.heap[k]? := fun k hk => setRow_other w L.F k cs hk
  refine ⟨⟨by simpa using h.ok.n1, by simpa using h.ok.n2, fun x hx => ?_, h.ok.p, fun i hi => h.ok.out i (by simpa using hi), h.ok.pl, h.ok.w1⟩, ?_, ?_, ⟨D, m, p.mm, ownsMap_eq9 p.own (blk L.b (fun e => h.Fd.2 e.symm)), p.tidy, p.ints, p.has, p.at_⟩,
    fun j => owns_eq (h.rows j) (fun k e => blk k (fun e3 => h.apF j (e3 ▸ e))), h.apF, h.ap, h.od, h.oF, h.ob, h.oV, fun k hk => by simpa using h.lt k hk⟩
  · rcases List.mem_or_eq_of_mem_set hx with h1 | h1
    · exact h.ok.f x h1
    · rw [h1]; exact hc
  · rw [List.length_set]; exact (blk d (fun e => h.Fd.1 e.symm)).trans h.disk
  · rw [List.length_set]; exact ho2
/-- How often sectors were named, in memory. -/
structure NamedAt (w : World) (nb : Nat) (KL : List Kp) (k : Nat) : Prop where
  map : ∃ D : DataW Unit, w.ownsMap Try.prog 3 (plainElem Try.prog 3) nb k D ∧ Maps.Tidy D ∧ ∀ i, D.atKey (.int .i64 i) (.lit (.int .i64 0)) = .lit (.int .i64 (cntK KL k i : Nat))
theorem Try.zInt (w : World) : (zeroValue 3).run Try.prog w = .ok (.int .i64 0) w := by kernel_rfl
theorem named_eq {w w' : World} {b n : Nat} {D : DataW Unit} (h : w.ownsMap Try.prog 3 (plainElem Try.prog 3) b n D) (e : w'.heap[b]? = w.heap[b]?) : w'.ownsMap Try.prog 3 (plainElem Try.prog 3) b n D := by
  obtain ⟨es, clock, h1, F, hs, hD⟩ := h
  exact ⟨es, clock, e.trans h1, F, hs, hD⟩
theorem NamedAt.keep {w w' : World} {nb : Nat} {KL : List Kp} {k : Nat} (h : NamedAt w nb KL k) (e : w'.heap[nb]? = w.heap[nb]?) : NamedAt w' nb KL k := by
  obtain ⟨D, h1, h2, h3⟩ := h.map
  exact ⟨D, named_eq h1 e, h2, h3⟩
theorem NamedAt.look {w : World} {nb : Nat} {KL : List Kp} {k : Nat} (h : NamedAt w nb KL k) (i : Int) (hw : (Lit.int .i64 i).wf = true) : (Instr.lookup 90 (.map (some nb)) (.int .i64 i) false).run Try.prog w = .ok (.int .i64 (cntK KL k i : Nat)) w := by
  obtain ⟨D, h1, h2, h3⟩ := h.map
  obtain ⟨c, hrun, hat, hwc⟩ := h1.lookup_int Try.kint Try.underlying90 Try.underlying3 (Try.zInt w) (Maps.keyOf_int_mk Try.underlying3 hw)
  rw [h3] at hat
  simp only [DataW.lit.injEq, Lit.int.injEq, true_and] at hat
  rw [hrun, hat]
theorem NamedAt.more {w' : World} {nb : Nat} {KL : List Kp} {k : Nat} {x : Kp} (hx : KL[k]? = some x) (hw : wfK x) {D : DataW Unit} (h2 : Maps.Tidy D) (h3 : ∀ i, D.atKey (.int .i64 i) (.lit (.int .i64 0)) = .lit (.int .i64 (cntK KL k i : Nat)))
    (h1 : w'.ownsMap Try.prog 3 (plainElem Try.prog 3) nb (k + 1) (D.put (.int .i64 x.1) (.lit (.int .i64 ((cntK KL k x.1 : Nat) + 1))))) : NamedAt w' nb KL (k + 1) := by
  have hk : WideAt.IsKeyLit (.int .i64 x.1) := Try.kint.key (Maps.keyOf_int_mk Try.underlying3 (wfK_wf hw))
  refine ⟨_, h1, h2.put hk _, fun i => ?_⟩
  rw [cntK_succ hx]
  by_cases e : i = x.1
  · rw [e, Maps.atKey_put_same h2.isMap hk, if_pos rfl]; simp
  · rw [Maps.atKey_put_other (by simpa using e), if_neg (fun e2 => e e2.symm), h3]; simp
end Go.Proofs.Ytbnfjceoogehmaa
