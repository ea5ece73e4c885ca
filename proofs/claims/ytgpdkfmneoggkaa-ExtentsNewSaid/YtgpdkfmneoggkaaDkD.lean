/- Write. -/
import Derived.Test.YtgpdkfmneoggkaaDkC
import Derived.Deep.RegionHeld3
import Derived.Deep.AppendLies
namespace Go.Proofs.Ytgpdkfmneoggkaa
open Go.RowKit
open Go.Maps (Keyed)
attribute [local go_sem] Oper.semAt_some

theorem set_zip9 : ∀ (xs : List Value) (cells : Array Value) (off j : Nat), off + j + xs.length ≤ cells.size → ∀ i, ((xs.zipIdx j).foldl (fun cs (x : Value × Nat) => cs.setIfInBounds (off + x.2) x.1) cells)[i]? = if off + j ≤ i ∧ i < off + j + xs.length then xs[i - (off + j)]? else cells[i]? := by
  intro xs
  induction xs with
  | nil => intro cells off j h i; rw [List.length_nil, if_neg (by omega)]; rfl
  | cons x xs ih =>
    intro cells off j h i
    rw [List.zipIdx_cons, List.foldl_cons]
    simp only [List.length_cons] at h ⊢
    have h2 := ih (cells.setIfInBounds (off + j) x) off (j + 1) (by simp; omega) i
    rw [h2, Array.getElem?_setIfInBounds]
    by_cases c1 : off + (j + 1) ≤ i ∧ i < off + (j + 1) + xs.length
    · rw [if_pos c1, if_pos ⟨by omega, by omega⟩, show i - (off + j) = (i - (off + (j + 1))) + 1 by omega, List.getElem?_cons_succ]
    · rw [if_neg c1]
      by_cases c2 : off + j = i
      · subst c2
        rw [if_pos rfl, if_pos (by omega), if_pos ⟨Nat.le_refl _, by omega⟩]
        simp
      · rw [if_neg c2, if_neg (by omega)]
theorem fill_sec (c : Sec) (hc : SecOk c) (cells : Array Value) (hs : cells.size = 128) : Instr.fill (fun i => some (i * 128, 128)) cells [(0, .agg (secA c))] = some (secA c) := by
  have hsz := secA_size hc
  show (if (secA c).size ≠ 128 || 0 * 128 + (secA c).size > cells.size then none else some ((secA c).zipIdx.foldl (fun cs (x : Value × Nat) => cs.setIfInBounds (0 * 128 + x.2) x.1) cells)) = _
  rw [if_neg (by simp; omega)]
  congr 1
  rw [← Array.foldl_toList, Array.toList_zipIdx]
  apply Array.ext_getElem?
  intro i
  rw [set_zip9 _ _ _ _ (by rw [Array.length_toList]; omega) i, Array.length_toList, hsz]
  by_cases hi : i < 128
  · rw [if_pos (by omega), Array.getElem?_toList]
    simp
  · rw [if_neg (by omega), Array.getElem?_eq_none (by omega), Array.getElem?_eq_none (by omega)]
/-- A sector as a slice of one, at the step of a region that draws its order. -/
theorem step_buildSec {ops : Array Oper} {o : Oper} {a : Act} {w : World} {K : Act → World → Prop} {Q : Exit → Act → World → Prop} {E : Prop}
    (hg : o.guard = none) (x : Operand) (hop : o.op = .buildSlice 102 1 #[(0, x)]) (c : Sec) (hc : SecOk c) (hx : a.eval x = .agg (secA c))
    (hK : K (a.put o.dst (.slice (some ⟨w.heap.size, 0, none⟩) 1 1)) (w.alloc (.cells (secA c) 108))) :
    if Region.wanted o (yielded ops a.tmps) = true then Oper.wp Try.prog o a w K Q else E := by
  have hw : Region.wanted o (yielded ops a.tmps) = true := by simp [Region.wanted, hg]
  rw [if_pos hw]
  obtain ⟨i, hi, hzz⟩ := Option.map_eq_some_iff.1 Try.zCont
  simp only [Prod.mk.injEq] at hzz
  obtain ⟨hz, hs, -⟩ := hzz
  refine wp_buildSlice 102 108 1 _ hop (secA c) i _ Try.underlying102 hi hz (by rw [hs]; decide) (by rw [hs]; decide) ?_ hK
  rw [hs]
  simp only [List.map_toArray, List.map_cons, List.map_nil, hx]
  exact fill_sec c hc _ (by simp)
/-- A map's update, at such a step. -/
theorem step_mapUpdate9 {P : Program} {ops : Array Oper} {o : Oper} {a : Act} {w : World} {K : Act → World → Prop} {Q : Exit → Act → World → Prop} {E : Prop}
    (hg : o.guard = none) (m x v : Operand) (t : TypeId) (hop : o.op = Op.mapUpdate t m x v)
    (k e : TypeId) (KK : Keyed P k) (ht : P.underlying t = some (.map k e)) (R : Value → Option (DataW Unit × List MemPlace)) (b n : Nat) (D : DataW Unit)
    (hm : a.eval m = .map (some b)) (hown : w.ownsMap P k R b n D) (hn : n < maxLen) (key val : Value) (kl : Lit) (hx : a.eval x = key) (hv : a.eval v = val) (hkey : keyOf P k key = some kl)
    (d : DataW Unit) (ps : List MemPlace) (hval : R val = some (d, ps))
    (hK : ∀ w', w'.ownsMap P k R b (n + 1) (D.put kl d) → w.grownBy w' (some b) → K (a.put o.dst undef) w') :
    if Region.wanted o (yielded ops a.tmps) = true then Oper.wp P o a w K Q else E := by
  have hw : Region.wanted o (yielded ops a.tmps) = true := by simp [Region.wanted, hg]
  rw [if_pos hw]
  obtain ⟨w', hrun, r1, r2⟩ := hown.update KK ht hn hkey hval
  unfold Oper.wp
  simp [execOp, hop, hm, hx, hv, hrun, Result.andThen]
  exact hK w' r1 r2
section
variable {w : World} {O : Nat → Prop} {d : Nat} {L : Lay9} {s : Dk}
theorem DkAt.mapB (h : DkAt w O d L s) : ∃ es clock, w.heap[L.b]? = some (.map es clock) := by
  obtain ⟨D, m, p⟩ := h.pend
  obtain ⟨es, clock, h1, -⟩ := p.own
  exact ⟨es, clock, h1⟩
theorem DkAt.db (h : DkAt w O d L s) : d ≠ L.b := by
  intro e
  obtain ⟨es, clock, h1⟩ := h.mapB
  rw [← e, h.disk] at h1
  cases h1
theorem own_cells {B : Nat} {e : TypeId} {k : Nat} {v : Value} {n : Nat} {xs : List Value} (h : w.ownsRow B e k v n xs) {g : Nat} (hg : v.ownBlock = some g) : ∃ cur, w.heap[g]? = some (.cells cur e (0, 0)) := by
  rcases h.2 with ⟨rfl, -⟩ | ⟨g', cap, cur, rfl, -, h2, -⟩
  · cases hg
  · cases hg
    exact ⟨cur, h2⟩
theorem DkAt.apart (h : DkAt w O d L s) {B : Nat} {k : Nat} {v : Value} {n : Nat} {xs : List Value} (hv : w.ownsRow B 108 k v n xs) {g : Nat} (hg : v.ownBlock = some g) : g ≠ d ∧ g ≠ L.b := by
  obtain ⟨cur, hc⟩ := own_cells hv hg
  refine ⟨fun e => ?_, fun e => ?_⟩
  · rw [e, h.disk] at hc
    simp at hc
  · obtain ⟨es, clock, h1⟩ := h.mapB
    rw [e, h1] at hc
    cases hc
theorem DkAt.Fd (h : DkAt w O d L s) : L.F ≠ d ∧ L.F ≠ L.b := h.apart h.row rfl
theorem DkAt.Vd (h : DkAt w O d L s) {i : Int} {k : Nat} (hk : (L.V i).ownBlock = some k) : k ≠ d ∧ k ≠ L.b := h.apart (h.rows i) hk

/-- A write more. -/
def Dk.push (s : Dk) (i : Int) (c : Sec) : Dk := ⟨s.fl, fun j => if j = i then s.pd j ++ [c] else s.pd j, s.wr + 1⟩
theorem Dk.push_ok (h : DkOk s) {i : Nat} (hi : i < s.fl.length) {c : Sec} (hc : SecOk c) (hw : s.wr < 1000000) : DkOk (s.push i c) := by
  refine ⟨h.n1, h.n2, h.f, fun j x hx => ?_, fun j hj => ?_, fun j => ?_, hw⟩
  · unfold Dk.push at hx
    dsimp only at hx
    split at hx
    · rcases List.mem_append.1 hx with h1 | h1
      · exact h.p j x h1
      · rw [List.mem_singleton.1 h1]; exact hc
    · exact h.p j x hx
  · unfold Dk.push at hj ⊢
    dsimp only at hj ⊢
    rw [if_neg (by omega)]
    exact h.out j hj
  · have := h.pl j
    unfold Dk.push
    dsimp only
    split
    · rw [List.length_append, List.length_singleton]; omega
    · omega
theorem wf_sec {i : Nat} (h : i < 4096) : (Lit.int .i64 (i : Int)).wf = true := by
  rw [Lit.wf]
  simp
  exact ⟨by show (-9223372036854775808 : Int) ≤ _; omega, by show _ ≤ (9223372036854775807 : Int); omega⟩
set_option maxHeartbeats 1000000 in
theorem push_at {w2 w3 : World} (h : DkAt w O d L s) {D : DataW Unit} {m : Nat} (p : PendIs w L s D m) (i : Nat) (hi : i < s.fl.length) (c : Sec) (hc : SecOk c) (hw : s.wr < 1000000) {o : Obj} {g k1 : Nat}
    (ho2 : w2.ownsRow 0 108 128 (.slice (some ⟨g, 0, none⟩) ((s.pd i).length + 1) k1) ((s.pd i).length + 1) (rowV (s.pd i) ++ secL c)) (hg2 : (w.drew.alloc o).grownBy w2 (L.V i).ownBlock) (hl2 : (L.V i).ownBlock = some g ∨ g = w.heap.size + 1) (hlt2 : g < w2.heap.size)
    (hm3 : w3.ownsMap Try.prog 3 slE L.b (m + 1) (D.put (.int .i64 (i : Int)) (slD (.slice (some ⟨g, 0, none⟩) ((s.pd i).length + 1) k1)))) (hg3 : w2.grownBy w3 (some L.b)) :
    DkAt (w3.setCell ⟨d, 2, none⟩ (.int .i64 ((s.wr : Int) + 1))) (fun k => O k ∨ (w.heap.size ≤ k ∧ k < w3.heap.size)) d { L with V := fun j => if j = (i : Int) then .slice (some ⟨g, 0, none⟩) ((s.pd i).length + 1) k1 else L.V j } (s.push i c) ∧
      TurnO O w (w3.setCell ⟨d, 2, none⟩ (.int .i64 ((s.wr : Int) + 1))) := by
  have hs1 : w.heap.size + 1 ≤ w2.heap.size := by have := hg2.size; simpa using this
  have hs2 := hg3.size
  have hn2 := h.ok.n2
  have blk2 : ∀ k, k < w.heap.size → (L.V i).ownBlock ≠ some k → w2.heap[k]? = w.heap[k]? := fun k hk hv => (hg2.block k (by simp; omega) (fun e => hv e.symm)).trans (Below.heap_alloc w.drew o k hk)
  have blk3 : ∀ k, k < w.heap.size → (L.V i).ownBlock ≠ some k → k ≠ L.b → w3.heap[k]? = w.heap[k]? := fun k hk hv hb => (hg3.block k (by omega) (fun e => hb (Option.some.inj e))).trans (blk2 k hk hv)
  have blk : ∀ k, k < w.heap.size → (L.V i).ownBlock ≠ some k → k ≠ L.b → k ≠ d → (w3.setCell ⟨d, 2, none⟩ (.int .i64 ((s.wr : Int) + 1))).heap[k]? = w.heap[k]? := fun k hk hv hb hd => (heap_setCell_other w3 ⟨d, 2, none⟩ k _ hd).trans (blk3 k hk hv hb)
  have hsz : (w3.setCell ⟨d, 2, none⟩ (.int .i64 ((s.wr : Int) + 1))).heap.size = w3.heap.size := by simp [World.setCell]
  have hdV : (L.V i).ownBlock ≠ some d := fun e => (h.Vd e).1 rfl
  have hgd : g ≠ d ∧ g ≠ L.b ∧ g ≠ L.F := by
    rcases hl2 with e | e
    · exact ⟨(h.Vd e).1, (h.Vd e).2, fun e2 => h.apF i (by rw [e, e2])⟩
    · have := h.lt _ h.od; have := h.lt _ h.ob; have := h.lt _ h.oF
      exact ⟨by omega, by omega, by omega⟩
  have hgj : ∀ j : Int, j ≠ (i : Int) → (L.V j).ownBlock ≠ some g := fun j hj e => by
    rcases hl2 with e2 | e2
    · exact h.ap j i g hj e e2
    · have := h.lt _ (h.oV j g e); omega
  have hwi := wf_sec (show i < 4096 by omega)
  have hk : WideAt.IsKeyLit (.int .i64 (i : Int)) := Try.kint.key (Maps.keyOf_int_mk Try.underlying3 hwi)
  refine ⟨⟨Dk.push_ok h.ok hi hc hw, ?_, owns_eq h.row (fun k e => ?_), ⟨D.put (.int .i64 (i : Int)) (slD (.slice (some ⟨g, 0, none⟩) ((s.pd i).length + 1) k1)), m + 1, ?_⟩, fun j => ?_, fun j e => ?_, fun j l k hjl e1 e2 => ?_, .inl h.od, .inl h.oF, .inl h.ob, fun j k e => ?_, fun k hk => ?_⟩, ⟨?_, ?_, ?_, by rw [hsz]; omega, fun k hk hO => ?_⟩⟩
  · have := (blk3 d h.hd hdV h.db).trans h.disk
    rw [heap_setCell_same _ _ _ _ _ _ this]
    rfl
  · cases e
    exact blk _ (h.lt _ h.oF) (h.apF i) h.Fd.2 h.Fd.1
  · refine ⟨Nat.succ_le_succ p.mm, ownsMap_eq9 hm3 (heap_setCell_other w3 ⟨d, 2, none⟩ L.b _ h.db.symm), p.tidy.put hk _, fun k e => ?_, fun j => ?_, fun j => ?_⟩
    · by_cases e2 : k = .int .i64 (i : Int)
      · exact ⟨_, e2⟩
      · rw [Maps.has_put_other (by simpa using e2)] at e; exact p.ints k e
    · unfold Dk.push
      dsimp only
      by_cases e2 : j = (i : Int)
      · rw [e2, Maps.has_put_same p.tidy.isMap hk, if_pos rfl]; simp
      · rw [Maps.has_put_other (by simpa using e2), if_neg e2, p.has]
    · dsimp only
      by_cases e2 : j = (i : Int)
      · rw [e2, Maps.atKey_put_same p.tidy.isMap hk, if_pos rfl]
      · rw [Maps.atKey_put_other (by simpa using e2), if_neg e2, p.at_]
  · unfold Dk.push
    dsimp only
    by_cases e2 : j = (i : Int)
    · rw [if_pos e2, if_pos e2, e2, List.length_append, List.length_singleton, rowV_append, rowV_one]
      exact owns_eq ho2 (fun k e => by cases e; exact (heap_setCell_other w3 ⟨d, 2, none⟩ g _ hgd.1).trans (hg3.block g hlt2 (fun e => hgd.2.1 (Option.some.inj e))))
    · rw [if_neg e2, if_neg e2]
      exact owns_eq (h.rows j) (fun k e => blk k (h.lt k (h.oV j k e)) (fun e3 => h.ap j i k e2 e e3) (h.Vd e).2 (h.Vd e).1)
  · dsimp only at e
    split at e
    · exact hgd.2.2 (Option.some.inj e)
    · exact h.apF j e
  · dsimp only at e1 e2
    split at e1
    · rename_i hj
      cases e1
      rw [if_neg (fun hl => hjl (hj.trans hl.symm))] at e2
      exact hgj l (fun hl => hjl (hj.trans hl.symm)) e2
    · rename_i hj
      split at e2
      · rename_i hl
        cases e2
        exact hgj j hj e1
      · exact h.ap j l k hjl e1 e2
  · dsimp only at e
    split at e
    · cases e
      rcases hl2 with e2 | e2
      · exact .inl (h.oV i g e2)
      · exact .inr ⟨by show w.heap.size ≤ g; omega, by show g < _; omega⟩
    · exact .inl (h.oV j k e)
  · rw [hsz]
    rcases hk with hk | ⟨-, hk⟩
    · have := h.lt k hk; omega
    · exact hk
  · exact hg3.os.trans hg2.os
  · exact hg3.tape.trans hg2.tape
  · exact hg3.output.trans hg2.output
  · exact blk k hk (fun e => hO (h.oV i k e)) (fun e => hO (e ▸ h.ob)) (fun e => hO (e ▸ h.od))
end
end Go.Proofs.Ytgpdkfmneoggkaa
