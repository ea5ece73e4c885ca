/- Write refused; one sector is flushed. -/
import Derived.Test.YtgpdkfmneoggkaaDkE
import Derived.Deep.DeepCutAuto
import Derived.Deep.CutRange
import Derived.Deep.CutBlock
import Derived.Lib.FrozenHead
namespace Go.Proofs.Ytgpdkfmneoggkaa
open Go.RowKit
open Go.Maps (Keyed)
attribute [local go_sem] Oper.semAt_some

theorem write_no9 {w : World} {v : Value} (h : NoDk w v) (i : Int) (b : Value) : Calls Try.prog 66 #[v, .int .i64 i, b] w fun e w' => e = .returned (.int .i64 1) ∧ w = w' := by
  go_enter Try.func66, Try.ntmps66
  go_wp2_with (go_at_call 75; refine (ask_no9 h i).mono ?_; rintro e w' ⟨rfl, rfl⟩)
  go_ret
  exact ⟨rfl, rfl⟩
section
variable {w : World} {O : Nat → Prop} {d : Nat} {L : Lay9} {s : Dk}
theorem write_out9 (h : DkAt w O d L s) (i : Int) (hi : s.has i = false) (b : Value) : Calls Try.prog 66 #[.pointer (some ⟨d, 0, none⟩), .int .i64 i, b] w fun e w' => e = .returned (.int .i64 2) ∧ w = w' := by
  have HA := Lib.hid (ask_any9 h i)
  rw [hi] at HA
  clear h
  go_enter Try.func66, Try.ntmps66
  go_wp2_with (go_at_call 75; refine HA.out.mono ?_; rintro e w' ⟨rfl, rfl⟩)
  go_ret
  exact ⟨rfl, rfl⟩
theorem write_len9 (h : DkAt w O d L s) (i : Int) (A : Option Addr) (n c : Nat) (hn : n ≠ 128) : Calls Try.prog 66 #[.pointer (some ⟨d, 0, none⟩), .int .i64 i, .slice A n c] w fun e w' => e = .returned (.int .i64 2) ∧ w = w' := by
  cases hi : s.has i with
  | false => exact write_out9 h i hi _
  | true =>
    have HA := Lib.hid (ask_any9 h i)
    rw [hi] at HA
    have hne : ¬ ((n : Int) = 128) := by omega
    have hb : ((n : Int) == 128) = false := by simpa using hne
    clear h
    go_enter Try.func66, Try.ntmps66
    go_wp2_with (go_at_call 75; refine HA.out.mono ?_; rintro e w' ⟨rfl, rfl⟩)
    go_ret
    exact ⟨rfl, rfl⟩
end

/-- A sector amid a row is written. -/
theorem rowV_split {fl : List Sec} {i : Nat} (hi : i < fl.length) (c : Sec) : fl.set i c = fl.take i ++ c :: fl.drop (i + 1) := by
  rw [List.set_eq_take_append_cons_drop, if_pos hi]
theorem rowV_parts {fl : List Sec} (hf : ∀ c ∈ fl, SecOk c) {i : Nat} (hi : i < fl.length) : rowV fl = rowV (fl.take i) ++ (secL fl[i] ++ rowV (fl.drop (i + 1))) ∧ (rowV (fl.take i)).length = i * 128 ∧ (secL fl[i]).length = 128 := by
  refine ⟨?_, ?_, secL_len (hf _ (List.getElem_mem hi))⟩
  · rw [← rowV_cons, ← rowV_append, List.getElem_cons_drop, List.take_append_drop]
  · rw [rowV_len (fun c hc => hf c (List.mem_of_mem_take hc)), List.length_take]
    rw [Nat.min_eq_left (by omega)]
theorem splice_row {fl : List Sec} (hf : ∀ c ∈ fl, SecOk c) {i : Nat} (hi : i < fl.length) {c : Sec} (hc : SecOk c) (tl : List Value) : splice (rowV fl ++ tl) (i * 128) (secL c) = rowV (fl.set i c) ++ tl := by
  obtain ⟨h1, h2, h3⟩ := rowV_parts hf hi
  rw [rowV_split hi, rowV_append, rowV_cons]
  unfold splice
  rw [h1, secL_len hc, List.append_assoc, List.append_assoc, List.take_left' h2, ← List.drop_drop, List.drop_left' h2, List.drop_left' h3]
  simp
theorem own_amid {w : World} {F cap : Nat} {fl : List Sec} (h : w.ownsRow 0 108 128 (.slice (some ⟨F, 0, none⟩) fl.length cap) fl.length (rowV fl)) (hf : ∀ c ∈ fl, SecOk c) {i : Nat} (hi : i < fl.length) {c : Sec} (hc : SecOk c) :
    ∃ cur, w.heap[F]? = some (.cells cur 108 (0, 0)) ∧ i * 128 + 128 ≤ cur.size ∧ (w.setRow F (splice cur.toList (i * 128) (secL c)).toArray).ownsRow 0 108 128 (.slice (some ⟨F, 0, none⟩) fl.length cap) fl.length (rowV (fl.set i c)) := by
  have hl := rowV_len hf
  have hl' : (rowV (fl.set i c)).length = fl.length * 128 := by
    rw [rowV_len (fun x hx => ?_), List.length_set]
    rcases List.mem_or_eq_of_mem_set hx with h1 | h1
    · exact hf x h1
    · rw [h1]; exact hc
  rcases h.2 with ⟨h1, -⟩ | ⟨g, k, cur, h1, hb, h2, h3, h4, h5, h6⟩
  · cases h1
  · cases h1
    obtain ⟨tl, e⟩ : ∃ tl, cur.toList = rowV fl ++ tl := ⟨cur.toList.drop (fl.length * 128), by
      conv => lhs; rw [← List.take_append_drop (fl.length * 128) cur.toList]
      rw [h6]⟩
    have h7 : (rowV fl ++ tl).length = cap * 128 := by rw [← e, Array.length_toList, h5]
    refine ⟨cur, h2, by rw [h5]; omega, hl', .inr ⟨F, cap, _, rfl, hb, setRow_heap w F _ _ _ _ h2, h3, h4, ?_, ?_⟩⟩
    · rw [e, splice_row hf hi hc, List.size_toArray, List.length_append, hl', ← hl, ← List.length_append, h7]
    · rw [e, splice_row hf hi hc]
      exact List.take_left' hl'
/-- The store, at the step of a region that draws its order. -/
theorem step_storeSec {ops : Array Oper} {o : Oper} {a : Act} {w : World} {K : Act → World → Prop} {Q : Exit → Act → World → Prop} {E : Prop}
    (hg : o.guard = none) (x y : Operand) (hop : o.op = .store 108 x y) (g off : Nat) (c : Sec) (hc : SecOk c) (hx : a.eval x = .pointer (some ⟨g, off, none⟩)) (hy : a.eval y = .agg (secA c))
    (t : TypeId) (old : Array Value) (hgh : w.heap[g]? = some (.cells old t (0, 0))) (hold : off + 128 ≤ old.size)
    (hK : K (a.put o.dst undef) (w.setRow g (splice old.toList off (secL c)).toArray)) : if Region.wanted o (yielded ops a.tmps) = true then Oper.wp Try.prog o a w K Q else E := by
  have hw : Region.wanted o (yielded ops a.tmps) = true := by simp [Region.wanted, hg]
  rw [if_pos hw]
  have hst : (storeVar 108 ⟨g, off, none⟩ (.agg (secA c))).run Try.prog w = .ok () (w.setRow g (splice old.toList off (secL c)).toArray) := by
    have := run_storeCells_atF Try.prog g off t (0, 0) (secL c) 0 old w hgh (by simp) (by rw [Nat.add_zero, secL_len hc]; exact hold) (fun v hv => secL_one v hv)
    rw [Nat.add_zero, List.append_assoc] at this
    have hi := sCont c hc
    cases hq : Try.prog.info? 108 with
    | none => simp [hq] at hi
    | some i =>
      have hs : (secA c).size = i.size := by simp [hq] at hi; omega
      have hs' : (secL c).toArray.size = i.size := hs
      unfold splice
      simp [storeVar, sizeOf, typeInfo, hq, Value.cells, secA, hs', this]
  unfold Oper.wp
  simp [execOp, hop, hx, hy, Instr.storeAt, Instr.sureAddr, hst, Result.andThen]
  exact hK
end Go.Proofs.Ytgpdkfmneoggkaa
