/- Two sums compared. -/
import Derived.Test.YteibholghonajaaFiJ
import Derived.DeepKeys
namespace Go.Proofs.Yteibholghonajaa
open Go.RowKit

theorem mapM_someF {α β : Type} (g : α → Option β) (f : α → β) : ∀ (l : List α), (∀ i ∈ l, g i = some (f i)) → l.mapM g = some (l.map f)
  | [], _ => rfl
  | a :: l, h => by
    rw [List.mapM_cons, h a (List.mem_cons_self ..), mapM_someF g f l (fun i hi => h i (List.mem_cons_of_mem _ hi))]
    rfl
theorem flat_oneF {α β : Type} (f : α → β) (l : List α) : (l.map (fun i => [f i])).flatten = l.map f := by
  induction l with
  | nil => rfl
  | cons a l ih => simp [ih]
def arrL (f : Nat → Nat) : List Value := (List.range 64).map fun i => .int .u8 (f i : Int)
def arrK (f : Nat → Nat) : List Lit := (List.range 64).map fun i => .int .u8 (f i : Int)
theorem arrL_len (f : Nat → Nat) : (arrL f).length = 64 := by simp [arrL]
theorem arrK_len (f : Nat → Nat) : (arrK f).length = 64 := by simp [arrK]
theorem arrK_inj {f g : Nat → Nat} (h : arrK f = arrK g) : ∀ i, i < 64 → f i = g i := fun i hi => by
  have := congrArg (fun l => l[i]?) h
  unfold arrK at this
  simp only [List.getElem?_map, List.getElem?_range hi, Option.map_some, Option.some.injEq, Lit.int.injEq, true_and] at this
  omega
theorem Try.cArr : Try.prog.cellsOf 55 = 64 := by kernel_rfl
theorem Try.cU8F : Try.prog.cellsOf 5 = 1 := by kernel_rfl
theorem Try.cIntF : Try.prog.cellsOf 3 = 1 := by kernel_rfl
theorem Try.cSum : Try.prog.cellsOf 57 = 129 := by kernel_rfl
theorem Try.kSum : Try.prog.keyTypeAt 3 57 = true := by kernel_rfl
theorem sum_fields : (Try.prog.fieldsOf 57).toList = [{ name := "size", type := 3, offset := 0, embedded := false, tag := "", pkgPath := "steading/filter", byteOffset := 0 }, { name := "masks", type := 55, offset := 1, embedded := false, tag := "", pkgPath := "steading/filter", byteOffset := 8 }, { name := "values", type := 55, offset := 65, embedded := false, tag := "", pkgPath := "steading/filter", byteOffset := 72 }] := by kernel_rfl
theorem sum_names : (Try.prog.fieldsOf 57).all (·.name != "_") = true := by kernel_rfl
theorem u8_litF (d : Nat) {x : Nat} (h : x < 256) : Try.prog.keyLits (d + 1) 5 [.int .u8 (x : Int)] = some [.int .u8 (x : Int)] := by
  have hw : (Lit.int .u8 (x : Int)).wf = true := by
    rw [Lit.wf]; simp; exact ⟨by show (0 : Int) ≤ x; omega, by show (x : Int) ≤ 255; omega⟩
  unfold Program.keyLits
  simp [Try.underlying5, hw]
theorem arr_lits (d : Nat) {f : Nat → Nat} (h : ∀ i, f i < 256) : Try.prog.keyLits (d + 2) 55 (arrL f) = some (arrK f) := by
  rw [show d + 2 = (d + 1) + 1 from rfl]
  unfold Program.keyLits
  rw [Try.arr64]
  simp only [Try.cArr, Try.cU8F]
  rw [if_pos (arrL_len f), mapM_someF _ (fun i => [Lit.int .u8 (f i : Int)]) _ (fun i hi => ?_)]
  · show some _ = _
    rw [flat_oneF]; rfl
  · have hi := List.mem_range.1 hi
    have e : ((arrL f).drop (i * 1)).take 1 = [.int .u8 (f i : Int)] := by
      rw [Nat.mul_one, List.drop_eq_getElem_cons (by rw [arrL_len]; exact hi), List.take_succ_cons, List.take_zero]
      unfold arrL
      rw [List.getElem_map, List.getElem_range]
    rw [e]
    exact u8_litF d (h i)
def smL (s : Sm) : List Value := .int .i64 (s.size : Int) :: (arrL s.M ++ arrL s.V)
theorem smL_len (s : Sm) : (smL s).length = 129 := by unfold smL; rw [List.length_cons, List.length_append, arrL_len, arrL_len]
theorem arrL_at (f : Nat → Nat) {i : Nat} (h : i < 64) : (arrL f)[i]? = some (.int .u8 (f i : Int)) := by
  unfold arrL; rw [List.getElem?_map, List.getElem?_range h]; rfl
theorem smA_list (s : Sm) : (smA s).toList = smL s := by
  apply List.ext_getElem?
  intro i
  rcases Nat.lt_or_ge i 129 with hi | hi
  · have h1 := smA_at s hi
    rw [← Array.getElem?_toList] at h1
    rw [h1]
    unfold smV smL
    cases i with
    | zero => rfl
    | succ i =>
      rw [List.getElem?_cons_succ, if_neg (by omega)]
      by_cases h6 : i < 64
      · rw [if_pos (by omega), List.getElem?_append_left (by rw [arrL_len]; exact h6), arrL_at _ h6]; rfl
      · rw [if_neg (by omega), List.getElem?_append_right (by rw [arrL_len]; omega), arrL_len, arrL_at _ (by omega), show i + 1 - 65 = i - 64 by omega]
  · rw [List.getElem?_eq_none (by rw [Array.length_toList, smA_size]; exact hi), List.getElem?_eq_none (by rw [smL_len]; exact hi)]
def smK (s : Sm) : List Lit := .int .i64 (s.size : Int) :: (arrK s.M ++ arrK s.V)
theorem sm_lits (d : Nat) {s : Sm} (h : SmOk s) : Try.prog.keyLits (d + 3) 57 (smL s) = some (smK s) := by
  have hw : (Lit.int .i64 (s.size : Int)).wf = true := by
    have := h.n
    rw [Lit.wf]; simp; exact ⟨by show (-9223372036854775808 : Int) ≤ _; omega, by show _ ≤ (9223372036854775807 : Int); omega⟩
  have k0 : Try.prog.keyLits (d + 2) 3 [.int .i64 (s.size : Int)] = some [.int .i64 (s.size : Int)] := by
    unfold Program.keyLits
    simp [Try.underlying3, hw]
  rw [show d + 3 = (d + 2) + 1 from rfl]
  unfold Program.keyLits
  rw [Try.uSum]
  simp only [Try.cSum]
  rw [if_pos ⟨smL_len s, sum_names⟩, sum_fields]
  have p0 : ((smL s).drop 0).take 1 = [.int .i64 (s.size : Int)] := rfl
  have p1 : ((smL s).drop 1).take 64 = arrL s.M := by
    unfold smL
    rw [List.drop_succ_cons, List.drop_zero]
    have := List.take_left (l₁ := arrL s.M) (l₂ := arrL s.V)
    rwa [arrL_len] at this
  have p2 : ((smL s).drop 65).take 64 = arrL s.V := by
    unfold smL
    rw [List.drop_succ_cons]
    have := List.drop_left (l₁ := arrL s.M) (l₂ := arrL s.V)
    rw [arrL_len] at this
    rw [this]
    exact List.take_of_length_le (by rw [arrL_len]; exact Nat.le_refl _)
  simp only [List.mapM_cons, List.mapM_nil, Try.cIntF, Try.cArr, p0, p1, p2, k0, arr_lits d h.m, arr_lits d h.v]
  show some _ = _
  unfold smK
  simp
def smEq (s t : Sm) : Bool := decide (s.size = t.size) && (List.range 64).all fun i => s.M i == t.M i && s.V i == t.V i
theorem smEq_iff {s t : Sm} : smEq s t = true ↔ s.size = t.size ∧ ∀ i, i < 64 → s.M i = t.M i ∧ s.V i = t.V i := by
  unfold smEq
  rw [Bool.and_eq_true, decide_eq_true_iff, List.all_eq_true]
  simp only [List.mem_range, Bool.and_eq_true, beq_iff_eq]
theorem smK_iff {s t : Sm} : smK s = smK t ↔ smEq s t = true := by
  rw [smEq_iff]
  constructor
  · intro h
    unfold smK at h
    rw [List.cons.injEq] at h
    obtain ⟨h1, h2⟩ := h
    obtain ⟨h3, h4⟩ := List.append_inj h2 (by rw [arrK_len, arrK_len])
    rw [Lit.int.injEq] at h1
    exact ⟨by omega, fun i hi => ⟨arrK_inj h3 i hi, arrK_inj h4 i hi⟩⟩
  · rintro ⟨h1, h2⟩
    have e1 : arrK s.M = arrK t.M := List.map_congr_left fun i hi => by rw [(h2 i (List.mem_range.1 hi)).1]
    have e2 : arrK s.V = arrK t.V := List.map_congr_left fun i hi => by rw [(h2 i (List.mem_range.1 hi)).2]
    unfold smK
    rw [h1, e1, e2]
theorem equal_sm {s t : Sm} (h : SmOk s) (k : SmOk t) (w : World) : (Op.equalIn 10000 57 (.agg (smA s)) (.agg (smA t))).run Try.prog w = .ok (smEq s t) w := by
  have hf : ∀ s : Sm, (Value.agg (smA s)).formed Try.prog 57 = true := fun s => by simp [Value.formed, Try.uSum, Try.cSum, smA_size s]
  have hk : ∀ {s : Sm}, SmOk s → Try.prog.keyLits 3 57 (Value.agg (smA s)).cells.toList = some (smK s) := fun {s} h => by
    have e : (Value.agg (smA s)).cells = smA s := by simp only [Value.cells]
    rw [e, smA_list]
    exact sm_lits 0 h
  obtain ⟨r, hr, hi⟩ := run_equalIn_deep (P := Try.prog) 9997 3 57 Try.kSum w 3 3 (.agg (smA s)) (.agg (smA t)) _ _ (hf s) (hf t) (hk h) (hk k)
  rw [show 9997 + 3 = 10000 from rfl] at hr
  rw [hr]
  have e : r = smEq s t := by rw [Bool.eq_iff_iff, hi, smK_iff]
  rw [e]
theorem eql_sm {s t : Sm} (h : SmOk s) (k : SmOk t) (w : World) : (binOp .eql 57 (.agg (smA s)) (.agg (smA t))).run Try.prog w = .ok (.bool (smEq s t)) w := by
  rw [run_eql_struct, equal_sm h k]; rfl
end Go.Proofs.Yteibholghonajaa
