/- SameTests, Byte, Long and mask of the document. -/
import Derived.Test.YtakpankipagndaaFiC
namespace Go.Proofs.Ytakpankipagndaa
open Go.RowKit

def tsEq (t u : Ts) : Bool := t.p == u.p && (t.m == u.m && t.v == u.v)
theorem tsEq_iff {t u : Ts} : tsEq t u = true ↔ t = u := by
  unfold tsEq
  cases t; cases u
  simp
theorem Try.tsih : Try.prog.stoodInHeld 74 = false := by kernel_rfl
theorem Try.tst : Try.prog.underlying 74 = some (.struct (Try.prog.fieldsOf 74)) := by kernel_rfl
theorem part3t (v0 v1 v2 : Value) (w : World) :
    (part 3 #[v0, v1, v2] 0).run Try.prog w = .ok v0 w ∧ (part 3 #[v0, v1, v2] 1).run Try.prog w = .ok v1 w ∧ (part 3 #[v0, v1, v2] 2).run Try.prog w = .ok v2 w :=
  ⟨by kernel_rfl, by kernel_rfl, by kernel_rfl⟩
theorem ts_fields : (Try.prog.fieldsOf 74).toList = [{ name := "At", type := 3, offset := 0, embedded := false, tag := "", pkgPath := "", byteOffset := 0 }, { name := "Mask", type := 3, offset := 1, embedded := false, tag := "", pkgPath := "", byteOffset := 8 }, { name := "Value", type := 3, offset := 2, embedded := false, tag := "", pkgPath := "", byteOffset := 16 }] := by kernel_rfl
theorem equal_ts (p m v p' m' v' : Int) (w : World) :
    (Op.equalIn 10000 74 (.agg #[.int .i64 p, .int .i64 m, .int .i64 v]) (.agg #[.int .i64 p', .int .i64 m', .int .i64 v'])).run Try.prog w = .ok (tsEq ⟨p, m, v⟩ ⟨p', m', v'⟩) w := by
  rw [run_equalIn_struct w 9999 74 _ _ Try.tst Try.tsih]
  rw [ts_fields]
  have p1 := fun w => part3t (.int .i64 p) (.int .i64 m) (.int .i64 v) w
  have p2 := fun w => part3t (.int .i64 p') (.int .i64 m') (.int .i64 v') w
  have q1 := fun a b (w : World) => run_equalIn_int w 9998 3 .i64 .i64 a b Try.underlying3
  unfold tsEq
  simp only [Op.eqFields, Sem.run_bind, Sem.run_ite, Sem.run_pure, p1, p2, Result.andThen_ok, q1]
  by_cases h0 : p = p' <;> by_cases h1 : m = m' <;> by_cases h2 : v = v' <;> simp [h0, h1, h2]
theorem neq_ts (p m v p' m' v' : Int) (w : World) :
    (binOp .neq 74 (.agg #[.int .i64 p, .int .i64 m, .int .i64 v]) (.agg #[.int .i64 p', .int .i64 m', .int .i64 v'])).run Try.prog w = .ok (.bool (!tsEq ⟨p, m, v⟩ ⟨p', m', v'⟩)) w := by
  rw [run_neq_struct, equal_ts]; rfl

theorem byteN_no {N : List Tn} {q b k : Nat} {t : Tn} (h : N[k]? = some t) (hp : t.p = q) (hb : (b &&& t.m == t.v) = false) : byteN N q b = false := by
  unfold byteN
  rw [List.all_eq_false]
  exact ⟨t, List.mem_of_getElem? h, by simp [hp, hb]⟩
theorem byteN_yes {N : List Tn} {q b : Nat} (h : ∀ j, j < N.length → ∀ t, N[j]? = some t → (t.p != q || (b &&& t.m) == t.v) = true) : byteN N q b = true := by
  unfold byteN
  rw [List.all_eq_true]
  intro t ht
  obtain ⟨j, hj, e⟩ := List.getElem_of_mem ht
  exact h j hj t (by rw [List.getElem?_eq_getElem hj, e])
theorem take_snoc {N : List Tn} {k : Nat} {t : Tn} (h : N[k]? = some t) : N.take (k + 1) = N.take k ++ [t] := by
  rw [List.take_add_one, h]; rfl
theorem long_snoc (N : List Tn) (t : Tn) : longN (N ++ [t]) = max (longN N) (t.p + 1) := by unfold longN; rw [List.foldl_append]; rfl
theorem mask_snoc (N : List Tn) (t : Tn) (q : Nat) : maskN (N ++ [t]) q = if t.p = q then maskN N q ||| t.m else maskN N q := by unfold maskN; rw [List.foldl_append]; rfl
theorem take_ok {N : List Tn} (ho : ∀ t ∈ N, t.Ok) (k : Nat) : ∀ t ∈ N.take k, t.Ok := fun t ht => ho t (List.mem_of_mem_take ht)
end Go.Proofs.Ytakpankipagndaa
