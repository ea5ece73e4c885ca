/- num, SameCame, SameTests; the chapter's rows. -/
import Derived.Test.YtakpankipagndaaPoL
import Derived.Deep.LoopGhost
namespace Go.Proofs.Ytakpankipagndaa
open Go.RowKit (wrap64)
open Go.RowKit
open Go.Maps (Keyed)
attribute [local go_sem] Oper.semAt_some

theorem num_any12 (x : Int) (w : World) : Calls Try.prog 18 #[.int .i64 x] w fun e w' => e = .returned (.int .i64 x) ∧ w = w' := by
  go_enter Try.func18, Try.ntmps18
  go_wp2
  go_ret
  exact ⟨rfl, rfl⟩
def caEq (t u : Nat × Bool) : Bool := ((t.1 : Int) == (u.1 : Int)) && (t.2 == u.2)
theorem Try.caih : Try.prog.stoodInHeld 53 = false := by kernel_rfl
theorem Try.cat : Try.prog.underlying 53 = some (.struct (Try.prog.fieldsOf 53)) := by kernel_rfl
theorem part2c (v0 v1 : Value) (w : World) : (part 3 #[v0, v1] 0).run Try.prog w = .ok v0 w ∧ (part 4 #[v0, v1] 1).run Try.prog w = .ok v1 w := ⟨by kernel_rfl, by kernel_rfl⟩
theorem ca_fields : (Try.prog.fieldsOf 53).toList = [{ name := "Port", type := 3, offset := 0, embedded := false, tag := "", pkgPath := "", byteOffset := 0 }, { name := "Lost", type := 4, offset := 1, embedded := false, tag := "", pkgPath := "", byteOffset := 8 }] := by kernel_rfl
theorem equal_ca (p p' : Int) (l l' : Bool) (w : World) :
    (Op.equalIn 10000 53 (.agg #[.int .i64 p, .bool l]) (.agg #[.int .i64 p', .bool l'])).run Try.prog w = .ok ((p == p') && (l == l')) w := by
  rw [run_equalIn_struct w 9999 53 _ _ Try.cat Try.caih]
  rw [ca_fields]
  have p1 := fun w => part2c (.int .i64 p) (.bool l) w
  have p2 := fun w => part2c (.int .i64 p') (.bool l') w
  have q1 := fun a b (w : World) => run_equalIn_int w 9998 3 .i64 .i64 a b Try.underlying3
  have q2 := fun a b (w : World) => run_equalIn_bool w 9998 4 a b Try.underlying4
  simp only [Op.eqFields, Sem.run_bind, Sem.run_ite, Sem.run_pure, p1, p2, Result.andThen_ok, q1, q2]
  by_cases h0 : p = p' <;> by_cases h1 : l = l' <;> simp [h0, h1]
theorem neq_ca (p : Int) (l : Bool) (w : World) :
    (binOp .neq 53 (.agg #[.int .i64 p, .bool l]) (.agg #[.int .i64 p, .bool l])).run Try.prog w = .ok (.bool false) w := by
  rw [run_neq_struct, equal_ca]; simp [Result.andThen]
/-- A list of where a packet came. -/
def CaIn (w : World) (A : Option Addr) (l : List (Nat × Bool)) : Prop := ∀ (i : Nat) (x : Nat × Bool), l[i]? = some x → ∃ b o, A = some ⟨b, o, none⟩ ∧ b < w.heap.size ∧ w.cell? ⟨b, o + i * 2, none⟩ = some (.int .i64 (x.1 : Int)) ∧ w.cell? ⟨b, o + i * 2 + 1, none⟩ = some (.bool x.2)
theorem CaIn.below {w w' : World} {A : Option Addr} {l : List (Nat × Bool)} (h : CaIn w A l) (hb : Below w.heap.size w w') : CaIn w' A l := fun i x hx => by
  obtain ⟨b, o, e, lt, c0, c1⟩ := h i x hx
  exact ⟨b, o, e, Nat.lt_of_lt_of_le lt hb.size, (hb.cell (p := ⟨b, _, none⟩) lt).trans c0, (hb.cell (p := ⟨b, _, none⟩) lt).trans c1⟩
theorem caL_at : ∀ (l : List (Nat × Bool)) (i : Nat) (x : Nat × Bool), l[i]? = some x → (caL l)[i * 2]? = some (.int .i64 (x.1 : Int)) ∧ (caL l)[i * 2 + 1]? = some (.bool x.2)
  | [], _, _, h => by simp at h
  | y :: l, 0, x, h => by
    obtain rfl : y = x := by simpa using h
    exact ⟨rfl, rfl⟩
  | y :: l, i + 1, x, h => by
    have := caL_at l i x (by simpa using h)
    unfold caL at this ⊢
    rw [List.flatMap_cons, show (i + 1) * 2 = i * 2 + 1 + 1 by omega]
    exact this
theorem CaIn.of_own {w : World} {B : Nat} {v : Value} {l : List (Nat × Bool)} (h : w.ownsRow B 53 2 v l.length (caL l)) : ∃ A c, v = .slice A l.length c ∧ CaIn w A l := by
  obtain ⟨A, c, rfl, h0, h1⟩ := own_form h
  refine ⟨A, c, rfl, fun i x hx => ?_⟩
  have hlt : i < l.length := (List.getElem?_eq_some_iff.1 hx).1
  cases A with
  | none => have := (h0 rfl).1; omega
  | some ad =>
    obtain ⟨g, rfl, -, hg, -⟩ := h1 ad rfl
    obtain ⟨e0, e1⟩ := caL_at l i x hx
    have k0 := h.cells (g := g) rfl _ _ e0
    have k1 := h.cells (g := g) rfl _ _ e1
    simp only [add_plain, Nat.zero_add] at k0 k1
    exact ⟨g, 0, rfl, hg, by rw [Nat.zero_add]; exact k0, by rw [Nat.zero_add]; exact k1⟩
set_option maxHeartbeats 2000000 in
set_option maxRecDepth 100000 in
theorem samecame_any {w : World} {A B : Option Addr} {l : List (Nat × Bool)} (h : CaIn w A l) (h2 : CaIn w B l) (n c d : Nat) (hn : l.length = n) (hn2 : n ≤ 1000000) :
    Calls Try.prog 28 #[.slice A n c, .slice B n d] w fun e w' => e = .returned (.bool true) ∧ Below w.heap.size w w' := by
  have H := Lib.hid h
  have H2 := Lib.hid h2
  have HN := Lib.hid hn
  clear h h2 hn
  go_enter Try.func28, Try.ntmps28
  go_wp2
  go_loopg [5] n (fun g i W => ∃ k : Nat, k + g = n ∧ i = .int .i64 (k : Int) ∧ Below w.heap.size w W)
  case atStart => exact ⟨0, by omega, rfl, Below.refl _ w⟩
  case round =>
    obtain ⟨k, hk, rfl, hB⟩ := hrel
    have HW := Lib.hid hB
    clear hB
    by_cases hlt : k < n
    · have hlt2 : (k : Int) < n := by omega
      obtain ⟨t, ht⟩ : ∃ t, l[k]? = some t := ⟨_, List.getElem?_eq_getElem (by rw [HN.out]; exact hlt)⟩
      obtain ⟨b, o, rfl, hbl, c0, c1⟩ := (H.out.below HW.out) k t ht
      obtain ⟨b', o', rfl, hbl', d0, d1⟩ := (H2.out.below HW.out) k t ht
      have hne := neq_ca t.1 t.2
      clear ht hbl hbl'
      go_wp2
      go_quiet (fail)
      all_goals
        go_wp2
        go_roundg (n - (k + 1))
        case measure => omega
        case rel => exact ⟨k + 1, by omega, by go_num, below_drewN HW.out _⟩
    · obtain rfl : k = n := by omega
      have hlt2 : ¬ (k : Int) < (k : Int) := by omega
      go_wp2
      go_ret
      exact ⟨rfl, HW.out⟩
theorem samecame_rows {w : World} {B B' : Nat} {v v' : Value} {l : List (Nat × Bool)} (h : w.ownsRow B 53 2 v l.length (caL l)) (h' : w.ownsRow B' 53 2 v' l.length (caL l)) (hn2 : l.length ≤ 1000000) :
    Calls Try.prog 28 #[v, v'] w fun e w' => e = .returned (.bool true) ∧ Below w.heap.size w w' := by
  obtain ⟨A, c, rfl, hA⟩ := CaIn.of_own h
  obtain ⟨A', c', rfl, hA'⟩ := CaIn.of_own h'
  exact samecame_any hA hA' _ _ _ rfl hn2
end Go.Proofs.Ytakpankipagndaa
