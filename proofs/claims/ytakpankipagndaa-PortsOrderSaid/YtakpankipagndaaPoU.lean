/- Two ports beside; what account 1 sees is alike. -/
import Derived.Test.YtakpankipagndaaPoT
namespace Go.Proofs.Ytakpankipagndaa
open Go.RowKit (wrap64)
open Go.RowKit
open Go.Maps (Keyed)
attribute [local go_sem] Oper.semAt_some

structure Two12 (w0 W : World) (p q : Nat) (s t : Ps) (O1 R1 : Nat → Prop) (L1 : Lay12) (O2 R2 : Nat → Prop) (L2 : Lay12) : Prop where
  a : PoAt W O1 R1 p L1 s
  b : PoAt W O2 R2 q L2 t
  lo1 : ∀ k, O1 k ∨ R1 k → w0.heap.size ≤ k
  lo2 : ∀ k, O2 k ∨ R2 k → w0.heap.size ≤ k
  d12 : ∀ k, O1 k → ¬ (O2 k ∨ R2 k)
  d21 : ∀ k, O2 k → ¬ (O1 k ∨ R1 k)
  bl : Below w0.heap.size w0 W
section
variable {w0 W W' : World} {p q : Nat} {s t : Ps} {O1 R1 : Nat → Prop} {L1 : Lay12} {O2 R2 : Nat → Prop} {L2 : Lay12}
theorem Two12.sym (h : Two12 w0 W p q s t O1 R1 L1 O2 R2 L2) : Two12 w0 W q p t s O2 R2 L2 O1 R1 L1 := ⟨h.b, h.a, h.lo2, h.lo1, h.d21, h.d12, h.bl⟩
theorem Two12.step (h : Two12 w0 W p q s t O1 R1 L1 O2 R2 L2) (hb : Below W.heap.size W W') : Two12 w0 W' p q s t O1 R1 L1 O2 R2 L2 := ⟨h.a.step hb, h.b.step hb, h.lo1, h.lo2, h.d12, h.d21, h.bl.trans (hb.mono h.bl.size)⟩
theorem Two12.left (h : Two12 w0 W p q s t O1 R1 L1 O2 R2 L2) {s' : Ps} (k : PoTo W O1 R1 p s' W') : ∃ O1' R1' L1', Two12 w0 W' p q s' t O1' R1' L1' O2 R2 L2 := by
  obtain ⟨O', R', L', hp, ho, hr, ht⟩ := k
  have hs := h.bl.size
  refine ⟨O', R', L', hp, h.b.other ht (fun k hk hk' => h.d12 k hk' hk), fun k hk => ?_, h.lo2, fun k hk hk' => ?_, fun k hk hk' => ?_, h.bl.trans (ht.below hs (fun b hb => h.lo1 b (.inl hb)))⟩
  · rcases hk with hk | hk
    · rcases ho k hk with h1 | h1
      · exact h.lo1 k (.inl h1)
      · omega
    · rcases hr k hk with h1 | h1
      · exact h.lo1 k (.inr h1)
      · omega
  · rcases ho k hk with h1 | h1
    · exact h.d12 k h1 hk'
    · have := h.b.lt hk'; omega
  · have hl := h.b.lo k hk
    rcases hk' with hk' | hk'
    · rcases ho k hk' with h1 | h1
      · exact h.d21 k hk (.inl h1)
      · omega
    · rcases hr k hk' with h1 | h1
      · exact h.d21 k hk (.inr h1)
      · omega
end
theorem PoTo'.to {w w' : World} {O R : Nat → Prop} {p : Nat} {s : Ps} {v : Value} (h : PoTo' w O R p s v w') : PoTo w O R p s w' := by
  obtain ⟨O', R', L', hp, ho, hr, ht, -⟩ := h
  exact ⟨O', R', L', hp, ho, hr, ht⟩
theorem PoTo.turn {w w' : World} {O R : Nat → Prop} {p : Nat} {s : Ps} (h : PoTo w O R p s w') : TurnO O w w' := by
  obtain ⟨O', R', L', hp, ho, hr, ht⟩ := h
  exact ht

/-! ### Account 1 -/
structure Alk12 (s t : Ps) : Prop where
  q : s.q = t.q
  c : ∀ n, s.c 1 n = t.c 1 n
section
variable {s t : Ps}
theorem Alk12.sym (h : Alk12 s t) : Alk12 t s := ⟨h.q.symm, fun n => (h.c n).symm⟩
theorem Alk12.acc (h : Alk12 s t) (a : Int) : s.acc a = t.acc a := by unfold Ps.acc; rw [h.q]
theorem Alk12.qt (h : Alk12 s t) (a : Int) : s.qt a = t.qt a := by unfold Ps.qt; rw [h.q]
theorem Alk12.free (h : Alk12 s t) : s.free 1 = t.free 1 := by
  unfold Ps.free
  rw [h.qt]
  congr 1
  funext n
  rw [h.c]
theorem Alk12.openN (h : Alk12 s t) : s.openN 1 = t.openN 1 := by
  unfold Ps.openN Ps.opens Ps.quota
  rw [h.acc, h.qt]
  congr 1
  funext n
  rw [h.c]
theorem Alk12.claim (h : Alk12 s t) (F : List Ts) : (claimR s 1 F).1 = (claimR t 1 F).1 ∧ (claimR s 1 F).2.1 = (claimR t 1 F).2.1 ∧ Alk12 (claimR s 1 F).2.2 (claimR t 1 F).2.2 := by
  unfold claimR
  rw [h.acc, h.free]
  split
  · cases hf : t.free 1 with
    | none => exact ⟨rfl, rfl, h⟩
    | some n =>
      refine ⟨rfl, rfl, h.q, fun m => ?_⟩
      unfold Ps.claimed
      dsimp only
      rw [h.c]
  · exact ⟨rfl, rfl, h⟩
theorem Alk12.close (h : Alk12 s t) (n : Int) : (closeR s 1 n).1 = (closeR t 1 n).1 ∧ (closeR s 1 n).2.1 = (closeR t 1 n).2.1 ∧ Alk12 (closeR s 1 n).2.2 (closeR t 1 n).2.2 := by
  unfold closeR
  rw [h.c]
  cases hc : t.c 1 n with
  | none => exact ⟨rfl, by unfold Ps.why; rw [h.acc], h⟩
  | some X =>
    refine ⟨rfl, rfl, h.q, fun m => ?_⟩
    unfold Ps.del
    dsimp only
    rw [h.c]
theorem Alk12.upd (h : Alk12 s t) (n : Int) (X : Cl) : Alk12 (s.upd 1 n X) (t.upd 1 n X) := by
  refine ⟨h.q, fun m => ?_⟩
  unfold Ps.upd
  dsimp only
  rw [h.c]
theorem Alk12.take (h : Alk12 s t) (n : Int) : (takeR s 1 n).1 = (takeR t 1 n).1 ∧ (takeR s 1 n).2.1 = (takeR t 1 n).2.1 ∧ Alk12 (takeR s 1 n).2.2 (takeR t 1 n).2.2 := by
  have e : s.first 1 n = t.first 1 n := by unfold Ps.first; rw [h.c]
  unfold takeR
  rw [e]
  cases hf : t.first 1 n with
  | none => exact ⟨by unfold Ps.whyF Ps.why; rw [h.c, h.acc], rfl, h⟩
  | some P =>
    refine ⟨rfl, rfl, ?_⟩
    unfold Ps.took
    dsimp only
    rw [h.c]
    cases hc : t.c 1 n with
    | none => exact h
    | some X => exact h.upd n _
theorem Alk12.come1 (h : Alk12 s t) (P : List Nat) (n : Nat) : (s.come1 1 P n).2 = (t.come1 1 P n).2 ∧ Alk12 (s.come1 1 P n).1 (t.come1 1 P n).1 := by
  unfold Ps.come1
  rw [h.c]
  cases hc : t.c 1 (n : Int) with
  | none => exact ⟨rfl, h⟩
  | some X =>
    dsimp only
    split
    · exact ⟨rfl, h.upd _ _⟩
    · exact ⟨rfl, h⟩
theorem Alk12.comeL (P : List Nat) : ∀ (l : List Nat) {s t : Ps}, Alk12 s t → (s.comeL 1 P l).2 = (t.comeL 1 P l).2 ∧ Alk12 (s.comeL 1 P l).1 (t.comeL 1 P l).1
  | [], s, t, h => ⟨rfl, h⟩
  | n :: l, s, t, h => by
    obtain ⟨h1, h2⟩ := h.come1 P n
    obtain ⟨k1, k2⟩ := Alk12.comeL P l h2
    exact ⟨by simp only [Ps.comeL, h1, k1], k2⟩
theorem Alk12.come (h : Alk12 s t) {P : List Nat} (hh : homeN P = some 1) : (comeR s P).1 = (comeR t P).1 ∧ (comeR s P).2.2 = (comeR t P).2.2 ∧ Alk12 (comeR s P).2.1 (comeR t P).2.1 := by
  unfold comeR
  split
  · exact ⟨rfl, rfl, h⟩
  · unfold Ps.comeV
    rw [hh]
    dsimp only
    rw [show ((1 : Nat) : Int) = 1 from rfl, h.openN]
    obtain ⟨k1, k2⟩ := Alk12.comeL P (t.openN 1) h
    exact ⟨rfl, k1, k2⟩
theorem Alk12.lost (h : Alk12 s t) (n : Int) : s.lost 1 n = t.lost 1 n ∧ s.len 1 n = t.len 1 n := by
  unfold Ps.lost Ps.len
  rw [h.c]
  exact ⟨rfl, rfl⟩
/-- What others do. -/
theorem Alk12.claimO (h : Alk12 s t) {a : Int} (ha : a ≠ 1) (F : List Ts) : Alk12 (claimR s a F).2.2 t := by
  unfold claimR
  split
  · cases hf : s.free a with
    | none => exact h
    | some n =>
      refine ⟨h.q, fun m => ?_⟩
      unfold Ps.claimed
      dsimp only
      rw [if_neg (fun e => ha e.1.symm)]
      exact h.c m
  · exact h
theorem Alk12.closeO (h : Alk12 s t) {a : Int} (ha : a ≠ 1) (n : Int) : Alk12 (closeR s a n).2.2 t := by
  unfold closeR
  cases hc : s.c a n with
  | none => exact h
  | some X =>
    refine ⟨h.q, fun m => ?_⟩
    unfold Ps.del
    dsimp only
    rw [if_neg (fun e => ha e.1.symm)]
    exact h.c m
theorem Alk12.takeO (h : Alk12 s t) {a : Int} (ha : a ≠ 1) (n : Int) : Alk12 (takeR s a n).2.2 t := by
  unfold takeR
  cases hf : s.first a n with
  | none => exact h
  | some P =>
    dsimp only
    unfold Ps.took
    cases hc : s.c a n with
    | none => exact h
    | some X =>
      refine ⟨h.q, fun m => ?_⟩
      rw [Ps.upd_other _ _ _ _ (fun e => ha e.1.symm)]
      exact h.c m
theorem Alk12.comeO (h : Alk12 s t) {P : List Nat} (hh : homeN P ≠ some 1) : Alk12 (comeR s P).2.1 t := by
  unfold comeR
  split
  · exact h
  · unfold Ps.comeV
    cases hx : homeN P with
    | none => exact h
    | some x =>
      dsimp only
      have hx1 : (1 : Int) ≠ (x : Int) := fun e => hh (by rw [hx]; congr 1; omega)
      obtain ⟨-, h2, -, h4, -⟩ := comeL_m (x : Int) P (s.openN (x : Int)) s
      exact ⟨h2.trans h.q, fun m => (h4 1 m hx1).trans (h.c m)⟩
end
theorem claimR_m (s : Ps) (a : Int) (F : List Ts) : (claimR s a F).2.2.m ≤ s.m + 1 ∧ (claimR s a F).2.2.q = s.q := by
  unfold claimR
  split
  · cases s.free a with
    | none => exact ⟨by dsimp only; omega, rfl⟩
    | some n => exact ⟨Nat.le_refl _, rfl⟩
  · exact ⟨by dsimp only; omega, rfl⟩
theorem closeR_m (s : Ps) (a n : Int) : (closeR s a n).2.2.m = s.m ∧ (closeR s a n).2.2.q = s.q := by
  unfold closeR
  cases s.c a n <;> exact ⟨rfl, rfl⟩
theorem takeR_m (s : Ps) (a n : Int) : (takeR s a n).2.2.m = s.m ∧ (takeR s a n).2.2.q = s.q := by
  unfold takeR
  cases s.first a n with
  | none => exact ⟨rfl, rfl⟩
  | some P =>
    dsimp only
    unfold Ps.took
    cases s.c a n <;> exact ⟨rfl, rfl⟩
theorem comeR_m (s : Ps) (P : List Nat) : (comeR s P).2.1.m = s.m ∧ (comeR s P).2.1.q = s.q := by
  unfold comeR
  split
  · exact ⟨rfl, rfl⟩
  · unfold Ps.comeV
    cases homeN P with
    | none => exact ⟨rfl, rfl⟩
    | some x => exact ⟨(comeL_m _ _ _ _).1, (comeL_m _ _ _ _).2.1⟩
theorem comeR_len {s : Ps} (h : PsOk s) (P : List Nat) : (comeR s P).2.2.length ≤ 16 := by
  unfold comeR
  split
  · simp
  · unfold Ps.comeV
    cases homeN P with
    | none => simp
    | some x => exact Nat.le_trans (comeL_m _ _ _ _).2.2.2.2 (Nat.le_trans (opens_len _ _ _) (h.quota_le _))
/-- Both sides, somewhere. -/
def Inv12 (w0 W : World) (p q m : Nat) : Prop := ∃ s t O1 R1 L1 O2 R2 L2, Two12 w0 W p q s t O1 R1 L1 O2 R2 L2 ∧ Alk12 s t ∧ s.m ≤ m ∧ t.m ≤ m
theorem Inv12.step {w0 W W' : World} {p q m : Nat} (h : Inv12 w0 W p q m) (hb : Below W.heap.size W W') : Inv12 w0 W' p q m := by
  obtain ⟨s, t, O1, R1, L1, O2, R2, L2, hT, hh⟩ := h
  exact ⟨s, t, O1, R1, L1, O2, R2, L2, hT.step hb, hh⟩
theorem Inv12.mono {w0 W : World} {p q m m' : Nat} (h : Inv12 w0 W p q m) (hm : m ≤ m') : Inv12 w0 W p q m' := by
  obtain ⟨s, t, O1, R1, L1, O2, R2, L2, hT, hA, h1, h2⟩ := h
  exact ⟨s, t, O1, R1, L1, O2, R2, L2, hT, hA, by omega, by omega⟩
theorem Inv12.bl {w0 W : World} {p q m : Nat} (h : Inv12 w0 W p q m) : Below w0.heap.size w0 W := by
  obtain ⟨s, t, O1, R1, L1, O2, R2, L2, hT, hh⟩ := h
  exact hT.bl
set_option maxHeartbeats 2000000 in
set_option maxRecDepth 100000 in
theorem sameints_rows {w : World} {B B' : Nat} {A A' : Option Addr} {c c' n : Nat} {l : List Nat} (h : w.ownsRow B 3 1 (.slice A n c) n (intL l)) (h' : w.ownsRow B' 3 1 (.slice A' n c') n (intL l)) (hn : l.length = n) (hn2 : n ≤ 1000000) :
    Calls Try.prog 39 #[.slice A n c, .slice A' n c'] w fun e w' => e = .returned (.bool true) ∧ Below w.heap.size w w' := by
  have H := Lib.hid h
  have H2 := Lib.hid h'
  have HN := Lib.hid hn
  clear h h' hn
  go_enter Try.func39, Try.ntmps39
  go_wp2
  go_loopg [5] n (fun g i W => ∃ k : Nat, k + g = n ∧ i = .int .i64 (k : Int) ∧ Below w.heap.size w W)
  case atStart => exact ⟨0, by omega, rfl, Below.refl _ w⟩
  case round =>
    obtain ⟨k, hk, rfl, hB⟩ := hrel
    have HW := Lib.hid hB
    clear hB
    by_cases hlt : k < n
    · have hlt2 : (k : Int) < n := by omega
      obtain ⟨x, hx⟩ : ∃ x, l[k]? = some x := ⟨_, List.getElem?_eq_getElem (by rw [HN.out]; exact hlt)⟩
      obtain ⟨b, rfl, -, hbl, c0⟩ := own_cell12 H.out hx HN.out
      obtain ⟨b', rfl, -, hbl', d0⟩ := own_cell12 H2.out hx HN.out
      have c0 := (HW.out.cell (p := ⟨b, k, none⟩) hbl).trans c0
      have d0 := (HW.out.cell (p := ⟨b', k, none⟩) hbl').trans d0
      clear hx hbl hbl'
      go_wp2
      go_quiet (fail)
      all_goals
        go_wp2
        go_roundg (n - (k + 1))
        case measure => omega
        case rel => exact ⟨k + 1, by omega, by go_num, below_drewN HW.out _⟩
    · obtain rfl : k = n := by omega
      have hlt2 : ¬ (k : Int) < (k : Int) := by omega
      go_wp2
      go_ret
      exact ⟨rfl, HW.out⟩
end Go.Proofs.Ytakpankipagndaa
