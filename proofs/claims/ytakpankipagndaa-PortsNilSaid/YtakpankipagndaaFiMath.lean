/- The filters of the document: plain mathematics. -/
import Derived.Laws.BitsAllLaws
import Derived.WalkKit
namespace Go.Proofs.Ytakpankipagndaa

/-- A test, as it stands in memory. -/
structure Ts where
  p : Int
  m : Int
  v : Int
/-- A test that may be. -/
structure Tn where
  p : Nat
  m : Nat
  v : Nat
def Tn.ts (n : Tn) : Ts := ⟨n.p, n.m, n.v⟩
def Ts.n (t : Ts) : Tn := ⟨t.p.toNat, t.m.toNat, t.v.toNat⟩
structure Tn.Ok (n : Tn) : Prop where
  p : n.p < 64
  m : n.m < 256
  v : n.v < 256
theorem Tn.ts_n (n : Tn) : n.ts.n = n := rfl
def wrongT (t : Ts) : Bool := decide (t.p < 0) || decide (64 ≤ t.p) || decide (t.m < 0) || decide (255 < t.m) || decide (t.v < 0) || decide (255 < t.v)
def mayF (L : List Ts) : Bool := decide (L.length ≤ 8) && !L.any wrongT
theorem Ts.of_right {t : Ts} (h : wrongT t = false) : t.n.ts = t ∧ t.n.Ok := by
  unfold wrongT at h
  simp only [Bool.or_eq_false_iff, decide_eq_false_iff_not] at h
  obtain ⟨p, m, v⟩ := t
  simp only at h
  refine ⟨?_, ⟨?_, ?_, ?_⟩⟩ <;> simp only [Ts.n, Tn.ts, Ts.mk.injEq] <;> omega
theorem right_of {n : Tn} (h : n.Ok) : wrongT n.ts = false := by
  obtain ⟨h1, h2, h3⟩ := h
  obtain ⟨p, m, v⟩ := n
  unfold wrongT Tn.ts
  simp only [Bool.or_eq_false_iff, decide_eq_false_iff_not] at *
  omega
theorem nats_of {L : List Ts} (h : L.any wrongT = false) : L = (L.map Ts.n).map Tn.ts ∧ ∀ n ∈ L.map Ts.n, n.Ok := by
  rw [List.any_eq_false] at h
  refine ⟨?_, fun n hn => ?_⟩
  · rw [List.map_map]
    conv => lhs; rw [← List.map_id L]
    exact List.map_congr_left fun t ht => (Ts.of_right (by simpa using h t ht)).1.symm
  · obtain ⟨t, ht, rfl⟩ := List.mem_map.1 hn
    exact (Ts.of_right (by simpa using h t ht)).2
theorem may_of {N : List Tn} (h : ∀ n ∈ N, n.Ok) (h8 : N.length ≤ 8) : mayF (N.map Tn.ts) = true := by
  unfold mayF
  have : (N.map Tn.ts).any wrongT = false := by
    rw [List.any_eq_false]
    intro t ht
    obtain ⟨n, hn, rfl⟩ := List.mem_map.1 ht
    rw [right_of (h n hn)]; simp
  rw [this]; simpa using h8
theorem may_nat {L : List Ts} (h : mayF L = true) : ∃ N : List Tn, L = N.map Tn.ts ∧ N.length ≤ 8 ∧ ∀ n ∈ N, n.Ok := by
  unfold mayF at h
  simp only [Bool.and_eq_true, decide_eq_true_eq, Bool.not_eq_true'] at h
  obtain ⟨h1, h2⟩ := nats_of h.2
  exact ⟨L.map Ts.n, h1, by simpa using h.1, h2⟩

def passN (P : List Nat) (n : Tn) : Bool := decide (n.p < P.length) && ((P.getD n.p 0 &&& n.m) == n.v)
def matchL (L : List Ts) (P : List Nat) : Bool := mayF L && decide (P.length ≤ 64) && L.all fun t => passN P t.n
theorem matchL_nat {N : List Tn} (h : ∀ n ∈ N, n.Ok) (h8 : N.length ≤ 8) (P : List Nat) : matchL (N.map Tn.ts) P = (decide (P.length ≤ 64) && N.all (passN P)) := by
  unfold matchL
  rw [may_of h h8, List.all_map]; rfl

/-- What tests ask for together. -/
structure Sm where
  size : Nat
  M : Nat → Nat
  V : Nat → Nat
def sm0 : Sm := ⟨0, fun _ => 0, fun _ => 0⟩
def upd (f : Nat → Nat) (p x : Nat) : Nat → Nat := fun i => if i = p then x else f i
def Sm.add (s : Sm) (n : Tn) : Sm := ⟨max s.size (n.p + 1), upd s.M n.p (s.M n.p ||| n.m), upd s.V n.p (s.V n.p ||| n.v)⟩
def Sm.can (s : Sm) (n : Tn) : Bool := (n.v &&& (255 - n.m)) == 0 && (((n.v ^^^ s.V n.p) &&& n.m) &&& s.M n.p) == 0
def tog : Sm → List Tn → Option Sm
  | s, [] => some s
  | s, n :: N => if s.can n then tog (s.add n) N else none
def sumN (N : List Tn) : Sm := N.foldl Sm.add sm0
def longN (N : List Tn) : Nat := N.foldl (fun a n => max a (n.p + 1)) 0
def maskN (N : List Tn) (q : Nat) : Nat := N.foldl (fun a n => if n.p = q then a ||| n.m else a) 0
def byteN (N : List Tn) (q b : Nat) : Bool := N.all fun n => n.p != q || (b &&& n.m) == n.v
def leastB (N : List Tn) (q : Nat) : Nat := ((List.range 256).find? (byteN N q)).getD 256
def leastL (N : List Tn) : Option (List Nat) := if (List.range (longN N)).all (fun q => decide (leastB N q < 256)) then some ((List.range (longN N)).map (leastB N)) else none
/-- No two tests ask for unlike bits, and none asks for a bit that its mask has not. -/
def Good (N : List Tn) : Prop := (∀ n ∈ N, ∀ i, n.v.testBit i = true → n.m.testBit i = true) ∧ ∀ n ∈ N, ∀ k ∈ N, n.p = k.p → ∀ i, n.m.testBit i = true → k.m.testBit i = true → n.v.testBit i = k.v.testBit i

theorem fold_size : ∀ (N : List Tn) (s : Sm), (N.foldl Sm.add s).size = N.foldl (fun a n => max a (n.p + 1)) s.size
  | [], _ => rfl
  | n :: N, s => fold_size N (s.add n)
theorem fold_M (q : Nat) : ∀ (N : List Tn) (s : Sm), (N.foldl Sm.add s).M q = N.foldl (fun a n => if n.p = q then a ||| n.m else a) (s.M q)
  | [], _ => rfl
  | n :: N, s => by
    have ih := fold_M q N (s.add n)
    rw [List.foldl_cons, List.foldl_cons, ih]
    congr 1
    unfold Sm.add upd
    by_cases e : n.p = q
    · subst e; simp
    · simp [e, Ne.symm e]
theorem sum_size (N : List Tn) : (sumN N).size = longN N := fold_size N sm0
theorem sum_M (N : List Tn) (q : Nat) : (sumN N).M q = maskN N q := fold_M q N sm0
theorem bit_M (q i : Nat) : ∀ (N : List Tn) (s : Sm), ((N.foldl Sm.add s).M q).testBit i = ((s.M q).testBit i || N.any fun n => n.p == q && n.m.testBit i)
  | [], s => by simp
  | n :: N, s => by
    rw [List.foldl_cons, bit_M q i N (s.add n), List.any_cons, ← Bool.or_assoc]
    congr 1
    unfold Sm.add upd
    by_cases e : n.p = q
    · subst e; simp [Nat.testBit_or]
    · simp [e, Ne.symm e]
theorem bit_V (q i : Nat) : ∀ (N : List Tn) (s : Sm), ((N.foldl Sm.add s).V q).testBit i = ((s.V q).testBit i || N.any fun n => n.p == q && n.v.testBit i)
  | [], s => by simp
  | n :: N, s => by
    rw [List.foldl_cons, bit_V q i N (s.add n), List.any_cons, ← Bool.or_assoc]
    congr 1
    unfold Sm.add upd
    by_cases e : n.p = q
    · subst e; simp [Nat.testBit_or]
    · simp [e, Ne.symm e]
theorem sbit_M (N : List Tn) (q i : Nat) : ((sumN N).M q).testBit i = N.any fun n => n.p == q && n.m.testBit i := by
  have := bit_M q i N sm0
  rw [show (sm0.M q) = 0 from rfl, Nat.zero_testBit, Bool.false_or] at this; exact this
theorem sbit_V (N : List Tn) (q i : Nat) : ((sumN N).V q).testBit i = N.any fun n => n.p == q && n.v.testBit i := by
  have := bit_V q i N sm0
  rw [show (sm0.V q) = 0 from rfl, Nat.zero_testBit, Bool.false_or] at this; exact this
theorem long_le : ∀ (N : List Tn) (a : Nat), a ≤ N.foldl (fun a n => max a (n.p + 1)) a ∧ ∀ n ∈ N, n.p < N.foldl (fun a n => max a (n.p + 1)) a
  | [], a => ⟨Nat.le_refl _, by simp⟩
  | n :: N, a => by
    obtain ⟨h1, h2⟩ := long_le N (max a (n.p + 1))
    rw [List.foldl_cons]
    refine ⟨by omega, fun k hk => ?_⟩
    rcases List.mem_cons.1 hk with rfl | hk
    · omega
    · exact h2 k hk
theorem long_mem : ∀ (N : List Tn) (a : Nat), N.foldl (fun a n => max a (n.p + 1)) a = a ∨ ∃ n ∈ N, n.p + 1 = N.foldl (fun a n => max a (n.p + 1)) a
  | [], a => .inl rfl
  | n :: N, a => by
    rw [List.foldl_cons]
    rcases long_mem N (max a (n.p + 1)) with h | ⟨k, hk, h⟩
    · rw [h]
      rcases Nat.le_total a (n.p + 1) with h1 | h1
      · exact .inr ⟨n, List.mem_cons_self .., by omega⟩
      · exact .inl (by omega)
    · exact .inr ⟨k, List.mem_cons_of_mem _ hk, h⟩
theorem long_lt {N : List Tn} {n : Tn} (h : n ∈ N) : n.p < longN N := (long_le N 0).2 n h
theorem long_last {N : List Tn} (h : 0 < longN N) : ∃ n ∈ N, n.p + 1 = longN N := by
  rcases long_mem N 0 with e | e
  · unfold longN at h; omega
  · exact e
theorem long_bound {N : List Tn} (h : ∀ n ∈ N, n.Ok) : longN N ≤ 64 := by
  rcases Nat.eq_zero_or_pos (longN N) with e | e
  · omega
  · obtain ⟨n, hn, e2⟩ := long_last e
    have := (h n hn).p
    omega
theorem lt256_of {x : Nat} (h : ∀ i, x.testBit i = true → i < 8) : x < 256 := by
  refine Nat.lt_of_not_le fun hx => ?_
  obtain ⟨i, hi, hb⟩ := Nat.exists_ge_and_testBit_of_ge_two_pow (n := 8) (by simpa using hx)
  have := h i hb
  omega
theorem lt8_of {x i : Nat} (h : x < 256) (hb : x.testBit i = true) : i < 8 := by
  refine Nat.lt_of_not_le fun hi => ?_
  rw [Nat.testBit_lt_two_pow (Nat.lt_of_lt_of_le h (show 2 ^ 8 ≤ 2 ^ i from Nat.pow_le_pow_right (by omega) hi))] at hb
  cases hb
theorem sum_M256 {N : List Tn} (h : ∀ n ∈ N, n.Ok) (q : Nat) : (sumN N).M q < 256 := lt256_of fun i hi => by
  rw [sbit_M, List.any_eq_true] at hi
  obtain ⟨n, hn, hb⟩ := hi
  exact lt8_of (h n hn).m (by simp at hb; exact hb.2)
theorem sum_V256 {N : List Tn} (h : ∀ n ∈ N, n.Ok) (q : Nat) : (sumN N).V q < 256 := lt256_of fun i hi => by
  rw [sbit_V, List.any_eq_true] at hi
  obtain ⟨n, hn, hb⟩ := hi
  exact lt8_of (h n hn).v (by simp at hb; exact hb.2)
theorem sum_out {N : List Tn} {q : Nat} (h : longN N ≤ q) : (sumN N).M q = 0 ∧ (sumN N).V q = 0 := by
  have no : ∀ n ∈ N, n.p ≠ q := fun n hn e => by have := long_lt hn; omega
  constructor <;> refine Nat.eq_of_testBit_eq fun i => ?_
  · rw [sbit_M, Nat.zero_testBit, List.any_eq_false]
    intro n hn; simp [no n hn]
  · rw [sbit_V, Nat.zero_testBit, List.any_eq_false]
    intro n hn; simp [no n hn]
theorem sum_sub {N : List Tn} (h : Good N) (q i : Nat) (hb : ((sumN N).V q).testBit i = true) : ((sumN N).M q).testBit i = true := by
  rw [sbit_V, List.any_eq_true] at hb
  obtain ⟨n, hn, hb⟩ := hb
  simp only [Bool.and_eq_true] at hb
  rw [sbit_M, List.any_eq_true]
  exact ⟨n, hn, by simp only [Bool.and_eq_true]; exact ⟨hb.1, h.1 n hn i hb.2⟩⟩
/-- What is asked for at a place is what each test of it asks for. -/
theorem sum_at {N : List Tn} (h : Good N) {n : Tn} (hn : n ∈ N) {i : Nat} (hb : n.m.testBit i = true) : ((sumN N).V n.p).testBit i = n.v.testBit i := by
  rw [sbit_V]
  cases hv : n.v.testBit i with
  | true => rw [List.any_eq_true]; exact ⟨n, hn, by simp [hv]⟩
  | false =>
    rw [List.any_eq_false]
    intro k hk hc
    simp only [Bool.and_eq_true, beq_iff_eq] at hc
    have := h.2 n hn k hk hc.1.symm i hb (h.1 k hk i hc.2)
    rw [hv, hc.2] at this
    cases this
theorem and_eq_zero_iff (a b : Nat) : a &&& b = 0 ↔ ∀ i, a.testBit i = true → b.testBit i = true → False := by
  constructor
  · intro h i h1 h2
    have := congrArg (·.testBit i) h
    simp [h1, h2] at this
  · intro h
    refine Nat.eq_of_testBit_eq fun i => ?_
    rw [Nat.testBit_and, Nat.zero_testBit]
    cases h1 : a.testBit i <;> cases h2 : b.testBit i <;> simp
    exact h i h1 h2
theorem bit_not {m i : Nat} (h : m < 256) : (255 - m).testBit i = (decide (i < 8) && !m.testBit i) := by
  have := Nat.testBit_two_pow_sub_succ (x := m) (n := 8) (by omega) i
  rw [show 2 ^ 8 - (m + 1) = 255 - m by omega] at this
  exact this
theorem good_snoc {N : List Tn} (h : Good N) {n : Tn} (hn : n.Ok) : (sumN N).can n = true ↔ Good (N ++ [n]) := by
  unfold Sm.can
  rw [Bool.and_eq_true, beq_iff_eq, beq_iff_eq, and_eq_zero_iff, and_eq_zero_iff]
  constructor
  · rintro ⟨h1, h2⟩
    have a1 : ∀ i, n.v.testBit i = true → n.m.testBit i = true := fun i hv => by
      cases hm : n.m.testBit i with
      | true => rfl
      | false => exact (h1 i hv (by rw [bit_not hn.m, hm]; simp; exact lt8_of hn.v hv)).elim
    have a2 : ∀ k ∈ N, k.p = n.p → ∀ i, k.m.testBit i = true → n.m.testBit i = true → k.v.testBit i = n.v.testBit i := fun k hk e i b1 b2 => by
      have hM : ((sumN N).M n.p).testBit i = true := by rw [sbit_M, List.any_eq_true]; exact ⟨k, hk, by simp [e, b1]⟩
      have h3 := h2 i
      rw [Nat.testBit_and, Nat.testBit_xor, b2, Bool.and_true] at h3
      have h4 := sum_at h hk b1
      rw [e] at h4
      rw [h4] at h3
      cases x : k.v.testBit i <;> cases y : n.v.testBit i <;> first | rfl | (exact (h3 (by simp [x, y]) hM).elim)
    refine ⟨fun k hk i hv => ?_, fun k hk l hl e i b1 b2 => ?_⟩
    · rcases List.mem_append.1 hk with hk | hk
      · exact h.1 k hk i hv
      · obtain rfl := List.mem_singleton.1 hk; exact a1 i hv
    · rcases List.mem_append.1 hk with hk' | hk' <;> rcases List.mem_append.1 hl with hl' | hl'
      · exact h.2 k hk' l hl' e i b1 b2
      · obtain rfl := List.mem_singleton.1 hl'; exact a2 k hk' e i b1 b2
      · obtain rfl := List.mem_singleton.1 hk'; exact (a2 l hl' e.symm i b2 b1).symm
      · rw [List.mem_singleton.1 hk', List.mem_singleton.1 hl']
  · intro hg
    refine ⟨fun i hv hm => ?_, fun i hx hM => ?_⟩
    · rw [bit_not hn.m, hg.1 n (by simp) i hv] at hm
      simp at hm
    · rw [Nat.testBit_and, Nat.testBit_xor, Bool.and_eq_true] at hx
      rw [sbit_M, List.any_eq_true] at hM
      obtain ⟨k, hk, hb⟩ := hM
      simp only [Bool.and_eq_true, beq_iff_eq] at hb
      have h4 := sum_at h hk hb.2
      rw [hb.1] at h4
      rw [h4, hg.2 k (by simp [hk]) n (by simp) hb.1 i hb.2 hx.2] at hx
      simp at hx
theorem sum_snoc (N : List Tn) (n : Tn) : sumN (N ++ [n]) = (sumN N).add n := by unfold sumN; rw [List.foldl_append]; rfl
theorem good_left {A B : List Tn} (h : Good (A ++ B)) : Good A := ⟨fun n hn => h.1 n (by simp [hn]), fun n hn k hk => h.2 n (by simp [hn]) k (by simp [hk])⟩
theorem tog_from : ∀ (B A : List Tn), Good A → (∀ n ∈ B, n.Ok) → (Good (A ++ B) → tog (sumN A) B = some (sumN (A ++ B))) ∧ (¬ Good (A ++ B) → tog (sumN A) B = none)
  | [], A, h, _ => ⟨fun _ => by simp [tog], fun hn => absurd (by simpa using h) hn⟩
  | n :: B, A, h, ho => by
    have e : A ++ n :: B = (A ++ [n]) ++ B := by simp
    unfold tog
    by_cases hc : (sumN A).can n = true
    · rw [if_pos hc, e, ← sum_snoc]
      exact tog_from B (A ++ [n]) ((good_snoc h (ho n (by simp))).1 hc) fun k hk => ho k (by simp [hk])
    · rw [if_neg hc, e]
      have : ¬ Good ((A ++ [n]) ++ B) := fun hg => hc ((good_snoc h (ho n (by simp))).2 (good_left hg))
      exact ⟨fun hg => absurd hg this, fun _ => rfl⟩
theorem good_nil : Good [] := ⟨by simp, by simp⟩
theorem tog_good {N : List Tn} (ho : ∀ n ∈ N, n.Ok) (h : Good N) : tog sm0 N = some (sumN N) := (tog_from N [] good_nil ho).1 (by simpa using h)
theorem tog_bad {N : List Tn} (ho : ∀ n ∈ N, n.Ok) (h : ¬ Good N) : tog sm0 N = none := (tog_from N [] good_nil ho).2 (by simpa using h)

theorem byte_V {N : List Tn} (h : Good N) (q : Nat) : byteN N q ((sumN N).V q) = true := by
  unfold byteN
  rw [List.all_eq_true]
  intro n hn
  by_cases e : n.p = q
  · subst e
    simp only [bne_self_eq_false, Bool.false_or, beq_iff_eq]
    refine Nat.eq_of_testBit_eq fun i => ?_
    rw [Nat.testBit_and]
    cases hm : n.m.testBit i with
    | true => rw [sum_at h hn hm, Bool.and_true]
    | false =>
      rw [Bool.and_false]
      cases hv : n.v.testBit i with
      | true => have := h.1 n hn i hv; rw [hm] at this; cases this
      | false => rfl
  · simp [e]
theorem byte_least {N : List Tn} {q b : Nat} (h : byteN N q b = true) : (sumN N).V q ≤ b := by
  unfold byteN at h
  rw [List.all_eq_true] at h
  have : (sumN N).V q &&& b = (sumN N).V q := by
    refine Nat.eq_of_testBit_eq fun i => ?_
    rw [Nat.testBit_and]
    cases hv : ((sumN N).V q).testBit i with
    | false => rfl
    | true =>
      rw [sbit_V, List.any_eq_true] at hv
      obtain ⟨n, hn, hb⟩ := hv
      simp only [Bool.and_eq_true, beq_iff_eq] at hb
      have h1 := h n hn
      simp only [hb.1, bne_self_eq_false, Bool.false_or, beq_iff_eq] at h1
      rw [← h1, Nat.testBit_and] at hb
      simp only [Bool.and_eq_true] at hb
      rw [hb.2.1]; rfl
  rw [← this]
  exact Nat.and_le_right
theorem leastB_good {N : List Tn} (ho : ∀ n ∈ N, n.Ok) (h : Good N) (q : Nat) : leastB N q = (sumN N).V q := by
  unfold leastB
  have : (List.range 256).find? (byteN N q) = some ((sumN N).V q) := by
    rw [List.find?_range_eq_some]
    refine ⟨byte_V h q, by simpa using sum_V256 ho q, fun j hj => ?_⟩
    cases hb : byteN N q j with
    | false => rfl
    | true => have := byte_least hb; omega
  rw [this]; rfl
theorem leastB_lt {N : List Tn} {q : Nat} (h : leastB N q < 256) : byteN N q (leastB N q) = true := by
  unfold leastB at h ⊢
  cases hf : (List.range 256).find? (byteN N q) with
  | none => rw [hf] at h; simp at h
  | some b => exact List.find?_some hf
theorem good_of_bytes {N : List Tn} (h : ∀ q, q < longN N → ∃ b, byteN N q b = true) : Good N := by
  have key : ∀ n ∈ N, ∃ b, ∀ k ∈ N, k.p = n.p → b &&& k.m = k.v := fun n hn => by
    obtain ⟨b, hb⟩ := h n.p (long_lt hn)
    unfold byteN at hb
    rw [List.all_eq_true] at hb
    exact ⟨b, fun k hk e => by have := hb k hk; simpa [e] using this⟩
  refine ⟨fun n hn i hv => ?_, fun n hn k hk e i b1 b2 => ?_⟩
  · obtain ⟨b, hb⟩ := key n hn
    rw [← hb n hn rfl, Nat.testBit_and, Bool.and_eq_true] at hv
    exact hv.2
  · obtain ⟨b, hb⟩ := key n hn
    rw [← hb n hn rfl, ← hb k hk e.symm, Nat.testBit_and, Nat.testBit_and, b1, b2]
theorem leastL_good {N : List Tn} (ho : ∀ n ∈ N, n.Ok) (h : Good N) : leastL N = some ((List.range (longN N)).map (sumN N).V) := by
  unfold leastL
  have e : leastB N = (sumN N).V := funext (leastB_good ho h)
  rw [e, if_pos]
  rw [List.all_eq_true]
  intro q _
  simpa using sum_V256 ho q
theorem leastL_bad {N : List Tn} (h : ¬ Good N) : leastL N = none := by
  unfold leastL
  rw [if_neg]
  intro ha
  rw [List.all_eq_true] at ha
  exact h (good_of_bytes fun q hq => ⟨_, leastB_lt (by simpa using ha q (by simpa using hq))⟩)

/-- A packet passes just if it passes what is asked for together. -/
theorem pass_iff {N : List Tn} (h : Good N) (P : List Nat) : N.all (passN P) = true ↔ longN N ≤ P.length ∧ ∀ q, P.getD q 0 &&& (sumN N).M q = (sumN N).V q := by
  rw [List.all_eq_true]
  constructor
  · intro ha
    refine ⟨?_, fun q => Nat.eq_of_testBit_eq fun i => ?_⟩
    · rcases Nat.eq_zero_or_pos (longN N) with e | e
      · omega
      · obtain ⟨n, hn, e2⟩ := long_last e
        have := ha n hn
        unfold passN at this
        simp only [Bool.and_eq_true, decide_eq_true_eq] at this
        omega
    · rw [Nat.testBit_and, sbit_M, sbit_V]
      have e : ∀ n ∈ N, (n.p == q && n.v.testBit i) = ((P.getD q 0).testBit i && (n.p == q && n.m.testBit i)) := fun n hn => by
        have := ha n hn
        unfold passN at this
        simp only [Bool.and_eq_true, beq_iff_eq] at this
        by_cases e : n.p = q
        · subst e
          rw [← this.2, Nat.testBit_and]
          simp
        · have e' : (n.p == q) = false := by simpa using e
          rw [e']; simp
      cases hp : (P.getD q 0).testBit i with
      | false =>
        symm
        rw [Bool.false_and, List.any_eq_false]
        intro n hn
        rw [e n hn, hp]; simp
      | true =>
        rw [Bool.true_and, Bool.eq_iff_iff, List.any_eq_true, List.any_eq_true]
        constructor
        · rintro ⟨n, hn, hb⟩; exact ⟨n, hn, by rw [e n hn, hp]; simpa using hb⟩
        · rintro ⟨n, hn, hb⟩; exact ⟨n, hn, by rw [e n hn, hp] at hb; simpa using hb⟩
  · rintro ⟨hl, hq⟩ n hn
    unfold passN
    simp only [Bool.and_eq_true, decide_eq_true_eq, beq_iff_eq]
    refine ⟨Nat.lt_of_lt_of_le (long_lt hn) hl, Nat.eq_of_testBit_eq fun i => ?_⟩
    rw [Nat.testBit_and]
    have h1 := congrArg (·.testBit i) (hq n.p)
    simp only [Nat.testBit_and] at h1
    cases hm : n.m.testBit i with
    | true =>
      have hM : ((sumN N).M n.p).testBit i = true := by rw [sbit_M, List.any_eq_true]; exact ⟨n, hn, by simp [hm]⟩
      rw [hM, Bool.and_true, sum_at h hn hm] at h1
      rw [Bool.and_true]; exact h1
    | false =>
      rw [Bool.and_false]
      cases hv : n.v.testBit i with
      | true => have := h.1 n hn i hv; rw [hm] at this; cases this
      | false => rfl
/-- Where some packet passes, the tests are good. -/
theorem good_of_pass {N : List Tn} {P : List Nat} (h : N.all (passN P) = true) : Good N := by
  rw [List.all_eq_true] at h
  refine good_of_bytes fun q _ => ⟨P.getD q 0, ?_⟩
  unfold byteN
  rw [List.all_eq_true]
  intro n hn
  have := h n hn
  unfold passN at this
  simp only [Bool.and_eq_true, beq_iff_eq] at this
  by_cases e : n.p = q
  · subst e; simpa using this.2
  · simp [e]

/-- The plain tests that ask for this. -/
def testsS (s : Sm) : List Tn := ((List.range s.size).filter fun i => s.M i != 0 || i + 1 == s.size).map fun i => ⟨i, s.M i, s.V i⟩
theorem mem_tests {s : Sm} {n : Tn} : n ∈ testsS s ↔ n.p < s.size ∧ (s.M n.p ≠ 0 ∨ n.p + 1 = s.size) ∧ n.m = s.M n.p ∧ n.v = s.V n.p := by
  unfold testsS
  rw [List.mem_map]
  constructor
  · rintro ⟨i, hi, rfl⟩
    rw [List.mem_filter] at hi
    simp only [List.mem_range, Bool.or_eq_true, bne_iff_ne, ne_eq, beq_iff_eq] at hi
    exact ⟨hi.1, hi.2, rfl, rfl⟩
  · rintro ⟨h1, h2, h3, h4⟩
    refine ⟨n.p, ?_, ?_⟩
    · rw [List.mem_filter]
      simp only [List.mem_range, Bool.or_eq_true, bne_iff_ne, ne_eq, beq_iff_eq]
      exact ⟨h1, h2⟩
    · obtain ⟨p, m, v⟩ := n
      simp only at h3 h4 ⊢
      rw [h3, h4]
theorem ne_zero_of_bit {x i : Nat} (h : x.testBit i = true) : x ≠ 0 := by rintro rfl; simp at h
theorem tests_good {N : List Tn} (h : Good N) : Good (testsS (sumN N)) := by
  refine ⟨fun n hn i hv => ?_, fun n hn k hk e i b1 b2 => ?_⟩
  · obtain ⟨-, -, h3, h4⟩ := mem_tests.1 hn
    rw [h4] at hv; rw [h3]; exact sum_sub h _ _ hv
  · obtain ⟨-, -, -, h4⟩ := mem_tests.1 hn
    obtain ⟨-, -, -, h6⟩ := mem_tests.1 hk
    rw [h4, h6, e]
theorem tests_ok {N : List Tn} (ho : ∀ n ∈ N, n.Ok) : ∀ n ∈ testsS (sumN N), n.Ok := fun n hn => by
  obtain ⟨h1, -, h3, h4⟩ := mem_tests.1 hn
  rw [sum_size] at h1
  exact ⟨Nat.lt_of_lt_of_le h1 (long_bound ho), by rw [h3]; exact sum_M256 ho _, by rw [h4]; exact sum_V256 ho _⟩
theorem Sm.ext' {s t : Sm} (h1 : s.size = t.size) (h2 : s.M = t.M) (h3 : s.V = t.V) : s = t := by
  cases s; cases t; simp only at h1 h2 h3; subst h1 h2 h3; rfl
theorem tests_sum {N : List Tn} (h : Good N) : sumN (testsS (sumN N)) = sumN N := by
  have hM : ∀ q i, ((sumN (testsS (sumN N))).M q).testBit i = ((sumN N).M q).testBit i := fun q i => by
    rw [sbit_M, Bool.eq_iff_iff, List.any_eq_true]
    constructor
    · rintro ⟨n, hn, hb⟩
      obtain ⟨-, -, h3, -⟩ := mem_tests.1 hn
      simp only [Bool.and_eq_true, beq_iff_eq] at hb
      rw [h3, hb.1] at hb; exact hb.2
    · intro hb
      have hq : q < (sumN N).size := Nat.lt_of_not_le fun hle => by
        rw [sum_size] at hle
        rw [(sum_out hle).1] at hb; simp at hb
      exact ⟨⟨q, (sumN N).M q, (sumN N).V q⟩, mem_tests.2 ⟨hq, .inl (ne_zero_of_bit hb), rfl, rfl⟩, by simp [hb]⟩
  refine Sm.ext' ?_ (funext fun q => Nat.eq_of_testBit_eq fun i => hM q i) (funext fun q => Nat.eq_of_testBit_eq fun i => ?_)
  · rw [sum_size]
    rcases Nat.lt_trichotomy (longN (testsS (sumN N))) (sumN N).size with hlt | he | hgt
    · have hpos : 0 < (sumN N).size := by omega
      have := long_lt (N := testsS (sumN N)) (n := ⟨(sumN N).size - 1, (sumN N).M ((sumN N).size - 1), (sumN N).V ((sumN N).size - 1)⟩) (mem_tests.2 ⟨by show (sumN N).size - 1 < _; omega, .inr (by show (sumN N).size - 1 + 1 = _; omega), rfl, rfl⟩)
      simp only at this
      omega
    · exact he
    · obtain ⟨n, hn, e⟩ := long_last (N := testsS (sumN N)) (by omega)
      obtain ⟨h1, -⟩ := mem_tests.1 hn
      omega
  · rw [sbit_V, Bool.eq_iff_iff, List.any_eq_true]
    constructor
    · rintro ⟨n, hn, hb⟩
      obtain ⟨-, -, -, h4⟩ := mem_tests.1 hn
      simp only [Bool.and_eq_true, beq_iff_eq] at hb
      rw [h4, hb.1] at hb; exact hb.2
    · intro hb
      have hq : q < (sumN N).size := Nat.lt_of_not_le fun hle => by
        rw [sum_size] at hle
        rw [(sum_out hle).2] at hb; simp at hb
      exact ⟨⟨q, (sumN N).M q, (sumN N).V q⟩, mem_tests.2 ⟨hq, .inl (ne_zero_of_bit (sum_sub h q i hb)), rfl, rfl⟩, by simp [hb]⟩
theorem nodup_le : ∀ {l m : List Nat}, l.Nodup → (∀ x ∈ l, x ∈ m) → l.length ≤ m.length
  | [], _, _, _ => Nat.zero_le _
  | x :: l, m, hn, hs => by
    obtain ⟨h1, h2⟩ := List.nodup_cons.1 hn
    have hx : x ∈ m := hs x (List.mem_cons_self ..)
    have ih := nodup_le (l := l) (m := m.erase x) h2 fun y hy => by
      have hne : y ≠ x := fun e => h1 (e ▸ hy)
      exact (List.mem_erase_of_ne hne).2 (hs y (List.mem_cons_of_mem _ hy))
    rw [List.length_erase_of_mem hx] at ih
    have := List.length_pos_of_mem hx
    simp only [List.length_cons]
    omega
theorem tests_len (N : List Tn) : (testsS (sumN N)).length ≤ N.length := by
  unfold testsS
  rw [List.length_map, ← List.length_map (f := Tn.p) (as := N)]
  refine nodup_le (List.Nodup.sublist (List.filter_sublist) List.nodup_range) fun i hi => ?_
  rw [List.mem_filter] at hi
  simp only [List.mem_range, Bool.or_eq_true, bne_iff_ne, ne_eq, beq_iff_eq] at hi
  rw [List.mem_map]
  rcases hi.2 with hm | hl
  · obtain ⟨j, hj⟩ := Nat.exists_testBit_of_ne_zero hm
    rw [sbit_M, List.any_eq_true] at hj
    obtain ⟨n, hn, hb⟩ := hj
    simp only [Bool.and_eq_true, beq_iff_eq] at hb
    exact ⟨n, hn, hb.1⟩
  · rw [sum_size] at hl
    obtain ⟨n, hn, e⟩ := long_last (N := N) (by omega)
    exact ⟨n, hn, by omega⟩
/-- Like tests ask for the same. -/
theorem sum_ext {A B : List Tn} (h : ∀ n, n ∈ A ↔ n ∈ B) : sumN A = sumN B := by
  refine Sm.ext' ?_ (funext fun q => Nat.eq_of_testBit_eq fun i => ?_) (funext fun q => Nat.eq_of_testBit_eq fun i => ?_)
  · rw [sum_size, sum_size]
    rcases Nat.lt_trichotomy (longN A) (longN B) with hlt | he | hgt
    · obtain ⟨n, hn, e⟩ := long_last (N := B) (by omega)
      have := long_lt ((h n).2 hn); omega
    · exact he
    · obtain ⟨n, hn, e⟩ := long_last (N := A) (by omega)
      have := long_lt ((h n).1 hn); omega
  · rw [sbit_M, sbit_M, Bool.eq_iff_iff, List.any_eq_true, List.any_eq_true]
    exact ⟨fun ⟨n, hn, hb⟩ => ⟨n, (h n).1 hn, hb⟩, fun ⟨n, hn, hb⟩ => ⟨n, (h n).2 hn, hb⟩⟩
  · rw [sbit_V, sbit_V, Bool.eq_iff_iff, List.any_eq_true, List.any_eq_true]
    exact ⟨fun ⟨n, hn, hb⟩ => ⟨n, (h n).1 hn, hb⟩, fun ⟨n, hn, hb⟩ => ⟨n, (h n).2 hn, hb⟩⟩
theorem good_ext {A B : List Tn} (h : ∀ n, n ∈ A ↔ n ∈ B) : Good A ↔ Good B :=
  ⟨fun g => ⟨fun n hn => g.1 n ((h n).2 hn), fun n hn k hk => g.2 n ((h n).2 hn) k ((h k).2 hk)⟩, fun g => ⟨fun n hn => g.1 n ((h n).1 hn), fun n hn k hk => g.2 n ((h n).1 hn) k ((h k).1 hk)⟩⟩
theorem i64_and_nat (a b : Nat) (ha : a < 256) : bits .and .i64 (a : Int) (b : Int) = ((a &&& b : Nat) : Int) := by
  have hx : a &&& b ≤ a := Nat.and_le_left
  have e : (BitVec.ofInt 64 (a : Int) &&& BitVec.ofInt 64 (b : Int)).toNat = a &&& b := by
    rw [BitVec.toNat_and, BitVec.ofInt_natCast, BitVec.ofInt_natCast, BitVec.toNat_ofNat, BitVec.toNat_ofNat, Nat.mod_eq_of_lt (show a < 2 ^ 64 by omega)]
    refine Nat.eq_of_testBit_eq fun i => ?_
    rw [Nat.testBit_and, Nat.testBit_and, Nat.testBit_mod_two_pow]
    cases hi : a.testBit i with
    | false => rfl
    | true =>
      have := lt8_of ha hi
      simp [show i < 64 by omega]
  show IntKind.i64.wrap ((BitVec.ofInt 64 (a : Int) &&& BitVec.ofInt 64 (b : Int)).toNat : Int) = _
  rw [e]
  generalize a &&& b = q at hx
  exact IntWalk.i64_in _ (by omega)
theorem i64_or_nat (a b : Nat) (ha : a < 256) (hb : b < 256) : bits .or .i64 (a : Int) (b : Int) = ((a ||| b : Nat) : Int) := by
  have hx : a ||| b < 2 ^ 8 := Nat.or_lt_two_pow (by omega) (by omega)
  have e : (BitVec.ofInt 64 (a : Int) ||| BitVec.ofInt 64 (b : Int)).toNat = a ||| b := by
    rw [BitVec.toNat_or, BitVec.ofInt_natCast, BitVec.ofInt_natCast, BitVec.toNat_ofNat, BitVec.toNat_ofNat, Nat.mod_eq_of_lt (show a < 2 ^ 64 by omega), Nat.mod_eq_of_lt (show b < 2 ^ 64 by omega)]
  show IntKind.i64.wrap ((BitVec.ofInt 64 (a : Int) ||| BitVec.ofInt 64 (b : Int)).toNat : Int) = _
  rw [e]
  generalize a ||| b = q at hx
  exact IntWalk.i64_in _ (by omega)
end Go.Proofs.Ytakpankipagndaa
