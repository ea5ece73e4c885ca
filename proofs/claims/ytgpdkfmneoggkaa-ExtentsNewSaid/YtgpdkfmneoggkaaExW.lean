/- The document's extents in memory: in, Part, Owner; Taken and Runs where nothing is taken. -/
import Derived.Test.YtgpdkfmneoggkaaExR
namespace Go.Proofs.Ytgpdkfmneoggkaa
open Go.RowKit
attribute [local go_sem] Oper.semAt_some

/-- Where they lie. -/
structure Lq where
  bQ : Nat
  cQ : Nat
  bH : Nat
  cH : Nat
  bk : Nat → Nat
/-- So many sectors have the accounts ahead of this one. -/
def sumC (s : Xt) : Nat → Nat
  | 0 => 0
  | a + 1 => sumC s a + (s.pt a).ct
structure QxAt (w : World) (q dq : Nat) (Y : Lq) (s : Xt) : Prop where
  n1 : 1 ≤ s.n
  n8 : s.n ≤ 8
  fi : ∀ a, a < s.n → (s.pt a).fi = sumC s a
  tot : ∀ a, a ≤ s.n → sumC s a ≤ 4096
  c0 : w.cell? ⟨q, 0, none⟩ = some (.pointer (some ⟨dq, 0, none⟩))
  c1 : w.cell? ⟨q, 1, none⟩ = some (.slice (some ⟨Y.bQ, 0, none⟩) s.n Y.cQ)
  c2 : w.cell? ⟨q, 2, none⟩ = some (.slice (some ⟨Y.bH, 0, none⟩) s.n Y.cH)
  qu : ∀ a, a < s.n → w.cell? ⟨Y.bQ, a, none⟩ = some (.int .i64 ((s.pt a).ct : Int))
  ha : ∀ a, a < s.n → w.cell? ⟨Y.bH, a, none⟩ = some (.slice (some ⟨Y.bk a, 0, none⟩) (s.pt a).ct (s.pt a).ct)
  ro : ∀ a, a < s.n → ∀ i, i < (s.pt a).ct → w.cell? ⟨Y.bk a, i, none⟩ = some (.bool ((s.pt a).bit i))
theorem cell_step {w w' : World} {p : Addr} {v : Value} (h : w.cell? p = some v) (hb : Below w.heap.size w w') : w'.cell? p = some v := (hb.cell (World.block_lt_of_cell? w _ h)).trans h
theorem QxAt.step {w w' : World} {q dq : Nat} {Y : Lq} {s : Xt} (h : QxAt w q dq Y s) (hb : Below w.heap.size w w') : QxAt w' q dq Y s :=
  ⟨h.n1, h.n8, h.fi, h.tot, cell_step h.c0 hb, cell_step h.c1 hb, cell_step h.c2 hb, fun a ha => cell_step (h.qu a ha) hb, fun a ha => cell_step (h.ha a ha) hb, fun a ha i hi => cell_step (h.ro a ha i hi) hb⟩
section
variable {w : World} {q dq : Nat} {Y : Lq} {s : Xt}
theorem QxAt.ct (h : QxAt w q dq Y s) {a : Nat} (ha : a < s.n) : sumC s a + (s.pt a).ct ≤ 4096 := h.tot (a + 1) ha
theorem qxin_any (h : QxAt w q dq Y s) (a : Int) : Calls Try.prog 68 #[.pointer (some ⟨q, 0, none⟩), .int .i64 a] w fun e w' => e = .returned (.bool (decide (0 ≤ a) && decide (a < (s.n : Int)))) ∧ w = w' := by
  have c1 := h.c1
  clear h
  by_cases h0 : 0 ≤ a
  · rw [decide_eq_true h0, Bool.true_and]
    go_enter Try.func68, Try.ntmps68
    go_wp2
    go_ret
    exact ⟨rfl, rfl⟩
  · rw [decide_eq_false h0, Bool.false_and]
    go_enter Try.func68, Try.ntmps68
    go_wp2
    go_ret
    exact ⟨rfl, rfl⟩
theorem qxin_yes (h : QxAt w q dq Y s) {a : Nat} (ha : a < s.n) : Calls Try.prog 68 #[.pointer (some ⟨q, 0, none⟩), .int .i64 (a : Int)] w fun e w' => e = .returned (.bool true) ∧ w = w' := by
  have := qxin_any h (a : Int)
  rwa [decide_eq_true (show (0 : Int) ≤ (a : Int) by omega), decide_eq_true (show (a : Int) < (s.n : Int) by omega)] at this
theorem qxin_no (h : QxAt w q dq Y s) {a : Int} (ha : a < 0 ∨ (s.n : Int) ≤ a) : Calls Try.prog 68 #[.pointer (some ⟨q, 0, none⟩), .int .i64 a] w fun e w' => e = .returned (.bool false) ∧ w = w' := by
  have := qxin_any h a
  have e : (decide (0 ≤ a) && decide (a < (s.n : Int))) = false := by
    rcases ha with ha | ha
    · rw [decide_eq_false (show ¬ 0 ≤ a by omega), Bool.false_and]
    · rw [decide_eq_false (show ¬ a < (s.n : Int) by omega), Bool.and_false]
  rwa [e] at this
theorem qpart_out (h : QxAt w q dq Y s) (a : Int) (ha : a < 0 ∨ (s.n : Int) ≤ a) : Calls Try.prog 43 #[.pointer (some ⟨q, 0, none⟩), .int .i64 a] w fun e w' => e = .returned (.tuple #[.int .i64 0, .int .i64 0, .bool false]) ∧ w = w' := by
  have H := Lib.hid h
  clear h
  go_enter Try.func43, Try.ntmps43
  go_wp2_with (go_at_call 68; refine (qxin_no H.out ha).mono ?_; rintro e w' ⟨rfl, rfl⟩)
  go_ret3
  exact ⟨rfl, rfl⟩
set_option maxHeartbeats 1000000 in
set_option maxRecDepth 100000 in
theorem qpart_yes (h : QxAt w q dq Y s) (a : Nat) (ha : a < s.n) : Calls Try.prog 43 #[.pointer (some ⟨q, 0, none⟩), .int .i64 (a : Int)] w fun e w' => e = .returned (.tuple #[.int .i64 ((s.pt a).fi : Int), .int .i64 ((s.pt a).ct : Int), .bool true]) ∧ Below w.heap.size w w' := by
  have H := Lib.hid h
  have c1 := h.c1
  have hn8 := h.n8
  have hfi := h.fi a ha
  rw [hfi]
  clear h hfi
  go_enter Try.func43, Try.ntmps43
  go_wp2_with (go_at_call 68; refine (qxin_yes H.out ha).mono ?_; rintro e w' ⟨rfl, rfl⟩)
  go_loopg [7, 8] a (fun g f i W => ∃ b : Nat, b + g = a ∧ f = .int .i64 (sumC s b : Int) ∧ i = .int .i64 (b : Int) ∧ W = w)
  case atStart => exact ⟨0, by omega, rfl, rfl, rfl⟩
  case round =>
    obtain ⟨b, hb, rfl, rfl, rfl⟩ := hrel
    by_cases hlt : b < a
    · have hlt' : (b : Int) < (a : Int) := by omega
      have hq := H.out.qu b (by omega)
      have hct := H.out.ct (a := b) (by omega)
      obtain ⟨sb, hsb⟩ : ∃ sb, sumC s b = sb := ⟨_, rfl⟩
      obtain ⟨cb, hcb⟩ : ∃ cb, (s.pt b).ct = cb := ⟨_, rfl⟩
      have HS := Lib.hid (show sumC s (b + 1) = sb + cb by rw [← hsb, ← hcb]; rfl)
      rw [hsb, hcb] at hct
      rw [hcb] at hq
      rw [hsb]
      have hw1 : IntKind.i64.wrap ((sb : Int) + cb) = ((sb + cb : Nat) : Int) := by rw [IntWalk.i64_in _ (by omega)]; push_cast; rfl
      have hbn : (b : Int) < (s.n : Int) := by omega
      clear hsb hcb
      go_wp2
      go_roundg (a - (b + 1))
      case measure => omega
      case rel => exact ⟨b + 1, by omega, by rw [HS.out]; first | rfl | (push_cast; rfl) | simp, by go_num, rfl⟩
    · obtain rfl : b = a := by omega
      have hlt' : ¬ (b : Int) < (b : Int) := by omega
      have hq := H.out.qu b ha
      have hbn : (b : Int) < (s.n : Int) := by omega
      go_wp2_with fail
      go_quiet (fail)
      go_wp2
      go_ret3
      exact ⟨rfl, bdN (Below.refl _ _) _⟩
set_option maxHeartbeats 4000000 in
set_option maxRecDepth 100000 in
theorem qowner_any (h : QxAt w q dq Y s) (i : Int) : Calls Try.prog 47 #[.pointer (some ⟨q, 0, none⟩), .int .i64 i] w fun e w' => ∃ v, e = .returned v ∧ OwnerOut s i v ∧ Below w.heap.size w w' := by
  have hn := h.n8
  have H := Lib.hid h
  clear h
  obtain ⟨n, hsn⟩ : ∃ n, s.n = n := ⟨_, rfl⟩
  have HSN := Lib.hid hsn
  rw [hsn] at hn
  go_enter Try.func47, Try.ntmps47
  go_wp2_with fail
  clear hsn
  go_loopg [7, 8, 9, 10] n (fun g j i8 i9 i10 W => ∃ b : Nat, b + g = n ∧ j = .int .i64 (b : Int) ∧ (∀ c, c < b → ¬ (((s.pt c).fi : Int) ≤ i ∧ i < ((s.pt c).fi : Int) + (s.pt c).ct)) ∧ Below w.heap.size w W)
  case atStart => exact ⟨0, by omega, rfl, fun c hc => by omega, Below.refl _ _⟩
  case round =>
    obtain ⟨b, hb, rfl, hno, hB⟩ := hrel
    have HB := Lib.hid hB
    have HNO := Lib.hid hno
    have c1 := (H.out.step hB).c1
    rw [HSN.out] at c1
    clear hB hno
    by_cases hlt : b < n
    · have hlt' : (b : Int) < (n : Int) := by omega
      have hct := H.out.ct (a := b) (by rw [HSN.out]; exact hlt)
      rw [← H.out.fi b (by rw [HSN.out]; exact hlt)] at hct
      have hP := qpart_yes (H.out.step HB.out) b (by rw [HSN.out]; exact hlt)
      obtain ⟨f, hf⟩ : ∃ f, (s.pt b).fi = f := ⟨_, rfl⟩
      obtain ⟨m, hm⟩ : ∃ m, (s.pt b).ct = m := ⟨_, rfl⟩
      have HF := Lib.hid hf
      have HM := Lib.hid hm
      rw [hf, hm] at hct hP
      have HP := Lib.hid hP
      clear hf hm hP
      have hw1 : IntKind.i64.wrap ((f : Int) + m) = (f : Int) + m := IntWalk.i64_in _ (by omega)
      go_wp2_with fail
      go_at_call 43
      refine Calls.mono HP.out ?_
      rintro e w1 ⟨rfl, hb1⟩
      have HB1 := Lib.hid (HB.out.trans (hb1.mono HB.out.size))
      clear hb1
      by_cases g1 : (f : Int) ≤ i
      · by_cases g2 : i < (f : Int) + m
        · have hw2 : IntKind.i64.wrap (i - f) = i - f := IntWalk.i64_in _ (by omega)
          go_wp2_with fail
          go_ret3
          refine ⟨_, rfl, .inl ⟨b, by rw [HSN.out]; exact hlt, by rw [HF.out]; exact g1, by rw [HF.out, HM.out]; exact g2, HNO.out, by rw [HF.out]; rfl⟩, HB1.out⟩
        · go_wp2_with fail
          go_roundg (n - (b + 1))
          case measure => omega
          case rel => exact ⟨b + 1, by omega, by go_num, (fun c hc => by
            by_cases e : c = b
            · rw [e, HF.out, HM.out]; omega
            · exact HNO.out c (by omega)), HB1.out⟩
      · have dz : decide ((f : Int) ≤ i) = false := by simpa using g1
        go_wp2_with fail
        go_roundg (n - (b + 1))
        case measure => omega
        case rel => exact ⟨b + 1, by omega, by go_num, (fun c hc => by
          by_cases e : c = b
          · rw [e, HF.out, HM.out]; omega
          · exact HNO.out c (by omega)), HB1.out⟩
    · obtain rfl : b = n := by omega
      have hlt' : ¬ (b : Int) < (b : Int) := by omega
      go_wp2
      go_ret3
      exact ⟨_, rfl, .inr ⟨by rw [HSN.out]; exact HNO.out, rfl⟩, HB.out⟩
theorem OwnerOut.one {i : Int} {u v : Value} (h1 : OwnerOut s i u) (h2 : OwnerOut s i v) : u = v := by
  rcases h1 with ⟨a, a1, a2, a3, a4, rfl⟩ | ⟨a1, rfl⟩
  · rcases h2 with ⟨b, b1, b2, b3, b4, rfl⟩ | ⟨b1, -⟩
    · have : a = b := by
        rcases Nat.lt_trichotomy a b with h | h | h
        · exact absurd ⟨a2, a3⟩ (b4 a h)
        · exact h
        · exact absurd ⟨b2, b3⟩ (a4 b h)
      rw [this]
    · exact absurd ⟨a2, a3⟩ (b1 a a1)
  · rcases h2 with ⟨b, b1, b2, b3, b4, rfl⟩ | ⟨-, rfl⟩
    · exact absurd ⟨b2, b3⟩ (a1 b b1)
    · rfl
set_option maxHeartbeats 2000000 in
set_option maxRecDepth 100000 in
/-- Nothing is taken. -/
theorem qtaken_none (h : QxAt w q dq Y s) (hb : ∀ a i, (s.pt a).bit i = false) (a : Int) : Calls Try.prog 45 #[.pointer (some ⟨q, 0, none⟩), .int .i64 a] w fun e w' => e = .returned (.int .i64 0) ∧ w = w' := by
  have H := Lib.hid h
  have HZ := Lib.hid hb
  clear h hb
  by_cases ha : a < 0 ∨ (s.n : Int) ≤ a
  · go_enter Try.func45, Try.ntmps45
    go_wp2
    refine wp_loop_rounds 1 ?_
    rw [rounds_succ]
    go_wp2_with (go_at_call 68; refine (qxin_no H.out ha).mono ?_; rintro e w' ⟨rfl, rfl⟩)
    go_ret
    exact ⟨rfl, rfl⟩
  · obtain ⟨b, rfl⟩ : ∃ b : Nat, a = b := ⟨a.toNat, by omega⟩
    have hbn : b < s.n := by omega
    have hbn' : (b : Int) < (s.n : Int) := by omega
    have c2 := H.out.c2
    have ch := H.out.ha b hbn
    have hct := H.out.ct hbn
    obtain ⟨m, hm⟩ : ∃ m, (s.pt b).ct = m := ⟨_, rfl⟩
    have HM := Lib.hid hm
    rw [hm] at ch hct
    clear hm ha
    go_enter Try.func45, Try.ntmps45
    go_wp2
    go_loopg [5, 6] m (fun g t i W => ∃ j : Nat, j + g = m ∧ t = .int .i64 0 ∧ i = .int .i64 (j : Int) ∧ W = w)
    case atStart => exact ⟨0, by omega, rfl, rfl, rfl⟩
    case round =>
      obtain ⟨j, hj, rfl, rfl, rfl⟩ := hrel
      by_cases hlt : j < m
      · have hlt' : (j : Int) < (m : Int) := by omega
        have cr := H.out.ro b hbn j (by rw [HM.out]; exact hlt)
        rw [HZ.out] at cr
        go_wp2_with (go_at_call 68; refine (qxin_yes H.out hbn).mono ?_; rintro e w' ⟨rfl, rfl⟩)
        go_roundg (m - (j + 1))
        case measure => omega
        case rel => exact ⟨j + 1, by omega, rfl, by go_num, rfl⟩
      · obtain rfl : j = m := by omega
        have hlt' : ¬ (j : Int) < (j : Int) := by omega
        go_wp2_with (go_at_call 68; refine (qxin_yes H.out hbn).mono ?_; rintro e w' ⟨rfl, rfl⟩)
        go_ret
        exact ⟨rfl, rfl⟩
set_option maxHeartbeats 2000000 in
set_option maxRecDepth 100000 in
theorem qruns_none (h : QxAt w q dq Y s) (hb : ∀ a i, (s.pt a).bit i = false) (a : Int) : Calls Try.prog 74 #[.pointer (some ⟨q, 0, none⟩), .int .i64 a] w fun e w' => e = .returned (.slice none 0 0) ∧ w = w' := by
  have H := Lib.hid h
  have HZ := Lib.hid hb
  clear h hb
  by_cases ha : a < 0 ∨ (s.n : Int) ≤ a
  · go_enter Try.func74, Try.ntmps74
    go_wp2
    refine wp_loop_rounds 1 ?_
    rw [rounds_succ]
    go_wp2_with (go_at_call 68; refine (qxin_no H.out ha).mono ?_; rintro e w' ⟨rfl, rfl⟩)
    go_ret
    exact ⟨rfl, rfl⟩
  · obtain ⟨b, rfl⟩ : ∃ b : Nat, a = b := ⟨a.toNat, by omega⟩
    have hbn : b < s.n := by omega
    have hbn' : (b : Int) < (s.n : Int) := by omega
    have c2 := H.out.c2
    have ch := H.out.ha b hbn
    have hct := H.out.ct hbn
    obtain ⟨m, hm⟩ : ∃ m, (s.pt b).ct = m := ⟨_, rfl⟩
    have HM := Lib.hid hm
    rw [hm] at ch hct
    clear hm ha
    go_enter Try.func74, Try.ntmps74
    go_wp2
    go_loopg [5, 6] m (fun g t i W => ∃ j : Nat, j + g = m ∧ t = .slice none 0 0 ∧ i = .int .i64 (j : Int) ∧ W = w)
    case atStart => exact ⟨0, by omega, rfl, rfl, rfl⟩
    case round =>
      obtain ⟨j, hj, rfl, rfl, rfl⟩ := hrel
      by_cases hlt : j < m
      · have hlt' : (j : Int) < (m : Int) := by omega
        have cr := H.out.ro b hbn j (by rw [HM.out]; exact hlt)
        rw [HZ.out] at cr
        go_wp2_with (go_at_call 68; refine (qxin_yes H.out hbn).mono ?_; rintro e w' ⟨rfl, rfl⟩)
        go_roundg (m - (j + 1))
        case measure => omega
        case rel => exact ⟨j + 1, by omega, rfl, by go_num, rfl⟩
      · obtain rfl : j = m := by omega
        have hlt' : ¬ (j : Int) < (j : Int) := by omega
        go_wp2_with (go_at_call 68; refine (qxin_yes H.out hbn).mono ?_; rintro e w' ⟨rfl, rfl⟩)
        go_ret
        exact ⟨rfl, rfl⟩
end
end Go.Proofs.Ytgpdkfmneoggkaa
