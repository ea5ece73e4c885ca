/- The document's May. -/
import Derived.Test.YtakgjakcbpdefaaCaqC
namespace Go.Proofs.Ytakgjakcbpdefaa
open Go.RowKit

theorem bits_comm (a b : Int) : bits .and .i64 a b = bits .and .i64 b a := by
  show IntKind.wrap .i64 ((BitVec.ofInt _ a &&& BitVec.ofInt _ b).toNat : Int) = IntKind.wrap .i64 ((BitVec.ofInt _ b &&& BitVec.ofInt _ a).toNat : Int)
  rw [BitVec.and_comm]
def hitM (a k o r : Int) (x : Cap) : Bool := rightsB r && (x.account == a && x.kind == k && x.object == o && (bits .and .i64 x.rights r == r))
theorem mayB_none {S : List Cap} {a k o r : Int} (h : ∀ j x, j < S.length → S[j]? = some x → hitM a k o r x = false) : mayB S a k o r = false := by
  unfold mayB
  cases hr : rightsB r with
  | false => rfl
  | true =>
    rw [Bool.true_and, List.any_eq_false]
    intro x hx
    obtain ⟨j, hj⟩ := List.getElem?_of_mem hx
    have := h j x (List.getElem?_eq_some_iff.1 hj).1 hj
    unfold hitM at this
    rw [hr, Bool.true_and] at this
    simp only [this]
    simp
theorem mayB_some {S : List Cap} {a k o r : Int} {x : Cap} (hx : x ∈ S) (h : hitM a k o r x = true) : mayB S a k o r = true := by
  unfold hitM at h
  unfold mayB
  rw [Bool.and_eq_true] at h ⊢
  exact ⟨h.1, List.any_eq_true.2 ⟨x, hx, h.2⟩⟩
theorem hitM_ways (a k o r : Int) (x : Cap) : (rightsB r = false ∧ hitM a k o r x = false) ∨ (rightsB r = true ∧ x.account ≠ a ∧ hitM a k o r x = false) ∨ (rightsB r = true ∧ x.account = a ∧ x.kind ≠ k ∧ hitM a k o r x = false) ∨
    (rightsB r = true ∧ x.account = a ∧ x.kind = k ∧ x.object ≠ o ∧ hitM a k o r x = false) ∨ (rightsB r = true ∧ x.account = a ∧ x.kind = k ∧ x.object = o ∧ (bits .and .i64 r x.rights == r) = false ∧ hitM a k o r x = false) ∨
    (rightsB r = true ∧ x.account = a ∧ x.kind = k ∧ x.object = o ∧ (bits .and .i64 r x.rights == r) = true ∧ hitM a k o r x = true) := by
  unfold hitM
  rw [bits_comm r x.rights]
  by_cases h0 : rightsB r = true
  · by_cases h1 : x.account = a
    · by_cases h2 : x.kind = k
      · by_cases h3 : x.object = o
        · by_cases h4 : (bits .and .i64 x.rights r == r) = true
          · simp [h0, h1, h2, h3, h4]
          · simp at h4
            simp [h0, h1, h2, h3, h4]
        · simp [h0, h1, h2, h3]
      · simp [h0, h1, h2]
    · simp [h0, h1]
  · simp [h0]
section
variable {w : World} {B q : Nat} {T : Tab}
set_option maxHeartbeats 4000000 in
set_option maxRecDepth 100000 in
theorem qmay_any (h : QAt w B q T) (hl : T.caps.length ≤ 1000) (a k o r : Int) :
    Calls Try.prog 16 #[.pointer (some ⟨q, 0, none⟩), .int .i64 a, .int .i64 k, .int .i64 o, .int .i64 r] w fun e w' => e = .returned (.bool (mayB T.caps a k o r)) ∧ Below w.heap.size w w' := by
  have H := Lib.hid h
  obtain ⟨A, cp, -, -, hcs, c0, -, -, hq⟩ := h.out
  have HC := Lib.hid hcs
  obtain ⟨n, hn⟩ : ∃ n, T.caps.length = n := ⟨_, rfl⟩
  rw [hn] at c0 hl
  have HN := Lib.hid hn
  have HRI := Lib.hid (fun W => qrights_any r W)
  clear h hcs hn
  go_enter Try.func16, Try.ntmps16
  go_wp2
  go_loopg [11] n (fun g i W => ∃ j : Nat, j + g = n ∧ i = .int .i64 (j : Int) ∧ (∀ m x, m < j → T.caps[m]? = some x → hitM a k o r x = false) ∧ Below w.heap.size w W)
  case atStart => exact ⟨0, by omega, rfl, fun m x hm => by omega, Below.refl _ _⟩
  case round =>
    obtain ⟨j, hj, rfl, hno, hB⟩ := hrel
    have HNO := Lib.hid hno
    have HB := Lib.hid hB
    have c0r := (hB.cell (p := ⟨q, 0, none⟩) hq).trans c0
    clear hno hB
    by_cases hlt : j < n
    · have hlt2 : (j : Int) < n := by omega
      obtain ⟨x, hx⟩ : ∃ x, T.caps[j]? = some x := ⟨_, List.getElem?_eq_getElem (by rw [HN.out]; exact hlt)⟩
      obtain ⟨g, rfl, hg, hc⟩ := (HC.out.below HB.out) j x hx
      have k0 := hc 0 (by omega)
      have k1 := hc 1 (by omega)
      have k2 := hc 2 (by omega)
      have k3 := hc 3 (by omega)
      have k4 := hc 4 (by omega)
      have k5 := hc 5 (by omega)
      have k6 := hc 6 (by omega)
      simp only [capL, Nat.add_zero] at k0 k1 k2 k3 k4 k5 k6
      simp at k0 k1 k2 k3 k4 k5 k6
      have HX := Lib.hid hx
      have HSU := Lib.hid (fun W => qsubset_any r x.rights W)
      clear hc hx
      rcases hitM_ways a k o r x with ⟨z0, zz⟩ | ⟨z0, z1, zz⟩ | ⟨z0, z1, z2, zz⟩ | ⟨z0, z1, z2, z3, zz⟩ | ⟨z0, z1, z2, z3, z4, zz⟩ | ⟨z0, z1, z2, z3, z4, zz⟩
      case inr.inr.inr.inr.inr =>
        have HM := Lib.hid (mayB_some (List.mem_of_getElem? HX.out) zz)
        rw [z0] at HRI
        rw [z4] at HSU
        clear zz z0 z4
        go_wp2_with (first
          | (go_at_call 38; refine (HRI.out _).mono ?_; rintro e w1 ⟨rfl, rfl⟩)
          | (go_at_call 39; refine (HSU.out _).mono ?_; rintro e w1 ⟨rfl, rfl⟩))
        all_goals
          go_ret
          rw [HM.out]
          exact ⟨rfl, HB.out.alloc HB.out.size _⟩
      all_goals
        have HZ := Lib.hid zz
        rw [z0] at HRI
        try rw [z4] at HSU
        clear zz z0
        try clear z4
        go_wp2_with (first
          | (go_at_call 38; refine (HRI.out _).mono ?_; rintro e w1 ⟨rfl, rfl⟩)
          | (go_at_call 39; refine (HSU.out _).mono ?_; rintro e w1 ⟨rfl, rfl⟩))
        all_goals
          go_roundg (n - (j + 1))
          case measure => omega
          case rel =>
            refine ⟨j + 1, by omega, by go_num, fun m y hm hy => ?_, HB.out.alloc HB.out.size _⟩
            rcases Nat.lt_succ_iff_lt_or_eq.1 hm with h | rfl
            · exact HNO.out m y h hy
            · rw [HX.out] at hy; cases hy; exact HZ.out
    · obtain rfl : n = j := by omega
      have hlt2 : ¬ (n : Int) < n := by omega
      have HM := Lib.hid (mayB_none (S := T.caps) (a := a) (k := k) (o := o) (r := r) (fun m x hm => by rw [HN.out] at hm; exact HNO.out m x hm))
      go_wp2_with fail
      all_goals
        go_ret
        rw [HM.out]
        exact ⟨rfl, HB.out⟩
end
end Go.Proofs.Ytakgjakcbpdefaa
