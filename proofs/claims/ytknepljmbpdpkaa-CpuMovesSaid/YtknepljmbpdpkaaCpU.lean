/- Whether some number is wrong; copies of numbers and of bytes. -/
import Derived.Test.YtknepljmbpdpkaaCpT
import Derived.WalkSpells
import Derived.Lib.SliceRun
namespace Go.Proofs.Ytknepljmbpdpkaa
open Go.RowKit

def wrongB (x : Int) : Bool := decide (x < 0) || decide (7 < x)
/-- A list of numbers in memory. -/
def IntsIn (w : World) (A : Option Addr) (n : Nat) (ri : Nat → Int) : Prop := 0 < n → ∃ b o, A = some ⟨b, o, none⟩ ∧ b < w.heap.size ∧ ∀ j, j < n → w.cell? ⟨b, o + j, none⟩ = some (.int .i64 (ri j))
theorem IntsIn.below {w w' : World} {A : Option Addr} {n : Nat} {ri : Nat → Int} (h : IntsIn w A n ri) (hb : Below w.heap.size w w') : IntsIn w' A n ri := fun hp => by
  obtain ⟨b, o, e, l, c⟩ := h hp
  exact ⟨b, o, e, Nat.lt_of_lt_of_le l hb.size, fun j hj => (hb.cell (p := ⟨b, o + j, none⟩) l).trans (c j hj)⟩
def anyWrong (ri : Nat → Int) (n : Nat) : Bool := (List.range n).any fun j => wrongB (ri j)
def idxT (ri : Nat → Int) (n : Nat) : Int := match (List.range n).find? (fun j => wrongB (ri j)) with
  | some j => j
  | none => -1
theorem idxT_hit {ri : Nat → Int} {n k : Nat} (hk : k < n) (hb : ∀ j, j < k → wrongB (ri j) = false) (h : wrongB (ri k) = true) : idxT ri n = k := by
  have : (List.range n).find? (fun j => wrongB (ri j)) = some k := by
    rw [List.find?_range_eq_some]
    exact ⟨h, by simpa using hk, fun j hj => by simp [hb j hj]⟩
  unfold idxT; rw [this]
theorem idxT_miss {ri : Nat → Int} {n : Nat} (hb : ∀ j, j < n → wrongB (ri j) = false) : idxT ri n = -1 := by
  have : (List.range n).find? (fun j => wrongB (ri j)) = none := by
    rw [List.find?_eq_none]; intro j hj; rw [hb j (by simpa using hj)]; simp
  unfold idxT; rw [this]
theorem idxT_any (ri : Nat → Int) (n : Nat) : decide (0 ≤ idxT ri n) = anyWrong ri n := by
  unfold idxT anyWrong
  cases h : (List.range n).find? (fun j => wrongB (ri j)) with
  | none =>
    rw [List.find?_eq_none] at h
    have : (List.range n).any (fun j => wrongB (ri j)) = false := by rw [List.any_eq_false]; exact h
    rw [this]; rfl
  | some j =>
    have hm := List.mem_of_find?_eq_some h
    have hp := List.find?_some h
    have : (List.range n).any (fun j => wrongB (ri j)) = true := List.any_eq_true.2 ⟨j, hm, hp⟩
    rw [this]; simp

theorem wrong_any (x : Int) (w : World) : Calls Try.prog 32 #[.int .i64 x] w fun e w' => e = .returned (.bool (wrongB x)) ∧ w = w' := by
  unfold wrongB
  go_enter Try.func32, Try.ntmps32
  go_wp2
  all_goals
    go_ret
    exact ⟨ret_bool (by simp [*]), rfl⟩
set_option maxHeartbeats 1000000 in
set_option maxRecDepth 100000 in
theorem index_any {w : World} {A : Option Addr} {n : Nat} {ri : Nat → Int} (h : IntsIn w A n ri) (c : Nat) (hn : n ≤ 1000000) :
    Calls Try.prog 56 #[.slice A n c, .func (.func 32) #[] #[]] w fun e w' => e = .returned (.int .i64 (idxT ri n)) ∧ w = w' := by
  have H := Lib.hid h
  clear h
  go_enter Try.func56, Try.ntmps56
  go_wp2
  go_loop [8] (fun i => ∃ k : Nat, k ≤ n ∧ i = .int .i64 k ∧ ∀ j, j < k → wrongB (ri j) = false) (fun i => n - (intOf i).toNat)
  case atStart => exact ⟨0, Nat.zero_le _, rfl, fun j hj => by omega⟩
  case round =>
    obtain ⟨k, hk, rfl, hb⟩ := hrel
    have HB := Lib.hid hb
    clear hb
    by_cases hlt : k < n
    · have hlt' : decide (k < n) = true := by simpa using hlt
      have hlt2 : (k : Int) < n := by omega
      obtain ⟨b, o, rfl, hbl, hc⟩ := H.out (by omega)
      have hcl := hc k hlt
      have HW := Lib.hid (wrong_any (ri k))
      clear hc
      cases hw : wrongB (ri k) with
      | true =>
        rw [hw] at HW
        have HI := Lib.hid (idxT_hit hlt HB.out hw)
        clear hw
        go_wp2_with (go_at_call 32; refine (HW.out _).mono ?_; rintro e w' ⟨rfl, rfl⟩)
        go_ret
        exact ⟨ret_int HI.out.symm, rfl⟩
      | false =>
        rw [hw] at HW
        have HK := Lib.hid (show ∀ j, j < k + 1 → wrongB (ri j) = false from fun j hj => by
          rcases Nat.lt_succ_iff_lt_or_eq.1 hj with h | rfl
          · exact HB.out j h
          · exact hw)
        clear hw
        go_wp2_with (go_at_call 32; refine (HW.out _).mono ?_; rintro e w' ⟨rfl, rfl⟩)
        go_round
        case rel => exact ⟨k + 1, hlt, by go_num, HK.out⟩
        case measure => simp [intOf]; omega
    · obtain rfl : k = n := by omega
      have hlt' : decide (k < k) = false := by simp
      have HI := Lib.hid (idxT_miss HB.out)
      go_wp2
      go_ret
      exact ⟨ret_int HI.out.symm, rfl⟩
theorem contains_any {w : World} {A : Option Addr} {n : Nat} {ri : Nat → Int} (h : IntsIn w A n ri) (c : Nat) (hn : n ≤ 1000000) :
    Calls Try.prog 33 #[.slice A n c, .func (.func 32) #[] #[]] w fun e w' => e = .returned (.bool (anyWrong ri n)) ∧ w = w' := by
  rw [← idxT_any]
  have H := Lib.hid h
  clear h
  go_enter Try.func33, Try.ntmps33
  go_wp2_with (go_at_call 56; refine (index_any H.out c hn).mono ?_; rintro e w' ⟨rfl, rfl⟩)
  go_ret
  exact ⟨rfl, rfl⟩

theorem Try.inInt : (Try.prog.info? 3).map (fun i => (i.zero, i.size, i.bytes)) = some (some (.int .i64 0), 1, 8) := by kernel_rfl
theorem Try.inU8 : (Try.prog.info? 5).map (fun i => (i.zero, i.size, i.bytes)) = some (some (.int .u8 0), 1, 1) := by kernel_rfl
def CloneOut8 (t : TypeId) (n : Nat) (cs : List Value) (w : World) (e : Ending) (w' : World) : Prop := ∃ v', e = .returned v' ∧ w'.ownsRow w.heap.size t 1 v' n cs ∧ Below w.heap.size w w'
set_option maxHeartbeats 1000000 in
set_option maxRecDepth 100000 in
theorem cloneI_some {w : World} (ad : Addr) (n c : Nat) (cs : List Value) (hn : cs.length = n) (hc : (∀ (j : Nat) (v : Value), cs[j]? = some v → w.cell? (ad.add j) = some v) ∧ ∀ v ∈ cs, v.oneCell' = true) (hb : n ≤ 1000000) :
    Calls Try.prog 30 #[.slice (some ad) n c] w (CloneOut8 3 n cs w) := by
  obtain ⟨i0, hi, hz0, hz1, hz2⟩ := info_parts Try.inInt
  have q22 : ∀ (w : World) (a : Option Addr) (n c n' c' : Nat), (binOp .eql 24 (.slice a n c) (.slice none n' c')).run Try.prog w = .ok (.bool a.isNone) w := fun w a n c n' c' => Lib.run_eql_slice_nil w _ _ a n c n' c' Try.underlying24
  have HC := Lib.hid hc
  have HN := Lib.hid hn
  clear hc hn
  go_enter Try.func30, Try.ntmps30
  go_wp2_with (at_builtin; refine wpList_append_own _ rfl _ _ 24 rfl w.heap.size 3 i0 (.int .i64 0) 1 8 Try.underlying24 hi hz0 hz1 hz2 rfl (by decide) _ _ _ rfl (World.ownsRow_made w #[] 0 (Nat.le_refl _) (Nat.zero_le _) rfl) ad n c cs rfl ?qc1 ?qc2 ?qc3 ?qc4 ?qc5 ?qc6 ?_)
  case qc1 => rw [HN.out, Nat.mul_one]
  case qc2 =>
    intro j u hj
    exact Lib.cell?_alloc_some _ (HC.out.1 j u hj)
  case qc3 => exact HC.out.2
  case qc4 => unfold maxLen; omega
  case qc5 => omega
  case qc6 => simp
  intro v' w1 hown hgrow hnil
  go_wp2
  go_ret
  exact ⟨v', rfl, by simpa using hown, ((Below.refl _ w).alloc (Nat.le_refl _) _).grown hgrow (by simp) (by intro k hk; simp [Value.ownBlock] at hk; omega)⟩
set_option maxHeartbeats 1000000 in
theorem cloneI_none {w : World} (n c : Nat) : Calls Try.prog 30 #[.slice none n c] w fun e w' => e = .returned (.slice none 0 0) ∧ w = w' := by
  have q22 : ∀ (w : World) (a : Option Addr) (n c n' c' : Nat), (binOp .eql 24 (.slice a n c) (.slice none n' c')).run Try.prog w = .ok (.bool a.isNone) w := fun w a n c n' c' => Lib.run_eql_slice_nil w _ _ a n c n' c' Try.underlying24
  go_enter Try.func30, Try.ntmps30
  go_wp2
  go_ret
  exact ⟨rfl, rfl⟩
def CloneOut9 (t : TypeId) (n : Nat) (cs : List Value) (w : World) (e : Ending) (w' : World) : Prop := ∃ v', e = .returned v' ∧ w'.ownsRow w.heap.size t 1 v' n cs ∧ v' ≠ .slice none 0 0 ∧ Below w.heap.size w w'
set_option maxHeartbeats 1000000 in
set_option maxRecDepth 100000 in
theorem cloneB_some {w : World} (b off n c : Nat) (cs : List Value) (hn : cs.length = n) (hc : (∀ (j : Nat) (v : Value), cs[j]? = some v → w.cell? ⟨b, off + j, none⟩ = some v) ∧ ∀ v ∈ cs, v.oneCell' = true) (hb : n ≤ 1000000) :
    Calls Try.prog 29 #[.slice (some ⟨b, off, none⟩) n c] w (CloneOut9 5 n cs w) := by
  obtain ⟨i0, hi, hz0, hz1, hz2⟩ := info_parts Try.inU8
  have q22 : ∀ (w : World) (a : Option Addr) (n c n' c' : Nat), (binOp .eql 23 (.slice a n c) (.slice none n' c')).run Try.prog w = .ok (.bool a.isNone) w := fun w a n c n' c' => Lib.run_eql_slice_nil w _ _ a n c n' c' Try.underlying23
  have HC := Lib.hid hc
  have HN := Lib.hid hn
  clear hc hn
  go_enter Try.func29, Try.ntmps29
  go_wp2_with (at_builtin; refine wpList_append_own _ rfl _ _ 23 rfl w.heap.size 5 i0 (.int .u8 0) 1 1 Try.underlying23 hi hz0 hz1 hz2 rfl (by decide) _ _ _ rfl (World.ownsRow_made w #[] 0 (Nat.le_refl _) (Nat.zero_le _) rfl) ⟨b, off, none⟩ n c cs rfl ?qc1 ?qc2 ?qc3 ?qc4 ?qc5 ?qc6 ?_)
  case qc1 => rw [HN.out, Nat.mul_one]
  case qc2 =>
    intro j u hj
    rw [Addr.add_lit]
    exact Lib.cell?_alloc_some _ (HC.out.1 j u hj)
  case qc3 => exact HC.out.2
  case qc4 => unfold maxLen; omega
  case qc5 => omega
  case qc6 => simp
  intro v' w1 hown hgrow hnil
  go_wp2
  go_ret
  exact ⟨v', rfl, by simpa using hown, hnil, ((Below.refl _ w).alloc (Nat.le_refl _) _).grown hgrow (by simp) (by intro k hk; simp [Value.ownBlock] at hk; omega)⟩
end Go.Proofs.Ytknepljmbpdpkaa
