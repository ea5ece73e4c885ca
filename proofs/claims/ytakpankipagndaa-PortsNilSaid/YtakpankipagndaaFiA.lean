/- Tests in memory; Check. -/
import Derived.Test.YtakpankipagndaaDkA
import Derived.Test.YtakpankipagndaaFiMath
import Derived.WalkKit
import Derived.OpenShut
import Derived.StillTailTactics
import Derived.BigRegion
import Derived.BigQuiet
import Derived.Deep.QuietTactic
import Derived.Lib.Hide
import Derived.Below
import Derived.WalkSpells
import Derived.Lib.SliceRun
import Derived.Deep.LoopGhost
namespace Go.Proofs.Ytakpankipagndaa
open Go.RowKit

theorem ret_int {k : IntKind} {a b : Int} (h : a = b) : Ending.returned (.int k a) = .returned (.int k b) := by rw [h]
theorem ret_bool {a b : Bool} (h : a = b) : Ending.returned (.bool a) = .returned (.bool b) := by rw [h]
def tsL (t : Ts) : List Value := [.int .i64 t.p, .int .i64 t.m, .int .i64 t.v]
/-- Tests that stand behind an address. -/
def TsIn (w : World) (A : Option Addr) (L : List Ts) : Prop := ∀ (i : Nat) (t : Ts), L[i]? = some t → ∃ b o, A = some ⟨b, o, none⟩ ∧ b < w.heap.size ∧ w.cell? ⟨b, o + i * 3, none⟩ = some (.int .i64 t.p) ∧ w.cell? ⟨b, o + i * 3 + 1, none⟩ = some (.int .i64 t.m) ∧ w.cell? ⟨b, o + i * 3 + 2, none⟩ = some (.int .i64 t.v)
theorem TsIn.below {w w' : World} {A : Option Addr} {L : List Ts} (h : TsIn w A L) (hb : Below w.heap.size w w') : TsIn w' A L := fun i t ht => by
  obtain ⟨b, o, e, l, c0, c1, c2⟩ := h i t ht
  exact ⟨b, o, e, Nat.lt_of_lt_of_le l hb.size, (hb.cell (p := ⟨b, _, none⟩) l).trans c0, (hb.cell (p := ⟨b, _, none⟩) l).trans c1, (hb.cell (p := ⟨b, _, none⟩) l).trans c2⟩
theorem TsIn.nil (w : World) (A : Option Addr) : TsIn w A [] := fun i t h => by simp at h
/-- A packet that stands behind an address. -/
def PkIn (w : World) (A : Option Addr) (P : List Nat) : Prop := ∀ (i x : Nat), P[i]? = some x → x < 256 ∧ ∃ b o, A = some ⟨b, o, none⟩ ∧ b < w.heap.size ∧ w.cell? ⟨b, o + i, none⟩ = some (.int .u8 x)
theorem PkIn.below {w w' : World} {A : Option Addr} {P : List Nat} (h : PkIn w A P) (hb : Below w.heap.size w w') : PkIn w' A P := fun i x hx => by
  obtain ⟨l8, b, o, e, l, c⟩ := h i x hx
  exact ⟨l8, b, o, e, Nat.lt_of_lt_of_le l hb.size, (hb.cell (p := ⟨b, _, none⟩) l).trans c⟩
theorem PkIn.nil (w : World) (A : Option Addr) : PkIn w A [] := fun i x h => by simp at h

set_option maxHeartbeats 1000000 in
theorem check1_any (p m v : Int) (w : World) : Calls Try.prog 68 #[.agg #[.int .i64 p, .int .i64 m, .int .i64 v]] w fun e w' => e = .returned (.bool (wrongT ⟨p, m, v⟩)) ∧ Below w.heap.size w w' := by
  unfold wrongT
  simp only
  go_enter Try.func68, Try.ntmps68
  go_wp2
  all_goals
    go_ret
    exact ⟨ret_bool (by simp [*]), (Below.refl _ w).alloc (Nat.le_refl _) _⟩
theorem any_false_of {L : List Ts} {q : Ts → Bool} (h : ∀ j, j < L.length → ∀ t, L[j]? = some t → q t = false) : L.any q = false := by
  rw [List.any_eq_false]
  intro t ht
  obtain ⟨j, hj, e⟩ := List.getElem_of_mem ht
  rw [h j hj t (by rw [List.getElem?_eq_getElem hj, e])]; simp
theorem any_true_of {L : List Ts} {q : Ts → Bool} {k : Nat} {t : Ts} (h : L[k]? = some t) (hq : q t = true) : L.any q = true := List.any_eq_true.2 ⟨t, List.mem_of_getElem? h, hq⟩
def IdxOut (b : Bool) (w : World) (e : Ending) (w' : World) : Prop := ∃ z : Int, e = .returned (.int .i64 z) ∧ decide (0 ≤ z) = b ∧ Below w.heap.size w w'
set_option maxHeartbeats 1000000 in
set_option maxRecDepth 100000 in
theorem index_check {w : World} {A : Option Addr} {L : List Ts} (h : TsIn w A L) (n c : Nat) (hn : L.length = n) (hn2 : (n : Int) ≤ 9223372036854775807) :
    Calls Try.prog 72 #[.slice A n c, .func (.func 68) #[] #[]] w (IdxOut (L.any wrongT) w) := by
  have H := Lib.hid h
  have HN := Lib.hid hn
  clear h hn
  go_enter Try.func72, Try.ntmps72
  go_wp2
  go_loopg [8] n (fun g i W => ∃ k : Nat, k + g = n ∧ i = .int .i64 (k : Int) ∧ (∀ j, j < k → ∀ t, L[j]? = some t → wrongT t = false) ∧ Below w.heap.size w W)
  case atStart => exact ⟨0, by omega, rfl, fun j hj => by omega, Below.refl _ w⟩
  case round =>
    obtain ⟨k, hk, rfl, hb, hB⟩ := hrel
    have HB := Lib.hid hb
    have HW := Lib.hid hB
    clear hb hB
    by_cases hlt : k < n
    · have hlt2 : (k : Int) < n := by omega
      obtain ⟨t, ht⟩ : ∃ t, L[k]? = some t := ⟨_, List.getElem?_eq_getElem (by rw [HN.out]; exact hlt)⟩
      obtain ⟨b, o, rfl, hbl, c0, c1, c2⟩ := (H.out.below HW.out) k t ht
      have HT := Lib.hid ht
      have HC := Lib.hid (check1_any t.p t.m t.v)
      clear ht hbl
      cases hw : wrongT t with
      | true =>
        have HWT := Lib.hid hw
        clear hw
        go_wp2_with (go_at_call 68; refine (HC.out _).mono ?_; rintro e w' ⟨rfl, hb⟩; rw [show wrongT ⟨t.p, t.m, t.v⟩ = true from HWT.out])
        go_ret
        exact ⟨k, ret_int rfl, by rw [any_true_of HT.out HWT.out]; simp, HW.out.trans (hb.mono HW.out.size)⟩
      | false =>
        have HWT := Lib.hid hw
        clear hw
        go_wp2_with (go_at_call 68; refine (HC.out _).mono ?_; rintro e w' ⟨rfl, hb⟩; rw [show wrongT ⟨t.p, t.m, t.v⟩ = false from HWT.out])
        go_roundg (n - (k + 1))
        case measure => omega
        case rel =>
          refine ⟨k + 1, by omega, by go_num, fun j hj u hu => ?_, HW.out.trans (hb.mono HW.out.size)⟩
          rcases Nat.lt_succ_iff_lt_or_eq.1 hj with h | rfl
          · exact HB.out j h u hu
          · have e := hu.symm.trans HT.out
            cases e
            exact HWT.out
    · obtain rfl : k = n := by omega
      have hlt2 : ¬ (k : Int) < (k : Int) := by omega
      go_wp2
      go_ret
      exact ⟨-1, ret_int rfl, by rw [any_false_of fun j hj => HB.out j (by rw [← HN.out]; exact hj)]; decide, HW.out⟩
theorem contains_check {w : World} {A : Option Addr} {L : List Ts} (h : TsIn w A L) (n c : Nat) (hn : L.length = n) (hn2 : (n : Int) ≤ 9223372036854775807) :
    Calls Try.prog 69 #[.slice A n c, .func (.func 68) #[] #[]] w fun e w' => e = .returned (.bool (L.any wrongT)) ∧ Below w.heap.size w w' := by
  have H := Lib.hid h
  have HN := Lib.hid hn
  clear h hn
  go_enter Try.func69, Try.ntmps69
  go_wp2_with (go_at_call 72; refine (index_check H.out n c HN.out hn2).mono ?_; rintro e w' ⟨z, rfl, hz, hb⟩; have HZ := Lib.hid hz; clear hz)
  go_ret
  exact ⟨ret_bool (by simpa using HZ.out), hb⟩
def checkE (L : List Ts) : Int := if mayF L then 0 else 2
set_option maxHeartbeats 1000000 in
theorem check_any {w : World} {A : Option Addr} {L : List Ts} (h : TsIn w A L) (n c : Nat) (hn : L.length = n) (hn2 : (n : Int) ≤ 9223372036854775807) :
    Calls Try.prog 51 #[.slice A n c] w fun e w' => e = .returned (.int .i64 (checkE L)) ∧ Below w.heap.size w w' := by
  have H := Lib.hid h
  have HN := Lib.hid hn
  clear h hn
  unfold checkE mayF
  rw [HN.out]
  by_cases h8 : n ≤ 8
  · have h8' : ¬ (8 : Int) < n := by omega
    have HC := Lib.hid (contains_check H.out n c HN.out hn2)
    cases hq : L.any wrongT with
    | true =>
      rw [hq] at HC
      clear hq
      go_enter Try.func51, Try.ntmps51
      go_wp2_with (go_at_call 69; refine HC.out.mono ?_; rintro e w' ⟨rfl, hb⟩)
      all_goals
        go_ret
        exact ⟨ret_int (by simp), hb⟩
    | false =>
      rw [hq] at HC
      clear hq
      go_enter Try.func51, Try.ntmps51
      go_wp2_with (go_at_call 69; refine HC.out.mono ?_; rintro e w' ⟨rfl, hb⟩)
      all_goals
        go_ret
        exact ⟨ret_int (by simp [h8]), hb⟩
  · have h8' : (8 : Int) < n := by omega
    go_enter Try.func51, Try.ntmps51
    go_wp2
    all_goals
      go_ret
      exact ⟨ret_int (by simp [h8]), Below.refl _ w⟩
end Go.Proofs.Ytakpankipagndaa
