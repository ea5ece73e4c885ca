/- The document's small functions: account, rights, subset, Find, Made, mine. -/
import Derived.Test.YtakgjakcbpdefaaCaqA
namespace Go.Proofs.Ytakgjakcbpdefaa
open Go.RowKit

theorem qaccount_any (a : Int) (w : World) : Calls Try.prog 51 #[.int .i64 a] w fun e w' => e = .returned (.bool (accB a)) ∧ w = w' := by
  by_cases h1 : 0 ≤ a
  · have e : accB a = decide (a < 8) := by unfold accB; simp [h1]
    rw [e]; clear e
    go_enter Try.func51, Try.ntmps51
    go_wp2_with fail
    go_ret
    exact ⟨rfl, rfl⟩
  · have e : accB a = false := by unfold accB; simp [h1]
    rw [e]; clear e
    go_enter Try.func51, Try.ntmps51
    go_wp2_with fail
    go_ret
    exact ⟨rfl, rfl⟩
theorem qrights_any (a : Int) (w : World) : Calls Try.prog 38 #[.int .i64 a] w fun e w' => e = .returned (.bool (rightsB a)) ∧ w = w' := by
  by_cases h1 : 0 < a
  · have e : rightsB a = decide (a ≤ 15) := by unfold rightsB; simp [h1]
    have h2 : 1 ≤ a := by omega
    rw [e]; clear e h1
    go_enter Try.func38, Try.ntmps38
    go_wp2_with fail
    go_ret
    exact ⟨rfl, rfl⟩
  · have e : rightsB a = false := by unfold rightsB; simp [h1]
    have h2 : ¬ 1 ≤ a := by omega
    rw [e]; clear e h1
    go_enter Try.func38, Try.ntmps38
    go_wp2_with fail
    go_ret
    exact ⟨rfl, rfl⟩
theorem qsubset_any (a b : Int) (w : World) : Calls Try.prog 39 #[.int .i64 a, .int .i64 b] w fun e w' => e = .returned (.bool (bits .and .i64 a b == a)) ∧ w = w' := by
  go_enter Try.func39, Try.ntmps39
  go_wp2_with fail
  go_ret
  exact ⟨rfl, rfl⟩

/-- Where one is. -/
def FindR (S : List Cap) (id r : Int) : Prop := (∃ (i : Nat) (c : Cap), r = (i : Int) ∧ S[i]? = some c ∧ findC S id = some c) ∨ (r = -1 ∧ findC S id = none)
set_option maxHeartbeats 2000000 in
set_option maxRecDepth 100000 in
theorem qfind_any {w : World} {B q : Nat} {T : Tab} (h : QAt w B q T) (hok : TabOk T) (hl : T.caps.length ≤ 1000) (id : Int) :
    Calls Try.prog 54 #[.pointer (some ⟨q, 0, none⟩), .int .i64 id] w fun e w' => (∃ r, e = .returned (.int .i64 r) ∧ FindR T.caps id r) ∧ w = w' := by
  obtain ⟨A, c, -, -, hcs, c0, -, -, -⟩ := h.out
  have HC := Lib.hid hcs
  have HU := Lib.hid hok.up
  obtain ⟨n, hn⟩ : ∃ n, T.caps.length = n := ⟨_, rfl⟩
  rw [hn] at c0 hl
  have HN := Lib.hid hn
  clear h hok hcs hn
  go_enter Try.func54, Try.ntmps54
  go_wp2
  go_loopg [5] n (fun g i W => ∃ k : Nat, k + g = n ∧ i = .int .i64 (k : Int) ∧ w = W ∧ ∀ j x, j < k → T.caps[j]? = some x → x.id ≠ id)
  case atStart => exact ⟨0, by omega, rfl, rfl, fun j x hj => by omega⟩
  case round =>
    obtain ⟨k, hk, rfl, rfl, hno⟩ := hrel
    have HNO := Lib.hid hno
    clear hno
    by_cases hlt : k < n
    · have hlt2 : (k : Int) < n := by omega
      obtain ⟨x, hx⟩ : ∃ x, T.caps[k]? = some x := ⟨_, List.getElem?_eq_getElem (by rw [HN.out]; exact hlt)⟩
      obtain ⟨g, rfl, hg, hc⟩ := HC.out k x hx
      have k0 := hc 0 (by omega)
      have HX := Lib.hid hx
      simp only [capL, Nat.add_zero] at k0
      simp at k0
      clear hc hx
      by_cases he : x.id = id
      · have hres := Lib.hid (show FindR T.caps id (k : Int) from .inl ⟨k, x, rfl, HX.out, by rw [← he]; exact find_self HU.out (List.mem_of_getElem? HX.out)⟩)
        go_wp2_with fail
        all_goals
          go_ret
          exact ⟨⟨_, rfl, hres.out⟩, rfl⟩
      · have HE := Lib.hid he
        go_wp2_with fail
        all_goals
          go_roundg (n - (k + 1))
          case measure => omega
          case rel =>
            refine ⟨k + 1, by omega, by go_num, rfl, fun j y hj hy => ?_⟩
            rcases Nat.lt_succ_iff_lt_or_eq.1 hj with h | rfl
            · exact HNO.out j y h hy
            · rw [HX.out] at hy; cases hy; exact HE.out
    · obtain rfl : n = k := by omega
      have hlt2 : ¬ (n : Int) < n := by omega
      have hres := Lib.hid (show FindR T.caps id (-1) from .inr ⟨rfl, find_none fun y hy => by
        obtain ⟨j, hj⟩ := List.getElem?_of_mem hy
        exact HNO.out j y (by rw [← HN.out]; exact (List.getElem?_eq_some_iff.1 hj).1) hj⟩)
      go_wp2_with fail
      all_goals
        go_ret
        exact ⟨⟨_, rfl, hres.out⟩, rfl⟩
def madeTo (S : List Cap) (a : Int) (k : Nat) : Nat := ((S.take k).filter (fun c => c.maker == a)).length
theorem madeTo_succ {S : List Cap} {a : Int} {k : Nat} {x : Cap} (h : S[k]? = some x) : madeTo S a (k + 1) = madeTo S a k + (if x.maker = a then 1 else 0) := by
  unfold madeTo
  rw [List.take_add_one, h, List.filter_append, List.length_append]
  congr 1
  by_cases e : x.maker = a <;> simp [e]
theorem madeTo_le (S : List Cap) (a : Int) (k : Nat) : madeTo S a k ≤ k := Nat.le_trans (List.length_filter_le _ _) (by simp; omega)
theorem madeTo_end (S : List Cap) (a : Int) : madeTo S a S.length = madeBy S a := by unfold madeTo madeBy; rw [List.take_length]
set_option maxHeartbeats 2000000 in
set_option maxRecDepth 100000 in
theorem qmade_any {w : World} {B q : Nat} {T : Tab} (h : QAt w B q T) (hl : T.caps.length ≤ 1000) (a : Int) :
    Calls Try.prog 35 #[.pointer (some ⟨q, 0, none⟩), .int .i64 a] w fun e w' => e = .returned (.int .i64 (madeBy T.caps a : Nat)) ∧ w = w' := by
  obtain ⟨A, c, -, -, hcs, c0, -, -, -⟩ := h.out
  have HC := Lib.hid hcs
  obtain ⟨n, hn⟩ : ∃ n, T.caps.length = n := ⟨_, rfl⟩
  rw [hn] at c0 hl
  have HN := Lib.hid hn
  clear h hcs hn
  go_enter Try.func35, Try.ntmps35
  go_wp2
  go_loopg [5, 6] n (fun g v i W => ∃ k : Nat, k + g = n ∧ i = .int .i64 (k : Int) ∧ v = .int .i64 (madeTo T.caps a k : Nat) ∧ w = W)
  case atStart => exact ⟨0, by omega, rfl, rfl, rfl⟩
  case round =>
    obtain ⟨k, hk, rfl, rfl, rfl⟩ := hrel
    by_cases hlt : k < n
    · have hlt2 : (k : Int) < n := by omega
      obtain ⟨x, hx⟩ : ∃ x, T.caps[k]? = some x := ⟨_, List.getElem?_eq_getElem (by rw [HN.out]; exact hlt)⟩
      obtain ⟨g, rfl, hg, hc⟩ := HC.out k x hx
      have k3 := hc 3 (by omega)
      have hs := madeTo_succ (a := a) hx
      have hle := madeTo_le T.caps a k
      simp only [capL] at k3
      simp at k3
      clear hc hx
      by_cases he : x.maker = a
      · rw [if_pos he] at hs
        have HS := Lib.hid hs
        clear hs
        go_wp2_with fail
        all_goals
          go_roundg (n - (k + 1))
          case measure => omega
          case rel => exact ⟨k + 1, by omega, by go_num, by rw [HS.out]; go_num, rfl⟩
      · rw [if_neg he] at hs
        have HS := Lib.hid hs
        clear hs
        go_wp2_with fail
        all_goals
          go_roundg (n - (k + 1))
          case measure => omega
          case rel => exact ⟨k + 1, by omega, by go_num, by rw [HS.out]; rfl, rfl⟩
    · obtain rfl : n = k := by omega
      have hlt2 : ¬ (n : Int) < n := by omega
      have HR := Lib.hid (madeTo_end T.caps a)
      rw [HN.out] at HR
      go_wp2_with fail
      all_goals
        go_ret
        rw [HR.out]
        exact ⟨rfl, rfl⟩
end Go.Proofs.Ytakgjakcbpdefaa
