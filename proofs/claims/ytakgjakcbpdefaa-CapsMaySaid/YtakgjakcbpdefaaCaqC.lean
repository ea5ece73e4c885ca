/- The document's mine, Over and May. -/
import Derived.Test.YtakgjakcbpdefaaCaqB
namespace Go.Proofs.Ytakgjakcbpdefaa
open Go.RowKit

section
variable {w : World} {B q : Nat} {T : Tab}
theorem qfind_no (h : QAt w B q T) (hok : TabOk T) (hl : T.caps.length ≤ 1000) (id : Int) (hf : findC T.caps id = none) :
    Calls Try.prog 54 #[.pointer (some ⟨q, 0, none⟩), .int .i64 id] w fun e w' => e = .returned (.int .i64 (-1)) ∧ w = w' := by
  refine (qfind_any h hok hl id).mono ?_
  rintro e w' ⟨⟨r, rfl, hr⟩, rfl⟩
  rcases hr with ⟨i, c, -, -, h2⟩ | ⟨rfl, -⟩
  · rw [hf] at h2; cases h2
  · exact ⟨rfl, rfl⟩
theorem qfind_yes (h : QAt w B q T) (hok : TabOk T) (hl : T.caps.length ≤ 1000) (id : Int) {c : Cap} (hf : findC T.caps id = some c) :
    Calls Try.prog 54 #[.pointer (some ⟨q, 0, none⟩), .int .i64 id] w fun e w' => (∃ i : Nat, e = .returned (.int .i64 (i : Int)) ∧ T.caps[i]? = some c) ∧ w = w' := by
  refine (qfind_any h hok hl id).mono ?_
  rintro e w' ⟨⟨r, rfl, hr⟩, rfl⟩
  rcases hr with ⟨i, d, rfl, h1, h2⟩ | ⟨-, h2⟩
  · rw [hf] at h2; cases h2; exact ⟨⟨i, rfl, h1⟩, rfl⟩
  · rw [hf] at h2; cases h2
def mineB (S : List Cap) (a id : Int) : Bool := match findC S id with
  | some c => c.account == a
  | none => false
set_option maxRecDepth 100000 in
theorem qmine_any (h : QAt w B q T) (hok : TabOk T) (hl : T.caps.length ≤ 1000) (a id : Int) :
    Calls Try.prog 53 #[.pointer (some ⟨q, 0, none⟩), .int .i64 a, .int .i64 id] w fun e w' => e = .returned (.bool (mineB T.caps a id)) ∧ w = w' := by
  cases hf : findC T.caps id with
  | none =>
    rw [show mineB T.caps a id = false from by unfold mineB; rw [hf]]
    have HF := Lib.hid (qfind_no h hok hl id hf)
    clear h hok hl hf
    go_enter Try.func53, Try.ntmps53
    go_wp2_with (go_at_call 54; refine HF.out.mono ?_; rintro e w' ⟨rfl, rfl⟩)
    go_ret
    exact ⟨rfl, rfl⟩
  | some c =>
    rw [show mineB T.caps a id = (c.account == a) from by unfold mineB; rw [hf]]
    have HF := Lib.hid (qfind_yes h hok hl id hf)
    obtain ⟨A, cp, -, -, hcs, c0, -, -, -⟩ := h.out
    have HC := Lib.hid hcs
    have HL := Lib.hid hl
    obtain ⟨n, hn⟩ : ∃ n, T.caps.length = n := ⟨_, rfl⟩
    rw [hn] at c0
    have HN := Lib.hid hn
    clear h hok hl hf hcs hn
    go_enter Try.func53, Try.ntmps53
    go_wp2_with (go_at_call 54; refine HF.out.mono ?_; rintro e w' ⟨⟨i, rfl, hx⟩, rfl⟩; obtain ⟨g, rfl, hg, hc⟩ := HC.out i c hx; have k2 := hc 2 (by omega); have hin : (i : Int) < (n : Int) := (by have := (List.getElem?_eq_some_iff.1 hx).1; rw [HN.out] at this; omega); have hin' : i < n := (by omega); simp only [capL] at k2; simp at k2; clear hc hx)
    go_ret
    exact ⟨rfl, rfl⟩
theorem over_self (S : List Cap) (a : Int) : overB S a a = true := by unfold overB; simp
theorem over_none {S : List Cap} (hp : Par S) {a b : Int} (h1 : 1 ≤ a) (hne : b ≠ a) (h : findC S b = none) : overB S a b = false := by
  unfold overB
  rw [isUnder_miss hp h1 h]
  simp; omega
theorem over_step (hok : TabOk T) {a b : Int} (h1 : 1 ≤ a) (hne : b ≠ a) {c : Cap} (h : findC T.caps b = some c) : overB T.caps a b = overB T.caps a c.parent := by
  have hp := hok.par
  unfold overB
  rw [isUnder_step hp a b, get_mem h]
  have e1 : (a == b) = false := by simp; omega
  rw [e1, Bool.false_or]
  by_cases h0 : c.parent = 0
  · have hn : findC T.caps 0 = none := find_none fun d hd => by have := (hok.ok d hd).i1; omega
    have e3 : ((0 : Int) == a) = false := by simp; omega
    have e4 : (a == (0 : Int)) = false := by simp; omega
    rw [h0, isUnder_miss hp h1 hn, e3, e4]
    rfl
  · have e2 : (c.parent == 0) = false := by simpa using h0
    rw [e2]
    simp [eq_comm, Bool.beq_comm]
set_option maxHeartbeats 2000000 in
set_option maxRecDepth 100000 in
theorem qover_any (h : QAt w B q T) (hok : TabOk T) (hl : T.caps.length ≤ 1000) (a b : Int) (ha : 1 ≤ a) :
    Calls Try.prog 36 #[.pointer (some ⟨q, 0, none⟩), .int .i64 a, .int .i64 b] w fun e w' => e = .returned (.bool (overB T.caps a b)) ∧ w = w' := by
  have H := Lib.hid h
  have HK := Lib.hid hok
  have HL := Lib.hid hl
  obtain ⟨A, cp, -, -, hcs, c0, -, -, -⟩ := h.out
  have HC := Lib.hid hcs
  obtain ⟨n, hn⟩ : ∃ n, T.caps.length = n := ⟨_, rfl⟩
  rw [hn] at c0
  have HN := Lib.hid hn
  have HA := Lib.hid ha
  clear h hok hl hcs hn ha
  go_enter Try.func36, Try.ntmps36
  go_wp2
  go_loopw [2, 7] (fun v i W => ∃ b' : Int, v = .int .i64 b' ∧ overB T.caps a b' = overB T.caps a b ∧ w = W) (fun v _ _ => (intOf v).toNat)
  case atStart => exact ⟨b, rfl, rfl, rfl⟩
  case round =>
    obtain ⟨b', rfl, hov, rfl⟩ := hrel
    have HO := Lib.hid hov
    clear hov
    by_cases he : b' = a
    · have hd : (b' != a) = false := by simp [he]
      have HR := Lib.hid (show overB T.caps a b = true by rw [← HO.out, he, over_self])
      clear he
      go_wp2_with fail
      all_goals
        go_ret
        rw [HR.out]
        exact ⟨rfl, rfl⟩
    · have hd : (b' != a) = true := by simp [he]
      cases hf : findC T.caps b' with
      | none =>
        have HF := Lib.hid (qfind_no H.out HK.out HL.out b' hf)
        have HR := Lib.hid (show overB T.caps a b = false by rw [← HO.out]; exact over_none HK.out.par HA.out he hf)
        clear hf he
        go_wp2_with (go_at_call 54; refine HF.out.mono ?_; rintro e w' ⟨rfl, rfl⟩)
        all_goals
          go_ret
          rw [HR.out]
          exact ⟨rfl, rfl⟩
      | some c =>
        have HF := Lib.hid (qfind_yes H.out HK.out HL.out b' hf)
        have HR := Lib.hid (show overB T.caps a c.parent = overB T.caps a b by rw [← HO.out]; exact (over_step HK.out HA.out he hf).symm)
        have HM := Lib.hid (show 1 ≤ b' ∧ 0 ≤ c.parent ∧ c.parent < b' from by
          obtain ⟨hm, e⟩ := find_mem hf
          have := HK.out.ok c hm
          exact ⟨by rw [← e]; exact this.i1, this.p0, by rw [← e]; exact this.p1⟩)
        clear hf he
        go_wp2_with (go_at_call 54; refine HF.out.mono ?_; rintro e w' ⟨⟨i, rfl, hx⟩, rfl⟩; obtain ⟨g, rfl, hg, hc⟩ := HC.out i c hx; have k1 := hc 1 (by omega); have hin : (i : Int) < (n : Int) := (by have := (List.getElem?_eq_some_iff.1 hx).1; rw [HN.out] at this; omega); have hin' : i < n := (by omega); simp only [capL] at k1; simp at k1; clear hc hx)
        go_roundw
        case rel => exact ⟨_, rfl, HR.out, by first | trivial | rfl⟩
        case measure => have := HM.out; simp [intOf]; omega
end
end Go.Proofs.Ytakgjakcbpdefaa
