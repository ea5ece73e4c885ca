/- bits.OnesCount64; Taken. -/
import Derived.Test.YtgpdkfmneoggkaaExM
namespace Go.Proofs.Ytgpdkfmneoggkaa
open Go.RowKit
attribute [local go_sem] Oper.semAt_some

/-! ### bits.OnesCount64, as it is written -/
def ocA (v : Int) : Int := IntKind.u64.wrap (bits .and .u64 (v / 2) 6148914691236517205 + bits .and .u64 v 6148914691236517205)
def ocB (v : Int) : Int := IntKind.u64.wrap (bits .and .u64 (v / 4) 3689348814741910323 + bits .and .u64 v 3689348814741910323)
def ocC (v : Int) : Int := bits .and .u64 (IntKind.u64.wrap (v / 16 + v)) 1085102592571150095
def ocD (v : Int) : Int := IntKind.u64.wrap (v + v / 256)
def ocE (v : Int) : Int := IntKind.u64.wrap (v + v / 65536)
def ocF (v : Int) : Int := IntKind.u64.wrap (v + v / 4294967296)
def oc64 (v : Int) : Int := bits .and .i64 (wrap64 (ocF (ocE (ocD (ocC (ocB (ocA v))))))) 127
theorem oc64_any (v : Int) (w : World) : Calls Try.prog 59 #[.int .u64 v] w fun e w' => e = .returned (.int .i64 (oc64 v)) ∧ w = w' := by
  go_enter Try.func59, Try.ntmps59
  go_wp2
  go_ret
  exact ⟨rfl, rfl⟩

/-! ### Taken -/
def wordsL (p : Pt) : List Value := (List.range 64).map fun k => .int .u64 (p.wd k : Int)
theorem wordsL_len (p : Pt) : (wordsL p).length = 64 := by simp [wordsL]
theorem wordsL_get (p : Pt) {k : Nat} (hk : k < 64) : (wordsL p)[k]? = some (.int .u64 (p.wd k : Int)) := by
  unfold wordsL
  rw [List.getElem?_map, List.getElem?_range hk]
  rfl
theorem Try.uWords : ∃ D, Try.prog.underlying 65 = some D ∧ D.isRow = true := ⟨_, Try.underlying65, rfl⟩
theorem Try.sWords : (Try.prog.info? 65).map (·.size) = some 64 := by kernel_rfl
theorem words_at {w : World} {b o : Nat} {p : Pt} (h : w.rangeAt b o (ptL p)) : w.rangeAt b (o + 2) (wordsL p) := by
  intro j v hv
  have hj : j < 64 := by have := (List.getElem?_eq_some_iff.1 hv).1; rwa [wordsL_len] at this
  rw [wordsL_get p hj] at hv
  cases hv
  exact pt_cw h hj
theorem index_words (p : Pt) (j : Nat) (hj : j < 64) (w : World) : (Instr.index 65 (.agg (wordsL p).toArray) (.int .i64 (j : Int))).run Try.prog w = .ok (.int .u64 (p.wd j : Int)) w := by
  have hi : (0 : Int) ≤ (j : Int) ∧ (j : Int) < 64 := by omega
  have hs : (wordsL p).toArray[j]? = some (.int .u64 (p.wd j : Int)) := by rw [List.getElem?_toArray]; exact wordsL_get p hj
  simp [Instr.index, run_underlying Try.underlying65, asIntOf, hi, go_sem]
  rw [if_pos hj, wordsL_get p hj]
  rfl
def takenN (p : Pt) : Nat → Int
  | 0 => 0
  | k + 1 => wrap64 (takenN p k + oc64 (p.wd k : Int))
section
variable {w : World} {x d : Nat} {s : Xt}
theorem xtaken_out (h : ExIs w x d s) (a : Int) (ha : a < 0 ∨ (s.n : Int) ≤ a) : Calls Try.prog 18 #[.pointer (some ⟨x, 0, none⟩), .int .i64 a] w fun e w' => e = .returned (.int .i64 0) ∧ w = w' := by
  have H := Lib.hid h
  clear h
  go_enter Try.func18, Try.ntmps18
  go_wp2_with (go_at_call 51; refine (of_out H.out a ha).mono ?_; rintro e w' ⟨rfl, rfl⟩)
  go_ret
  exact ⟨rfl, rfl⟩
set_option maxHeartbeats 1000000 in
set_option maxRecDepth 100000 in
theorem xtaken_yes (h : ExIs w x d s) (a : Nat) (ha : a < s.n) : Calls Try.prog 18 #[.pointer (some ⟨x, 0, none⟩), .int .i64 (a : Int)] w fun e w' => e = .returned (.int .i64 (takenN (s.pt a) 64)) ∧ w = w' := by
  have hn := h.n8
  have H := Lib.hid h
  have HW := Lib.hid (words_at (h.part (a := a) (by omega)))
  obtain ⟨p, hp⟩ : ∃ p, s.pt a = p := ⟨_, rfl⟩
  rw [hp] at HW ⊢
  obtain ⟨D, hD1, hD2⟩ := Try.uWords
  have HD1 := Lib.hid hD1
  have HD2 := Lib.hid hD2
  clear h hp hD1 hD2
  go_enter Try.func18, Try.ntmps18
  go_wp2_with (first
    | (go_at_call 51; refine (of_yes H.out a ha).mono ?_; rintro e w' ⟨rfl, rfl⟩)
    | (refine wpList_load_mid rfl 65 _ rfl x (2 + a * 66 + 2) rfl (wordsL p) D HW.out HD1.out HD2.out (by rw [wordsL_len]; exact Try.sWords) ?_))
  go_loopg [7, 9, 22] 64 (fun g t i9 i W => ∃ k : Nat, k + g = 64 ∧ t = .int .i64 (takenN p k) ∧ i = .int .i64 (k : Int) ∧ W = w)
  case atStart => exact ⟨0, by omega, rfl, rfl, rfl⟩
  case round =>
    obtain ⟨k, hk, rfl, rfl, rfl⟩ := hrel
    by_cases hlt : k < 64
    · have hlt' : (k : Int) < 64 := by omega
      have hix := index_words p k hlt
      obtain ⟨t, ht⟩ : ∃ t, takenN p k = t := ⟨_, rfl⟩
      have HT := Lib.hid (show takenN p (k + 1) = wrap64 (t + oc64 (p.wd k : Int)) by rw [← ht]; rfl)
      rw [ht]
      clear ht
      go_wp2_with (go_at_call 59; refine (oc64_any _ _).mono ?_; rintro e w' ⟨rfl, rfl⟩)
      go_roundg (64 - (k + 1))
      case measure => omega
      case rel => exact ⟨k + 1, by omega, by rw [HT.out], by go_num, rfl⟩
    · obtain rfl : k = 64 := by omega
      go_wp2
      go_ret
      exact ⟨rfl, rfl⟩
end
end Go.Proofs.Ytgpdkfmneoggkaa
