/- A pool of frames in memory, and the contracts of the small functions of frames. -/
import Derived.Test.YtjbamldhoeblbaaRows
import Derived.WalkKit
import Derived.OpenShut
import Derived.StillTailTactics
import Derived.BigRegion
import Derived.BigQuiet
import Derived.Deep.QuietTactic
import Derived.Lib.Hide
import Derived.Below
namespace Go.Proofs.Ytjbamldhoeblbaa
open Go.RowKit

/-- A pool's state: of each frame whose it is and how often it is held; the bytes; the quotas. -/
structure St where
  fr : List (Int × Int)
  byt : Nat → Nat → Int
  quo : List Int

def St.own (s : St) (i : Nat) : Int := (s.fr.getD i (0, 0)).1
def St.hold (s : St) (i : Nat) : Int := (s.fr.getD i (0, 0)).2
def St.n (s : St) : Nat := s.fr.length
def St.k (s : St) : Nat := s.quo.length

/-- What is always so of a pool's state. -/
structure StOk (s : St) : Prop where
  n1 : 1 ≤ s.n
  n2 : s.n ≤ 256
  k2 : s.k ≤ 8
  h0 : ∀ i, 0 ≤ s.hold i
  h1 : ∀ i, s.hold i ≤ 65535
  b0 : ∀ i j, 0 ≤ s.byt i j
  b1 : ∀ i j, s.byt i j < 256

/-- What stands in a frame's cell. -/
def St.cv (s : St) (i j : Nat) : Value := if j = 0 then .int .i64 (s.own i) else if j = 1 then .int .i64 (s.hold i) else .int .u8 (s.byt i (j - 2))

/-- A pool in memory. -/
structure PoolAt (w : World) (p F Q c : Nat) (s : St) : Prop where
  ok : StOk s
  pool : w.heap[p]? = some (.cells #[.slice (some ⟨F, 0, none⟩) s.n s.n, .slice (some ⟨Q, 0, none⟩) s.k c] 61 (0, 0))
  row : ∃ cur t, w.heap[F]? = some (.cells cur t (0, 0)) ∧ cur.size = s.n * 258 ∧ ∀ i j, i < s.n → j < 258 → cur[i * 258 + j]? = some (s.cv i j)
  quo : ∀ a, a < s.k → w.cell? ⟨Q, a, none⟩ = some (.int .i64 (s.quo.getD a 0))
  pF : p ≠ F
  QF : Q ≠ F

theorem PoolAt.cell {w : World} {p F Q c : Nat} {s : St} (h : PoolAt w p F Q c s) (i j : Nat) (hi : i < s.n) (hj : j < 258) : w.cell? ⟨F, i * 258 + j, none⟩ = some (s.cv i j) := by
  obtain ⟨cur, t, hr, -, hc⟩ := h.row
  rw [cell_of_row _ _ _ _ _ _ hr]; exact hc i j hi hj
theorem PoolAt.own {w : World} {p F Q c : Nat} {s : St} (h : PoolAt w p F Q c s) (i : Nat) (hi : i < s.n) : w.cell? ⟨F, i * 258, none⟩ = some (.int .i64 (s.own i)) := by
  have e := h.cell i 0 hi (by omega)
  rw [Nat.add_zero] at e
  exact e
theorem PoolAt.hold {w : World} {p F Q c : Nat} {s : St} (h : PoolAt w p F Q c s) (i : Nat) (hi : i < s.n) : w.cell? ⟨F, i * 258 + 1, none⟩ = some (.int .i64 (s.hold i)) := h.cell i 1 hi (by omega)
theorem PoolAt.byt {w : World} {p F Q c : Nat} {s : St} (h : PoolAt w p F Q c s) (i j : Nat) (hi : i < s.n) (hj : j < 256) : w.cell? ⟨F, i * 258 + 2 + j, none⟩ = some (.int .u8 (s.byt i j)) := by
  have e := h.cell i (j + 2) hi (by omega)
  rw [show i * 258 + 2 + j = i * 258 + (j + 2) by omega, e]
  rfl
theorem PoolAt.fz {w : World} {p F Q c : Nat} {s : St} (h : PoolAt w p F Q c s) (o : Nat) : w.frozen? ⟨F, o, none⟩ = false := by
  obtain ⟨cur, t, hr, -⟩ := h.row
  simp [World.frozen?, hr]
theorem PoolAt.lt {w : World} {p F Q c : Nat} {s : St} (h : PoolAt w p F Q c s) : F < w.heap.size := by
  obtain ⟨cur, t, hr, -⟩ := h.row
  exact (Array.getElem?_eq_some_iff.1 hr).1

theorem PoolAt.c0 {w : World} {p F Q c : Nat} {s : St} (h : PoolAt w p F Q c s) : w.cell? ⟨p, 0, none⟩ = some (.slice (some ⟨F, 0, none⟩) s.n s.n) := by rw [cell_of_row _ _ _ _ _ _ h.pool]; rfl
theorem PoolAt.c1 {w : World} {p F Q c : Nat} {s : St} (h : PoolAt w p F Q c s) : w.cell? ⟨p, 1, none⟩ = some (.slice (some ⟨Q, 0, none⟩) s.k c) := by rw [cell_of_row _ _ _ _ _ _ h.pool]; rfl

theorem there_nil (w : World) : Calls Try.prog 38 #[.pointer none] w fun e w' => e = .returned (.bool false) ∧ w = w' := by
  go_enter Try.func38, Try.ntmps38
  go_wp2
  go_ret
  exact ⟨rfl, rfl⟩
theorem there_yes {w : World} {p F Q c : Nat} {s : St} (h : PoolAt w p F Q c s) : Calls Try.prog 38 #[.pointer (some ⟨p, 0, none⟩)] w fun e w' => e = .returned (.bool true) ∧ w = w' := by
  have hc := h.c0
  have hn : 0 < s.n := h.ok.n1
  clear h
  go_enter Try.func38, Try.ntmps38
  go_wp2
  go_ret
  exact ⟨rfl, rfl⟩
theorem has_yes {w : World} {p F Q c : Nat} {s : St} (h : PoolAt w p F Q c s) (a : Nat) (ha : a < s.k) : Calls Try.prog 50 #[.pointer (some ⟨p, 0, none⟩), .int .i64 a] w fun e w' => e = .returned (.bool true) ∧ w = w' := by
  have hc := h.c1
  have hk := h.ok.k2
  clear h
  go_enter Try.func50, Try.ntmps50
  go_wp2
  go_ret
  exact ⟨rfl, rfl⟩
theorem has_no {w : World} {p F Q c : Nat} {s : St} (h : PoolAt w p F Q c s) (a : Int) (ha : a < 0 ∨ (s.k : Int) ≤ a) : Calls Try.prog 50 #[.pointer (some ⟨p, 0, none⟩), .int .i64 a] w fun e w' => e = .returned (.bool false) ∧ w = w' := by
  have hc := h.c1
  have hk := h.ok.k2
  clear h
  rcases ha with ha | ha
  · go_enter Try.func50, Try.ntmps50
    go_wp2
    go_ret
    exact ⟨rfl, rfl⟩
  · have ha0 : 0 ≤ a := by omega
    have ha1 : ¬ a < (s.k : Int) := by omega
    go_enter Try.func50, Try.ntmps50
    go_wp2
    go_ret
    exact ⟨rfl, rfl⟩

theorem owned_nil (f : Int) (w : World) : Calls Try.prog 51 #[.pointer none, .int .i64 f] w fun e w' => e = .returned (.tuple #[.pointer none, .int .i64 1]) ∧ w = w' := by
  go_enter Try.func51, Try.ntmps51
  go_wp2_with (go_at_call 38; refine (there_nil _).mono ?_; rintro e w' ⟨rfl, rfl⟩)
  go_ret2
  exact ⟨rfl, rfl⟩
theorem owned_yes {w : World} {p F Q c : Nat} {s : St} (h : PoolAt w p F Q c s) (f : Nat) (hf : f < s.n) (hh : 0 < s.hold f) :
    Calls Try.prog 51 #[.pointer (some ⟨p, 0, none⟩), .int .i64 f] w fun e w' => e = .returned (.tuple #[.pointer (some ⟨F, f * 258, none⟩), .int .i64 0]) ∧ w = w' := by
  have HP := Lib.hid h
  have hc := h.c0
  have hd := h.hold f hf
  have hn := h.ok.n2
  have hne : ¬ (s.hold f = 0) := by omega
  have hb : ((s.hold f) == 0) = false := by simpa using hne
  clear h
  go_enter Try.func51, Try.ntmps51
  go_wp2_with (go_at_call 38; refine (there_yes HP.out).mono ?_; rintro e w' ⟨rfl, rfl⟩)
  go_ret2
  exact ⟨rfl, rfl⟩
theorem owned_free {w : World} {p F Q c : Nat} {s : St} (h : PoolAt w p F Q c s) (f : Nat) (hf : f < s.n) (hh : s.hold f = 0) :
    Calls Try.prog 51 #[.pointer (some ⟨p, 0, none⟩), .int .i64 f] w fun e w' => e = .returned (.tuple #[.pointer none, .int .i64 6]) ∧ w = w' := by
  have HP := Lib.hid h
  have hc := h.c0
  have hd := h.hold f hf
  have hn := h.ok.n2
  rw [hh] at hd
  clear h
  go_enter Try.func51, Try.ntmps51
  go_wp2_with (go_at_call 38; refine (there_yes HP.out).mono ?_; rintro e w' ⟨rfl, rfl⟩)
  go_ret2
  exact ⟨rfl, rfl⟩
theorem owned_out {w : World} {p F Q c : Nat} {s : St} (h : PoolAt w p F Q c s) (f : Int) (hf : f < 0 ∨ (s.n : Int) ≤ f) :
    Calls Try.prog 51 #[.pointer (some ⟨p, 0, none⟩), .int .i64 f] w fun e w' => e = .returned (.tuple #[.pointer none, .int .i64 6]) ∧ w = w' := by
  have HP := Lib.hid h
  have hc := h.c0
  have hn := h.ok.n2
  clear h
  rcases hf with hf | hf
  · go_enter Try.func51, Try.ntmps51
    go_wp2_with (go_at_call 38; refine (there_yes HP.out).mono ?_; rintro e w' ⟨rfl, rfl⟩)
    go_ret2
    exact ⟨rfl, rfl⟩
  · have h0 : 0 ≤ f := by omega
    go_enter Try.func51, Try.ntmps51
    go_wp2_with (go_at_call 38; refine (there_yes HP.out).mono ?_; rintro e w' ⟨rfl, rfl⟩)
    go_ret2
    exact ⟨rfl, rfl⟩

end Go.Proofs.Ytjbamldhoeblbaa
