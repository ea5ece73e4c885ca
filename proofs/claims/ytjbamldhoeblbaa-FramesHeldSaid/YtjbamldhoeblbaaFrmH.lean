/- Grant: the lowest free frame. -/
import Derived.Test.YtjbamldhoeblbaaFrmG
import Derived.Deep.RegionHeld3
import Derived.WalkMore
import Derived.Deep.LoopGhost
namespace Go.Proofs.Ytjbamldhoeblbaa
open Go.RowKit Go.Shelf

theorem two_below {W W1 : World} {b o b' o' : Nat} {v v' : Value} (hb : Below W.heap.size W W1) (h : W.cell? ⟨b, o, none⟩ = some v ∧ W.cell? ⟨b', o', none⟩ = some v') : W1.cell? ⟨b, o, none⟩ = some v ∧ W1.cell? ⟨b', o', none⟩ = some v' :=
  ⟨(hb.cell (p := ⟨b, o, none⟩) (World.block_lt_of_cell? W _ h.1)).trans h.1, (hb.cell (p := ⟨b', o', none⟩) (World.block_lt_of_cell? W _ h.2)).trans h.2⟩
theorem grant_nil (a : Int) (w : World) : Calls Try.prog 17 #[.pointer none, .int .i64 a] w fun e w' => e = .returned (.tuple #[.int .i64 0, .int .i64 1]) ∧ w = w' := by
  go_enter Try.func17, Try.ntmps17
  go_wp2
  go_step3
  go_wp2_with (go_at_call 38; refine (there_nil _).mono ?_; rintro e w' ⟨rfl, rfl⟩)
  try rw [Exit.noGoto_ret]
  go_ret2
  exact ⟨rfl, rfl⟩
theorem grant_arg {w : World} {p F Q c : Nat} {s : St} (h : PoolAt w p F Q c s) (a : Int) (ha : a < 0 ∨ (s.k : Int) ≤ a) :
    Calls Try.prog 17 #[.pointer (some ⟨p, 0, none⟩), .int .i64 a] w fun e w' => e = .returned (.tuple #[.int .i64 0, .int .i64 2]) ∧ w = w' := by
  have HP := Lib.hid h
  have HA := Lib.hid ha
  clear h ha
  go_enter Try.func17, Try.ntmps17
  go_wp2
  go_step3
  go_wp2_with (first
    | (go_at_call 38; refine (there_yes HP.out).mono ?_; rintro e w' ⟨rfl, rfl⟩)
    | (go_at_call 50; refine (has_no HP.out a HA.out).mono ?_; rintro e w' ⟨rfl, rfl⟩))
  try rw [Exit.noGoto_ret]
  go_ret2
  exact ⟨rfl, rfl⟩
/-- An account's quota. -/
def St.quota (s : St) (a : Nat) : Int := s.quo.getD a 0
theorem grant_full {w : World} {p F Q c : Nat} {s : St} (h : PoolAt w p F Q c s) (a : Nat) (ha : a < s.k) (hf : s.quota a ≤ s.used a) :
    Calls Try.prog 17 #[.pointer (some ⟨p, 0, none⟩), .int .i64 a] w fun e w' => e = .returned (.tuple #[.int .i64 0, .int .i64 5]) ∧ Below w.heap.size w w' := by
  have HP := Lib.hid h
  have hc1 := h.c1
  have hq : w.cell? ⟨Q, a, none⟩ = some (.int .i64 (s.quota a)) := h.quo a ha
  have hk := h.ok.k2
  have hai : (a : Int) < s.k := by omega
  clear h
  go_enter Try.func17, Try.ntmps17
  go_wp2
  go_step3
  go_wp2_with (first
    | (go_at_call 38; refine (there_yes HP.out).mono ?_; rintro e w' ⟨rfl, rfl⟩)
    | (go_at_call 50; refine (has_yes HP.out a ha).mono ?_; rintro e w' ⟨rfl, rfl⟩))
  go_region_held3 (fun W => W.cell? ⟨p, 1, none⟩ = some (.slice (some ⟨Q, 0, none⟩) s.k c) ∧ W.cell? ⟨Q, a, none⟩ = some (.int .i64 (s.quota a)))
    (first | (exact two_below hb2 ⟨hc1, hq⟩) | (exact (two_below hb2 ⟨hc1, hq⟩).1) | (exact (two_below hb2 ⟨hc1, hq⟩).2) | go_keep)
    (first | (go_at_call 16; refine (used_any (HP.out.below (by exact (Below.refl _ w).drew)) a).mono ?_; rintro e w1 ⟨rfl, hb1⟩; have hb2 : Below w.heap.size w w1 := (Below.refl _ w).drew.trans hb1; clear hb1))
  go_wp2
  try rw [Exit.noGoto_ret]
  go_ret2
  exact ⟨rfl, hb2⟩

def St.withOwn (s : St) (f : Nat) (a : Int) : St := { s with fr := s.fr.set f (a, s.hold f) }
theorem own_withOwn (s : St) (f : Nat) (a : Int) (hf : f < s.n) (i : Nat) : (s.withOwn f a).own i = if i = f then a else s.own i := by
  unfold St.own St.withOwn; dsimp only; rw [getD_set_f _ _ _ _ hf]; split <;> rfl
theorem hold_withOwn (s : St) (f : Nat) (a : Int) (hf : f < s.n) (i : Nat) : (s.withOwn f a).hold i = s.hold i := by
  unfold St.hold St.withOwn; dsimp only; rw [getD_set_f _ _ _ _ hf]; split
  · rename_i e; subst e; rfl
  · rfl
theorem n_withOwn (s : St) (f : Nat) (a : Int) : (s.withOwn f a).n = s.n := by simp [St.n, St.withOwn]
theorem ok_withOwn {s : St} (h : StOk s) (f : Nat) (a : Int) (hf : f < s.n) : StOk (s.withOwn f a) :=
  ⟨by rw [n_withOwn]; exact h.n1, by rw [n_withOwn]; exact h.n2, h.k2, fun i => by rw [hold_withOwn _ _ _ hf]; exact h.h0 i, fun i => by rw [hold_withOwn _ _ _ hf]; exact h.h1 i, h.b0, h.b1⟩
theorem pool_withOwn {w : World} {p F Q c : Nat} {s : St} (h : PoolAt w p F Q c s) (f : Nat) (hf : f < s.n) (a : Int) : PoolAt (w.setCell ⟨F, f * 258, none⟩ (.int .i64 a)) p F Q c (s.withOwn f a) := by
  have e := pool_set (s' := s.withOwn f a) h f 0 (by omega) (ok_withOwn h.ok f a hf) (n_withOwn _ _ _) rfl (.int .i64 a) (fun _ => ?_) (fun i j hi hj hne => ?_)
  · rw [Nat.add_zero] at e; exact e
  · unfold St.cv; rw [own_withOwn _ _ _ hf]; simp
  · unfold St.cv; rw [own_withOwn _ _ _ hf, hold_withOwn _ _ _ hf]
    split
    · rename_i e; rw [if_neg (by omega)]
    · rfl
theorem granted_eq (s : St) (f : Nat) (a : Int) : (s.withOwn f a).withHold f 1 = s.granted f a := by
  by_cases hf : f < s.n
  · unfold St.withHold
    rw [own_withOwn _ _ _ hf, if_pos rfl]
    unfold St.withOwn St.granted; simp
  · unfold St.withHold St.withOwn St.granted
    have : s.fr.length ≤ f := by unfold St.n at hf; omega
    simp [List.set_eq_of_length_le this]
theorem pool_granted {w : World} {p F Q c : Nat} {s : St} (h : PoolAt w p F Q c s) (f : Nat) (hf : f < s.n) (a : Int) : PoolAt ((w.setCell ⟨F, f * 258, none⟩ (.int .i64 a)).setCell ⟨F, f * 258 + 1, none⟩ (.int .i64 1)) p F Q c (s.granted f a) := by
  rw [← granted_eq]
  exact pool_withHold (pool_withOwn h f hf a) f (by rw [n_withOwn]; exact hf) 1 (by omega) (by omega)

set_option maxRecDepth 100000 in
set_option maxHeartbeats 1000000 in
theorem grant_yes {w : World} {p F Q c : Nat} {s : St} (h : PoolAt w p F Q c s) (a : Nat) (ha : a < s.k) (hf : (s.used a : Int) < s.quota a) (m : Nat) (hm : m < s.n) (hz : s.hold m = 0) (hl : ∀ i, i < m → 0 < s.hold i) :
    Calls Try.prog 17 #[.pointer (some ⟨p, 0, none⟩), .int .i64 a] w fun e w' => e = .returned (.tuple #[.int .i64 m, .int .i64 0]) ∧ PoolAt w' p F Q c (s.granted m a) ∧ w.grownBy w' (some F) := by
  have HP := Lib.hid h
  have hc1 := h.c1
  have hq : w.cell? ⟨Q, a, none⟩ = some (.int .i64 (s.quota a)) := h.quo a ha
  have hk := h.ok.k2
  have hn2 := h.ok.n2
  have hai : (a : Int) < s.k := by omega
  have HL := Lib.hid hl
  clear h hl
  go_enter Try.func17, Try.ntmps17
  go_wp2
  go_step3
  go_wp2_with (first
    | (go_at_call 38; refine (there_yes HP.out).mono ?_; rintro e w' ⟨rfl, rfl⟩)
    | (go_at_call 50; refine (has_yes HP.out a ha).mono ?_; rintro e w' ⟨rfl, rfl⟩))
  go_region_held3 (fun W => W.cell? ⟨p, 1, none⟩ = some (.slice (some ⟨Q, 0, none⟩) s.k c) ∧ W.cell? ⟨Q, a, none⟩ = some (.int .i64 (s.quota a)))
    (first | (exact two_below hb2 ⟨hc1, hq⟩) | (exact (two_below hb2 ⟨hc1, hq⟩).1) | (exact (two_below hb2 ⟨hc1, hq⟩).2) | go_keep)
    (first | (go_at_call 16; refine (used_any (HP.out.below (by exact (Below.refl _ w).drew)) a).mono ?_; rintro e w1 ⟨rfl, hb1⟩; have hb2 : Below w.heap.size w w1 := (Below.refl _ w).drew.trans hb1; clear hb1))
  have HB := Lib.hid hb2
  have hP1 := HP.out.below hb2
  have hc0 := hP1.c0
  have HP1 := Lib.hid hP1
  clear hb2 hP1
  go_wp2
  go_step3
  go_wp2
  go_loop [35] (fun i => ∃ k : Nat, k ≤ m ∧ i = .int .i64 k) (fun i => m - (intOf i).toNat)
  case atStart => exact ⟨0, Nat.zero_le _, rfl⟩
  case round =>
    obtain ⟨k, hk', rfl⟩ := hrel
    have hkn : k < s.n := by omega
    by_cases hlt : k < m
    · have hd := HP1.out.hold k hkn
      have hpos := HL.out k hlt
      have hne : (s.hold k == 0) = false := by simp; omega
      go_wp2
      go_round
      case rel => exact ⟨k + 1, by omega, by go_num⟩
      case measure => simp [intOf]; omega
    · obtain rfl : k = m := by omega
      have hd := HP1.out.hold k hkn
      have ho := HP1.out.own k hkn
      have hfz := fun o => HP1.out.fz o
      have HW := Lib.hid (pool_granted HP1.out k hkn a)
      rw [hz] at hd
      have HZ := Lib.hid hz
      clear hz
      go_wp2
      try rw [Exit.noGoto_ret]
      go_ret2
      exact ⟨rfl, HW.out, grown_trans (grown_of_below HB.out) (grown_trans (pool_set_grown _ _ _) (pool_set_grown _ _ _))⟩

end Go.Proofs.Ytjbamldhoeblbaa
