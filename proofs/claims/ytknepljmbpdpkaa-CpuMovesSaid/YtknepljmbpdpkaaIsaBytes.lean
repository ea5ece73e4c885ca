/- Contract of isa.Bytes: the words' bytes, one behind the other, or none. -/
import Derived.Test.YtknepljmbpdpkaaIsaF
import Derived.Laws.AppendOwn
import Derived.Maps.AppendAt
import Derived.WalkSpells
namespace Go.Proofs.Ytknepljmbpdpkaa
open Go.RowKit

/-- The four bytes of a word, the lowest first. -/
def fourL (v : Int) : List Int := [v % 256, v / 256 % 256, v / 65536 % 256, v / 16777216 % 256]
/-- The bytes of the first k words. -/
def wordsL (f : Nat → Int) : Nat → List Int
  | 0 => []
  | k + 1 => wordsL f k ++ fourL (f k)
theorem wordsL_length (f : Nat → Int) (k : Nat) : (wordsL f k).length = 4 * k := by
  induction k with
  | zero => rfl
  | succ k ih => simp [wordsL, ih, fourL]; omega

theorem Try.infoU8 : (Try.prog.info? 5).map (fun i => (i.zero, i.size, i.bytes)) = some (some (.int .u8 0), 1, 1) := by kernel_rfl

theorem own_below {w w' : World} {B : Nat} {e : TypeId} {k : Nat} {v : Value} {n : Nat} {xs : List Value} (h : w.ownsRow B e k v n xs) (hb : Below w.heap.size w w') : w'.ownsRow B e k v n xs := by
  obtain ⟨h1, h2⟩ := h
  refine ⟨h1, ?_⟩
  rcases h2 with h2 | ⟨g, cap, cur, hv, hg, hh, r⟩
  · exact Or.inl h2
  · exact Or.inr ⟨g, cap, cur, hv, hg, by rw [hb.block g (Array.getElem?_eq_some_iff.1 hh).1]; exact hh, r⟩

/-- Instructions in a row of cells. -/
def InsAt (w : World) (B off n : Nat) (o d a b m : Nat → Int) : Prop :=
  ∀ j, j < n → w.cell? ⟨B, off + j * 5, none⟩ = some (.int .i64 (o j)) ∧ w.cell? ⟨B, off + j * 5 + 1, none⟩ = some (.int .i64 (d j)) ∧ w.cell? ⟨B, off + j * 5 + 2, none⟩ = some (.int .i64 (a j)) ∧ w.cell? ⟨B, off + j * 5 + 3, none⟩ = some (.int .i64 (b j)) ∧ w.cell? ⟨B, off + j * 5 + 4, none⟩ = some (.int .i64 (m j))

theorem own_cast {w : World} {B : Nat} {e : TypeId} {k : Nat} {v : Value} {n n' : Nat} {xs xs' : List Value} (h : w.ownsRow B e k v n xs) (hn : n = n') (hx : xs = xs') : w.ownsRow B e k v n' xs' := by subst hn hx; exact h

/-- One round more. -/
theorem words_step (f : Nat → Int) (k : Nat) (x : Int) (hf : f k = x) (h0 : 0 ≤ x) (h1 : x < 4294967296) :
    (wordsL f k).map (Value.int .u8) ++ [.int .u8 (x % 256)] ++ [.int .u8 (x / 256 % 256)] ++ [.int .u8 (x / 256 / 256 % 256)] ++ [.int .u8 (x / 256 / 256 / 256)] = (wordsL f (k + 1)).map (Value.int .u8) := by
  have e : x / 256 / 256 / 256 = x / 16777216 % 256 := by omega
  have e2 : x / 256 / 256 = x / 65536 := by omega
  rw [e, e2]; simp [wordsL, fourL, hf]

set_option maxHeartbeats 1600000 in
set_option maxRecDepth 100000 in
theorem bytes_all (B off n c : Nat) (o d a b m : Nat → Int) (w : World) (hn : n ≤ 200) (hB : B < w.heap.size) (hI : InsAt w B off n o d a b m) (hm : ∀ j, j < n → mayB (o j) (d j) (a j) (b j) (m j) = true) :
    Calls Try.prog 31 #[.slice (some ⟨B, off, none⟩) n c] w fun e w' => ∃ v, e = .returned (.tuple #[v, .int .i64 0]) ∧
      w'.ownsRow w.heap.size 5 1 v (4 * n) ((wordsL (fun j => wordOf (o j) (d j) (a j) (b j) (m j)) n).map (Value.int .u8)) ∧ Below w.heap.size w w' := by
  obtain ⟨i0, hi, hz0, hz1, hz2⟩ := info_parts Try.infoU8
  go_enter Try.func31, Try.ntmps31
  go_wp2
  go_loopw [4, 11] (fun v i wr => ∃ k : Nat, k ≤ n ∧ i = .int .i64 k ∧ wr.ownsRow w.heap.size 5 1 v (4 * k) ((wordsL (fun j => wordOf (o j) (d j) (a j) (b j) (m j)) k).map (Value.int .u8)) ∧ Below w.heap.size w wr)
    (fun _ i _ => n - (intOf i).toNat)
  case atStart => exact ⟨0, Nat.zero_le _, rfl, World.ownsRow_nil .., Below.refl _ _⟩
  case round =>
    obtain ⟨k, hk, rfl, hown, hbw⟩ := hrel
    by_cases hlt : k < n
    · skip
      have hH := Lib.hid (hm k hlt)
      have hcw := fun o => hbw.cell (p := ⟨B, o, none⟩) hB
      obtain ⟨j0, j1, j2, j3, j4⟩ := hI k hlt
      rw [← hcw] at j0 j1 j2 j3 j4
      clear hcw
      clear hI hm
      have hwr := hbw.size
      go_wp2_with (go_at_call 55; refine (word_yes _ _ _ _ _ _ hH.out).mono ?_; rintro e w1 ⟨rfl, hb1⟩)
      have h1 := own_below (hown.alloc _) hb1
      have hr := word_range hH.out
      generalize hx : wordOf (o k) (d k) (a k) (b k) (m k) = x at *
      obtain ⟨hr0, hr1⟩ := hr
      have HX := Lib.hid hx
      clear hx
      have hs1 : w.heap.size ≤ w1.heap.size := by have := hb1.size; simp at this; omega
      have bl1 := Bl.step (Bl.alloc hbw _) hb1
      have hk200 : 4 * k + 4 ≤ 804 := by omega
      refine wp_loop_rounds 5 ?_
      rw [rounds_succ]
      have tok2 : True := trivial
      go_wp2_with (at_builtin; have tik := tok2; clear tik tok2; refine wpList_append_own _ rfl _ _ 23 rfl w.heap.size 5 i0 (.int .u8 0) 1 1 Try.underlying23 hi hz0 hz1 hz2 rfl (by decide) _ _ _ rfl (h1.alloc _) ⟨w1.heap.size, 0, none⟩ 1 1 [.int .u8 (x % 256)] rfl rfl (cell_one_new _ _ _) (by simp [Value.oneCell']) (by unfold maxLen; omega) (by omega) (by simp; omega) ?_; intro v2 w2 h2 hgrow2 _)
      have hs2 : w.heap.size ≤ w2.heap.size := by have := hgrow2.size; simp at this; omega
      have bl2 : Below w.heap.size w w2 := (Bl.alloc bl1 _).grown hgrow2 (by simp; omega) (fun k e => ((h1.alloc (.cells #[.int .u8 (x % 256)] 5)).lt k e).1)
      rw [rounds_succ]
      have tok3 : True := trivial
      go_wp2_with (at_builtin; have tik := tok3; clear tik tok3; refine wpList_append_own _ rfl _ _ 23 rfl w.heap.size 5 i0 (.int .u8 0) 1 1 Try.underlying23 hi hz0 hz1 hz2 rfl (by decide) _ _ _ rfl (h2.alloc _) ⟨w2.heap.size, 0, none⟩ 1 1 [.int .u8 (x / 256 % 256)] rfl rfl (cell_one_new _ _ _) (by simp [Value.oneCell']) (by unfold maxLen; omega) (by omega) (by simp; omega) ?_; intro v3 w3 h3 hgrow3 _)
      have hs3 : w.heap.size ≤ w3.heap.size := by have := hgrow3.size; simp at this; omega
      have bl3 : Below w.heap.size w w3 := (Bl.alloc bl2 _).grown hgrow3 (by simp; omega) (fun k e => ((h2.alloc (.cells #[.int .u8 (x / 256 % 256)] 5)).lt k e).1)
      rw [rounds_succ]
      have tok4 : True := trivial
      go_wp2_with (at_builtin; have tik := tok4; clear tik tok4; refine wpList_append_own _ rfl _ _ 23 rfl w.heap.size 5 i0 (.int .u8 0) 1 1 Try.underlying23 hi hz0 hz1 hz2 rfl (by decide) _ _ _ rfl (h3.alloc _) ⟨w3.heap.size, 0, none⟩ 1 1 [.int .u8 (x / 256 / 256 % 256)] rfl rfl (cell_one_new _ _ _) (by simp [Value.oneCell']) (by unfold maxLen; omega) (by omega) (by simp; omega) ?_; intro v4 w4 h4 hgrow4 _)
      have hs4 : w.heap.size ≤ w4.heap.size := by have := hgrow4.size; simp at this; omega
      have bl4 : Below w.heap.size w w4 := (Bl.alloc bl3 _).grown hgrow4 (by simp; omega) (fun k e => ((h3.alloc (.cells #[.int .u8 (x / 256 / 256 % 256)] 5)).lt k e).1)
      rw [rounds_succ]
      have tok5 : True := trivial
      go_wp2_with (at_builtin; have tik := tok5; clear tik tok5; refine wpList_append_own _ rfl _ _ 23 rfl w.heap.size 5 i0 (.int .u8 0) 1 1 Try.underlying23 hi hz0 hz1 hz2 rfl (by decide) _ _ _ rfl (h4.alloc _) ⟨w4.heap.size, 0, none⟩ 1 1 [.int .u8 (x / 256 / 256 / 256)] rfl rfl (cell_one_new _ _ _) (by simp [Value.oneCell']) (by unfold maxLen; omega) (by omega) (by simp; omega) ?_; intro v5 w5 h5 hgrow5 _)
      have hs5 : w.heap.size ≤ w5.heap.size := by have := hgrow5.size; simp at this; omega
      have bl5 : Below w.heap.size w w5 := (Bl.alloc bl4 _).grown hgrow5 (by simp; omega) (fun k e => ((h4.alloc (.cells #[.int .u8 (x / 256 / 256 / 256)] 5)).lt k e).1)
      rw [rounds_succ]
      go_wp2
      go_roundw
      case rel => exact ⟨k + 1, by omega, by go_num, own_cast h5 (by omega) (words_step _ k x HX.out hr0 hr1), bl5⟩
      case measure => simp [intOf]; omega
    · obtain rfl : k = n := by omega
      clear hI hm
      go_wp2
      go_ret2
      exact ⟨_, rfl, hown, hbw⟩

set_option maxHeartbeats 1600000 in
set_option maxRecDepth 100000 in
theorem bytes_no (B off n c q : Nat) (o d a b m : Nat → Int) (w : World) (hn : n ≤ 200) (hB : B < w.heap.size) (hI : InsAt w B off n o d a b m) (hq : q < n) (hm : ∀ j, j < q → mayB (o j) (d j) (a j) (b j) (m j) = true) (hmq : mayB (o q) (d q) (a q) (b q) (m q) = false) :
    Calls Try.prog 31 #[.slice (some ⟨B, off, none⟩) n c] w fun e w' => e = .returned (.tuple #[.slice none 0 0, .int .i64 2]) ∧ Below w.heap.size w w' := by
  have HQ := Lib.hid hmq
  clear hmq
  obtain ⟨i0, hi, hz0, hz1, hz2⟩ := info_parts Try.infoU8
  go_enter Try.func31, Try.ntmps31
  go_wp2
  go_loopw [4, 11] (fun v i wr => ∃ k : Nat, k ≤ q ∧ i = .int .i64 k ∧ wr.ownsRow w.heap.size 5 1 v (4 * k) ((wordsL (fun j => wordOf (o j) (d j) (a j) (b j) (m j)) k).map (Value.int .u8)) ∧ Below w.heap.size w wr)
    (fun _ i _ => n - (intOf i).toNat)
  case atStart => exact ⟨0, Nat.zero_le _, rfl, World.ownsRow_nil .., Below.refl _ _⟩
  case round =>
    obtain ⟨k, hk, rfl, hown, hbw⟩ := hrel
    have hlt : k < n := by omega
    by_cases hlq : k < q
    · skip
      have hH := Lib.hid (hm k hlq)
      have hcw := fun o => hbw.cell (p := ⟨B, o, none⟩) hB
      obtain ⟨j0, j1, j2, j3, j4⟩ := hI k hlt
      rw [← hcw] at j0 j1 j2 j3 j4
      clear hcw
      clear hI hm
      have hwr := hbw.size
      go_wp2_with (go_at_call 55; refine (word_yes _ _ _ _ _ _ hH.out).mono ?_; rintro e w1 ⟨rfl, hb1⟩)
      have h1 := own_below (hown.alloc _) hb1
      have hr := word_range hH.out
      generalize hx : wordOf (o k) (d k) (a k) (b k) (m k) = x at *
      obtain ⟨hr0, hr1⟩ := hr
      have HX := Lib.hid hx
      clear hx
      have hs1 : w.heap.size ≤ w1.heap.size := by have := hb1.size; simp at this; omega
      have bl1 := Bl.step (Bl.alloc hbw _) hb1
      have hk200 : 4 * k + 4 ≤ 804 := by omega
      refine wp_loop_rounds 5 ?_
      rw [rounds_succ]
      have tok2 : True := trivial
      go_wp2_with (at_builtin; have tik := tok2; clear tik tok2; refine wpList_append_own _ rfl _ _ 23 rfl w.heap.size 5 i0 (.int .u8 0) 1 1 Try.underlying23 hi hz0 hz1 hz2 rfl (by decide) _ _ _ rfl (h1.alloc _) ⟨w1.heap.size, 0, none⟩ 1 1 [.int .u8 (x % 256)] rfl rfl (cell_one_new _ _ _) (by simp [Value.oneCell']) (by unfold maxLen; omega) (by omega) (by simp; omega) ?_; intro v2 w2 h2 hgrow2 _)
      have hs2 : w.heap.size ≤ w2.heap.size := by have := hgrow2.size; simp at this; omega
      have bl2 : Below w.heap.size w w2 := (Bl.alloc bl1 _).grown hgrow2 (by simp; omega) (fun k e => ((h1.alloc (.cells #[.int .u8 (x % 256)] 5)).lt k e).1)
      rw [rounds_succ]
      have tok3 : True := trivial
      go_wp2_with (at_builtin; have tik := tok3; clear tik tok3; refine wpList_append_own _ rfl _ _ 23 rfl w.heap.size 5 i0 (.int .u8 0) 1 1 Try.underlying23 hi hz0 hz1 hz2 rfl (by decide) _ _ _ rfl (h2.alloc _) ⟨w2.heap.size, 0, none⟩ 1 1 [.int .u8 (x / 256 % 256)] rfl rfl (cell_one_new _ _ _) (by simp [Value.oneCell']) (by unfold maxLen; omega) (by omega) (by simp; omega) ?_; intro v3 w3 h3 hgrow3 _)
      have hs3 : w.heap.size ≤ w3.heap.size := by have := hgrow3.size; simp at this; omega
      have bl3 : Below w.heap.size w w3 := (Bl.alloc bl2 _).grown hgrow3 (by simp; omega) (fun k e => ((h2.alloc (.cells #[.int .u8 (x / 256 % 256)] 5)).lt k e).1)
      rw [rounds_succ]
      have tok4 : True := trivial
      go_wp2_with (at_builtin; have tik := tok4; clear tik tok4; refine wpList_append_own _ rfl _ _ 23 rfl w.heap.size 5 i0 (.int .u8 0) 1 1 Try.underlying23 hi hz0 hz1 hz2 rfl (by decide) _ _ _ rfl (h3.alloc _) ⟨w3.heap.size, 0, none⟩ 1 1 [.int .u8 (x / 256 / 256 % 256)] rfl rfl (cell_one_new _ _ _) (by simp [Value.oneCell']) (by unfold maxLen; omega) (by omega) (by simp; omega) ?_; intro v4 w4 h4 hgrow4 _)
      have hs4 : w.heap.size ≤ w4.heap.size := by have := hgrow4.size; simp at this; omega
      have bl4 : Below w.heap.size w w4 := (Bl.alloc bl3 _).grown hgrow4 (by simp; omega) (fun k e => ((h3.alloc (.cells #[.int .u8 (x / 256 / 256 % 256)] 5)).lt k e).1)
      rw [rounds_succ]
      have tok5 : True := trivial
      go_wp2_with (at_builtin; have tik := tok5; clear tik tok5; refine wpList_append_own _ rfl _ _ 23 rfl w.heap.size 5 i0 (.int .u8 0) 1 1 Try.underlying23 hi hz0 hz1 hz2 rfl (by decide) _ _ _ rfl (h4.alloc _) ⟨w4.heap.size, 0, none⟩ 1 1 [.int .u8 (x / 256 / 256 / 256)] rfl rfl (cell_one_new _ _ _) (by simp [Value.oneCell']) (by unfold maxLen; omega) (by omega) (by simp; omega) ?_; intro v5 w5 h5 hgrow5 _)
      have hs5 : w.heap.size ≤ w5.heap.size := by have := hgrow5.size; simp at this; omega
      have bl5 : Below w.heap.size w w5 := (Bl.alloc bl4 _).grown hgrow5 (by simp; omega) (fun k e => ((h4.alloc (.cells #[.int .u8 (x / 256 / 256 / 256)] 5)).lt k e).1)
      rw [rounds_succ]
      go_wp2
      go_roundw
      case rel => exact ⟨k + 1, by omega, by go_num, own_cast h5 (by omega) (words_step _ k x HX.out hr0 hr1), bl5⟩
      case measure => simp [intOf]; omega
    · obtain rfl : k = q := by omega
      have hcw := fun o => hbw.cell (p := ⟨B, o, none⟩) hB
      obtain ⟨j0, j1, j2, j3, j4⟩ := hI k hlt
      rw [← hcw] at j0 j1 j2 j3 j4
      clear hcw
      clear hI hm
      go_wp2_with (go_at_call 55; refine (word_no _ _ _ _ _ _ HQ.out).mono ?_; rintro e w1 ⟨rfl, hb1⟩)
      go_ret2
      exact ⟨rfl, Bl.step (Bl.alloc hbw _) hb1⟩

end Go.Proofs.Ytknepljmbpdpkaa
