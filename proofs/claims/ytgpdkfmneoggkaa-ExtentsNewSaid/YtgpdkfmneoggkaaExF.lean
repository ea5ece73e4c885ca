/- at, Read, Write, Flush, Disk: extents over their disk. -/
import Derived.Test.YtgpdkfmneoggkaaExE
namespace Go.Proofs.Ytgpdkfmneoggkaa
open Go.RowKit

/-- Extents and the disk that they part. -/
structure ExDk (w : World) (O : Nat → Prop) (x d : Nat) (L : Lay9) (s : Xt) (k : Dk) : Prop where
  ex : ExIs w x d s
  dk : DkAt w O d L k
  ox : ¬ O x
  fit : ∀ a, (s.pt a).fi + (s.pt a).ct ≤ k.fl.length
section
variable {w : World} {O : Nat → Prop} {x d : Nat} {L : Lay9} {s : Xt} {k : Dk}
theorem ExDk.keep {w' : World} (h : ExDk w O x d L s k) (hs : w.heap.size ≤ w'.heap.size) (he : ∀ b, O b → w'.heap[b]? = w.heap[b]?) (hx : w'.heap[x]? = w.heap[x]?) : ExDk w' O x d L s k :=
  ⟨h.ex.keep hx, h.dk.keep hs he, h.ox, h.fit⟩
theorem ExDk.step {w' : World} (h : ExDk w O x d L s k) (hb : Below w.heap.size w w') : ExDk w' O x d L s k := ⟨h.ex.step hb, h.dk.step hb, h.ox, h.fit⟩
/-- All but these blocks is as it was, and these are none of its own. -/
theorem ExDk.other {w' : World} {O' : Nat → Prop} (h : ExDk w O x d L s k) (hb : TurnO O' w w') (hn : ∀ b, O b → ¬ O' b) (hx : ¬ O' x) : ExDk w' O x d L s k :=
  ⟨h.ex.keep (hb.block x h.ex.lt hx), h.dk.other hb hn, h.ox, h.fit⟩
theorem at_out (h : ExIs w x d s) (a i : Int) (ha : a < 0 ∨ (s.n : Int) ≤ a) : Calls Try.prog 65 #[.pointer (some ⟨x, 0, none⟩), .int .i64 a, .int .i64 i] w fun e w' => e = .returned (.tuple #[.int .i64 0, .int .i64 2]) ∧ w = w' := by
  have H := Lib.hid h
  clear h
  go_enter Try.func65, Try.ntmps65
  go_wp2_with (go_at_call 51; refine (of_out H.out a ha).mono ?_; rintro e w' ⟨rfl, rfl⟩)
  go_ret2
  exact ⟨rfl, rfl⟩
theorem at_none (h : ExIs w x d s) (a : Nat) (ha : a < s.n) (i : Int) (hi : (s.pt a).has i = false) : Calls Try.prog 65 #[.pointer (some ⟨x, 0, none⟩), .int .i64 (a : Int), .int .i64 i] w fun e w' => e = .returned (.tuple #[.int .i64 0, .int .i64 6]) ∧ w = w' := by
  have hn := h.n8
  have H := Lib.hid h
  have HI := Lib.hid hi
  clear h hi
  go_enter Try.func65, Try.ntmps65
  go_wp2_with (first
    | (go_at_call 51; refine (of_yes H.out a ha).mono ?_; rintro e w' ⟨rfl, rfl⟩)
    | (go_at_call 62; refine (phas_any (H.out.part (by omega)) (H.out.ok a) i).mono ?_; rintro e w' ⟨rfl, rfl⟩; rw [HI.out]))
  go_ret2
  exact ⟨rfl, rfl⟩
theorem at_yes (h : ExIs w x d s) (a : Nat) (ha : a < s.n) (i : Nat) (hi : i < (s.pt a).ct) (hb : (s.pt a).bit i = true) : Calls Try.prog 65 #[.pointer (some ⟨x, 0, none⟩), .int .i64 (a : Int), .int .i64 (i : Int)] w fun e w' => e = .returned (.tuple #[.int .i64 (((s.pt a).fi + i : Nat) : Int), .int .i64 0]) ∧ w = w' := by
  have hn := h.n8
  have hct := (h.ok a).c1
  have hh := (s.pt a).has_in hi
  rw [hb] at hh
  have H := Lib.hid h
  have HI := Lib.hid hh
  have c0 := h.pc0 (a := a) (by omega)
  have hw2 : IntKind.i64.wrap (((s.pt a).fi : Int) + i) = (((s.pt a).fi + i : Nat) : Int) := by rw [IntWalk.i64_in _ (by omega)]; push_cast; rfl
  clear h hh
  go_enter Try.func65, Try.ntmps65
  go_wp2_with (first
    | (go_at_call 51; refine (of_yes H.out a ha).mono ?_; rintro e w' ⟨rfl, rfl⟩)
    | (go_at_call 62; refine (phas_any (H.out.part (by omega)) (H.out.ok a) i).mono ?_; rintro e w' ⟨rfl, rfl⟩; rw [HI.out]))
  go_ret2
  exact ⟨rfl, rfl⟩
theorem xread_out (h : ExIs w x d s) (a i : Int) (ha : a < 0 ∨ (s.n : Int) ≤ a) : Calls Try.prog 36 #[.pointer (some ⟨x, 0, none⟩), .int .i64 a, .int .i64 i] w fun e w' => e = .returned (.tuple #[.slice none 0 0, .int .i64 2]) ∧ w = w' := by
  have H := Lib.hid h
  clear h
  go_enter Try.func36, Try.ntmps36
  go_wp2_with (go_at_call 65; refine (at_out H.out a i ha).mono ?_; rintro e w' ⟨rfl, rfl⟩)
  go_ret2
  exact ⟨rfl, rfl⟩
theorem xread_none (h : ExIs w x d s) (a : Nat) (ha : a < s.n) (i : Int) (hi : (s.pt a).has i = false) : Calls Try.prog 36 #[.pointer (some ⟨x, 0, none⟩), .int .i64 (a : Int), .int .i64 i] w fun e w' => e = .returned (.tuple #[.slice none 0 0, .int .i64 6]) ∧ w = w' := by
  have H := Lib.hid h
  clear h
  go_enter Try.func36, Try.ntmps36
  go_wp2_with (go_at_call 65; refine (at_none H.out a ha i hi).mono ?_; rintro e w' ⟨rfl, rfl⟩)
  go_ret2
  exact ⟨rfl, rfl⟩
theorem xread_yes (h : ExDk w O x d L s k) (a : Nat) (ha : a < s.n) (i : Nat) (hi : i < (s.pt a).ct) (hb : (s.pt a).bit i = true) : Calls Try.prog 36 #[.pointer (some ⟨x, 0, none⟩), .int .i64 (a : Int), .int .i64 (i : Int)] w (SecOut w (k.seen ((s.pt a).fi + i))) := by
  have H := Lib.hid h
  have c0 := h.ex.c0
  have hf := h.fit a
  have HR := Lib.hid (read_yes9 h.dk ((s.pt a).fi + i) (by omega))
  clear h
  go_enter Try.func36, Try.ntmps36
  go_wp2_with (go_at_call 65; refine (at_yes H.out.ex a ha i hi hb).mono ?_; rintro e w' ⟨rfl, rfl⟩)
  go_at_call 72
  refine HR.out.mono ?_
  rintro e w1 ⟨g, c, rfl, hh⟩
  have HH := Lib.hid hh
  clear hh
  go_wp2
  go_ret2
  exact ⟨g, c, rfl, HH.out⟩
theorem xwrite_out (h : ExIs w x d s) (a i : Int) (b : Value) (ha : a < 0 ∨ (s.n : Int) ≤ a) : Calls Try.prog 26 #[.pointer (some ⟨x, 0, none⟩), .int .i64 a, .int .i64 i, b] w fun e w' => e = .returned (.int .i64 2) ∧ w = w' := by
  have H := Lib.hid h
  clear h
  go_enter Try.func26, Try.ntmps26
  go_wp2_with (go_at_call 65; refine (at_out H.out a i ha).mono ?_; rintro e w' ⟨rfl, rfl⟩)
  go_ret
  exact ⟨rfl, rfl⟩
theorem xwrite_none (h : ExIs w x d s) (a : Nat) (ha : a < s.n) (i : Int) (b : Value) (hi : (s.pt a).has i = false) : Calls Try.prog 26 #[.pointer (some ⟨x, 0, none⟩), .int .i64 (a : Int), .int .i64 i, b] w fun e w' => e = .returned (.int .i64 6) ∧ w = w' := by
  have H := Lib.hid h
  clear h
  go_enter Try.func26, Try.ntmps26
  go_wp2_with (go_at_call 65; refine (at_none H.out a ha i hi).mono ?_; rintro e w' ⟨rfl, rfl⟩)
  go_ret
  exact ⟨rfl, rfl⟩
theorem xwrite_len (h : ExDk w O x d L s k) (a : Nat) (ha : a < s.n) (i : Nat) (hi : i < (s.pt a).ct) (hb : (s.pt a).bit i = true) (A : Option Addr) (n c : Nat) (hn : n ≠ 128) : Calls Try.prog 26 #[.pointer (some ⟨x, 0, none⟩), .int .i64 (a : Int), .int .i64 (i : Int), .slice A n c] w fun e w' => e = .returned (.int .i64 2) ∧ w = w' := by
  have H := Lib.hid h
  have c0 := h.ex.c0
  clear h
  go_enter Try.func26, Try.ntmps26
  go_wp2_with (go_at_call 65; refine (at_yes H.out.ex a ha i hi hb).mono ?_; rintro e w' ⟨rfl, rfl⟩)
  go_at_call 66
  refine (write_len9 H.out.dk _ A n c hn).mono ?_
  rintro e w1 ⟨rfl, rfl⟩
  go_wp2
  go_ret
  exact ⟨rfl, rfl⟩
theorem xwrite_yes (h : ExDk w O x d L s k) (a : Nat) (ha : a < s.n) (i : Nat) (hi : i < (s.pt a).ct) (hb : (s.pt a).bit i = true) (bg bo cap : Nat) (c : Sec) (hc : SecOk c) (hsrc : w.rangeAt bg bo (secL c)) (hbo : ¬ O bg) (hw : k.wr < 1000000) :
    Calls Try.prog 26 #[.pointer (some ⟨x, 0, none⟩), .int .i64 (a : Int), .int .i64 (i : Int), .slice (some ⟨bg, bo, none⟩) 128 cap] w fun e w' =>
      e = .returned (.int .i64 0) ∧ ∃ O' L', ExDk w' O' x d L' s (k.push (((s.pt a).fi + i : Nat) : Int) c) ∧ (∀ b, O' b → O b ∨ w.heap.size ≤ b) ∧ TurnO O w w' := by
  have H := Lib.hid h
  have c0 := h.ex.c0
  have hf := h.fit a
  have HR := Lib.hid (write_yes9 h.dk ((s.pt a).fi + i) (by omega) bg bo cap c hc hsrc hbo hw)
  clear h
  go_enter Try.func26, Try.ntmps26
  go_wp2_with (go_at_call 65; refine (at_yes H.out.ex a ha i hi hb).mono ?_; rintro e w' ⟨rfl, rfl⟩)
  go_at_call 66
  refine HR.out.mono ?_
  rintro e w1 ⟨rfl, O', L', hD, hO, hT⟩
  have HH := Lib.hid (show ∃ O' L', ExDk w1 O' x d L' s (k.push (((s.pt a).fi + i : Nat) : Int) c) ∧ (∀ b, O' b → O b ∨ w.heap.size ≤ b) ∧ TurnO O w w1 from
    ⟨O', L', ⟨H.out.ex.keep (hT.block x H.out.ex.lt H.out.ox), hD, fun hx => by
      rcases hO x hx with h | h
      · exact H.out.ox h
      · have := H.out.ex.lt; omega, H.out.fit⟩, hO, hT⟩)
  clear hD hO hT
  go_wp2
  go_ret
  exact ⟨rfl, HH.out⟩
theorem xflush_out (h : ExIs w x d s) (a : Int) (ha : a < 0 ∨ (s.n : Int) ≤ a) : Calls Try.prog 28 #[.pointer (some ⟨x, 0, none⟩), .int .i64 a] w fun e w' => e = .returned (.int .i64 2) ∧ w = w' := by
  have H := Lib.hid h
  clear h
  go_enter Try.func28, Try.ntmps28
  go_wp2_with (go_at_call 51; refine (of_out H.out a ha).mono ?_; rintro e w' ⟨rfl, rfl⟩)
  go_ret
  exact ⟨rfl, rfl⟩
set_option maxHeartbeats 2000000 in
theorem xflush_yes (h : ExDk w O x d L s k) (a : Nat) (ha : a < s.n) : Calls Try.prog 28 #[.pointer (some ⟨x, 0, none⟩), .int .i64 (a : Int)] w fun e w' =>
    e = .returned (.int .i64 0) ∧ ∃ L', ExDk w' O x d L' s (k.flushed (s.pt a).fi (s.pt a).ct) ∧ TurnO O w w' := by
  have hn := h.ex.n8
  have H := Lib.hid h
  have c0 := h.ex.c0
  have c1 := h.ex.pc0 (a := a) (by omega)
  have c2 := h.ex.pc1 (a := a) (by omega)
  have HF := Lib.hid (h.fit a)
  clear h
  go_enter Try.func28, Try.ntmps28
  go_wp2_with (go_at_call 51; refine (of_yes H.out.ex a ha).mono ?_; rintro e w' ⟨rfl, rfl⟩)
  go_region_with (go_at_call 67; refine (flush_yes9 (H.out.dk.step ((Below.refl _ w).drew)) (s.pt a).fi (s.pt a).ct HF.out).mono ?_; rintro e w1 ⟨rfl, L', hD, hT⟩; have HD := Lib.hid hD; have HT := Lib.hid hT; clear hD hT)
  all_goals (
    have hT2 : TurnO O w w1 := (TurnO.of_below ((Below.refl _ w).drew) : TurnO O w w.drew).trans HT.out (fun b h => .inl h)
    have HX := Lib.hid (show ∃ L', ExDk w1 O x d L' s (k.flushed (s.pt a).fi (s.pt a).ct) ∧ TurnO O w w1 from
      ⟨L', ⟨H.out.ex.keep (hT2.block x H.out.ex.lt H.out.ox), HD.out, H.out.ox, fun b => by rw [Dk.flushed_len]; exact H.out.fit b⟩, hT2⟩)
    clear hT2
    go_wp2
    go_ret
    exact ⟨rfl, HX.out⟩)
theorem xdisk_any (h : ExIs w x d s) : Calls Try.prog 48 #[.pointer (some ⟨x, 0, none⟩)] w fun e w' => e = .returned (.pointer (some ⟨d, 0, none⟩)) ∧ w = w' := by
  have H := Lib.hid h
  have c0 := h.c0
  clear h
  go_enter Try.func48, Try.ntmps48
  go_wp2_with (go_at_call 52; refine (xthere_any H.out).mono ?_; rintro e w' ⟨rfl, rfl⟩)
  go_ret
  exact ⟨rfl, rfl⟩
end
end Go.Proofs.Ytgpdkfmneoggkaa
