/- The law's helpers: num, sector; extents and their disk, as the law's texts use them. -/
import Derived.Test.YtgpdkfmneoggkaaExH
import Derived.Laws.BytesString
import Derived.Laws.BytesArg
import Derived.WalkMore
namespace Go.Proofs.Ytgpdkfmneoggkaa
open Go.RowKit
open Go.Maps (Keyed)
attribute [local go_sem] Oper.semAt_some

theorem num_any10 (n : Int) (w : World) : Calls Try.prog 16 #[.int .i64 n] w fun e w' => e = .returned (.int .i64 n) ∧ w = w' := by
  go_enter Try.func16, Try.ntmps16
  go_wp2
  go_ret
  exact ⟨rfl, rfl⟩
theorem Try.infoU8k : (Try.prog.info? 5).map (fun i => (i.zero, i.size, i.bytes)) = some (some (.int .u8 0), 1, 1) := by kernel_rfl
theorem run_make9 (n : Nat) (hn : n ≤ 1000000) (w : World) : (Instr.makeSlice 34 (.int .i64 (n : Int)) (.int .i64 (n : Int))).run Try.prog w = .ok (.slice (some ⟨w.heap.size, 0, none⟩) n n) (w.alloc (.cells (madeCells #[.int .u8 0] n) 5)) := by
  obtain ⟨i, hi, hz, hs, hb⟩ := info_parts Try.infoU8k
  have := run_make (P := Try.prog) w 34 5 i (.int .u8 0) Try.underlying34 hi hz .i64 .i64 n n (by omega) (Int.le_refl _) (by rw [hb]; omega) (by omega)
  rw [this, hs]
  simp [Value.cells]
/-- A sector full of a byte. -/
def fullS (c : Int) : Sec := List.replicate 128 c
theorem fullS_ok {c : Int} (h0 : 0 ≤ c) (h1 : c < 256) : SecOk (fullS c) := ⟨by simp [fullS], fun x hx => by rw [(List.mem_replicate.1 hx).2]; exact ⟨h0, h1⟩⟩
/-- A slice of a sector's bytes. -/
def SecSl (w : World) (c : Sec) (e : Ending) (w' : World) : Prop := ∃ g k, e = .returned (.slice (some ⟨g, 0, none⟩) 128 k) ∧ w.heap.size ≤ g ∧ w'.rangeAt g 0 (secL c) ∧ Below w.heap.size w w'
set_option maxHeartbeats 1000000 in
set_option maxRecDepth 100000 in
theorem sector_any10 (c : Int) (w : World) : Calls Try.prog 27 #[.int .u8 c] w (SecSl w (fullS c)) := by
  have hmk : ∀ w : World, (Instr.makeSlice 34 (.int .i64 128) (.int .i64 128)).run Try.prog w = .ok (.slice (some ⟨w.heap.size, 0, none⟩) 128 128) (w.alloc (.cells (madeCells #[.int .u8 0] 128) 5)) := fun w => run_make9 128 (by omega) w
  go_enter Try.func27, Try.ntmps27
  go_wp2
  go_loopw [4] (fun i wr => ∃ k : Nat, k ≤ 128 ∧ i = .int .i64 (k : Int) ∧ (∃ row, wr.heap[w.heap.size]? = some (.cells row 5 (0, 0)) ∧ row.size = 128 ∧ ∀ j, j < k → row[j]? = some (.int .u8 c)) ∧ Below w.heap.size w wr) (fun i _ => 128 - (intOf i).toNat)
  case atStart => exact ⟨0, by omega, rfl, ⟨_, heap_alloc_new w _, by simp [madeCells], fun j hj => by omega⟩, (Below.refl _ w).alloc (Nat.le_refl _) _⟩
  case round =>
    obtain ⟨k, hk, rfl, ⟨row, hr, hs, hv⟩, hb⟩ := hrel
    have HV := Lib.hid hv
    have HB := Lib.hid hb
    have HR := Lib.hid hr
    have hz := frozen_of_row _ _ k _ _ hr
    clear hv hb
    by_cases hlt : k < 128
    · have hlt' : (k : Int) < 128 := by omega
      have hcell : wr.cell? ⟨w.heap.size, k, none⟩ = some row[k] := by rw [cell_of_row _ _ _ _ _ _ hr, Array.getElem?_eq_getElem (by omega)]
      clear hr
      go_wp2
      go_roundw
      case rel =>
        refine ⟨k + 1, hlt, by go_num, ⟨_, heap_setCell_same _ _ _ _ _ _ HR.out, by simp [hs], fun j hj => ?_⟩, HB.out.setCell (Nat.le_refl _) _⟩
        rw [Array.getElem?_setIfInBounds]
        by_cases e : k = j
        · rw [if_pos e, if_pos (by omega)]
        · rw [if_neg e]; exact HV.out j (by omega)
      case measure => simp [intOf]; omega
    · obtain rfl : k = 128 := by omega
      go_wp2
      go_ret
      refine ⟨w.heap.size, 128, rfl, Nat.le_refl _, fun j v hj => ?_, HB.out⟩
      unfold secL fullS at hj
      rw [List.map_replicate, List.getElem?_replicate] at hj
      split at hj
      · rename_i hj2
        cases hj
        rw [Nat.zero_add, cell_of_row _ _ _ _ _ _ HR.out]
        exact HV.out j hj2
      · cases hj

/-- A sector's bytes as a text. -/
def strS (c : Sec) : Value := .string (strOfNums c)
theorem conv_sec {w : World} {g o : Nat} {c : Sec} (h : w.rangeAt g o (secL c)) (hok : SecOk c) (k : Nat) :
    (convert 34 9 (.slice (some ⟨g, o, none⟩) 128 k)).run Try.prog w = .ok (strS c) w := by
  have hl := hok.len
  exact run_convert_bytes_arg w 34 5 Try.underlying34 Try.underlying5 g o 128 k c hl (fun j hj => by
    rw [List.getD_eq_getElem?_getD, List.getElem?_eq_getElem (by omega)]
    exact h j (.int .u8 (c[j]'(by omega))) (by unfold secL; rw [List.getElem?_map, List.getElem?_eq_getElem (by omega)]; rfl)) 9 Try.underlying9

/-! ### Evaluated -/
def Pt.freeB (p : Pt) (f n : Nat) : Bool := decide (f + n ≤ p.ct) && (List.range n).all (fun i => !p.bit (f + i))
theorem Pt.freeB_iff (p : Pt) (f n : Nat) : p.freeB f n = true ↔ p.free f n := by
  unfold Pt.freeB Pt.free
  simp only [Bool.and_eq_true, decide_eq_true_eq, List.all_eq_true, List.mem_range, Bool.not_eq_true']
  constructor
  · rintro ⟨h1, h2⟩
    refine ⟨h1, fun j hj hj2 => ?_⟩
    have := h2 (j - f) (by omega)
    rwa [show f + (j - f) = j by omega] at this
  · rintro ⟨h1, h2⟩
    exact ⟨h1, fun i hi => h2 (f + i) (by omega) (by omega)⟩
theorem Pt.room_eq (p : Pt) (n : Nat) : p.room n = (List.range (p.ct + 1)).find? (fun f => p.freeB f n) := by
  unfold Pt.room
  congr 1
  funext f
  by_cases h : p.free f n
  · rw [(Pt.freeB_iff p f n).2 h]; simp [h]
  · have : p.freeB f n = false := by
      cases hb : p.freeB f n with
      | true => exact absurd ((Pt.freeB_iff p f n).1 hb) h
      | false => rfl
    rw [this]; simp [h]
theorem Pt.room_big {p : Pt} {n : Nat} (h : p.ct < n) : p.room n = none := Pt.room_none fun g hg => by have := hg.1; omega
def Pt.fullB (p : Pt) (f n : Nat) : Bool := (List.range n).all (fun i => p.bit (f + i))
theorem Pt.fullB_iff (p : Pt) (f n : Nat) : p.fullB f n = true ↔ p.full f n := by
  unfold Pt.fullB Pt.full
  simp only [List.all_eq_true, List.mem_range]
  constructor
  · intro h2 j hj hj2
    have := h2 (j - f) (by omega)
    rwa [show f + (j - f) = j by omega] at this
  · intro h2 i hi
    exact h2 (f + i) (by omega) (by omega)
theorem ints_row {w : World} {g : Nat} {qs : List Int} {t : TypeId} (h : w.heap[g]? = some (.cells (qs.map (Value.int .i64)).toArray t (0, 0))) (hb : ∀ q ∈ qs, -9223372036854775808 ≤ q ∧ q ≤ 9223372036854775807) : IntsIn w (some ⟨g, 0, none⟩) qs := fun k v hk =>
  ⟨g, 0, rfl, by rw [cell_of_row _ _ _ _ _ _ h, List.getElem?_toArray, List.getElem?_map, Nat.zero_add, hk]; rfl, hb v (List.mem_of_getElem? hk)⟩
theorem ints_nil (w : World) (A : Option Addr) : IntsIn w A [] := fun k v hk => by simp at hk
section
variable {w : World} {O : Nat → Prop} {d : Nat} {L : Lay9} {k : Dk}
theorem xnew_arg (h : DkAt w O d L k) (A : Option Addr) (qs : List Int) (n c : Nat) (hn : qs.length = n) (hn2 : n ≤ 9223372036854775807) (hq : IntsIn w A qs) (hb : qs.length < 1 ∨ 8 < qs.length ∨ ∃ q ∈ qs, q < 0) :
    Calls Try.prog 20 #[.pointer (some ⟨d, 0, none⟩), .slice A n c] w fun e w' => e = .returned (.tuple #[.pointer none, .int .i64 2]) ∧ Below w.heap.size w w' := by
  refine (xnew_any h A qs n c hn hn2 hq).mono fun e w' hh => ?_
  rcases hh with ⟨-, h1⟩ | ⟨⟨h1, h2, h3, -⟩, -⟩ | ⟨⟨h1, h2, h3, -⟩, -⟩
  · exact h1
  all_goals
    rcases hb with hb | hb | ⟨q, hq, hb⟩
    · omega
    · omega
    · have := h3 q hq; omega
theorem xnew_full (h : DkAt w O d L k) (A : Option Addr) (qs : List Int) (n c : Nat) (hn : qs.length = n) (hn2 : n ≤ 9223372036854775807) (hq : IntsIn w A qs) (h1 : 1 ≤ qs.length) (h2 : qs.length ≤ 8) (h3 : ∀ q ∈ qs, 0 ≤ q) (h4 : k.fl.length < sumQ qs qs.length) :
    Calls Try.prog 20 #[.pointer (some ⟨d, 0, none⟩), .slice A n c] w fun e w' => e = .returned (.tuple #[.pointer none, .int .i64 5]) ∧ Below w.heap.size w w' := by
  refine (xnew_any h A qs n c hn hn2 hq).mono fun e w' hh => ?_
  rcases hh with ⟨hb, -⟩ | ⟨-, h1⟩ | ⟨⟨-, -, -, h5⟩, -⟩
  · rcases hb with hb | hb | ⟨q, hq, hb⟩
    · omega
    · omega
    · have := h3 q hq; omega
  · exact h1
  · omega
theorem xnew_ok (h : DkAt w O d L k) (A : Option Addr) (qs : List Int) (n c : Nat) (hn : qs.length = n) (hn2 : n ≤ 9223372036854775807) (hq : IntsIn w A qs) (h1 : 1 ≤ qs.length) (h2 : qs.length ≤ 8) (h3 : ∀ q ∈ qs, 0 ≤ q) (h4 : sumQ qs qs.length ≤ k.fl.length) :
    Calls Try.prog 20 #[.pointer (some ⟨d, 0, none⟩), .slice A n c] w fun e w' => ∃ x, e = .returned (.tuple #[.pointer (some ⟨x, 0, none⟩), .int .i64 0]) ∧ ExIs w' x d (newXt qs qs.length) ∧ w.heap.size ≤ x ∧ Below w.heap.size w w' := by
  refine (xnew_any h A qs n c hn hn2 hq).mono fun e w' hh => ?_
  rcases hh with ⟨hb, -⟩ | ⟨⟨-, -, -, h5⟩, -⟩ | ⟨-, h1⟩
  · rcases hb with hb | hb | ⟨q, hq, hb⟩
    · omega
    · omega
    · have := h3 q hq; omega
  · omega
  · exact h1
end

/-- Extents and a disk that came since w. -/
structure Kn (w wi : World) (O : Nat → Prop) (x d : Nat) (L : Lay9) (s : Xt) (k : Dk) : Prop where
  ed : ExDk wi O x d L s k
  oo : ∀ b, O b → w.heap.size ≤ b
  xx : w.heap.size ≤ x
  bl : Below w.heap.size w wi
section
variable {w wi : World} {O : Nat → Prop} {x d : Nat} {L : Lay9} {s : Xt} {k : Dk}
theorem Kn.step {w' : World} (h : Kn w wi O x d L s k) (hb : Below wi.heap.size wi w') : Kn w w' O x d L s k := ⟨h.ed.step hb, h.oo, h.xx, h.bl.trans (hb.mono h.bl.size)⟩
theorem Kn.turn {w' : World} {s' : Xt} (h : Kn w wi O x d L s k) (hE : ExIs w' x d s') (hT : TurnO (· = x) wi w') (hf : ∀ a, (s'.pt a).fi = (s.pt a).fi ∧ (s'.pt a).ct = (s.pt a).ct) : Kn w w' O x d L s' k :=
  ⟨⟨hE, h.ed.dk.other hT (fun b hb e => h.ed.ox (e ▸ hb)), h.ed.ox, fun a => by rw [(hf a).1, (hf a).2]; exact h.ed.fit a⟩, h.oo, h.xx, h.bl.trans (hT.below h.bl.size (fun b e => by rw [e]; exact h.xx))⟩
theorem turn_same (s : Xt) (a f n : Nat) (b : Nat) : ((s.set a ((s.pt a).turn f n)).pt b).fi = (s.pt b).fi ∧ ((s.set a ((s.pt a).turn f n)).pt b).ct = (s.pt b).ct := by
  by_cases e : b = a
  · subst e
    rw [Xt.set_same]
    exact ⟨(Pt.turn_ct _ _ _).2, (Pt.turn_ct _ _ _).1⟩
  · rw [Xt.set_other _ _ _ e]; exact ⟨rfl, rfl⟩
theorem kn_take (h : Kn w wi O x d L s k) (a : Nat) (ha : a < s.n) (n : Nat) (h1 : 1 ≤ n) (h2 : n ≤ 9223372036854775807) (f : Nat) (hr : (s.pt a).room n = some f) :
    Calls Try.prog 17 #[.pointer (some ⟨x, 0, none⟩), .int .i64 (a : Int), .int .i64 (n : Int)] wi fun e w' => e = .returned (.tuple #[.int .i64 (f : Int), .int .i64 0]) ∧ Kn w w' O x d L (s.set a ((s.pt a).turn f n)) k := by
  refine (xtake_yes h.ed.ex a ha n h1 h2).mono fun e w' hh => ?_
  unfold TakeOut at hh
  rw [hr] at hh
  exact ⟨hh.1, h.turn hh.2.1 hh.2.2 (turn_same s a f n)⟩
theorem kn_take_full (h : Kn w wi O x d L s k) (a : Nat) (ha : a < s.n) (n : Nat) (h1 : 1 ≤ n) (h2 : n ≤ 9223372036854775807) (hr : (s.pt a).room n = none) :
    Calls Try.prog 17 #[.pointer (some ⟨x, 0, none⟩), .int .i64 (a : Int), .int .i64 (n : Int)] wi fun e w' => e = .returned (.tuple #[.int .i64 0, .int .i64 5]) ∧ wi = w' := by
  refine (xtake_yes h.ed.ex a ha n h1 h2).mono fun e w' hh => ?_
  unfold TakeOut at hh
  rw [hr] at hh
  exact hh
theorem kn_give (h : Kn w wi O x d L s k) (a : Nat) (ha : a < s.n) (f n : Nat) (h1 : 1 ≤ n) (h2 : n ≤ 9223372036854775807) (hr : (s.pt a).full f n) :
    Calls Try.prog 23 #[.pointer (some ⟨x, 0, none⟩), .int .i64 (a : Int), .int .i64 (f : Int), .int .i64 (n : Int)] wi fun e w' => e = .returned (.int .i64 0) ∧ Kn w w' O x d L (s.set a ((s.pt a).turn f n)) k := by
  refine (xgive_yes h.ed.ex a ha f n h1 h2).mono fun e w' hh => ?_
  rcases hh with ⟨-, he, hE, hT⟩ | ⟨hn, -⟩
  · exact ⟨he, h.turn hE hT (turn_same s a f n)⟩
  · exact absurd hr hn
theorem kn_give_not (h : Kn w wi O x d L s k) (a : Nat) (ha : a < s.n) (f n : Nat) (h1 : 1 ≤ n) (h2 : n ≤ 9223372036854775807) (hr : ¬ (s.pt a).full f n) :
    Calls Try.prog 23 #[.pointer (some ⟨x, 0, none⟩), .int .i64 (a : Int), .int .i64 (f : Int), .int .i64 (n : Int)] wi fun e w' => e = .returned (.int .i64 6) ∧ wi = w' := by
  refine (xgive_yes h.ed.ex a ha f n h1 h2).mono fun e w' hh => ?_
  rcases hh with ⟨hn, -⟩ | ⟨-, h1⟩
  · exact absurd hn hr
  · exact h1
theorem kn_write (h : Kn w wi O x d L s k) (a : Nat) (ha : a < s.n) (i : Nat) (hi : i < (s.pt a).ct) (hb : (s.pt a).bit i = true) (bg bo cap : Nat) (c : Sec) (hc : SecOk c) (hsrc : wi.rangeAt bg bo (secL c)) (hbo : ¬ O bg) (hw : k.wr < 1000000) :
    Calls Try.prog 26 #[.pointer (some ⟨x, 0, none⟩), .int .i64 (a : Int), .int .i64 (i : Int), .slice (some ⟨bg, bo, none⟩) 128 cap] wi fun e w' =>
      e = .returned (.int .i64 0) ∧ ∃ O' L', Kn w w' O' x d L' s (k.push (((s.pt a).fi + i : Nat) : Int) c) := by
  refine (xwrite_yes h.ed a ha i hi hb bg bo cap c hc hsrc hbo hw).mono fun e w' ⟨he, O', L', hE, hO, hT⟩ => ?_
  exact ⟨he, O', L', hE, fun b hb => (hO b hb).elim (h.oo b) (fun hh => by have := h.bl.size; omega), h.xx, h.bl.trans (hT.below h.bl.size h.oo)⟩
theorem kn_flush (h : Kn w wi O x d L s k) (a : Nat) (ha : a < s.n) : Calls Try.prog 28 #[.pointer (some ⟨x, 0, none⟩), .int .i64 (a : Int)] wi fun e w' =>
    e = .returned (.int .i64 0) ∧ ∃ L', Kn w w' O x d L' s (k.flushed (s.pt a).fi (s.pt a).ct) := by
  refine (xflush_yes h.ed a ha).mono fun e w' ⟨he, L', hE, hT⟩ => ?_
  exact ⟨he, L', hE, h.oo, h.xx, h.bl.trans (hT.below h.bl.size h.oo)⟩
end
end Go.Proofs.Ytgpdkfmneoggkaa
