/- A table of pages in memory; the contracts of there, isSpace, areRights, slot, taken. -/
import Derived.Test.YtgkfejnjjoaihaaDoorPgA
import Derived.Maps.OwnIn
import Derived.Maps.OwnOps
import Derived.Maps.OwnSet
import Derived.Maps.Views
import Derived.WideKeyEntry
import Derived.DeepKeys4
import Derived.WalkSpells
namespace Go.Proofs.YtgkfejnjjoaihaaDoor
open Go.RowKit
open Go.Maps (Keyed)

/-! ### Where a frame stands: a bit for each page -/
def maskN : Nat → (Nat → Bool) → Nat
  | 0, _ => 0
  | n + 1, b => maskN n b + if b n then 2 ^ n else 0
theorem maskN_lt : ∀ (n : Nat) (b : Nat → Bool), maskN n b < 2 ^ n
  | 0, _ => by simp [maskN]
  | n + 1, b => by
    have := maskN_lt n b
    unfold maskN
    rw [Nat.pow_succ]
    split <;> omega
theorem maskN_bit : ∀ (n : Nat) (b : Nat → Bool) (i : Nat), (maskN n b).testBit i = (decide (i < n) && b i)
  | 0, _, i => by simp [maskN]
  | n + 1, b, i => by
    have ih := maskN_bit n b i
    have hlt := maskN_lt n b
    unfold maskN
    by_cases hb : b n
    · rw [if_pos hb]
      by_cases e : i = n
      · subst e
        rw [Nat.add_comm, Nat.testBit_two_pow_add_eq, Nat.testBit_lt_two_pow hlt]
        simp [hb]
      · rcases Nat.lt_or_gt_of_ne e with h | h
        · rw [Nat.add_comm, Nat.testBit_two_pow_add_gt h, ih]
          simp [h, Nat.lt_succ_of_lt h]
        · have h2 : maskN n b + 2 ^ n < 2 ^ i := Nat.lt_of_lt_of_le (by rw [Nat.pow_succ]; omega) (Nat.pow_le_pow_right (by decide) h)
          rw [Nat.testBit_lt_two_pow h2]
          simp; omega
    · rw [if_neg hb, Nat.add_zero, ih]
      by_cases e : i = n
      · subst e; simp [hb]
      · have : decide (i < n) = decide (i < n + 1) := by simp; omega
        rw [this]
/-- A bit for each page of that space behind which that frame stands. -/
def hitB (T : Tb) (f : Int) (s p : Nat) : Bool := (T s p).is && ((T s p).fr == f)
def mask (T : Tb) (f : Int) (s : Nat) : Nat := maskN 32 (hitB T f s)
theorem mask_lt (T : Tb) (f : Int) (s : Nat) : mask T f s < 4294967296 := maskN_lt 32 _
theorem mask_bit (T : Tb) (f : Int) (s i : Nat) : (mask T f s).testBit i = (decide (i < 32) && hitB T f s i) := maskN_bit 32 _ i

/-! ### The map -/
def keyV (f s : Int) : Value := .agg #[.int .i64 f, .int .i64 s]
def keyK (f s : Int) : Lit := .string (keyBytes [.int .i64 f, .int .i64 s])
theorem Tryd.laidOutB : laidOutB Tryd.prog = true := by kernel_rfl
theorem Tryd.uStand : Tryd.prog.underlying 92 = some (.struct (Tryd.prog.fieldsOf 92)) := by kernel_rfl
theorem Tryd.wideStand : (match Tryd.prog.underlying 92 with | some (.array _ _) | some (.struct _) => true | _ => false) = true := by kernel_rfl
set_option maxRecDepth 100000 in
theorem Tryd.lawStand : WideMaps.KeyLaw Tryd.prog 92 := deep_law_laid Tryd.laidOutB (m := 2) (by omega) (of_decide_eq_true (by kernel_rfl)) (by kernel_rfl) Tryd.wideStand
theorem Tryd.kStand : Keyed Tryd.prog 92 := Keyed.of_law Tryd.lawStand

theorem Tryd.uStandX : Tryd.prog.underlying 92 = some (.struct #[{ name := "frame", type := 3, offset := 0, embedded := false, tag := "", pkgPath := "steading/pages", byteOffset := 0 }, { name := "space", type := 3, offset := 1, embedded := false, tag := "", pkgPath := "steading/pages", byteOffset := 8 }]) := by kernel_rfl
theorem Tryd.cStand : Tryd.prog.cellsOf 92 = 2 := by kernel_rfl
theorem Tryd.cInt : Tryd.prog.cellsOf 3 = 1 := by kernel_rfl
theorem Tryd.sizeTypes : ∃ D, Tryd.prog.types.size + 1 = D + 2 := ⟨Tryd.prog.types.size - 1, by have : (1 : Nat) ≤ Tryd.prog.types.size := of_decide_eq_true (by kernel_rfl); omega⟩
theorem key_lits (D : Nat) (f s : Int) (hf : (Lit.int .i64 f).wf = true) (hs : (Lit.int .i64 s).wf = true) : Tryd.prog.keyLits (D + 2) 92 [.int .i64 f, .int .i64 s] = some [.int .i64 f, .int .i64 s] := by
  simp [Program.keyLits, Tryd.uStandX, Tryd.cStand, Tryd.cInt, Tryd.underlying3, hf, hs]
set_option maxRecDepth 100000 in
theorem Tryd.typeStand : Tryd.prog.keyType 92 = true := by kernel_rfl
theorem key_of (f s : Int) (hf : (Lit.int .i64 f).wf = true) (hs : (Lit.int .i64 s).wf = true) : keyOf Tryd.prog 92 (keyV f s) = some (keyK f s) := by
  obtain ⟨D, hD⟩ := Tryd.sizeTypes
  have h1 : (keyV f s).formed Tryd.prog 92 = true := by simp [keyV, Value.formed, Tryd.uStandX, Tryd.cStand]
  have h2 : (keyV f s).cells.toList = [.int .i64 f, .int .i64 s] := rfl
  unfold keyOf
  rw [Tryd.uStandX]
  simp only [Tryd.typeStand, h1, Bool.and_self, if_true]
  rw [hD, h2, key_lits D f s hf hs]
  rfl
theorem wf_nat {n : Nat} (h : n < 1000000) : (Lit.int .i64 (n : Int)).wf = true := by simp [Lit.wf]; exact ⟨by show (-9223372036854775808 : Int) ≤ _; omega, by omega⟩

/-- What a map reads as. -/
def MapIs (D : DataW Unit) (T : Tb) : Prop := ∀ (f : Int) (s : Nat), (Lit.int .i64 f).wf = true → s < 16 → D.atKey (keyK f s) (.lit (.int .u32 0)) = .lit (.int .u32 (mask T f s : Nat))

/-- A table in memory. -/
structure PT (w : World) (t b N : Nat) (T : Tb) : Prop where
  ok : TbOk T
  row : RowIs cvP w t 64 [.map (some b)] T
  map : ∃ D : DataW Unit, w.ownsMap Tryd.prog 92 (plainElem Tryd.prog 30) b N D ∧ MapIs D T
theorem ownsMap_eq {w w' : World} {b n : Nat} {D : DataW Unit} {k : TypeId} {R : Value → Option (DataW Unit × List MemPlace)} (h : w.ownsMap Tryd.prog k R b n D) (e : w'.heap[b]? = w.heap[b]?) : w'.ownsMap Tryd.prog k R b n D := by
  obtain ⟨es, clock, h1, F, hs, hD⟩ := h
  exact ⟨es, clock, e.trans h1, F, hs, hD⟩
section
variable {w w' : World} {t b N : Nat} {T : Tb}
theorem PT.ht (h : PT w t b N T) : t < w.heap.size := h.row.lt
theorem PT.hb (h : PT w t b N T) : b < w.heap.size := by obtain ⟨D, h1, -⟩ := h.map; exact h1.lt
theorem PT.ne (h : PT w t b N T) : t ≠ b := by
  rintro rfl
  obtain ⟨D, ⟨es, clock, h1, -⟩, -⟩ := h.map
  have := h.row.row
  rw [h1] at this
  cases this
theorem PT.keep (h : PT w t b N T) (et : w'.heap[t]? = w.heap[t]?) (eb : w'.heap[b]? = w.heap[b]?) : PT w' t b N T := by
  obtain ⟨D, h1, h2⟩ := h.map
  exact ⟨h.ok, h.row.keep et, D, ownsMap_eq h1 eb, h2⟩
theorem PT.below {B : Nat} (h : PT w t b N T) (hb : Below B w w') (h1 : t < B) (h2 : b < B) : PT w' t b N T := h.keep (hb.block _ h1) (hb.block _ h2)
theorem PT.step (h : PT w t b N T) (hb : Below w.heap.size w w') : PT w' t b N T := h.below hb h.ht h.hb
theorem PT.other {gs : List Nat} (h : PT w t b N T) (hb : Turned w w' gs) (h1 : t ∉ gs) (h2 : b ∉ gs) : PT w' t b N T := h.keep (hb.block _ h.ht h1) (hb.block _ h.hb h2)
theorem PT.mono {N' : Nat} (h : PT w t b N T) (hN : N ≤ N') : PT w t b N' T := by
  obtain ⟨D, ⟨es, clock, h1, F, hs, hD⟩, h2⟩ := h.map
  exact ⟨h.ok, h.row, D, ⟨es, clock, h1, F, Nat.le_trans hs hN, hD⟩, h2⟩
theorem PT.cm (h : PT w t b N T) : w.cell? ⟨t, 2560, none⟩ = some (.map (some b)) := h.row.tail 0
theorem PT.c0 (h : PT w t b N T) (s p : Nat) (hs : s < 16) (hp : p < 32) : w.cell? ⟨t, s * 160 + p * 5, none⟩ = some (.int .i64 (T s p).fr) := h.row.cell s p 0 hs hp (by omega)
theorem PT.c1 (h : PT w t b N T) (s p : Nat) (hs : s < 16) (hp : p < 32) : w.cell? ⟨t, s * 160 + p * 5 + 1, none⟩ = some (.int .i64 (T s p).ri) := h.row.cell s p 1 hs hp (by omega)
theorem PT.c2 (h : PT w t b N T) (s p : Nat) (hs : s < 16) (hp : p < 32) : w.cell? ⟨t, s * 160 + p * 5 + 2, none⟩ = some (.bool (T s p).tc) := h.row.cell s p 2 hs hp (by omega)
theorem PT.c3 (h : PT w t b N T) (s p : Nat) (hs : s < 16) (hp : p < 32) : w.cell? ⟨t, s * 160 + p * 5 + 3, none⟩ = some (.bool (T s p).wr) := h.row.cell s p 3 hs hp (by omega)
theorem PT.c4 (h : PT w t b N T) (s p : Nat) (hs : s < 16) (hp : p < 32) : w.cell? ⟨t, s * 160 + p * 5 + 4, none⟩ = some (.bool (T s p).is) := h.row.cell s p 4 hs hp (by omega)
end

/-! ### The small functions -/
theorem Tryd.qmap : ∀ (w : World) (r : Option Nat), (binOp .neq 62 (.map r) (.map none)).run Tryd.prog w = .ok (.bool (!r.isNone)) w := fun w r => run_neq_map_nil w _ _ _ r Tryd.underlying62
theorem there_any {w : World} {t b N : Nat} {T : Tb} (h : PT w t b N T) : Calls Tryd.prog 43 #[.pointer (some ⟨t, 0, none⟩)] w fun e w' => e = .returned (.bool true) ∧ w = w' := by
  have c0 := h.cm
  have q := Tryd.qmap
  clear h
  go_enter Tryd.func43, Tryd.ntmps43
  go_wp2_with fail
  go_ret
  exact ⟨rfl, rfl⟩
theorem there_no (w : World) : Calls Tryd.prog 43 #[.pointer none] w fun e w' => e = .returned (.bool false) ∧ w = w' := by
  have q := Tryd.qmap
  go_enter Tryd.func43, Tryd.ntmps43
  go_wp2_with fail
  go_ret
  exact ⟨rfl, rfl⟩
theorem there_zero {w : World} {t : Nat} (c0 : w.cell? ⟨t, 2560, none⟩ = some (.map none)) : Calls Tryd.prog 43 #[.pointer (some ⟨t, 0, none⟩)] w fun e w' => e = .returned (.bool false) ∧ w = w' := by
  have q := Tryd.qmap
  go_enter Tryd.func43, Tryd.ntmps43
  go_wp2_with fail
  go_ret
  exact ⟨rfl, rfl⟩
def spaceB (a : Int) : Bool := decide (0 ≤ a) && decide (a < 16)
def rightsB (a : Int) : Bool := decide (0 ≤ a) && decide (a ≤ 7)
theorem isSpace_any (a : Int) (w : World) : Calls Tryd.prog 46 #[.int .i64 a] w fun e w' => e = .returned (.bool (spaceB a)) ∧ w = w' := by
  by_cases h1 : 0 ≤ a
  · have e : spaceB a = decide (a < 16) := by unfold spaceB; simp [h1]
    rw [e]; clear e
    go_enter Tryd.func46, Tryd.ntmps46
    go_wp2_with fail
    go_ret
    exact ⟨rfl, rfl⟩
  · have e : spaceB a = false := by unfold spaceB; simp [h1]
    rw [e]; clear e
    go_enter Tryd.func46, Tryd.ntmps46
    go_wp2_with fail
    go_ret
    exact ⟨rfl, rfl⟩
theorem areRights_any (a : Int) (w : World) : Calls Tryd.prog 51 #[.int .i64 a] w fun e w' => e = .returned (.bool (rightsB a)) ∧ w = w' := by
  by_cases h1 : 0 ≤ a
  · have e : rightsB a = decide (a ≤ 7) := by unfold rightsB; simp [h1]
    rw [e]; clear e
    go_enter Tryd.func51, Tryd.ntmps51
    go_wp2_with fail
    go_ret
    exact ⟨rfl, rfl⟩
  · have e : rightsB a = false := by unfold rightsB; simp [h1]
    rw [e]; clear e
    go_enter Tryd.func51, Tryd.ntmps51
    go_wp2_with fail
    go_ret
    exact ⟨rfl, rfl⟩

/-- May these be a space and a page? -/
def inB (s p : Int) : Bool := spaceB s && (decide (0 ≤ p) && decide (p < 32))
theorem spaceB_iff (s : Int) : spaceB s = true ↔ 0 ≤ s ∧ s < 16 := by simp [spaceB]
theorem inB_iff (s p : Int) : inB s p = true ↔ (0 ≤ s ∧ s < 16) ∧ 0 ≤ p ∧ p < 32 := by simp [inB, spaceB]
theorem inB_nat {s p : Int} (h : inB s p = true) : ∃ i j : Nat, s = i ∧ p = j ∧ i < 16 ∧ j < 32 := by
  obtain ⟨⟨h1, h2⟩, h3, h4⟩ := (inB_iff s p).1 h
  exact ⟨s.toNat, p.toNat, by omega, by omega, by omega, by omega⟩
theorem inB_of {i j : Nat} (hi : i < 16) (hj : j < 32) : inB i j = true := (inB_iff _ _).2 ⟨⟨by omega, by omega⟩, by omega, by omega⟩

theorem slot_no {q : Option Addr} {w : World} (hq : Calls Tryd.prog 43 #[.pointer q] w fun e w' => e = .returned (.bool false) ∧ w = w') (s p : Int) :
    Calls Tryd.prog 50 #[.pointer q, .int .i64 s, .int .i64 p] w fun e w' => e = .returned (.tuple #[.pointer none, .int .i64 1]) ∧ w = w' := by
  go_enter Tryd.func50, Tryd.ntmps50
  go_wp2_with (go_at_call 43; refine hq.mono ?_; rintro e w' ⟨rfl, rfl⟩)
  go_ret2
  exact ⟨rfl, rfl⟩
theorem slot_bad {w : World} {t b N : Nat} {T : Tb} (h : PT w t b N T) (s p : Int) (hb : inB s p = false) :
    Calls Tryd.prog 50 #[.pointer (some ⟨t, 0, none⟩), .int .i64 s, .int .i64 p] w fun e w' => e = .returned (.tuple #[.pointer none, .int .i64 2]) ∧ w = w' := by
  have H := Lib.hid h
  clear h
  rcases hsb : spaceB s with _ | _
  · go_enter Tryd.func50, Tryd.ntmps50
    go_wp2_with (first
      | (go_at_call 43; refine (there_any H.out).mono ?_; rintro e w' ⟨rfl, rfl⟩)
      | (go_at_call 46; refine (isSpace_any s _).mono ?_; rintro e w' ⟨rfl, rfl⟩))
    go_ret2
    exact ⟨rfl, rfl⟩
  · have hp : p < 0 ∨ 32 ≤ p := by
      unfold inB at hb
      rw [hsb] at hb
      simp at hb
      omega
    clear hb
    rcases hp with hp | hp
    · go_enter Tryd.func50, Tryd.ntmps50
      go_wp2_with (first
        | (go_at_call 43; refine (there_any H.out).mono ?_; rintro e w' ⟨rfl, rfl⟩)
        | (go_at_call 46; refine (isSpace_any s _).mono ?_; rintro e w' ⟨rfl, rfl⟩))
      go_ret2
      exact ⟨rfl, rfl⟩
    · have hp0 : 0 ≤ p := by omega
      go_enter Tryd.func50, Tryd.ntmps50
      go_wp2_with (first
        | (go_at_call 43; refine (there_any H.out).mono ?_; rintro e w' ⟨rfl, rfl⟩)
        | (go_at_call 46; refine (isSpace_any s _).mono ?_; rintro e w' ⟨rfl, rfl⟩))
      go_ret2
      exact ⟨rfl, rfl⟩
theorem slot_yes {w : World} {t b N : Nat} {T : Tb} (h : PT w t b N T) (s p : Nat) (hs : s < 16) (hp : p < 32) :
    Calls Tryd.prog 50 #[.pointer (some ⟨t, 0, none⟩), .int .i64 s, .int .i64 p] w fun e w' => e = .returned (.tuple #[.pointer (some ⟨t, s * 160 + p * 5, none⟩), .int .i64 0]) ∧ w = w' := by
  have H := Lib.hid h
  have hsb : spaceB s = true := (spaceB_iff _).2 ⟨by omega, by omega⟩
  clear h
  go_enter Tryd.func50, Tryd.ntmps50
  go_wp2_with (first
    | (go_at_call 43; refine (there_any H.out).mono ?_; rintro e w' ⟨rfl, rfl⟩)
    | (go_at_call 46; refine (isSpace_any s _).mono ?_; rintro e w' ⟨rfl, rfl⟩))
  go_ret2
  exact ⟨rfl, rfl⟩

theorem taken_no {q : Option Addr} {w : World} (hq : Calls Tryd.prog 43 #[.pointer q] w fun e w' => e = .returned (.bool false) ∧ w = w') (s p : Int) :
    Calls Tryd.prog 45 #[.pointer q, .int .i64 s, .int .i64 p] w fun e w' => e = .returned (.tuple #[.pointer none, .int .i64 1]) ∧ w = w' := by
  go_enter Tryd.func45, Tryd.ntmps45
  go_wp2_with (go_at_call 50; refine (slot_no hq s p).mono ?_; rintro e w' ⟨rfl, rfl⟩)
  go_ret2
  exact ⟨rfl, rfl⟩
theorem taken_bad {w : World} {t b N : Nat} {T : Tb} (h : PT w t b N T) (s p : Int) (hb : inB s p = false) :
    Calls Tryd.prog 45 #[.pointer (some ⟨t, 0, none⟩), .int .i64 s, .int .i64 p] w fun e w' => e = .returned (.tuple #[.pointer none, .int .i64 2]) ∧ w = w' := by
  have H := Lib.hid h
  clear h
  go_enter Tryd.func45, Tryd.ntmps45
  go_wp2_with (go_at_call 50; refine (slot_bad H.out s p hb).mono ?_; rintro e w' ⟨rfl, rfl⟩)
  go_ret2
  exact ⟨rfl, rfl⟩
theorem taken_none {w : World} {t b N : Nat} {T : Tb} (h : PT w t b N T) (s p : Nat) (hs : s < 16) (hp : p < 32) (hi : (T s p).is = false) :
    Calls Tryd.prog 45 #[.pointer (some ⟨t, 0, none⟩), .int .i64 s, .int .i64 p] w fun e w' => e = .returned (.tuple #[.pointer none, .int .i64 6]) ∧ w = w' := by
  have H := Lib.hid h
  have c4 := h.c4 s p hs hp
  have hsz := h.ht
  rw [hi] at c4
  clear h hi
  go_enter Tryd.func45, Tryd.ntmps45
  go_wp2_with (go_at_call 50; refine (slot_yes H.out s p hs hp).mono ?_; rintro e w' ⟨rfl, rfl⟩)
  go_ret2
  exact ⟨rfl, rfl⟩
theorem taken_yes {w : World} {t b N : Nat} {T : Tb} (h : PT w t b N T) (s p : Nat) (hs : s < 16) (hp : p < 32) (hi : (T s p).is = true) :
    Calls Tryd.prog 45 #[.pointer (some ⟨t, 0, none⟩), .int .i64 s, .int .i64 p] w fun e w' => e = .returned (.tuple #[.pointer (some ⟨t, s * 160 + p * 5, none⟩), .int .i64 0]) ∧ w = w' := by
  have H := Lib.hid h
  have c4 := h.c4 s p hs hp
  have hsz := h.ht
  rw [hi] at c4
  clear h hi
  go_enter Tryd.func45, Tryd.ntmps45
  go_wp2_with (go_at_call 50; refine (slot_yes H.out s p hs hp).mono ?_; rintro e w' ⟨rfl, rfl⟩)
  go_ret2
  exact ⟨rfl, rfl⟩
end Go.Proofs.YtgkfejnjjoaihaaDoor
