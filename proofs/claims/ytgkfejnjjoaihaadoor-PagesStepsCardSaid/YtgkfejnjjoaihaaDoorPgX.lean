/- bits.OnesCount32, bits.TrailingZeros32: what they count. -/
import Derived.Test.YtgkfejnjjoaihaaDoorPgW
import Derived.Shelf.Small.Bits
import Derived.Shelf.Spec.TrailingZeros
namespace Go.Proofs.YtgkfejnjjoaihaaDoor
open Go.RowKit
attribute [local go_sem] Oper.semAt_some

/-! ### Ones -/
theorem pop_add : ∀ (a b x : Nat), Lib.popAux (a + b) x = Lib.popAux a x + Lib.popAux b (x / 2 ^ a)
  | 0, b, x => by simp [Lib.popAux]
  | a + 1, b, x => by
    rw [show a + 1 + b = (a + b) + 1 by omega]
    show x % 2 + Lib.popAux (a + b) (x / 2) = x % 2 + Lib.popAux a (x / 2) + Lib.popAux b (x / 2 ^ (a + 1))
    rw [pop_add a b (x / 2), Nat.div_div_eq_div_mul, show 2 * 2 ^ a = 2 ^ (a + 1) by rw [Nat.pow_succ]; omega]
    omega
theorem pop_zero : ∀ (a : Nat), Lib.popAux a 0 = 0
  | 0 => rfl
  | a + 1 => by show 0 % 2 + Lib.popAux a (0 / 2) = 0; simp [pop_zero a]
theorem pop_mod : ∀ (a x : Nat), Lib.popAux a (x % 2 ^ a) = Lib.popAux a x
  | 0, x => rfl
  | a + 1, x => by
    show x % 2 ^ (a + 1) % 2 + Lib.popAux a (x % 2 ^ (a + 1) / 2) = x % 2 + Lib.popAux a (x / 2)
    have h1 : x % 2 ^ (a + 1) / 2 = x / 2 % 2 ^ a := by rw [Nat.pow_succ, Nat.mul_comm]; exact Nat.mod_mul_right_div_self x 2 (2 ^ a)
    have h2 : x % 2 ^ (a + 1) % 2 = x % 2 := Nat.mod_mod_of_dvd _ (by rw [Nat.pow_succ]; exact Nat.dvd_mul_left _ _)
    rw [h1, h2, pop_mod a (x / 2)]
theorem pop_byte {x : Nat} (hx : x < 256) : Lib.onesCount x = Lib.popAux 8 x := by
  unfold Lib.onesCount
  rw [show 64 = 8 + 56 from rfl, pop_add, show x / 2 ^ 8 = 0 by omega, pop_zero]
  omega
theorem pop_word (x : Nat) (hx : x < 4294967296) : Lib.onesCount (x / 16777216) + Lib.onesCount (x / 65536 % 256) + Lib.onesCount (x / 256 % 256) + Lib.onesCount (x % 256) = Lib.popAux 32 x := by
  rw [pop_byte (by omega), pop_byte (by omega), pop_byte (by omega), pop_byte (by omega)]
  have h0 := pop_add 8 24 x
  have h1 := pop_add 8 16 (x / 2 ^ 8)
  have h2 := pop_add 8 8 (x / 2 ^ 8 / 2 ^ 8)
  have m0 := pop_mod 8 x
  have m1 := pop_mod 8 (x / 256)
  have m2 := pop_mod 8 (x / 65536)
  rw [show (8 : Nat) + 24 = 32 from rfl] at h0
  rw [show (8 : Nat) + 16 = 24 from rfl] at h1
  rw [show (8 : Nat) + 8 = 16 from rfl] at h2
  rw [show x / 2 ^ 8 / 2 ^ 8 / 2 ^ 8 = x / 16777216 by omega, show x / 2 ^ 8 / 2 ^ 8 = x / 65536 by omega] at h2
  rw [show x / 2 ^ 8 / 2 ^ 8 = x / 65536 by omega, show x / 2 ^ 8 = x / 256 by omega] at h1
  rw [show x / 2 ^ 8 = x / 256 by omega] at h0
  rw [show (2 : Nat) ^ 8 = 256 from rfl] at m0 m1 m2
  omega
theorem pop_filter : ∀ (n x : Nat), Lib.popAux n x = ((List.range n).filter (fun i => x.testBit i)).length
  | 0, x => rfl
  | n + 1, x => by
    rw [pop_add n 1 x, List.range_succ, List.filter_append, List.length_append, pop_filter n x]
    congr 1
    show x / 2 ^ n % 2 + 0 = _
    have h : x.testBit n = decide (x / 2 ^ n % 2 = 1) := by rw [Nat.testBit_eq_decide_div_mod_eq]
    by_cases c : x / 2 ^ n % 2 = 1
    · simp [h, c]
    · have : x / 2 ^ n % 2 = 0 := by omega
      simp [h, this]

theorem pop_index (q : Nat) (hq : q < 256) (w : World) : (Instr.index 9 (.string Lib.pop8tab) (.int .u32 q)).run Tryd.prog w = .ok (.int .u8 (Lib.onesCount q : Nat)) w := by
  have := Lib.run_index_pop8tab (P := Tryd.prog) w 9 .u32 q Tryd.underlying9 (by omega) (by omega)
  rw [this]
  have e := Lib.pop8_eq ⟨q, hq⟩
  simp only at e
  rw [e]
theorem ones_le {q : Nat} (hq : q < 256) : Lib.onesCount q ≤ 8 := Lib.onesCount_le8 ⟨q, hq⟩
theorem and255 (x : Nat) (hx : x < 4294967296) : bits .and .u32 (x : Int) 255 = ((x % 256 : Nat) : Int) := by
  have := bits_and_u32_nat x 255 hx (by decide)
  rw [show ((255 : Nat) : Int) = 255 from rfl] at this
  rw [this, show (255 : Nat) = 2 ^ 8 - 1 from rfl, Nat.and_two_pow_sub_one_eq_mod]
set_option maxRecDepth 100000 in
set_option maxHeartbeats 1000000 in
theorem ones_any (x : Nat) (hx : x < 4294967296) (w : World) : Calls Tryd.prog 49 #[.int .u32 x] w fun e w' => e = .returned (.int .i64 (Lib.popAux 32 x : Nat)) ∧ Below w.heap.size w w' := by
  have hpop := pop_word x hx
  have i0 := pop_index (x / 16777216) (by omega) w.drew
  have i1 := pop_index (x / 65536 % 256) (by omega) w.drew
  have i2 := pop_index (x / 256 % 256) (by omega) w.drew
  have i3 := pop_index (x % 256) (by omega) w.drew
  have l0 := ones_le (q := x / 16777216) (by omega)
  have l1 := ones_le (q := x / 65536 % 256) (by omega)
  have l2 := ones_le (q := x / 256 % 256) (by omega)
  have l3 := ones_le (q := x % 256) (by omega)
  have a1 := and255 (x / 65536) (by omega)
  have a2 := and255 (x / 256) (by omega)
  have a3 := and255 x hx
  generalize Lib.onesCount (x / 16777216) = p0 at *
  generalize Lib.onesCount (x / 65536 % 256) = p1 at *
  generalize Lib.onesCount (x / 256 % 256) = p2 at *
  generalize Lib.onesCount (x % 256) = p3 at *
  rw [← hpop]
  clear hpop
  have d0 : (x : Int) / 16777216 = ((x / 16777216 : Nat) : Int) := by omega
  have d1 : (x : Int) / 65536 = ((x / 65536 : Nat) : Int) := by omega
  have d2 : (x : Int) / 256 = ((x / 256 : Nat) : Int) := by omega
  generalize x / 65536 % 256 = q1 at *
  generalize x / 256 % 256 = q2 at *
  generalize x % 256 = q3 at *
  generalize x / 16777216 = q0 at *
  generalize x / 65536 = y1 at *
  generalize x / 256 = y2 at *
  go_enter Tryd.func49, Tryd.ntmps49
  generalize hs : Value.string (ByteArray.mk _) = S
  obtain rfl : S = Value.string Lib.pop8tab := by rw [← hs]; rfl
  clear hs
  go_wp2
  go_region
  go_wp2
  go_ret
  exact ⟨by push_cast; rfl, (Below.refl _ w).drew⟩

/-! ### Trailing zeros -/
/-- The library's table is as it is laid. -/
def TzTab (w : World) : Prop := ∀ j, j < 32 → w.cell? ⟨0, j, none⟩ = some (.int .u8 ((Lib.deBruijn32tab.getD j 0 : Nat) : Int))
theorem TzTab.below {w w' : World} {B : Nat} (h : TzTab w) (hb : Below B w w') (hB : 0 < B) : TzTab w' := fun j hj => (hb.cell (p := ⟨0, j, none⟩) hB).trans (h j hj)
theorem TzTab.lt {w : World} (h : TzTab w) : 0 < w.heap.size := block_lt_of_cell (h 0 (by decide))
theorem TzTab.turned {w w' : World} {gs : List Nat} (h : TzTab w) (ht : Turned w w' gs) (hg : 0 ∉ gs) : TzTab w' := fun j hj => (World.cell?_of_block (a := ⟨0, j, none⟩) (ht.block _ h.lt hg)).trans (h j hj)
set_option maxHeartbeats 1000000 in
theorem tz_core (x k idx : Nat) (w : World) (h0 : ((x : Int) == 0) = false) (key : bits BinOp.and IntKind.u32 (x : Int) (-(x : Int) % 4294967296) * 125613361 % 4294967296 / 134217728 = (idx : Int)) (hi : idx < 32) (hk : k < 32)
    (hcell : w.cell? ⟨0, idx, none⟩ = some (.int .u8 k)) : Calls Tryd.prog 48 #[.int .u32 x] w fun e w' => e = .returned (.int .i64 k) ∧ w = w' := by
  go_enter Tryd.func48, Tryd.ntmps48
  go_wp2_with (simp only [key])
  go_ret
  exact ⟨rfl, rfl⟩
theorem tz_any (x : Nat) (hx : x < 4294967296) (hx0 : x ≠ 0) (w : World) (hT : TzTab w) : Calls Tryd.prog 48 #[.int .u32 x] w fun e w' => e = .returned (.int .i64 (Lib.ctz 32 x : Nat)) ∧ w = w' := by
  obtain ⟨hlow, hk⟩ := Lib.lowest_bit 32 x hx0 hx
  obtain ⟨hi, htab⟩ := Lib.deBruijn32_at _ hk
  have hcell := hT _ hi
  rw [htab] at hcell
  exact tz_core x _ _ w (by simp; omega) (tz32_key x _ hx hx0 hlow) hi hk hcell
end Go.Proofs.YtgkfejnjjoaihaaDoor
