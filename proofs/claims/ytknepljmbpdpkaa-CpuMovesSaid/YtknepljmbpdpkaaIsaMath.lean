/- Words of instructions as sums: plain arithmetic, no Go. Proved: the bits that isa.Word lays are that sum, and what is read off a word. -/
import Derived.Test.YtknepljmbpdpkaaIsaSpec
import Derived.Lib.EndianBits
import Derived.Laws.BitsAllLaws
namespace Go.Proofs.Ytknepljmbpdpkaa

def regOk (b : Bool) (n : Int) : Bool := decide (n = 0) || (b && decide (0 < n ∧ n < 16))
def mayB (op d a b m : Int) : Bool :=
  isOp op && (regOk (nmD (formOf op)) d && (regOk (nmA (formOf op)) a && (regOk (nmB (formOf op)) b && (decide (m = 0) || (nmM (formOf op) && decide (leastOf op ≤ m ∧ m ≤ mostOf op))))))
def keepIf (b : Bool) (n : Int) : Int := if b then n else 0

/-- The word of an instruction. -/
def wordOf (op d a b m : Int) : Int := op + (16 * d + a) * 256 + (if formOf op = 5 then b * 65536 else m % 65536 * 65536)

/-- What is known of the numbers of an instruction that may be. -/
theorem may_parts {op d a b m : Int} (h : mayB op d a b m = true) :
    (1 ≤ op ∧ op ≤ 28) ∧ (0 ≤ d ∧ d ≤ 15) ∧ (0 ≤ a ∧ a ≤ 15) ∧ (0 ≤ b ∧ b ≤ 15) ∧ (-32768 ≤ m ∧ m ≤ 65535) ∧ (formOf op ≠ 5 → b = 0) ∧ (formOf op = 5 → m = 0) := by
  unfold mayB isOp regOk nmD nmA nmB nmM at h
  simp only [Bool.and_eq_true, Bool.or_eq_true, decide_eq_true_eq] at h
  obtain ⟨h0, h1, h2, h3, h4⟩ := h
  have hl : -32768 ≤ leastOf op := by unfold leastOf; split <;> omega
  have hm : mostOf op ≤ 65535 := by unfold mostOf; split <;> omega
  refine ⟨h0, ?_, ?_, ?_, ?_, ?_, ?_⟩
  · rcases h1 with h | ⟨_, h⟩ <;> omega
  · rcases h2 with h | ⟨_, h⟩ <;> omega
  · rcases h3 with h | ⟨_, h⟩ <;> omega
  · rcases h4 with h | ⟨_, h⟩ <;> omega
  · intro hf; rcases h3 with h | ⟨h, _⟩ <;> omega
  · intro hf; rcases h4 with h | ⟨h, _⟩ <;> omega

theorem or_low (i : Nat) (y x : Int) (hy₀ : 0 ≤ y) (hy : y < 2 ^ i) (hy₁ : y < 4294967296) (hx₀ : 0 ≤ x) (hx : x % 2 ^ i = 0) (hx₁ : x < 4294967296) : bits .or .u32 y x = y + x :=
  bits_join_low .u32 32 (by decide) wraps_u32 i y x hy₀ hy (by omega) hx₀ hx hx₁

/-- What isa.Word lays is the word. -/
theorem word_bits {op d a b m : Int} (h : mayB op d a b m = true) :
    bits BinOp.or IntKind.u32 (bits BinOp.or IntKind.u32 (bits BinOp.or IntKind.u32 (bits BinOp.or IntKind.u32 (op % 4294967296) (a % 4294967296 * 256 % 4294967296)) (d % 4294967296 * 4096 % 4294967296)) (b % 4294967296 * 65536 % 4294967296)) (m % 4294967296 * 65536 % 4294967296) = wordOf op d a b m := by
  obtain ⟨⟨ho, ho'⟩, ⟨hd, hd'⟩, ⟨ha, ha'⟩, ⟨hb, hb'⟩, ⟨hm, hm'⟩, hf, hf'⟩ := may_parts h
  have eo : op % 4294967296 = op := by omega
  have ea : a % 4294967296 * 256 % 4294967296 = a * 256 := by omega
  have ed : d % 4294967296 * 4096 % 4294967296 = d * 4096 := by omega
  have eb : b % 4294967296 * 65536 % 4294967296 = b * 65536 := by omega
  have em : m % 4294967296 * 65536 % 4294967296 = m % 65536 * 65536 := by omega
  rw [eo, ea, ed, eb, em]
  rw [or_low 8 op (a * 256) (by omega) (by omega) (by omega) (by omega) (by omega) (by omega)]
  rw [or_low 12 _ (d * 4096) (by omega) (by omega) (by omega) (by omega) (by omega) (by omega)]
  rw [or_low 16 _ (b * 65536) (by omega) (by omega) (by omega) (by omega) (by omega) (by omega)]
  unfold wordOf
  by_cases h5 : formOf op = 5
  · have := hf' h5; subst this
    rw [if_pos h5, or_low 32 _ _ (by omega) (by omega) (by omega) (by omega) (by omega) (by omega)]; omega
  · have := hf h5; subst this
    rw [if_neg h5, or_low 16 _ _ (by omega) (by omega) (by omega) (by omega) (by omega) (by omega)]; omega

theorem word_range {op d a b m : Int} (h : mayB op d a b m = true) : 0 ≤ wordOf op d a b m ∧ wordOf op d a b m < 4294967296 := by
  obtain ⟨⟨ho, ho'⟩, ⟨hd, hd'⟩, ⟨ha, ha'⟩, ⟨hb, hb'⟩, ⟨hm, hm'⟩, hf, hf'⟩ := may_parts h
  unfold wordOf; split <;> omega

theorem and_mask (i : Nat) (hi : i ≤ 32) (x : Int) (h0 : 0 ≤ x) (h1 : x < 4294967296) : bits .and .u32 x (2 ^ i - 1) = x % 2 ^ i :=
  bits_mask .u32 32 (by decide) wraps_u32 i hi x h0 h1
theorem and15 (x : Int) (h0 : 0 ≤ x) (h1 : x < 4294967296) : bits .and .u32 x 15 = x % 16 := and_mask 4 (by omega) x h0 h1
theorem and255 (x : Int) (h0 : 0 ≤ x) (h1 : x < 4294967296) : bits .and .u32 x 255 = x % 256 := and_mask 8 (by omega) x h0 h1
/-- The low sixteen bits of an int, be it below nought. -/
theorem and65535 (m : Int) : bits .and .i64 m 65535 = m % 65536 := by
  show IntKind.i64.wrap ((BitVec.ofInt 64 m &&& BitVec.ofInt 64 65535).toNat : Int) = _
  have e : (BitVec.ofInt 64 m).toNat = (m % 18446744073709551616).toNat := by rw [BitVec.toNat_ofInt]; rfl
  have e2 : (BitVec.ofInt 64 65535).toNat = 2 ^ 16 - 1 := by decide
  rw [BitVec.toNat_and, e, e2, Nat.and_two_pow_sub_one_eq_mod, IntKind.wrap_i64]
  omega

/-! ### What is read off a word -/
/-- Imm off a word's upper half, by the op's bounds. -/
def immOf (op w : Int) : Int := if leastOf op ≤ (w / 65536 + 32768) % 65536 - 32768 then (w / 65536 + 32768) % 65536 - 32768 else w / 65536
def cD (w : Int) : Int := keepIf (nmD (formOf (w % 256))) (w / 4096 % 16)
def cA (w : Int) : Int := keepIf (nmA (formOf (w % 256))) (w / 256 % 16)
def cB (w : Int) : Int := keepIf (nmB (formOf (w % 256))) (w / 65536 % 16)
def cM (w : Int) : Int := keepIf (nmM (formOf (w % 256))) (immOf (w % 256) w)
/-- Is that a word of an instruction that may be? -/
def isWord (w : Int) : Bool := mayB (w % 256) (cD w) (cA w) (cB w) (cM w) && (wordOf (w % 256) (cD w) (cA w) (cB w) (cM w) == w)

theorem word_mod (op d a b m : Int) (ho : 1 ≤ op ∧ op ≤ 28) : wordOf op d a b m % 256 = op := by
  unfold wordOf; split <;> omega

/-- What may be is read as it was. -/
theorem word_back {op d a b m : Int} (h : mayB op d a b m = true) :
    wordOf op d a b m % 256 = op ∧ cD (wordOf op d a b m) = d ∧ cA (wordOf op d a b m) = a ∧ cB (wordOf op d a b m) = b ∧ cM (wordOf op d a b m) = m := by
  obtain ⟨⟨ho, ho'⟩, ⟨hd, hd'⟩, ⟨ha, ha'⟩, ⟨hb, hb'⟩, ⟨hm, hm'⟩, hf, hf'⟩ := may_parts h
  have e := word_mod op d a b m ⟨ho, ho'⟩
  unfold mayB isOp at h
  simp only [Bool.and_eq_true, Bool.or_eq_true, decide_eq_true_eq] at h
  obtain ⟨h0, h1, h2, h3, h4⟩ := h
  refine ⟨e, ?_, ?_, ?_, ?_⟩
  · unfold cD; rw [e]
    cases hn : nmD (formOf op)
    · rw [hn] at h1; simp [regOk] at h1; simp [keepIf, h1]
    · simp only [keepIf, if_true]; unfold wordOf; split <;> omega
  · unfold cA; rw [e]
    cases hn : nmA (formOf op)
    · rw [hn] at h2; simp [regOk] at h2; simp [keepIf, h2]
    · simp only [keepIf, if_true]; unfold wordOf; split <;> omega
  · unfold cB; rw [e]
    cases hn : nmB (formOf op)
    · rw [hn] at h3; simp [regOk] at h3; simp [keepIf, h3]
    · have h5 : formOf op = 5 := by simpa [nmB] using hn
      simp only [keepIf, if_true]; unfold wordOf; rw [if_pos h5]; omega
  · unfold cM; rw [e]
    cases hn : nmM (formOf op)
    · rw [hn] at h4; simp at h4; simp [keepIf, h4]
    · have h5 : formOf op ≠ 5 := by intro h5; rw [h5] at hn; simp [nmM] at hn
      simp only [keepIf, if_true]; unfold immOf wordOf; rw [if_neg h5]
      have hb0 := hf h5; subst hb0
      have hlm : leastOf op ≤ m ∧ m ≤ mostOf op := by
        have : leastOf op ≤ 0 ∧ 0 ≤ mostOf op := by unfold leastOf mostOf; split <;> omega
        rcases h4 with h4 | h4 <;> omega
      unfold leastOf mostOf at hlm
      unfold leastOf
      split <;> split at hlm <;> omega

theorem word_is {op d a b m : Int} (h : mayB op d a b m = true) : isWord (wordOf op d a b m) = true := by
  obtain ⟨e0, e1, e2, e3, e4⟩ := word_back h
  unfold isWord; rw [e0, e1, e2, e3, e4, h]; simp

/-! ### The document's own reading -/
def rB (w : Int) : Int := keepIf (nmB (formOf (w % 256))) (w / 65536 % 256)
def rM (w : Int) : Int := keepIf (nmM (formOf (w % 256))) (if (w % 256 ≠ 3 ∧ w % 256 ≠ 6) ∧ 32767 < w / 65536 then w / 65536 - 65536 else w / 65536)
def rIsWord (w : Int) : Bool := mayB (w % 256) (cD w) (cA w) (rB w) (rM w) && (wordOf (w % 256) (cD w) (cA w) (rB w) (rM w) == w)

theorem rM_eq (w : Int) (h0 : 0 ≤ w) (h1 : w < 4294967296) : rM w = cM w := by
  unfold rM cM immOf leastOf
  congr 1
  split <;> split <;> split <;> omega

theorem rIsWord_eq (w : Int) (h0 : 0 ≤ w) (h1 : w < 4294967296) : rIsWord w = isWord w := by
  unfold rIsWord isWord
  rw [rM_eq w h0 h1]
  by_cases hb : rB w = cB w
  · rw [hb]
  · have hn : nmB (formOf (w % 256)) = true := by
      cases hn : nmB (formOf (w % 256))
      · unfold rB cB at hb; rw [hn] at hb; simp [keepIf] at hb
      · rfl
    have h5 : formOf (w % 256) = 5 := by simpa [nmB] using hn
    unfold rB cB at hb ⊢; rw [hn] at hb ⊢; simp only [keepIf, if_true] at hb ⊢
    have hd : w / 65536 % 16 ≠ w / 65536 % 256 := fun e => hb e.symm
    have e1 : mayB (w % 256) (cD w) (cA w) (w / 65536 % 256) (cM w) = false := by
      cases hq : mayB (w % 256) (cD w) (cA w) (w / 65536 % 256) (cM w)
      · rfl
      · obtain ⟨-, -, -, ⟨_, _⟩, -, -, -⟩ := may_parts hq; omega
    rw [e1]
    have e2 : (wordOf (w % 256) (cD w) (cA w) (w / 65536 % 16) (cM w) == w) = false := by
      rw [beq_eq_false_iff_ne]; intro e
      unfold wordOf at e; rw [if_pos h5] at e
      unfold cD cA at e
      have : nmD (formOf (w % 256)) = true ∧ nmA (formOf (w % 256)) = true := by rw [h5]; decide
      rw [this.1, this.2] at e; simp only [keepIf, if_true] at e
      omega
    rw [e2]; simp

theorem rB_eq {w : Int} (h0 : 0 ≤ w) (h1 : w < 4294967296) (h : isWord w = true) : rB w = cB w := by
  rw [← rIsWord_eq w h0 h1] at h
  unfold rIsWord at h; simp only [Bool.and_eq_true, beq_iff_eq] at h
  obtain ⟨-, -, -, ⟨_, hq⟩, -, hf, -⟩ := may_parts h.1
  unfold rB cB at *
  cases hn : nmB (formOf (w % 256))
  · rfl
  · rw [hn] at hq; simp only [keepIf, if_true] at hq ⊢; omega

end Go.Proofs.Ytknepljmbpdpkaa
