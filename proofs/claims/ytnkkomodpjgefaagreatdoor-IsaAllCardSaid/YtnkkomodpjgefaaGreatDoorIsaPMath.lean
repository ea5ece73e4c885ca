/- Reading an instruction's text gives the instruction: plain arithmetic and lists of bytes. -/
import Derived.Test.YtnkkomodpjgefaaGreatDoorIsaP0
import Derived.Lib.IndexBytes
namespace Go.Proofs.YtnkkomodpjgefaaGreatDoor
open Go.RowKit

/-! ### Cuts at a blank -/
theorem index_hit : ∀ (l1 l2 : List UInt8), 32 ∉ l1 → Lib.index (l1 ++ 32 :: l2) [32] = l1.length
  | [], l2, _ => by simp [Lib.index, List.isPrefixOf]
  | b :: l1, l2, h => by
    have hb : (32 == b) = false := by rw [beq_eq_false_iff_ne]; intro e; exact h (by simp [e])
    have ih := index_hit l1 l2 (fun e => h (by simp [e]))
    simp only [List.cons_append, Lib.index, List.isPrefixOf, hb, Bool.false_and, ih]
    have : ((l1.length : Int) == -1) = false := by rw [beq_eq_false_iff_ne]; omega
    simp [this]
theorem index_miss : ∀ (l1 : List UInt8), 32 ∉ l1 → Lib.index l1 [32] = -1
  | [], _ => by simp [Lib.index]
  | b :: l1, h => by
    have hb : (32 == b) = false := by rw [beq_eq_false_iff_ne]; intro e; exact h (by simp [e])
    have ih := index_miss l1 (fun e => h (by simp [e]))
    simp only [Lib.index, List.isPrefixOf, hb, Bool.false_and, ih]
    simp
theorem cut_hit (l1 l2 : List UInt8) (h : 32 ∉ l1) : Lib.cut (l1 ++ 32 :: l2) [32] = (l1, l2, true) := by
  unfold Lib.cut
  rw [index_hit l1 l2 h, if_pos (by omega)]
  simp only [Int.toNat_natCast, List.length_cons, List.length_nil, Nat.zero_add, Prod.mk.injEq, and_true]
  exact ⟨by simp, by simp [List.drop_append]⟩
theorem cut_miss (l1 : List UInt8) (h : 32 ∉ l1) : Lib.cut l1 [32] = (l1, [], false) := by
  unfold Lib.cut
  rw [index_miss l1 h, if_neg (by omega)]

/-! ### Numerals -/
theorem dd_range (u : Nat) : ∀ c ∈ Lib.decDigits u, 48 ≤ c.toNat ∧ c.toNat ≤ 57 := by
  induction u using Nat.strongRecOn with
  | _ u ih =>
    intro c hc
    rw [Lib.decDigits] at hc
    split at hc
    · simp only [List.mem_singleton] at hc; subst hc
      rw [UInt8.toNat_ofNat']; omega
    · rcases List.mem_append.1 hc with h | h
      · exact ih (u / 10) (by omega) c h
      · simp only [List.mem_singleton] at h; subst h
        rw [UInt8.toNat_ofNat']; omega
theorem dd_ne (u : Nat) : Lib.decDigits u ≠ [] := by rw [Lib.decDigits]; split <;> simp
theorem parse_dd (u : Nat) (hu : u < 1000000000) (r : List UInt8) : Lib.parseUint10 0 (Lib.decDigits u ++ r) = Lib.parseUint10 u r := by
  induction u using Nat.strongRecOn generalizing r with
  | _ u ih =>
    rw [Lib.decDigits]
    split
    · have e : (UInt8.ofNat (48 + u)).toNat = 48 + u := by rw [UInt8.toNat_ofNat']; omega
      simp only [List.cons_append, List.nil_append, Lib.parseUint10, e]
      rw [if_pos (by omega), if_neg (by omega), if_neg (by omega)]
      congr 1; omega
    · have e : (UInt8.ofNat (48 + u % 10)).toNat = 48 + u % 10 := by rw [UInt8.toNat_ofNat']; omega
      rw [List.append_assoc, ih (u / 10) (by omega) (by omega)]
      simp only [List.cons_append, List.nil_append, Lib.parseUint10, e]
      rw [if_pos (by omega), if_neg (by omega), if_neg (by omega)]
      congr 1; omega
theorem parse_dd' (u : Nat) (hu : u < 1000000000) : Lib.parseUint10 0 (Lib.decDigits u) = .ok u := by
  have := parse_dd u hu []; rwa [List.append_nil] at this

theorem atoi_itoa (n : Int) (h0 : -100000000 ≤ n) (h1 : n ≤ 100000000) : Lib.atoiAll (Lib.itoa n) = .ok n := by
  unfold Lib.itoa
  split
  · rename_i hn
    have hp : Lib.parseMag (Lib.decDigits n.natAbs) = .ok n.natAbs := by unfold Lib.parseMag; rw [if_neg (dd_ne _)]; exact parse_dd' _ (by omega)
    unfold Lib.atoiAll
    have e : (45 : UInt8).toNat = 45 := rfl
    simp only [e, or_true, if_true, hp]
    rw [if_neg (by omega), if_neg (by omega)]
    simp; omega
  · rename_i hn
    obtain ⟨c, r, hl⟩ : ∃ c r, Lib.decDigits n.toNat = c :: r := by
      cases hd : Lib.decDigits n.toNat with
      | nil => exact absurd hd (dd_ne _)
      | cons c r => exact ⟨c, r, rfl⟩
    have hc := dd_range n.toNat c (by rw [hl]; simp)
    have hp : Lib.parseMag (Lib.decDigits n.toNat) = .ok n.toNat := by unfold Lib.parseMag; rw [if_neg (dd_ne _)]; exact parse_dd' _ (by omega)
    rw [hl] at hp ⊢
    unfold Lib.atoiAll
    simp only
    rw [if_neg (by omega), hp]
    simp only
    rw [if_neg (by omega), if_neg (by omega), if_neg (by omega)]
    congr 1; omega
theorem itoa_blank (n : Int) : 32 ∉ Lib.itoa n := by
  intro h
  unfold Lib.itoa at h
  split at h
  · rcases List.mem_cons.1 h with h | h
    · exact absurd h (by decide)
    · have := dd_range _ _ h; have e : (32 : UInt8).toNat = 32 := rfl; omega
  · have := dd_range _ _ h; have e : (32 : UInt8).toNat = 32 := rfl; omega
theorem itoa_head (n : Int) : ∃ c r, Lib.itoa n = c :: r ∧ c ≠ 114 := by
  unfold Lib.itoa
  split
  · exact ⟨45, _, rfl, by decide⟩
  · cases hd : Lib.decDigits n.toNat with
    | nil => exact absurd hd (dd_ne _)
    | cons c r =>
      have hc := dd_range n.toNat c (by rw [hd]; simp)
      refine ⟨c, r, rfl, ?_⟩
      rintro rfl
      have e : (114 : UInt8).toNat = 114 := rfl
      omega
theorem trim_hit (l : List UInt8) : Lib.trimPrefix (114 :: l) [114] = l := by simp [Lib.trimPrefix, Lib.hasPrefix]
theorem trim_itoa (n : Int) : Lib.trimPrefix (Lib.itoa n) [114] = Lib.itoa n := by
  obtain ⟨c, r, h, hc⟩ := itoa_head n
  rw [h]; simp [Lib.trimPrefix, Lib.hasPrefix, List.isPrefixOf, Ne.symm hc]

/-! ### Names -/
theorem name_blank (op : Int) : 32 ∉ (nameOf op).data.toList := by
  have : ∀ k : Nat, 32 ∉ (nameTab.getD k ⟨#[]⟩).data.toList := by
    intro k
    by_cases h : k < 29
    · have : ∀ k : Fin 29, 32 ∉ (nameTab.getD k.val ⟨#[]⟩).data.toList := by decide
      exact this ⟨k, h⟩
    · have hl : nameTab.length = 29 := rfl
      simp [List.getD_eq_getElem?_getD, List.getElem?_eq_none (show nameTab.length ≤ k by omega)]
  exact this _
theorem named_name {op : Int} (h : isOp op = true) : namedV (nameOf op) = op := by
  have h : 1 ≤ op ∧ op ≤ 28 := by simpa [isOp] using h
  have hk : op = 1 ∨ op = 2 ∨ op = 3 ∨ op = 4 ∨ op = 5 ∨ op = 6 ∨ op = 7 ∨ op = 8 ∨ op = 9 ∨ op = 10 ∨ op = 11 ∨ op = 12 ∨ op = 13 ∨ op = 14 ∨ op = 15 ∨ op = 16 ∨ op = 17 ∨ op = 18 ∨ op = 19 ∨ op = 20 ∨ op = 21 ∨ op = 22 ∨ op = 23 ∨ op = 24 ∨ op = 25 ∨ op = 26 ∨ op = 27 ∨ op = 28 := by omega
  rcases hk with rfl | rfl | rfl | rfl | rfl | rfl | rfl | rfl | rfl | rfl | rfl | rfl | rfl | rfl | rfl | rfl | rfl | rfl | rfl | rfl | rfl | rfl | rfl | rfl | rfl | rfl | rfl | rfl <;> decide +kernel

end Go.Proofs.YtnkkomodpjgefaaGreatDoor
