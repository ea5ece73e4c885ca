/- What is always so of a pool that New made: nobody has more than his quota, and what is free and what all have are all frames. -/
import Derived.Test.YtjbamldhoeblbaaFrmK
namespace Go.Proofs.Ytjbamldhoeblbaa
open Go.RowKit Go.Shelf

/-- Does a frame count for an account? -/
def St.cnt (s : St) (a : Int) (i : Nat) : Nat := if 0 < s.hold i ∧ s.own i = a then 1 else 0
theorem usedTo_cnt (s : St) (a : Int) (k : Nat) : s.usedTo a (k + 1) = s.usedTo a k + s.cnt a k := rfl
theorem usedTo_le_of {s s' : St} {a : Int} : ∀ k, (∀ i, i < k → s'.cnt a i ≤ s.cnt a i) → s'.usedTo a k ≤ s.usedTo a k
  | 0, _ => Nat.le_refl _
  | k + 1, h => by
    have ih := usedTo_le_of (s := s) (s' := s') (a := a) k (fun i hi => h i (by omega))
    have := h k (by omega)
    rw [usedTo_cnt, usedTo_cnt]; omega
theorem usedTo_eq_of {s s' : St} {a : Int} : ∀ k, (∀ i, i < k → s'.cnt a i = s.cnt a i) → s'.usedTo a k = s.usedTo a k
  | 0, _ => rfl
  | k + 1, h => by
    have ih := usedTo_eq_of (s := s) (s' := s') (a := a) k (fun i hi => h i (by omega))
    rw [usedTo_cnt, usedTo_cnt, ih, h k (by omega)]
/-- All accounts' uses. -/
def St.usesTo (s : St) : Nat → Nat → Nat
  | 0, _ => 0
  | m + 1, k => s.usesTo m k + s.usedTo m k
def oneOf (P : Prop) [Decidable P] (o : Int) : Nat → Nat
  | 0 => 0
  | m + 1 => oneOf P o m + (if P ∧ o = m then 1 else 0)
theorem oneOf_eq (P : Prop) [Decidable P] (o : Int) : ∀ m : Nat, oneOf P o m = if P ∧ 0 ≤ o ∧ o < m then 1 else 0
  | 0 => by unfold oneOf; rw [if_neg (by omega)]
  | m + 1 => by
    have ih := oneOf_eq P o m
    unfold oneOf; rw [ih]
    by_cases hP : P
    · by_cases h1 : 0 ≤ o ∧ o < m
      · rw [if_pos ⟨hP, h1⟩, if_neg (by omega), if_pos ⟨hP, by omega⟩]
      · by_cases h2 : o = m
        · rw [if_neg (by omega), if_pos ⟨hP, h2⟩, if_pos ⟨hP, by omega⟩]
        · rw [if_neg (by omega), if_neg (by omega), if_neg (by omega)]
    · rw [if_neg (fun h => hP h.1), if_neg (fun h => hP h.1), if_neg (fun h => hP h.1)]
theorem usesTo_succ (s : St) (k : Nat) : ∀ m, s.usesTo m (k + 1) = s.usesTo m k + oneOf (0 < s.hold k) (s.own k) m
  | 0 => rfl
  | m + 1 => by
    have ih := usesTo_succ s k m
    show s.usesTo m (k + 1) + s.usedTo m (k + 1) = s.usesTo m k + s.usedTo m k + (oneOf (0 < s.hold k) (s.own k) m + (if 0 < s.hold k ∧ s.own k = m then 1 else 0))
    rw [ih, usedTo_cnt]; unfold St.cnt; omega
theorem uses_held {s : St} {m : Nat} : ∀ k, (∀ i, i < k → 0 < s.hold i → 0 ≤ s.own i ∧ s.own i < m) → s.usesTo m k = s.heldTo k
  | 0, _ => by
    have : ∀ m, s.usesTo m 0 = 0 := fun m => by induction m with
      | zero => rfl
      | succ m ih => show s.usesTo m 0 + s.usedTo m 0 = 0; rw [ih]; rfl
    exact this m
  | k + 1, h => by
    have ih := uses_held (s := s) (m := m) k (fun i hi => h i (by omega))
    rw [usesTo_succ, ih, oneOf_eq, St.heldTo_succ]
    by_cases hp : 0 < s.hold k
    · rw [if_pos ⟨hp, h k (by omega) hp⟩, if_pos hp]
    · rw [if_neg (fun x => hp x.1), if_neg hp]
theorem heldTo_full {s : St} : ∀ k, s.heldTo k < k → ∃ i, i < k ∧ ¬ 0 < s.hold i
  | 0, h => by have : s.heldTo 0 = 0 := rfl; omega
  | k + 1, h => by
    by_cases hp : 0 < s.hold k
    · rw [St.heldTo_succ, if_pos hp] at h
      obtain ⟨i, hi, hn⟩ := heldTo_full (s := s) k (by omega)
      exact ⟨i, by omega, hn⟩
    · exact ⟨k, by omega, hp⟩
theorem lowest {P : Nat → Prop} [DecidablePred P] : ∀ m, (∀ i, i < m → ¬ P i) ∨ ∃ k, k < m ∧ P k ∧ ∀ i, i < k → ¬ P i
  | 0 => .inl (fun i hi => by omega)
  | m + 1 => by
    rcases lowest (P := P) m with h | ⟨k, hk, h1, h2⟩
    · by_cases hm : P m
      · exact .inr ⟨m, by omega, hm, h⟩
      · refine .inl (fun i hi => ?_)
        by_cases e : i = m
        · subst e; exact hm
        · exact h i (by omega)
    · exact .inr ⟨k, by omega, h1, h2⟩

structure Inv (s : St) : Prop where
  ok : StOk s
  own : ∀ i, i < s.n → 0 < s.hold i → 0 ≤ s.own i ∧ s.own i < s.k
  cap : ∀ a : Nat, a < s.k → (s.used a : Int) ≤ s.quota a
  sum : sumTo s.quo s.k ≤ s.n
theorem uses_le_sum {s : St} (h : ∀ a : Nat, a < s.k → (s.used a : Int) ≤ s.quota a) : ∀ m, m ≤ s.k → (s.usesTo m s.n : Int) ≤ sumTo s.quo m
  | 0, _ => Int.le_refl _
  | m + 1, hm => by
    have ih := uses_le_sum h m (by omega)
    have := h m (by omega)
    show ((s.usesTo m s.n + s.usedTo m s.n : Nat) : Int) ≤ sumTo s.quo m + at0 s.quo m
    have e1 : s.usedTo m s.n = s.used m := rfl
    have e2 : s.quota m = at0 s.quo m := rfl
    omega
theorem uses_lt_sum {s : St} (h : ∀ a : Nat, a < s.k → (s.used a : Int) ≤ s.quota a) (b : Nat) (hb : (s.used b : Int) < s.quota b) : ∀ m, m ≤ s.k → b < m → (s.usesTo m s.n : Int) < sumTo s.quo m
  | 0, _, h0 => by omega
  | m + 1, hm, hbm => by
    show ((s.usesTo m s.n + s.usedTo m s.n : Nat) : Int) < sumTo s.quo m + at0 s.quo m
    have e1 : s.usedTo m s.n = s.used m := rfl
    have e2 : s.quota m = at0 s.quo m := rfl
    by_cases e : b = m
    · subst e
      have := uses_le_sum h b (by omega)
      omega
    · have ih := uses_lt_sum h b hb m (by omega) (by omega)
      have := h m (by omega)
      omega
theorem Inv.uses {s : St} (h : Inv s) : s.usesTo s.k s.n = s.held := uses_held s.n h.own
/-- Where a quota isn't used up a frame is free: the lowest one. -/
theorem Inv.lowest {s : St} (h : Inv s) (a : Nat) (ha : a < s.k) (hf : (s.used a : Int) < s.quota a) : ∃ m, m < s.n ∧ s.hold m = 0 ∧ ∀ i, i < m → 0 < s.hold i := by
  have h1 := uses_lt_sum h.cap a hf s.k (Nat.le_refl _) ha
  rw [h.uses] at h1
  have h2 := h.sum
  obtain ⟨i, hi, hn⟩ := heldTo_full (s := s) s.n (by unfold St.held at h1; omega)
  rcases Go.Proofs.Ytjbamldhoeblbaa.lowest (P := fun i => ¬ 0 < s.hold i) s.n with h3 | ⟨k, hk, h4, h5⟩
  · exact absurd hn (h3 i hi)
  · exact ⟨k, hk, by have := h.ok.h0 k; omega, fun i hi => Decidable.not_not.1 (h5 i hi)⟩

theorem inv_fresh {n : Nat} {L : List Int} (h : NewOk n L) : Inv (fresh n L) := by
  have hz : ∀ a k, (fresh n L).usedTo a k = 0 := fun a k => by
    induction k with
    | zero => rfl
    | succ k ih => rw [usedTo_cnt, ih]; unfold St.cnt; rw [fresh_hold, if_neg (by omega)]
  have h1 := h.n1; have h2 := h.n2
  refine ⟨fresh_ok n L (by omega) (by omega) h.k2, fun i _ hp => by rw [fresh_hold] at hp; omega, fun a ha => ?_, ?_⟩
  · unfold St.used; rw [hz]
    have := h.q a ha
    unfold badAt at this
    show (0 : Int) ≤ at0 L a
    omega
  · rw [fresh_n]
    exact (sumTo_ok (K := L.length) h.q (by omega) L.length (Nat.le_refl _)).2

/-- A step that leaves what is always so. -/
structure Next (s s' : St) : Prop where
  inv : Inv s → Inv s'
  quo : s'.quo = s.quo
  n : s'.n = s.n
theorem Next.refl (s : St) : Next s s := ⟨id, rfl, rfl⟩
theorem next_less {s s' : St} (ok : StOk s → StOk s') (hq : s'.quo = s.quo) (hn : s'.n = s.n) (h : ∀ i, i < s.n → 0 < s'.hold i → 0 < s.hold i ∧ s'.own i = s.own i) : Next s s' := by
  refine ⟨fun hi => ?_, hq, hn⟩
  have hk : s'.k = s.k := by unfold St.k; rw [hq]
  have hc : ∀ (a : Int) i, i < s.n → s'.cnt a i ≤ s.cnt a i := fun a i hi => by
    unfold St.cnt
    by_cases hp : 0 < s'.hold i
    · obtain ⟨h1, h2⟩ := h i hi hp
      by_cases ho : s.own i = a
      · rw [show (if 0 < s.hold i ∧ s.own i = a then 1 else 0) = 1 from if_pos ⟨h1, ho⟩]; split <;> omega
      · rw [if_neg (fun x => ho (h2 ▸ x.2))]; omega
    · rw [if_neg (fun x => hp x.1)]; omega
  refine ⟨ok hi.ok, fun i hin hp => ?_, fun a ha => ?_, ?_⟩
  · rw [hn] at hin
    obtain ⟨h1, h2⟩ := h i hin hp
    rw [h2, hk]; exact hi.own i hin h1
  · have h1 : s'.used a ≤ s.used a := by unfold St.used; rw [hn]; exact usedTo_le_of s.n (hc a)
    have h2 := hi.cap a (by omega)
    have h3 : s'.quota a = s.quota a := by unfold St.quota; rw [hq]
    omega
  · rw [hq, hk, hn]; exact hi.sum
theorem next_withHold (s : St) (f : Nat) (hf : f < s.n) (hh : 0 < s.hold f) (x : Int) (h0 : 0 ≤ x) (h1 : x ≤ 65535) : Next s (s.withHold f x) :=
  next_less (fun h => ok_withHold h f x hf h0 h1) rfl (n_withHold _ _ _) (fun i _ hp => by
    rw [hold_withHold _ _ _ hf] at hp
    refine ⟨?_, own_withHold _ _ _ hf i⟩
    split at hp
    · rename_i e; subst e; exact hh
    · exact hp)
theorem next_freed (s : St) (f : Nat) (hf : f < s.n) : Next s (s.freed f) :=
  next_less (fun h => ok_freed h f hf) rfl (n_freed _ _) (fun i _ hp => by
    rw [hold_freed _ _ hf] at hp
    rw [own_freed _ _ hf]
    split at hp
    · omega
    · rename_i e; rw [if_neg e]; exact ⟨hp, rfl⟩)
theorem ok_dropsTo {s : St} (h : StOk s) (a : Int) : ∀ k, k ≤ s.n → StOk (s.dropsTo a k)
  | 0, _ => h
  | k + 1, hk => by
    unfold St.dropsTo; split
    · exact ok_freed (ok_dropsTo h a k (by omega)) k (by rw [n_dropsTo]; omega)
    · exact ok_dropsTo h a k (by omega)
theorem next_drops (s : St) (a : Int) : Next s (s.drops a) :=
  next_less (fun h => ok_dropsTo h a s.n (Nat.le_refl _)) (quo_dropsTo s a s.n) (n_dropsTo s a s.n) (fun i _ hp => by
    unfold St.drops at *
    rw [hold_dropsTo s a i s.n (Nat.le_refl _)] at hp
    rw [own_dropsTo s a i s.n (Nat.le_refl _)]
    split at hp
    · omega
    · rename_i e; rw [if_neg e]; exact ⟨hp, rfl⟩)
theorem used_granted {s : St} (f : Nat) (a : Int) (hf : f < s.n) (hz : s.hold f = 0) (b : Int) : ∀ k, (s.granted f a).usedTo b k = s.usedTo b k + (if f < k ∧ b = a then 1 else 0)
  | 0 => by rw [if_neg (by omega)]; rfl
  | k + 1 => by
    have ih := used_granted f a hf hz b k
    rw [usedTo_cnt, usedTo_cnt, ih]
    unfold St.cnt
    rw [hold_granted _ _ _ hf, own_granted _ _ _ hf]
    by_cases e : k = f
    · subst e
      rw [if_pos rfl, if_pos rfl, if_neg (by omega), if_neg (by omega : ¬ (0 < s.hold k ∧ s.own k = b))]
      by_cases q : a = b
      · rw [if_pos ⟨by omega, q⟩, if_pos ⟨by omega, q.symm⟩]
      · rw [if_neg (fun x => q x.2), if_neg (fun x => q x.2.symm)]
    · rw [if_neg e, if_neg e]
      by_cases q : f < k ∧ b = a
      · rw [if_pos q, if_pos (show f < k + 1 ∧ b = a from ⟨by omega, q.2⟩)]; omega
      · rw [if_neg q, if_neg (show ¬ (f < k + 1 ∧ b = a) from fun x => q ⟨by omega, x.2⟩)]; omega
theorem next_granted (s : St) (f : Nat) (a : Nat) (hf : f < s.n) (hz : s.hold f = 0) (ha : a < s.k) (hu : (s.used a : Int) < s.quota a) : Next s (s.granted f a) := by
  refine ⟨fun hi => ⟨ok_granted hi.ok f a hf, fun i hin hp => ?_, fun b hb => ?_, ?_⟩, rfl, n_granted _ _ _⟩
  · rw [n_granted] at hin
    rw [own_granted _ _ _ hf]
    rw [hold_granted _ _ _ hf] at hp
    show _ ∧ _ < (s.k : Int)
    split
    · omega
    · rename_i e; rw [if_neg e] at hp; exact hi.own i hin hp
  · have h1 := hi.cap b hb
    have e : (s.granted f a).used b = s.used b + (if f < s.n ∧ (b : Int) = a then 1 else 0) := by unfold St.used; rw [n_granted]; exact used_granted f a hf hz b s.n
    rw [e]
    show _ ≤ s.quota b
    split
    · rename_i q; have : b = a := by omega
      subst this; omega
    · omega
  · rw [n_granted]; exact hi.sum

end Go.Proofs.Ytjbamldhoeblbaa
