/- The chapter's rows: known. -/
import Derived.Test.YtgkfejnjjoaihaaDoorPgK
namespace Go.Proofs.YtgkfejnjjoaihaaDoor
open Go.RowKit

def kE0 : Ent := ⟨9, 3, false, false, true⟩
def kE1 : Ent := ⟨9, 3, true, true, true⟩
def kE2 : Ent := ⟨9, 3, true, false, true⟩
def kA (e : Ent) : Tb := setT newT 0 2 e
def kB : Tb := setT (kA kE2) 1 2 kE0
def kC : Tb := setT newT 1 2 kE0
theorem kA_set (e e' : Ent) : setT (kA e) 0 2 e' = kA e' := setT_setT _ _ _ _ _
theorem k1 : setE newT 0 2 9 3 = 0 ∧ setO newT 0 2 9 3 = kA kE0 := by
  have h : setE newT 0 2 9 3 = 0 := by decide
  exact ⟨h, by unfold setO; rw [if_pos h]; rfl⟩
theorem k2 : setE (kA kE0) 0 2 8 1 = 7 ∧ setO (kA kE0) 0 2 8 1 = kA kE0 := by
  have h : setE (kA kE0) 0 2 8 1 = 7 := by decide
  exact ⟨h, by unfold setO; rw [if_neg (by rw [h]; decide)]⟩
theorem k3 : setE (kA kE0) 0 32 1 1 = 2 ∧ setO (kA kE0) 0 32 1 1 = kA kE0 := by
  have h : setE (kA kE0) 0 32 1 1 = 2 := by decide
  exact ⟨h, by unfold setO; rw [if_neg (by rw [h]; decide)]⟩
theorem kAsk (e : Ent) (a : Nat) (r : Int) (he : askE (kA e) 0 a r = 0) (e' : Ent) (hp : a / 256 = 2) (h' : touchE e true (e.wr || decide (r = 2)) = e') : askT (kA e) 0 a r = kA e' := by
  unfold askT
  rw [if_pos he, hp]
  show setT (kA e) 0 2 (touchE e true (e.wr || decide (r = 2))) = kA e'
  rw [kA_set, h']
theorem kAskNo (e : Ent) (a : Nat) (r : Int) (he : askE (kA e) 0 a r ≠ 0) : askT (kA e) 0 a r = kA e := by unfold askT; rw [if_neg he]
theorem k4 : (askE (kA kE0) 0 517 2 = 0 ∧ askF (kA kE0) 0 517 2 = 9 ∧ askP (kA kE0) 0 517 2 = 5) ∧ askT (kA kE0) 0 517 2 = kA kE1 := ⟨by decide, kAsk _ _ _ (by decide) _ (by decide) rfl⟩
theorem k5 : (askE (kA kE1) 0 517 4 = 8 ∧ askF (kA kE1) 0 517 4 = 0 ∧ askP (kA kE1) 0 517 4 = 0) ∧ askT (kA kE1) 0 517 4 = kA kE1 := ⟨by decide, kAskNo _ _ _ (by decide)⟩
theorem k6 : (askE (kA kE1) 0 0 1 = 10 ∧ askF (kA kE1) 0 0 1 = 0 ∧ askP (kA kE1) 0 0 1 = 0) ∧ askT (kA kE1) 0 0 1 = kA kE1 := ⟨by decide, kAskNo _ _ _ (by decide)⟩
theorem k7 : (askE (kA kE1) 0 9000 1 = 10 ∧ askF (kA kE1) 0 9000 1 = 0 ∧ askP (kA kE1) 0 9000 1 = 0) ∧ askT (kA kE1) 0 9000 1 = kA kE1 := ⟨by decide, kAskNo _ _ _ (by decide)⟩
theorem k8 : (askE (kA kE1) 0 517 1 = 0 ∧ askF (kA kE1) 0 517 1 = 9 ∧ askP (kA kE1) 0 517 1 = 5) ∧ askT (kA kE1) 0 517 1 = kA kE1 := ⟨by decide, kAsk _ _ _ (by decide) _ (by decide) rfl⟩
theorem k9 : getO (kA kE1) 0 2 = kE1 ∧ gotB (kA kE1) 0 2 = true := ⟨by unfold getO; rw [if_pos (by decide)]; rfl, by decide⟩
theorem k10 : takE (kA kE1) 0 2 = 0 ∧ cleanO (kA kE1) 0 2 = kA kE0 := ⟨by decide, by unfold cleanO; rw [if_pos (by decide)]; exact kA_set _ _⟩
theorem k11 : getO (kA kE0) 0 2 = kE0 ∧ gotB (kA kE0) 0 2 = true := ⟨by unfold getO; rw [if_pos (by decide)]; rfl, by decide⟩
theorem k12 : (askE (kA kE0) 0 517 1 = 0 ∧ askF (kA kE0) 0 517 1 = 9 ∧ askP (kA kE0) 0 517 1 = 5) ∧ askT (kA kE0) 0 517 1 = kA kE2 := ⟨by decide, kAsk _ _ _ (by decide) _ (by decide) rfl⟩
theorem kA_is (e : Ent) (h : e.is = true) (i j : Nat) : (kA e i j).is = true ↔ i = 0 ∧ j = 2 := by
  unfold kA
  by_cases c : i = 0 ∧ j = 2
  · rw [c.1, c.2, setT_same]; simp [h]
  · rw [setT_other newT 0 2 e i j (by omega)]; simp [newT, nilE]; omega
theorem k13 : (shareE (kA kE2) 0 1 = 0 ∧ shareN (kA kE2) 0 1 = 1) ∧ shareT (kA kE2) 0 1 = kB := by
  refine ⟨by decide, ?_⟩
  unfold shareT
  rw [if_pos (by decide)]
  funext i j
  unfold copyK kB
  show (if i = 1 ∧ j < 32 ∧ (kA kE2 0 j).is = true then layE (kA kE2 0 j).fr (kA kE2 0 j).ri else kA kE2 i j) = _
  by_cases c : i = 1 ∧ j = 2
  · obtain ⟨rfl, rfl⟩ := c
    rw [setT_same, if_pos ⟨rfl, by decide, by decide⟩]; rfl
  · rw [setT_other _ _ _ _ i j (by omega), if_neg]
    rintro ⟨h1, h2, h3⟩
    exact c ⟨h1, ((kA_is kE2 rfl 0 j).1 h3).2⟩
theorem k14 : spotsTo kB 9 16 = [(0, 2), (1, 2)] := by decide
theorem k15 : getO kB 1 2 = kE0 ∧ gotB kB 1 2 = true := ⟨by unfold getO; rw [if_pos (by decide)]; rfl, by decide⟩
theorem k16 : (dropE 0 = 0 ∧ dropR kB 0 = [9]) ∧ dropT kB 0 = kC := by
  refine ⟨by decide, ?_⟩
  unfold dropT
  rw [if_pos (by decide)]
  funext i j
  unfold dropK kC kB
  show (if i = 0 ∧ j < 32 then nilE else setT (kA kE2) 1 2 kE0 i j) = _
  by_cases c : i = 1 ∧ j = 2
  · rw [c.1, c.2, setT_same, setT_same]; rfl
  · rw [setT_other _ _ _ _ i j (by omega), setT_other _ _ _ _ i j (by omega)]
    unfold kA
    by_cases c2 : i = 0 ∧ j = 2
    · rw [c2.1, c2.2]; rfl
    · rw [setT_other _ _ _ _ i j (by omega)]
      split <;> rfl
theorem k17 : countTo kC 9 16 = 1 := by decide
theorem room {n : Nat} (h : n < 100000) : n < maxLen := by unfold maxLen; omega
end Go.Proofs.YtgkfejnjjoaihaaDoor
