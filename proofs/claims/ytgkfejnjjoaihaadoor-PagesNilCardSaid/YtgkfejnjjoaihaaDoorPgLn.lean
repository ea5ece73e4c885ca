/- The closed sentence: tables that are none, numbers at their bounds. -/
import Derived.Test.YtgkfejnjjoaihaaDoorPgNl
namespace Go.Proofs.YtgkfejnjjoaihaaDoor
open Go.RowKit
attribute [local go_sem] Oper.semAt_some

def nE0 : Ent := ⟨255, 7, false, false, true⟩
def nE1 : Ent := ⟨255, 7, true, false, true⟩
def nZ : Ent := ⟨0, 0, false, false, true⟩
def nA : Tb := setT newT 15 31 nE0
def nB : Tb := setT nA 0 0 nZ
def nC : Tb := setT nB 15 31 nE1
theorem n1 : setE newT 15 31 255 7 = 0 ∧ setO newT 15 31 255 7 = nA := by
  have h : setE newT 15 31 255 7 = 0 := by decide
  exact ⟨h, by unfold setO; rw [if_pos h]; rfl⟩
theorem n2 : setE nA 16 0 0 0 = 2 ∧ setO nA 16 0 0 0 = nA := by
  have h : setE nA 16 0 0 0 = 2 := by decide
  exact ⟨h, by unfold setO; rw [if_neg (by rw [h]; decide)]⟩
theorem n3 : setE nA 0 0 256 0 = 2 ∧ setO nA 0 0 256 0 = nA := by
  have h : setE nA 0 0 256 0 = 2 := by decide
  exact ⟨h, by unfold setO; rw [if_neg (by rw [h]; decide)]⟩
theorem n4 : setE nA 0 0 0 8 = 2 ∧ setO nA 0 0 0 8 = nA := by
  have h : setE nA 0 0 0 8 = 2 := by decide
  exact ⟨h, by unfold setO; rw [if_neg (by rw [h]; decide)]⟩
theorem n5 : setE nA 0 0 0 0 = 0 ∧ setO nA 0 0 0 0 = nB := by
  have h : setE nA 0 0 0 0 = 0 := by decide
  exact ⟨h, by unfold setO; rw [if_pos h]; rfl⟩
theorem n6 : (askE nB 15 8191 4 = 0 ∧ askF nB 15 8191 4 = 255 ∧ askP nB 15 8191 4 = 255) ∧ askT nB 15 8191 4 = nC := by
  have h : askE nB 15 8191 4 = 0 := by decide
  exact ⟨by decide, by unfold askT; rw [if_pos h]; rfl⟩
theorem n7 : (askE nC 15 8192 4 = 10 ∧ askF nC 15 8192 4 = 0 ∧ askP nC 15 8192 4 = 0) ∧ askT nC 15 8192 4 = nC := by
  have h : askE nC 15 8192 4 = 10 := by decide
  exact ⟨by decide, by unfold askT; rw [if_neg (by rw [h]; decide)]⟩
theorem n8 : (askE nC 0 0 1 = 8 ∧ askF nC 0 0 1 = 0 ∧ askP nC 0 0 1 = 0) ∧ askT nC 0 0 1 = nC := by
  have h : askE nC 0 0 1 = 8 := by decide
  exact ⟨by decide, by unfold askT; rw [if_neg (by rw [h]; decide)]⟩
theorem n9 : (askE nC 0 0 3 = 2 ∧ askF nC 0 0 3 = 0 ∧ askP nC 0 0 3 = 0) ∧ askT nC 0 0 3 = nC := by
  have h : askE nC 0 0 3 = 2 := by decide
  exact ⟨by decide, by unfold askT; rw [if_neg (by rw [h]; decide)]⟩
theorem n10 : (shareE nC 0 0 = 2 ∧ shareN nC 0 0 = 0) ∧ shareT nC 0 0 = nC := by
  have h : shareE nC 0 0 = 2 := by decide
  exact ⟨by decide, by unfold shareT; rw [if_neg (by rw [h]; decide)]⟩
theorem nt_zero {w : World} {g : Nat} (h : w.heap[g]? = some (.cells Tryd.zeroCells64 64 (0, 0))) : NoT w (some ⟨g, 0, none⟩) := by
  refine .inr ⟨g, rfl, ?_⟩
  rw [cell_of_row _ _ _ _ _ _ h, Tryd.zCells, List.getElem?_toArray, List.getElem?_append_right (by rw [tabL_len]; exact Nat.le_refl _)]
  simp [tabL_len]
set_option maxRecDepth 100000 in
set_option maxHeartbeats 4000000 in
theorem nil_law {w : World} (hz : TzTab w) : Calls Tryd.prog 8 #[] w fun e w' => e = .returned (.bool true) ∧ Below w.heap.size w w' := by
  have HZ := Lib.hid hz
  clear hz
  go_enter Tryd.func8, Tryd.ntmps8
  go_wp2_with fail
  refine (kn_new _).mono ?_
  rintro e w1 ⟨t, b, rfl, hk⟩
  have K := Lib.hid hk
  clear hk
  go_wp2_with fail
  refine (kn_set K.out (by decide) 15 31 255 7 n1).mono ?_
  rintro e w2 ⟨rfl, hk⟩
  have K := Lib.hid hk
  clear hk
  go_wp2_with fail
  refine (kn_set K.out (by decide) 16 0 0 0 n2).mono ?_
  rintro e w3 ⟨rfl, hk⟩
  have K := Lib.hid hk
  clear hk
  go_wp2_with fail
  refine (kn_set K.out (by decide) 0 0 256 0 n3).mono ?_
  rintro e w4 ⟨rfl, hk⟩
  have K := Lib.hid hk
  clear hk
  go_wp2_with fail
  refine (kn_set K.out (by decide) 0 0 0 8 n4).mono ?_
  rintro e w5 ⟨rfl, hk⟩
  have K := Lib.hid hk
  clear hk
  go_wp2_with fail
  refine (kn_set K.out (by decide) 0 0 0 0 n5).mono ?_
  rintro e w6 ⟨rfl, hk⟩
  have K := Lib.hid hk
  clear hk
  go_wp2_with fail
  refine (kn_ask K.out 15 8191 4 _ rfl (by decide) n6).mono ?_
  rintro e w7 ⟨rfl, hk⟩
  have K := Lib.hid hk
  clear hk
  go_wp2_with fail
  refine (kn_ask K.out 15 8192 4 _ rfl (by decide) n7).mono ?_
  rintro e w8 ⟨rfl, hk⟩
  have K := Lib.hid hk
  clear hk
  go_wp2_with fail
  refine (kn_ask K.out 0 0 1 _ rfl (by decide) n8).mono ?_
  rintro e w9 ⟨rfl, hk⟩
  have K := Lib.hid hk
  clear hk
  go_wp2_with fail
  refine (kn_ask K.out 0 0 3 _ rfl (by decide) n9).mono ?_
  rintro e w10 ⟨rfl, hk⟩
  have K := Lib.hid hk
  clear hk
  go_wp2_with fail
  refine (kn_share K.out (by decide) 0 0 n10).mono ?_
  rintro e w11 ⟨rfl, hk⟩
  have K := Lib.hid hk
  clear hk
  go_wp2_with (go_at_call 20; refine (num_any _ _).mono ?_; rintro e w' ⟨rfl, rfl⟩)
  refine (nothing_nt (.inl rfl)).mono ?_
  rintro e w12 ⟨rfl, hb⟩
  have K := Lib.hid (K.out.same hb)
  clear hb
  go_wp2_with fail
  refine (nothing_nt (nt_zero (heap_alloc_new w12 (.cells Tryd.zeroCells64 64)))).mono ?_
  rintro e w13 ⟨rfl, hb⟩
  have K := Lib.hid ((K.out.alloc Tryd.zeroCells64 64).same hb)
  clear hb
  go_wp2_with (go_at_call 17; refine (same_half K.out.pt).mono ?_; rintro e w' ⟨rfl, rfl⟩)
  refine (known_any _ (K.out.tz HZ.out)).mono ?_
  rintro e w14 ⟨rfl, hb⟩
  have K := Lib.hid (K.out.same hb)
  clear hb
  go_wp2_with fail
  go_ret
  exact ⟨rfl, K.out.tr⟩
end Go.Proofs.YtgkfejnjjoaihaaDoor
