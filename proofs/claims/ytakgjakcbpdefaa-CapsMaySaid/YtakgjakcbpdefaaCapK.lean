/- derived: the ids of all that was derived of one, in whatever order. -/
import Derived.Test.YtakgjakcbpdefaaCapJ
import Derived.OwnWalk
import Derived.Sort.OwnSorted
namespace Go.Proofs.Ytakgjakcbpdefaa
open Go.RowKit Go.Sort
open Go.Maps (Keyed)

theorem Try.infoId : (Try.prog.info? 2).map (fun i => (i.zero, i.size, i.bytes)) = some (some (.int .i64 0), 1, 8) := by kernel_rfl
def idV (c : Cap) : Value := .int .i64 c.id
theorem owns_base {w : World} {base base' : Nat} {e : TypeId} {size : Nat} {v : Value} {n : Nat} {xs : List Value} (h : w.ownsRow base e size v n xs) (hb : base' ≤ base) : w.ownsRow base' e size v n xs := by
  obtain ⟨h1, h2 | ⟨g, cap, cur, h3, h4, h5⟩⟩ := h
  · exact ⟨h1, .inl h2⟩
  · exact ⟨h1, .inr ⟨g, cap, cur, h3, Nat.le_trans hb h4, h5⟩⟩
theorem met_len {S : List Cap} {left : Lit → Bool} {p : Cap → Bool} {L : List Cap} {n : Nat} (h : L.Perm (metC S left p)) (hS : S.length ≤ n) : L.length ≤ n := by
  have := met_le S left p hS
  rw [h.length_eq]; omega
set_option maxRecDepth 100000 in
set_option maxHeartbeats 2000000 in
theorem derived_any {w : World} {t b : Nat} {T : Tab} (h : TabAt w t b T) (hl : T.last ≤ 1000) (top : Int) :
    Calls Try.prog 46 #[.pointer (some ⟨t, 0, none⟩), .int .i64 top] w fun e w' => ∃ (v : Value) (L : List Cap), e = .returned v ∧ w'.ownsRow w.heap.size 2 1 v L.length (L.map idV) ∧ L.Perm (goneC T.caps top) ∧ Below w.heap.size w w' := by
  obtain ⟨D, hown, hD⟩ := h.map
  obtain ⟨i0, hi, hz0, hz1, hz2⟩ := info_parts Try.infoId
  have HU := Lib.hid h.ok.up
  have HLEN := Lib.hid (show T.caps.length ≤ 1000 from Nat.le_trans h.ok.len hl)
  have HALL := Lib.hid (met_all T.caps D hD h.ok.up)
  have HD := Lib.hid hD
  have HOW := Lib.hid hown
  have HBL := Lib.hid h.hb
  have H := Lib.hid h
  have hc0 := h.c0
  have hlt := h.ht
  clear hD h hown hl
  go_enter Try.func46, Try.ntmps46
  go_wp2_with fail
  refine (under_any _ t top).mono ?_
  rintro e w1 ⟨B, rfl, hu, hb1, hB, hs1⟩
  have b1 := Lib.hid hb1
  have U := Lib.hid hu
  have HB := Lib.hid hB
  have HS1 := Lib.hid hs1
  have c0 := (hb1.cell (p := ⟨t, 0, none⟩) hlt).trans hc0
  clear hb1 hu hB hs1 hc0 hlt
  unfold underV
  have e1 : w1.heap.size = w1.heap.size := rfl
  go_wp2_with (at_range; refine wpList_range_own _ rfl _ 59 rfl 2 43 Try.kid Try.underlying59 capE b T.last D rfl (ownsMap_eq HOW.out (b1.out.block _ HBL.out)) ?_; intro w0 hrg0 hg0 hs0)
  have HRG0 := Lib.hid hrg0
  have HG0 := Lib.hid hg0
  clear hrg0 hg0 hs0 e1
  go_frame
  go_loopw [5] (fun v wr => ∃ (left : Lit → Bool) (cnt : Nat) (L : List Cap), wr.ranges Try.prog 2 capE b w1.heap.size T.last D left cnt ∧ wr.ownsRow w1.heap.size 2 1 v L.length (L.map idV) ∧
      L.Perm (metC T.caps left (fun c => isUnder T.caps top c.id)) ∧ Below w1.heap.size w1 wr)
    (fun _ wr => wr.rangeLeft b w1.heap.size)
  case atStart => exact ⟨_, _, [], HRG0.out, ⟨rfl, .inl ⟨rfl, rfl⟩⟩, by rw [met_start _ _ _ HALL.out], (Below.refl _ _).grown HG0.out (Nat.le_refl _) (by simp)⟩
  case round =>
    obtain ⟨left, cnt, L, hrg, hrow, hperm, hbl⟩ := hrel
    have HRG := Lib.hid hrg
    have HROW := Lib.hid hrow
    have HPERM := Lib.hid hperm
    have BL := Lib.hid hbl
    clear hrg hrow hperm hbl
    go_wp2_with (first
      | (at_next; refine wpList_next_caps _ rfl _ rfl b w1.heap.size T.last D T.caps left cnt rfl HRG.out HD.out ?_ ?_)
      | go_in)
    · intro hl0
      go_wp2_with fail
      go_ret
      refine ⟨_, L, rfl, owns_base HROW.out b1.out.size, ?_, b1.out.trans (BL.out.mono b1.out.size)⟩
      have hp := HPERM.out
      rw [met_end _ _ _ hl0] at hp
      exact hp
    · intro c w2 cnt1 hmem hlx hwf hrg1 hlt hg1 hs1 hen
      have HP := Lib.hid (met_step left (fun c => isUnder T.caps top c.id) c hlx HU.out hmem)
      have HRG1 := Lib.hid hrg1
      have HLT := Lib.hid hlt
      have HWF := Lib.hid hwf
      have HROW1 := Lib.hid (HROW.out.kept hg1 (Or.inr (row_ne_iter HROW.out HRG.out).symm))
      have BL1 := Lib.hid (BL.out.grown hg1 BL.out.size (by rintro k hk; cases hk; exact Nat.le_refl _))
      clear hmem hlx hwf hrg1 hlt hg1 hs1
      unfold capV at hen
      have k0 := (BL1.out.cell (p := ⟨t, 0, none⟩) (show t < w1.heap.size from Nat.lt_of_lt_of_le H.out.ht b1.out.size)).trans c0
      go_wp2_with fail
      refine (under_lit ((H.out.step b1.out).step BL1.out) (U.out.below (BL1.out.mono (Nat.le_of_eq HS1.out.symm))) _ c.id (Nat.lt_succ_self _) HWF.out).mono ?_
      rintro e w3 ⟨rfl, rfl⟩
      cases hm : isUnder T.caps top c.id
      · go_wp2_with fail
        go_roundw
        case rel =>
          refine ⟨_, cnt1, L, HRG1.out, HROW1.out, ?_, BL1.out⟩
          have hp := HP.out
          rw [hm] at hp
          exact HPERM.out.trans (by simpa using hp.symm)
        case measure => rw [HRG1.out.left_eq, HRG.out.left_eq]; exact HLT.out
      · have hN := Lib.hid (met_len HPERM.out HLEN.out)
        go_wp2_with (at_builtin; refine wpList_append_own _ rfl _ _ 48 rfl w1.heap.size 2 i0 (.int .i64 0) 1 8 Try.underlying48 hi hz0 hz1 hz2 rfl (by decide) _ _ _ rfl (HROW1.out.alloc _) ⟨w2.heap.size, 0, none⟩ 1 1 [idV c] rfl rfl (cell_one_new _ _ _) (by simp [Value.oneCell', idV]) (by have := hN.out; unfold maxLen; omega) (by have := hN.out; omega) (by have := BL1.out.size; simp; omega) ?_; intro v' w3 hown' hg3 hnil3; go_frame)
        have HRG3 := Lib.hid ((HRG1.out.alloc _).kept hg3 (row_ne_low HROW1.out (Nat.lt_of_lt_of_le HBL.out b1.out.size)) (row_ne_iter HROW1.out HRG1.out))
        go_roundw
        case rel =>
          refine ⟨_, cnt1, L ++ [c], HRG3.out, by rw [List.length_append, List.map_append]; exact hown', ?_, ?_⟩
          · have hp := HP.out
            rw [hm, if_pos rfl] at hp
            exact (HPERM.out.append_right [c]).trans hp.symm
          · exact (BL1.out.alloc BL1.out.size _).grown hg3 (by have := BL1.out.size; simp; omega) (fun j hj => (HROW1.out.lt j hj).1)
        case measure => rw [HRG3.out.left_eq, HRG.out.left_eq]; exact HLT.out
end Go.Proofs.Ytakgjakcbpdefaa
