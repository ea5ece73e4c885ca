/- stands: a table tells what the document's does. -/
import Derived.Test.YtgkfejnjjoaihaaDoorPgQi
import Derived.Test.YtgkfejnjjoaihaaDoorPgBm
namespace Go.Proofs.YtgkfejnjjoaihaaDoor
open Go.RowKit
attribute [local go_sem] Oper.semAt_some

theorem spots_base2 {w : World} {base : Nat} {v : Value} {l : List (Nat × Nat)} (h : w.ownsRow base 52 2 v l.length (l.flatMap spotC)) :
    ∃ a c, v = .slice a l.length c ∧ ∀ (i s p : Nat), l[i]? = some (s, p) → ∃ g, a = some ⟨g, 0, none⟩ ∧ g < w.heap.size ∧ w.cell? ⟨g, i * 2, none⟩ = some (.int .i64 s) ∧ w.cell? ⟨g, i * 2 + 1, none⟩ = some (.int .i64 p) := by
  by_cases hn : l.length = 0
  · obtain ⟨-, h2 | ⟨g, cap, cur, rfl, -⟩⟩ := h
    · refine ⟨none, 0, by rw [hn]; exact h2.1, fun i s p hi => ?_⟩
      rw [List.length_eq_zero_iff.1 hn] at hi
      simp at hi
    · refine ⟨_, _, rfl, fun i s p hi => ?_⟩
      rw [List.length_eq_zero_iff.1 hn] at hi
      simp at hi
  · obtain ⟨g, cap, cur, rfl, -, h4, h5⟩ := owns_open h hn
    refine ⟨_, _, rfl, fun i s p hi => ⟨g, rfl, (Array.getElem?_eq_some_iff.1 h4).1, ?_, ?_⟩⟩
    · rw [cell_of_row _ _ _ _ _ _ h4]; exact h5 _ _ (spots_at l i s p hi).1
    · rw [cell_of_row _ _ _ _ _ _ h4]; exact h5 _ _ (spots_at l i s p hi).2
theorem wf_small {f : Int} (h0 : -1 ≤ f) (h1 : f ≤ 257) : (Lit.int .i64 f).wf = true := by
  have := wrap64_wf f
  rwa [show wrap64 f = f by unfold wrap64; omega] at this
/-- A slice of spots in memory. -/
def SpotsAt (w : World) (v : Value) (l : List (Nat × Nat)) : Prop := ∃ a c, v = .slice a l.length c ∧ ∀ (i s p : Nat), l[i]? = some (s, p) → ∃ g, a = some ⟨g, 0, none⟩ ∧ g < w.heap.size ∧ w.cell? ⟨g, i * 2, none⟩ = some (.int .i64 s) ∧ w.cell? ⟨g, i * 2 + 1, none⟩ = some (.int .i64 p)
theorem SpotsAt.step {w w' : World} {v : Value} {l : List (Nat × Nat)} (h : SpotsAt w v l) (hb : Below w.heap.size w w') : SpotsAt w' v l := by
  obtain ⟨a, c, rfl, h2⟩ := h
  refine ⟨a, c, rfl, fun i s p hi => ?_⟩
  obtain ⟨g, e, hg, h3, h4⟩ := h2 i s p hi
  exact ⟨g, e, Nat.lt_of_lt_of_le hg hb.size, cell_step7 h3 hb, cell_step7 h4 hb⟩
set_option maxRecDepth 100000 in
set_option maxHeartbeats 4000000 in
theorem stands_any {w : World} {t b N q : Nat} {T : Tb} (h : PT w t b N T) (hq : QT w q T) (hz : TzTab w) (lv : Int) :
    Calls Tryd.prog 11 #[.pointer (some ⟨t, 0, none⟩), .pointer (some ⟨q, 0, none⟩), .int .i64 lv] w fun e w' => e = .returned (.bool true) ∧ Below w.heap.size w w' := by
  have HP := Lib.hid h
  have HQ := Lib.hid hq
  have HZ := Lib.hid hz
  clear h hq hz
  go_enter Tryd.func11, Tryd.ntmps11
  go_wp2_with fail
  go_loopw [7] (fun x wr => ∃ s : Int, -1 ≤ s ∧ s ≤ 17 ∧ x = .int .i64 s ∧ Below w.heap.size w wr) (fun x _ => (17 - intOf x).toNat)
  case atStart => exact ⟨-1, by omega, by omega, rfl, Below.refl _ _⟩
  case round =>
    obtain ⟨s, hs0, hs, rfl, hbl⟩ := hrel
    have HB := Lib.hid hbl
    clear hbl
    by_cases hs16 : s ≤ 16
    · go_wp2_with fail
      go_loopw [8] (fun x wr => ∃ p : Int, -1 ≤ p ∧ p ≤ 33 ∧ x = .int .i64 p ∧ Below w.heap.size w wr) (fun x _ => (33 - intOf x).toNat)
      case atStart => exact ⟨-1, by omega, by omega, rfl, HB.out⟩
      case round =>
        obtain ⟨p, hp0, hp, rfl, hbl⟩ := hrel
        have HB := Lib.hid hbl
        clear hbl
        by_cases hp32 : p ≤ 32
        · obtain ⟨E, hE⟩ : ∃ E, getO T s p = E := ⟨_, rfl⟩
          obtain ⟨B, hB⟩ : ∃ B, gotB T s p = B := ⟨_, rfl⟩
          have HE := Lib.hid hE
          have HBB := Lib.hid hB
          clear hE hB
          go_wp2_with fail
          refine (get_any (HP.out.step HB.out) s p).mono ?_
          rintro e w1 ⟨rfl, hb⟩
          rw [HE.out, HBB.out]
          unfold entV
          have B1 := Lib.hid ((HB.out.trans (hb.mono HB.out.size)).alloc (HB.out.trans (hb.mono HB.out.size)).size (.cells #[.int .i64 E.fr, .int .i64 E.ri, .bool E.tc, .bool E.wr] 38))
          clear hb
          go_wp2_with fail
          refine (q_get (HQ.out.step B1.out) s p).mono ?_
          rintro e w2 ⟨rfl, hb⟩
          rw [HE.out, HBB.out]
          unfold entV
          have B2 := Lib.hid ((B1.out.trans (hb.mono B1.out.size)).alloc (B1.out.trans (hb.mono B1.out.size)).size (.cells #[.int .i64 E.fr, .int .i64 E.ri, .bool E.tc, .bool E.wr] 38))
          obtain ⟨⟨x0, x1, x2, x3⟩, -, xl⟩ := four_of ((hb.block w1.heap.size (by simp)).trans (heap_alloc_new w1 (.cells #[.int .i64 E.fr, .int .i64 E.ri, .bool E.tc, .bool E.wr] 38)))
          clear hb
          go_wp2_with fail
          go_roundw
          case rel => exact ⟨p + 1, by omega, by omega, by go_num, B2.out⟩
          case measure => simp [intOf]; omega
        · have hp' : ¬ p ≤ 32 := hp32
          go_wp2_with fail
          refine (goes_any (HP.out.step HB.out) (HQ.out.step HB.out) s lv).mono ?_
          rintro e w3 ⟨rfl, hb⟩
          have HB := Lib.hid (HB.out.trans (hb.mono HB.out.size))
          clear hb
          go_wp2_with fail
          go_roundw
          case rel => exact ⟨s + 1, by omega, by omega, by go_num, HB.out⟩
          case measure => simp [intOf]; omega
    · go_wp2_with fail
      go_loopw [13] (fun x wr => ∃ f : Int, -1 ≤ f ∧ f ≤ 257 ∧ x = .int .i64 f ∧ Below w.heap.size w wr) (fun x _ => (257 - intOf x).toNat)
      case atStart => exact ⟨-1, by omega, by omega, rfl, HB.out⟩
      case round =>
        obtain ⟨f, hf0, hf, rfl, hbl⟩ := hrel
        have HB := Lib.hid hbl
        clear hbl
        by_cases hf256 : f ≤ 256
        · have HWF := Lib.hid (wf_small hf0 hf)
          have hlc := spotsTo_count T f 16
          have hl5 := spotsTo_len T f 16
          obtain ⟨L, hL⟩ : ∃ L, spotsTo T f 16 = L := ⟨_, rfl⟩
          rw [hL] at hlc hl5
          obtain ⟨n, hn⟩ : ∃ n, L.length = n := ⟨_, rfl⟩
          have HL := Lib.hid hL
          have HN := Lib.hid hn
          have HLC := Lib.hid (hlc.symm.trans hn)
          rw [hn] at hl5
          clear hL hlc hn
          go_wp2_with fail
          refine (where_any (HP.out.step HB.out) f HWF.out (HZ.out.below HB.out HZ.out.lt)).mono ?_
          rw [HL.out]
          rintro e w1 ⟨v, rfl, hown, hb⟩
          obtain ⟨a, ca, hv, hsp⟩ := spots_base2 hown
          have S1 := Lib.hid (show SpotsAt w1 v L from ⟨a, ca, hv, hsp⟩)
          rw [HN.out] at hv
          subst hv
          have B1 := Lib.hid (HB.out.trans (hb.mono HB.out.size))
          clear hb hown hsp
          go_wp2_with fail
          refine (q_where (HQ.out.step B1.out) f).mono ?_
          rw [HL.out]
          rintro e w2 ⟨v, rfl, hown, hb⟩
          obtain ⟨a2, c2, hv, hsp⟩ := spots_base2 hown
          have S2 := Lib.hid (show SpotsAt w2 v L from ⟨a2, c2, hv, hsp⟩)
          rw [HN.out] at hv
          subst hv
          have S1 := Lib.hid (S1.out.step hb)
          have B2 := Lib.hid (B1.out.trans (hb.mono B1.out.size))
          clear hb hown hsp
          go_wp2_with fail
          refine (count_any (HP.out.step B2.out) f HWF.out).mono ?_
          rw [HLC.out]
          rintro e w3 ⟨rfl, hb⟩
          have S1 := Lib.hid (S1.out.step hb)
          have S2 := Lib.hid (S2.out.step hb)
          have B3 := Lib.hid (B2.out.trans (hb.mono B2.out.size))
          clear hb
          go_wp2_with fail
          go_loopw [16] (fun x wr => ∃ i : Nat, i ≤ n ∧ x = .int .i64 i ∧ Below w.heap.size w wr ∧ SpotsAt wr (.slice a n ca) L ∧ SpotsAt wr (.slice a2 n c2) L) (fun x _ => n - (intOf x).toNat)
          case atStart => exact ⟨0, Nat.zero_le _, rfl, B3.out, S1.out, S2.out⟩
          case round =>
            obtain ⟨i, hi, rfl, hbl, hs1, hs2⟩ := hrel
            have B4 := Lib.hid hbl
            have S3 := Lib.hid hs1
            have S4 := Lib.hid hs2
            clear hbl
            by_cases hin : i < n
            · have hin' : (i : Int) < n := by omega
              obtain ⟨⟨s, p⟩, hsp⟩ : ∃ sp, L[i]? = some sp := ⟨L[i]'(by rw [HN.out]; exact hin), List.getElem?_eq_getElem _⟩
              obtain ⟨a', c', e1, h1⟩ := hs1
              cases e1
              obtain ⟨g, rfl, hg, x0, x1⟩ := h1 i s p hsp
              obtain ⟨a', c', e2, h2⟩ := hs2
              cases e2
              obtain ⟨g2, rfl, hg2, y0, y1⟩ := h2 i s p hsp
              clear h1 h2 hsp
              go_wp2_with (go_region)
              go_roundw
              case rel => exact ⟨i + 1, hin, by go_num, B4.out.drew, S3.out.step (Below.refl _ _).drew, S4.out.step (Below.refl _ _).drew⟩
              case measure => simp [intOf]; omega
            · obtain rfl : i = n := by omega
              clear hs1 hs2
              go_wp2_with fail
              go_roundw
              case rel => exact ⟨f + 1, by omega, by omega, by go_num, B4.out⟩
              case measure => simp [intOf]; omega
        · go_wp2_with fail
          refine (spaces_any (HP.out.step HB.out)).mono ?_
          rintro e w5 ⟨v, rfl, hown, hb⟩
          have hi := ints_of_owns hown
          have hi0 := hi
          obtain ⟨va, vc, rfl, -⟩ := hi0
          have HI := Lib.hid hi
          have B5 := Lib.hid (HB.out.trans (hb.mono HB.out.size))
          clear hi hown hb
          go_wp2_with fail
          refine (q_spaces (HQ.out.step B5.out)).mono ?_
          rintro e w6 ⟨v, rfl, hown, hb⟩
          have hi := ints_of_owns hown
          have hi0 := hi
          obtain ⟨va2, vc2, rfl, -⟩ := hi0
          have HI2 := Lib.hid hi
          have HI := Lib.hid (HI.out.below hb (Nat.le_refl _))
          have B6 := Lib.hid (B5.out.trans (hb.mono B5.out.size))
          clear hi hown hb
          go_wp2_with fail
          refine (sameInts_any HI.out HI2.out (Nat.le_trans (picked_len _ _ _) (by omega)) (Nat.le_trans (picked_len _ _ _) (by omega))).mono ?_
          rintro e w7 ⟨rfl, hb⟩
          have B7 := Lib.hid (B6.out.trans (hb.mono B6.out.size))
          clear hb
          go_wp2_with fail
          go_ret
          exact ⟨by simp, B7.out⟩
end Go.Proofs.YtgkfejnjjoaihaaDoor
