/- CapsOwn: the walk. -/
import Derived.Test.YtgpmkllhljngfaaCapT1
import Derived.Test.YtgpmkllhljngfaaCapS
import Derived.Deep.RegionHeld3
namespace Go.Proofs.Ytgpmkllhljngfaa
open Go.RowKit

def oF (A : Option Addr) (n c : Nat) (B : Option Addr) (m d ta tb : Nat) (u : Nat → Value) (k : Nat) : Act := { tmps := #[.slice A n c, .slice B m d, u 2, u 3, u 4, .pointer (some ⟨ta, 0, none⟩), .pointer (some ⟨tb, 0, none⟩), .int .i64 1, u 8, .int .i64 1, u 10, .int .i64 k, u 12, u 13, u 14, u 15, u 16, u 17, u 18, u 19, u 20, u 21, u 22, u 23, u 24, u 25, u 26, u 27, u 28, u 29, u 30, u 31, u 32, u 33, u 34, u 35, u 36, u 37, u 38, u 39, u 40, u 41, u 42, u 43, u 44, u 45, u 46, u 47, u 48, u 49, u 50, u 51, u 52, u 53, u 54, u 55, u 56, u 57, u 58, u 59, u 60, u 61, u 62, u 63, u 64, u 65, u 66, u 67, u 68, u 69, u 70, u 71, u 72, u 73, u 74, u 75, u 76, u 77, u 78, u 79, u 80, u 81, u 82, u 83, u 84, u 85, u 86, u 87, u 88, u 89, u 90, u 91, u 92, u 93, u 94, u 95, u 96, u 97, u 98, u 99, u 100, u 101, u 102, u 103, u 104, u 105, u 106, u 107, u 108, u 109, u 110, u 111, u 112, u 113, u 114, u 115, u 116, u 117, u 118, u 119, u 120], defers := [] }
theorem oF_of (A : Option Addr) (n c : Nat) (B : Option Addr) (m d ta tb : Nat) {Rel : Nat → Prop} (a : Act) (k : Nat) (hr : Rel k) (h : a = oF A n c B m d ta tb (fun i => a.tmps.getD i undef) k) : ∃ u k, Rel k ∧ a = oF A n c B m d ta tb u k := ⟨_, k, hr, h⟩
structure Far (w : World) (ta ba tb bb : Nat) : Prop where
  d1 : ta ≠ tb
  d2 : ta ≠ bb
  d3 : ba ≠ tb
  d4 : ba ≠ bb
  a1 : w.heap.size ≤ ta
  a2 : w.heap.size ≤ ba
  b1 : w.heap.size ≤ tb
  b2 : w.heap.size ≤ bb
/-- What stands at a round's head. -/
def ORel (w : World) (ta ba tb bb : Nat) (k : Nat) (W : World) : Prop := ∃ Ta Tb, TabOwn w W ta ba Ta ∧ TabOwn w W tb bb Tb ∧ TwoOk Ta Tb ∧ Ta.last ≤ k + 1 ∧ Tb.last ≤ 2 * k + 1
theorem Far.a {w W W' : World} {ta ba tb bb : Nat} {T : Tab} (f : Far w ta ba tb bb) (h : TabOwn w W ta ba T) (hb : Turned tb bb W W') : TabOwn w W' ta ba T :=
  ⟨h.tab.other hb f.d1 f.d2 f.d3 f.d4, h.below.trans (hb.below h.below.size f.b1 f.b2), h.ht, h.hb⟩
theorem Far.b {w W W' : World} {ta ba tb bb : Nat} {T : Tab} (f : Far w ta ba tb bb) (h : TabOwn w W tb bb T) (hb : Turned ta ba W W') : TabOwn w W' tb bb T :=
  ⟨h.tab.other hb f.d1.symm f.d3.symm f.d2.symm f.d4.symm, h.below.trans (hb.below h.below.size f.a1 f.a2), h.ht, h.hb⟩
theorem steps_in {w : World} {A : Option Addr} {n : Nat} {R : Nat → StepS} (hA : StepsOf w A n R) {k : Nat} (hk : k < n) : ∃ pa oa, A = some ⟨pa, oa, none⟩ ∧ pa < w.heap.size := by
  obtain ⟨pa, oa, e, s0, -⟩ := steps_cell hA (Below.refl _ w) hk
  exact ⟨pa, oa, e, World.block_lt_of_cell? w _ s0⟩
theorem stranger_may {A B : Tab} (h : TwoOk A B) (r : Int) : mayB A.caps 1 0 1 r ≠ mayB B.caps 1 0 1 r → strangerB B.caps = true := fun hne => by
  cases hs : strangerB B.caps
  · exact absurd (may_same h r hs) hne
  · rfl
def aside (s : StepS) : StepS := ⟨s.kd, 2, s.dst, s.th, s.ob, s.ri, s.id⟩

set_option maxRecDepth 100000 in
set_option maxHeartbeats 20000000 in
theorem own_any2 (w : World) (A : Option Addr) (n c : Nat) (R : Nat → StepS) (B : Option Addr) (m d : Nat) (R2 : Nat → StepS) (hA : StepsOf w A n R) (hR : ∀ i, i < n → (R i).fits) (hB : StepsOf w B m R2) (hR2 : ∀ i, i < m → (R2 i).fits) (hn : n ≤ 40) (hm : m ≤ 40) :
    Calls Try.prog 7 #[.slice A n c, .slice B m d] w fun e w' => e = .returned (.bool true) ∧ Below w.heap.size w w' := by
  have hn1 : ¬ (40 : Int) < n := by omega
  have hm1 : ¬ (40 : Int) < m := by omega
  have HA := Lib.hid hA
  have HR := Lib.hid hR
  have HB := Lib.hid hB
  have HR2 := Lib.hid hR2
  have HN := Lib.hid (And.intro hn hm)
  clear hA hR hB hR2 hn hm
  go_enter Try.func7, Try.ntmps7
  go_wp2_with fail
  refine (new_own (Below.refl _ w)).mono ?_
  rintro e w1 ⟨ta, ba, rfl, h1, -, -⟩
  have H1 := Lib.hid h1
  clear h1
  go_wp2_with fail
  refine (new_two _).mono ?_
  rintro e w2 ⟨tb, bb, rfl, h2, hbl, hb1, hb2⟩
  have FAR := Lib.hid (show Far w ta ba tb bb from ⟨by have := H1.out.tab.ht; omega, by have := H1.out.tab.ht; omega, by have := H1.out.tab.hb; omega, by have := H1.out.tab.hb; omega, H1.out.ht, H1.out.hb, Nat.le_trans H1.out.below.size hb1, Nat.le_trans H1.out.below.size hb2⟩)
  have A2 := Lib.hid (H1.out.step hbl)
  have B2 := Lib.hid (show TabOwn w w2 tb bb ⟨[], 0⟩ from ⟨h2, A2.out.below, FAR.out.b1, FAR.out.b2⟩)
  clear h2 hbl hb1 hb2 H1
  go_wp2_with fail
  refine (root_any A2.out.tab (by decide) 1 0 1 7 (wf_small (by decide) (by decide)) (wf_small (by decide) (by decide))).mono ?_
  rw [show rootO ⟨[], 0⟩ 1 0 1 7 = ⟨⟨[r0C], 1⟩, 1, 0⟩ from by kernel_rfl]
  rintro e w3 hm3
  have A3 := Lib.hid (A2.out.made hm3)
  have B3 := Lib.hid (FAR.out.b B2.out hm3.2.2)
  obtain ⟨rfl, -, -⟩ := hm3
  clear A2 B2
  dsimp only at A3 ⊢
  go_wp2_with fail
  refine (root_any B3.out.tab (by decide) 1 0 1 7 (wf_small (by decide) (by decide)) (wf_small (by decide) (by decide))).mono ?_
  rw [show rootO ⟨[], 0⟩ 1 0 1 7 = ⟨⟨[r0C], 1⟩, 1, 0⟩ from by kernel_rfl]
  rintro e w4 hm4
  have B4 := Lib.hid (B3.out.made hm4)
  have A4 := Lib.hid (FAR.out.a A3.out hm4.2.2)
  obtain ⟨rfl, -, -⟩ := hm4
  clear A3 B3
  dsimp only at B4 ⊢
  have REL := Lib.hid (show ORel w ta ba tb bb 0 w4 from ⟨_, _, A4.out, B4.out, two_start, Nat.le_refl _, Nat.le_refl _⟩)
  clear A4 B4
  go_wp2_with fail
  refine wp_loop (fun a' W => ∃ u k, (k ≤ n ∧ ORel w ta ba tb bb k W) ∧ a' = oF A n c B m d ta tb u k) (fun a' _ => n - (intOf (a'.tmps.getD 11 undef)).toNat) ?_ ?_
  · exact oF_of A n c B m d ta tb _ 0 ⟨Nat.zero_le _, REL.out⟩ rfl
  clear REL
  rintro a' W ⟨u, k, ⟨hk, Ta, Tb, hTa, hTb, htw, hla, hlb⟩, rfl⟩
  unfold oF
  have TA := Lib.hid hTa
  have TB := Lib.hid hTb
  have TW := Lib.hid htw
  have LA := Lib.hid hla
  have LB := Lib.hid (Nat.le_trans hlb (by omega : 2 * k + 1 ≤ 2 * k + 2))
  have LB1 := Lib.hid hlb
  clear hTa hTb htw hla hlb
  by_cases hlt : k < n
  · have hlt' : (k : Int) < n := by omega
    obtain ⟨pa, oa, rfl, hpa⟩ := steps_in HA.out hlt
    have KN := Lib.hid (show k < 40 by have := HN.out; omega)
    by_cases hlt2 : k < m
    · have hlt2' : (k : Int) < m := by omega
      obtain ⟨pb, ob, rfl, hpb⟩ := steps_in HB.out hlt2
      obtain ⟨_, _, e, s0, s1, s2, s3, s4, s5, s6⟩ := steps_cell HB.out TB.out.below hlt2
      cases e
      obtain ⟨s, hs⟩ : ∃ s, s = R2 k := ⟨_, rfl⟩
      have FIT0 := Lib.hid (show s.fits from hs ▸ HR2.out k hlt2)
      rw [← hs] at s0 s1 s2 s3 s4 s5 s6
      clear hs
      obtain ⟨kd, a, dt, thg, obj, rr, idd⟩ := s
      dsimp only at s0 s1 s2 s3 s4 s5 s6
      by_cases ha : a = 1
      · subst ha
        by_cases h4 : kd = 4
        · subst h4
          have HX := Lib.hid ((Below.refl _ W).alloc (Nat.le_refl _) (.cells #[.int .i64 4, .int .i64 2, .int .i64 dt, .int .i64 thg, .int .i64 obj, .int .i64 rr, .int .i64 idd] 31))
          obtain ⟨Tc, hTc⟩ : ∃ T, T = Tb := ⟨_, rfl⟩
          rw [← hTc] at TB TW LB
          replace TA := Lib.hid (TA.out.step HX.out)
          replace TB := Lib.hid (TB.out.step HX.out)
          clear hTc HX FIT0
          obtain ⟨_, _, e5, -, -, -, -, -, r5, -⟩ := steps_cell HA.out TA.out.below hlt
          cases e5
          obtain ⟨ri, hri⟩ : ∃ ri, ri = (R k).ri := ⟨_, rfl⟩
          rw [← hri] at r5
          clear hri
          obtain ⟨oA, hoA⟩ : ∃ o, o = deriveO Ta 1 1 1 ri ri := ⟨_, rfl⟩
          obtain ⟨oB, hoB⟩ : ∃ o, o = deriveO Tc 1 1 1 ri ri := ⟨_, rfl⟩
          have wf1 : (Lit.int .i64 1).wf = true := wf_small (by decide) (by decide)
          have HDA := Lib.hid (show Calls Try.prog 24 #[.pointer (some ⟨ta, 0, none⟩), .int .i64 1, .int .i64 1, .int .i64 ri] _ (MadeOut _ ta ba oA) from hoA ▸ Derive_any TA.out.tab (by have := LA.out; have := KN.out; omega) 1 1 ri wf1)
          have HDB := fun W' (h : TabAt W' tb bb Tc) => Lib.hid (show Calls Try.prog 24 #[.pointer (some ⟨tb, 0, none⟩), .int .i64 1, .int .i64 1, .int .i64 ri] W' (MadeOut W' tb bb oB) from hoB ▸ Derive_any h (by have := LB.out; have := KN.out; omega) 1 1 ri wf1)
          have hsame := derive_same TA.out.tab.ok TB.out.tab.ok TW.out ri
          rw [← hoA, ← hoB] at hsame
          have TW2 := Lib.hid hsame.2
          have hne : (oA.err != oB.err) = false := by rw [hsame.1]; simp
          have LA2 := Lib.hid (show oA.tab.last ≤ k + 2 by rw [hoA]; have := (deriveO_ok TA.out.tab.ok 1 1 1 ri ri (.inl rfl)).2; have := LA.out; omega)
          have LB2 := Lib.hid (show oB.tab.last ≤ 2 * k + 3 by rw [hoB]; have := (deriveO_ok TB.out.tab.ok 1 1 1 ri ri (.inl rfl)).2; have := LB.out; omega)
          have hpt : pa ≠ ta ∧ pa ≠ ba ∧ pa ≠ tb ∧ pa ≠ bb := by have := FAR.out.a1; have := FAR.out.a2; have := FAR.out.b1; have := FAR.out.b2; omega
          clear hsame hoA hoB
          go_wp2_with fail
          refine HDA.out.mono ?_
          rintro e W6 hm6
          have A6 := Lib.hid (TA.out.made hm6)
          have B6 := Lib.hid (FAR.out.b TB.out hm6.2.2)
          have r6 : W6.cell? ⟨pa, oa + k * 7 + 5, none⟩ = some (.int .i64 ri) := (World.cell?_of_block (a := ⟨pa, oa + k * 7 + 5, none⟩) (hm6.2.2.block pa (World.block_lt_of_cell? _ _ r5) hpt.1 hpt.2.1)).trans r5
          obtain ⟨rfl, -, -⟩ := hm6
          clear TA TB r5 HDA
          go_wp2_with fail
          refine (HDB _ B6.out.tab).out.mono ?_
          rintro e W7 hm7
          have B7 := Lib.hid (B6.out.made hm7)
          have A7 := Lib.hid (FAR.out.a A6.out hm7.2.2)
          have r7 : W7.cell? ⟨pa, oa + k * 7 + 5, none⟩ = some (.int .i64 ri) := (World.cell?_of_block (a := ⟨pa, oa + k * 7 + 5, none⟩) (hm7.2.2.block pa (World.block_lt_of_cell? _ _ r6) hpt.2.2.1 hpt.2.2.2)).trans r6
          have hpl : pa < W7.heap.size := World.block_lt_of_cell? _ _ r7
          obtain ⟨rfl, -, -⟩ := hm7
          clear A6 B6 r6 HDB
          obtain ⟨x, hx⟩ : ∃ x, x = mayB oA.tab.caps 1 0 1 ri := ⟨_, rfl⟩
          obtain ⟨y, hy⟩ : ∃ y, y = mayB oB.tab.caps 1 0 1 ri := ⟨_, rfl⟩
          obtain ⟨z, hz⟩ : ∃ z, z = strangerB oB.tab.caps := ⟨_, rfl⟩
          have hxyz : x ≠ y → z = true := by rw [hx, hy, hz]; exact stranger_may TW2.out ri
          have HMA := fun W' (h : TabAt W' ta ba oA.tab) => Lib.hid (show Calls Try.prog 15 #[.pointer (some ⟨ta, 0, none⟩), .int .i64 1, .int .i64 0, .int .i64 1, .int .i64 ri] W' (fun e w' => e = .returned (.bool x) ∧ Below W'.heap.size W' w') from hx ▸ may_any h 1 0 1 ri)
          have HMB := fun W' (h : TabAt W' tb bb oB.tab) => Lib.hid (show Calls Try.prog 15 #[.pointer (some ⟨tb, 0, none⟩), .int .i64 1, .int .i64 0, .int .i64 1, .int .i64 ri] W' (fun e w' => e = .returned (.bool y) ∧ Below W'.heap.size W' w') from hy ▸ may_any h 1 0 1 ri)
          have HGR := fun W' (h : TabAt W' tb bb oB.tab) => Lib.hid (show Calls Try.prog 25 #[.pointer (some ⟨tb, 0, none⟩)] W' (fun e w' => e = .returned (.bool z) ∧ Below W'.heap.size W' w') from hz ▸ granted_any h (by have := LB2.out; have := KN.out; omega))
          clear hx hy hz
          have hzt : x ≠ y → z = true := hxyz
          cases x <;> cases y
          case' false.true => (obtain rfl := hxyz (by decide)); clear hxyz hzt
          case' true.false => (obtain rfl := hxyz (by decide)); clear hxyz hzt
          case' false.true =>
            go_wp2_with fail
            go_region_held3 (fun W => W.cell? ⟨pa, oa + k * 7 + 5, none⟩ = some (.int .i64 ri))
              (first | exact (hB8.cell (p := ⟨pa, oa + k * 7 + 5, none⟩) hpl).trans r7 | exact (hB9.cell (p := ⟨pa, oa + k * 7 + 5, none⟩) hpl).trans r7 | exact (hB10.cell (p := ⟨pa, oa + k * 7 + 5, none⟩) hpl).trans r7 | go_keep)
              (first
                | (go_at_call 15; refine (HMB _ (B7.out.tab.step hB8)).out.mono ?_; rintro e W9 ⟨rfl, hb9⟩; have hB9 : Below W7.heap.size W7 W9 := hB8.trans (hb9.mono hB8.size); clear hb9)
                | (go_at_call 15; refine (HMA _ (A7.out.tab.step (by exact (Below.refl _ W7).drew))).out.mono ?_; rintro e W8 ⟨rfl, hb8⟩; have hB8 : Below W7.heap.size W7 W8 := (Below.refl _ W7).drew.trans hb8; clear hb8)
                | (go_at_call 25; refine (HGR _ (B7.out.tab.step hB9)).out.mono ?_; rintro e W10 ⟨rfl, hb10⟩; have hB10 : Below W7.heap.size W7 W10 := hB9.trans (hb10.mono hB9.size); clear hb10))
            have BX := Lib.hid hB10
            go_wp2_with fail
            refine ⟨oF_of _ n c _ m d ta tb _ (k + 1) ⟨hlt, _, _, A7.out.step BX.out, B7.out.step BX.out, TW2.out, LA2.out, by have := LB2.out; omega⟩ rfl, ?_⟩
            simp [intOf]; omega
          case' true.false =>
            go_wp2_with fail
            go_region_held3 (fun W => W.cell? ⟨pa, oa + k * 7 + 5, none⟩ = some (.int .i64 ri))
              (first | exact (hB8.cell (p := ⟨pa, oa + k * 7 + 5, none⟩) hpl).trans r7 | exact (hB9.cell (p := ⟨pa, oa + k * 7 + 5, none⟩) hpl).trans r7 | exact (hB10.cell (p := ⟨pa, oa + k * 7 + 5, none⟩) hpl).trans r7 | go_keep)
              (first
                | (go_at_call 15; refine (HMB _ (B7.out.tab.step hB8)).out.mono ?_; rintro e W9 ⟨rfl, hb9⟩; have hB9 : Below W7.heap.size W7 W9 := hB8.trans (hb9.mono hB8.size); clear hb9)
                | (go_at_call 15; refine (HMA _ (A7.out.tab.step (by exact (Below.refl _ W7).drew))).out.mono ?_; rintro e W8 ⟨rfl, hb8⟩; have hB8 : Below W7.heap.size W7 W8 := (Below.refl _ W7).drew.trans hb8; clear hb8)
                | (go_at_call 25; refine (HGR _ (B7.out.tab.step hB9)).out.mono ?_; rintro e W10 ⟨rfl, hb10⟩; have hB10 : Below W7.heap.size W7 W10 := hB9.trans (hb10.mono hB9.size); clear hb10))
            have BX := Lib.hid hB10
            go_wp2_with fail
            refine ⟨oF_of _ n c _ m d ta tb _ (k + 1) ⟨hlt, _, _, A7.out.step BX.out, B7.out.step BX.out, TW2.out, LA2.out, by have := LB2.out; omega⟩ rfl, ?_⟩
            simp [intOf]; omega
          all_goals
            clear hxyz hzt
            go_wp2_with fail
            refine wp_region_noPanic ?_
            refine wp_region_held_drew (S := (fun W => W.cell? ⟨pa, oa + k * 7 + 5, none⟩ = some (.int .i64 ri))) (by kernel_rfl) ?_ (fun hHeld => ?_)
            · (try dsimp only)
              go_keep
            refine wpAnyH_take (i := 0) (v := ?_) rfl (by kernel_rfl) (by kernel_rfl) (by kernel_rfl) (fun _ _ _ h => h) (Or.inl ⟨by rfl, ?_⟩) (by assumption) ?_
            rotate_left
            · (intro w hSw; (try dsimp only at hSw); (try simp only [List.getElem_toArray, List.getElem_cons_zero]); go_simp; try (with_reducible rfl))
            try simp only [Act.put, List.getElem_toArray, List.getElem_cons_zero, List.setIfInBounds_toArray, List.set_cons_zero, List.set_cons_succ]
            refine wpAnyH_take (i := 1) (v := ?_) rfl (by kernel_rfl) (by kernel_rfl) (by kernel_rfl) (fun _ _ _ h => h) (Or.inl ⟨by rfl, ?_⟩) (by assumption) ?_
            rotate_left
            · (intro w hSw; (try dsimp only at hSw); (try simp only [List.getElem_toArray, List.getElem_cons_zero, List.getElem_cons_succ]); go_simp; try (with_reducible rfl))
            try simp only [Act.put, List.getElem_toArray, List.getElem_cons_zero, List.getElem_cons_succ, List.setIfInBounds_toArray, List.set_cons_zero, List.set_cons_succ]
            refine wpAnyH_take (i := 2) (v := ?_) rfl (by kernel_rfl) (by kernel_rfl) (by kernel_rfl) (fun _ _ _ h => h) (Or.inl ⟨by rfl, ?_⟩) (by assumption) ?_
            rotate_left
            · (intro w hSw; (try dsimp only at hSw); (try simp only [List.getElem_toArray, List.getElem_cons_zero, List.getElem_cons_succ]); go_simp; try (with_reducible rfl))
            try simp only [Act.put, List.getElem_toArray, List.getElem_cons_zero, List.getElem_cons_succ, List.setIfInBounds_toArray, List.set_cons_zero, List.set_cons_succ]
            refine wpAnyH_take (i := 3) (v := ?_) rfl (by kernel_rfl) (by kernel_rfl) (by kernel_rfl) (fun _ _ _ h => h) (Or.inl ⟨by rfl, ?_⟩) (by assumption) ?_
            rotate_left
            · (intro w hSw; (try dsimp only at hSw); (try simp only [List.getElem_toArray, List.getElem_cons_zero, List.getElem_cons_succ]); go_simp; try (with_reducible rfl))
            try simp only [Act.put, List.getElem_toArray, List.getElem_cons_zero, List.getElem_cons_succ, List.setIfInBounds_toArray, List.set_cons_zero, List.set_cons_succ]
            refine wpAnyH_take (i := 4) (v := ?_) rfl (by kernel_rfl) (by kernel_rfl) (by kernel_rfl) (fun _ _ _ h => h) (Or.inl ⟨by rfl, ?_⟩) (by assumption) ?_
            rotate_left
            · (intro w hSw; (try dsimp only at hSw); (try simp only [List.getElem_toArray, List.getElem_cons_zero, List.getElem_cons_succ]); go_simp; try (with_reducible rfl))
            try simp only [Act.put, List.getElem_toArray, List.getElem_cons_zero, List.getElem_cons_succ, List.setIfInBounds_toArray, List.set_cons_zero, List.set_cons_succ]
            refine wpAnyH_take (i := 5) (v := ?_) rfl (by kernel_rfl) (by kernel_rfl) (by kernel_rfl) (fun _ _ _ h => h) (Or.inl ⟨by rfl, ?_⟩) (by assumption) ?_
            rotate_left
            · (intro w hSw; (try dsimp only at hSw); (try simp only [List.getElem_toArray, List.getElem_cons_zero, List.getElem_cons_succ]); go_simp; try (with_reducible rfl))
            try simp only [Act.put, List.getElem_toArray, List.getElem_cons_zero, List.getElem_cons_succ, List.setIfInBounds_toArray, List.set_cons_zero, List.set_cons_succ]
            refine wpAnyH_take (i := 6) (v := ?_) rfl (by kernel_rfl) (by kernel_rfl) (by kernel_rfl) (fun _ _ _ h => h) (Or.inl ⟨by rfl, ?_⟩) (by assumption) ?_
            rotate_left
            · (intro w hSw; (try dsimp only at hSw); (try simp only [List.getElem_toArray, List.getElem_cons_zero, List.getElem_cons_succ]); go_simp; try (with_reducible rfl))
            try simp only [Act.put, List.getElem_toArray, List.getElem_cons_zero, List.getElem_cons_succ, List.setIfInBounds_toArray, List.set_cons_zero, List.set_cons_succ]
            refine wpAnyH_take (i := 7) (v := ?_) rfl (by kernel_rfl) (by kernel_rfl) (by kernel_rfl) (fun _ _ _ h => h) (Or.inl ⟨by rfl, ?_⟩) (by assumption) ?_
            rotate_left
            · (intro w hSw; (try dsimp only at hSw); (try simp only [List.getElem_toArray, List.getElem_cons_zero, List.getElem_cons_succ]); go_simp; try (with_reducible rfl))
            try simp only [Act.put, List.getElem_toArray, List.getElem_cons_zero, List.getElem_cons_succ, List.setIfInBounds_toArray, List.set_cons_zero, List.set_cons_succ]
            refine wpAnyH_take (i := 8) (v := ?_) rfl (by kernel_rfl) (by kernel_rfl) (by kernel_rfl) (fun _ _ _ h => h) (Or.inl ⟨by rfl, ?_⟩) (by assumption) ?_
            rotate_left
            · (intro w hSw; (try dsimp only at hSw); (try simp only [List.getElem_toArray, List.getElem_cons_zero, List.getElem_cons_succ]); go_simp; try (with_reducible rfl))
            try simp only [Act.put, List.getElem_toArray, List.getElem_cons_zero, List.getElem_cons_succ, List.setIfInBounds_toArray, List.set_cons_zero, List.set_cons_succ]
            refine wpAnyH_take (i := 9) (v := ?_) rfl (by kernel_rfl) (by kernel_rfl) (by kernel_rfl) (fun _ _ _ h => h) (Or.inl ⟨by rfl, ?_⟩) (by assumption) ?_
            rotate_left
            · (intro w hSw; (try dsimp only at hSw); (try simp only [List.getElem_toArray, List.getElem_cons_zero, List.getElem_cons_succ]); go_simp; try (with_reducible rfl))
            try simp only [Act.put, List.getElem_toArray, List.getElem_cons_zero, List.getElem_cons_succ, List.setIfInBounds_toArray, List.set_cons_zero, List.set_cons_succ]
            refine wpAnyH_take (i := 11) (v := ?_) rfl (by kernel_rfl) (by kernel_rfl) (by kernel_rfl) (fun _ _ _ h => h) (Or.inl ⟨by rfl, ?_⟩) (by assumption) ?_
            rotate_left
            · (intro w hSw; (try dsimp only at hSw); (try simp only [List.getElem_toArray, List.getElem_cons_zero, List.getElem_cons_succ]); go_simp; try (with_reducible rfl))
            try simp only [Act.put, List.getElem_toArray, List.getElem_cons_zero, List.getElem_cons_succ, List.setIfInBounds_toArray, List.set_cons_zero, List.set_cons_succ]
            refine wpAnyH_take (i := 12) (v := ?_) rfl (by kernel_rfl) (by kernel_rfl) (by kernel_rfl) (fun _ _ _ h => h) (Or.inl ⟨by rfl, ?_⟩) (by assumption) ?_
            rotate_left
            · (intro w hSw; (try dsimp only at hSw); (try simp only [List.getElem_toArray, List.getElem_cons_zero, List.getElem_cons_succ]); go_simp; try (with_reducible rfl))
            try simp only [Act.put, List.getElem_toArray, List.getElem_cons_zero, List.getElem_cons_succ, List.setIfInBounds_toArray, List.set_cons_zero, List.set_cons_succ]
            refine wpAnyH_take (i := 13) (v := ?_) rfl (by kernel_rfl) (by kernel_rfl) (by kernel_rfl) (fun _ _ _ h => h) (Or.inl ⟨by rfl, ?_⟩) (by assumption) ?_
            rotate_left
            · (intro w hSw; (try dsimp only at hSw); (try simp only [List.getElem_toArray, List.getElem_cons_zero, List.getElem_cons_succ]); go_simp; try (with_reducible rfl))
            try simp only [Act.put, List.getElem_toArray, List.getElem_cons_zero, List.getElem_cons_succ, List.setIfInBounds_toArray, List.set_cons_zero, List.set_cons_succ]
            refine wpAnyH_take (i := 14) (v := ?_) rfl (by kernel_rfl) (by kernel_rfl) (by kernel_rfl) (fun _ _ _ h => h) (Or.inl ⟨by rfl, ?_⟩) (by assumption) ?_
            rotate_left
            · (intro w hSw; (try dsimp only at hSw); (try simp only [List.getElem_toArray, List.getElem_cons_zero, List.getElem_cons_succ]); go_simp; try (with_reducible rfl))
            try simp only [Act.put, List.getElem_toArray, List.getElem_cons_zero, List.getElem_cons_succ, List.setIfInBounds_toArray, List.set_cons_zero, List.set_cons_succ]
            refine wpAnyH_take (i := 15) (v := ?_) rfl (by kernel_rfl) (by kernel_rfl) (by kernel_rfl) (fun _ _ _ h => h) (Or.inl ⟨by rfl, ?_⟩) (by assumption) ?_
            rotate_left
            · (intro w hSw; (try dsimp only at hSw); (try simp only [List.getElem_toArray, List.getElem_cons_zero, List.getElem_cons_succ]); go_simp; try (with_reducible rfl))
            try simp only [Act.put, List.getElem_toArray, List.getElem_cons_zero, List.getElem_cons_succ, List.setIfInBounds_toArray, List.set_cons_zero, List.set_cons_succ]
            refine wpAnyH_take (i := 16) (v := ?_) rfl (by kernel_rfl) (by kernel_rfl) (by kernel_rfl) (fun _ _ _ h => h) (Or.inl ⟨by rfl, ?_⟩) (by assumption) ?_
            rotate_left
            · (intro w hSw; (try dsimp only at hSw); (try simp only [List.getElem_toArray, List.getElem_cons_zero, List.getElem_cons_succ]); go_simp; try (with_reducible rfl))
            try simp only [Act.put, List.getElem_toArray, List.getElem_cons_zero, List.getElem_cons_succ, List.setIfInBounds_toArray, List.set_cons_zero, List.set_cons_succ]
            refine wpAnyH_ready (rs := [10]) (by kernel_rfl) (by simp) ?_
            refine AllReadyH.cons rfl (fun K hK => ?_) AllReadyH.nil
            (try simp only [List.getElem_toArray, List.getElem_cons_zero, List.getElem_cons_succ]); go_simp
            (go_at_call 15; refine (HMA _ (A7.out.tab.step (by exact (Below.refl _ W7).drew))).out.mono ?_; rintro e W8 ⟨rfl, hb8⟩; have hB8 : Below W7.heap.size W7 W8 := (Below.refl _ W7).drew.trans hb8; clear hb8)
            try (go_wp2_with fail)
            refine hK.out _ _ ?_ (fun hHeld => ?_)
            · ((try dsimp only); exact (hB8.cell (p := ⟨pa, oa + k * 7 + 5, none⟩) hpl).trans r7)
            clear hK K
            try simp only [Act.put, List.getElem_toArray, List.getElem_cons_zero, List.getElem_cons_succ, List.setIfInBounds_toArray, List.set_cons_zero, List.set_cons_succ]
            refine wpAnyH_ready (rs := [17]) (by kernel_rfl) (by simp) ?_
            refine AllReadyH.cons rfl (fun K hK => ?_) AllReadyH.nil
            (try simp only [List.getElem_toArray, List.getElem_cons_zero, List.getElem_cons_succ]); go_simp
            (go_at_call 15; refine (HMB _ (B7.out.tab.step hB8)).out.mono ?_; rintro e W9 ⟨rfl, hb9⟩; have hB9 : Below W7.heap.size W7 W9 := hB8.trans (hb9.mono hB8.size); clear hb9)
            try (go_wp2_with fail)
            refine hK.out _ _ ?_ (fun hHeld => ?_)
            · ((try dsimp only); exact (hB9.cell (p := ⟨pa, oa + k * 7 + 5, none⟩) hpl).trans r7)
            clear hK K
            try simp only [Act.put, List.getElem_toArray, List.getElem_cons_zero, List.getElem_cons_succ, List.setIfInBounds_toArray, List.set_cons_zero, List.set_cons_succ]
            refine wpAnyH_take (i := 18) (v := ?_) rfl (by kernel_rfl) (by kernel_rfl) (by kernel_rfl) (fun _ _ _ h => h) (Or.inl ⟨by rfl, ?_⟩) (by assumption) ?_
            rotate_left
            · (intro w hSw; (try dsimp only at hSw); (try simp only [List.getElem_toArray, List.getElem_cons_zero, List.getElem_cons_succ]); go_simp; try (with_reducible rfl))
            try simp only [Act.put, List.getElem_toArray, List.getElem_cons_zero, List.getElem_cons_succ, List.setIfInBounds_toArray, List.set_cons_zero, List.set_cons_succ]
            refine wpAnyH_take (i := 19) (v := ?_) rfl (by kernel_rfl) (by kernel_rfl) (by kernel_rfl) (fun _ _ _ h => h) (Or.inl ⟨by rfl, ?_⟩) (by assumption) ?_
            rotate_left
            · (intro w hSw; (try dsimp only at hSw); (try simp only [List.getElem_toArray, List.getElem_cons_zero, List.getElem_cons_succ]); go_simp; try (with_reducible rfl))
            try simp only [Act.put, List.getElem_toArray, List.getElem_cons_zero, List.getElem_cons_succ, List.setIfInBounds_toArray, List.set_cons_zero, List.set_cons_succ]
            refine wpAnyH_take (i := 20) (v := undef) rfl (by kernel_rfl) (by kernel_rfl) (by kernel_rfl) (fun _ _ _ h => h) (Or.inr ⟨by rfl, rfl⟩) (by assumption) ?_
            try simp only [Act.put, List.getElem_toArray, List.getElem_cons_zero, List.getElem_cons_succ, List.setIfInBounds_toArray, List.set_cons_zero, List.set_cons_succ]
            refine wpAnyH_take (i := 21) (v := undef) rfl (by kernel_rfl) (by kernel_rfl) (by kernel_rfl) (fun _ _ _ h => h) (Or.inr ⟨by rfl, rfl⟩) (by assumption) ?_
            try simp only [Act.put, List.getElem_toArray, List.getElem_cons_zero, List.getElem_cons_succ, List.setIfInBounds_toArray, List.set_cons_zero, List.set_cons_succ]
            refine wpAnyH_take (i := 22) (v := undef) rfl (by kernel_rfl) (by kernel_rfl) (by kernel_rfl) (fun _ _ _ h => h) (Or.inr ⟨by rfl, rfl⟩) (by assumption) ?_
            try simp only [Act.put, List.getElem_toArray, List.getElem_cons_zero, List.getElem_cons_succ, List.setIfInBounds_toArray, List.set_cons_zero, List.set_cons_succ]
            refine wpAnyH_take (i := 23) (v := ?_) rfl (by kernel_rfl) (by kernel_rfl) (by kernel_rfl) (fun _ _ _ h => h) (Or.inl ⟨by rfl, ?_⟩) (by assumption) ?_
            rotate_left
            · (intro w hSw; (try dsimp only at hSw); (try simp only [List.getElem_toArray, List.getElem_cons_zero, List.getElem_cons_succ]); go_simp; try (with_reducible rfl))
            try simp only [Act.put, List.getElem_toArray, List.getElem_cons_zero, List.getElem_cons_succ, List.setIfInBounds_toArray, List.set_cons_zero, List.set_cons_succ]
            refine wpAnyH_take (i := 24) (v := ?_) rfl (by kernel_rfl) (by kernel_rfl) (by kernel_rfl) (fun _ _ _ h => h) (Or.inl ⟨by rfl, ?_⟩) (by assumption) ?_
            rotate_left
            · (intro w hSw; (try dsimp only at hSw); (try simp only [List.getElem_toArray, List.getElem_cons_zero, List.getElem_cons_succ]); go_simp; try (with_reducible rfl))
            try simp only [Act.put, List.getElem_toArray, List.getElem_cons_zero, List.getElem_cons_succ, List.setIfInBounds_toArray, List.set_cons_zero, List.set_cons_succ]
            refine wpAnyH_done (by kernel_rfl) ?_ _
            refine NoPanic.normal ?_
            have BX := Lib.hid hB9
            go_wp2_with fail
            refine ⟨oF_of _ n c _ m d ta tb _ (k + 1) ⟨hlt, _, _, A7.out.step BX.out, B7.out.step BX.out, TW2.out, LA2.out, by have := LB2.out; omega⟩ rfl, ?_⟩
            simp [intOf]; omega
        · by_cases h5 : kd = 5
          · subst h5
            have HX := Lib.hid ((Below.refl _ W).alloc (Nat.le_refl _) (.cells #[.int .i64 5, .int .i64 2, .int .i64 dt, .int .i64 thg, .int .i64 obj, .int .i64 rr, .int .i64 idd] 31))
            obtain ⟨Tc, hTc⟩ : ∃ T, T = Tb := ⟨_, rfl⟩
            rw [← hTc] at TB TW LB
            replace TA := Lib.hid (TA.out.step HX.out)
            replace TB := Lib.hid (TB.out.step HX.out)
            clear hTc HX FIT0
            obtain ⟨_, _, e5, -, -, -, -, -, r5, -⟩ := steps_cell HA.out TA.out.below hlt
            cases e5
            obtain ⟨ri, hri⟩ : ∃ ri, ri = (R k).ri := ⟨_, rfl⟩
            rw [← hri] at r5
            clear hri
            obtain ⟨oA, hoA⟩ : ∃ o, o = deriveO Ta 1 1 1 ri ri := ⟨_, rfl⟩
            obtain ⟨oB, hoB⟩ : ∃ o, o = deriveO Tc 1 1 1 ri ri := ⟨_, rfl⟩
            have wf1 : (Lit.int .i64 1).wf = true := wf_small (by decide) (by decide)
            have HDA := Lib.hid (show Calls Try.prog 24 #[.pointer (some ⟨ta, 0, none⟩), .int .i64 1, .int .i64 1, .int .i64 ri] _ (MadeOut _ ta ba oA) from hoA ▸ Derive_any TA.out.tab (by have := LA.out; have := KN.out; omega) 1 1 ri wf1)
            have HDB := fun W' (h : TabAt W' tb bb Tc) => Lib.hid (show Calls Try.prog 24 #[.pointer (some ⟨tb, 0, none⟩), .int .i64 1, .int .i64 1, .int .i64 ri] W' (MadeOut W' tb bb oB) from hoB ▸ Derive_any h (by have := LB.out; have := KN.out; omega) 1 1 ri wf1)
            have hsame := derive_same TA.out.tab.ok TB.out.tab.ok TW.out ri
            rw [← hoA, ← hoB] at hsame
            have TW2 := Lib.hid hsame.2
            have hne : (oA.err != oB.err) = false := by rw [hsame.1]; simp
            have LA2 := Lib.hid (show oA.tab.last ≤ k + 2 by rw [hoA]; have := (deriveO_ok TA.out.tab.ok 1 1 1 ri ri (.inl rfl)).2; have := LA.out; omega)
            have LB2 := Lib.hid (show oB.tab.last ≤ 2 * k + 3 by rw [hoB]; have := (deriveO_ok TB.out.tab.ok 1 1 1 ri ri (.inl rfl)).2; have := LB.out; omega)
            have hpt : pa ≠ ta ∧ pa ≠ ba ∧ pa ≠ tb ∧ pa ≠ bb := by have := FAR.out.a1; have := FAR.out.a2; have := FAR.out.b1; have := FAR.out.b2; omega
            clear hsame hoA hoB
            go_wp2_with fail
            refine HDA.out.mono ?_
            rintro e W6 hm6
            have A6 := Lib.hid (TA.out.made hm6)
            have B6 := Lib.hid (FAR.out.b TB.out hm6.2.2)
            have r6 : W6.cell? ⟨pa, oa + k * 7 + 5, none⟩ = some (.int .i64 ri) := (World.cell?_of_block (a := ⟨pa, oa + k * 7 + 5, none⟩) (hm6.2.2.block pa (World.block_lt_of_cell? _ _ r5) hpt.1 hpt.2.1)).trans r5
            obtain ⟨rfl, -, -⟩ := hm6
            clear TA TB r5 HDA
            go_wp2_with fail
            refine (HDB _ B6.out.tab).out.mono ?_
            rintro e W7 hm7
            have B7 := Lib.hid (B6.out.made hm7)
            have A7 := Lib.hid (FAR.out.a A6.out hm7.2.2)
            have r7 : W7.cell? ⟨pa, oa + k * 7 + 5, none⟩ = some (.int .i64 ri) := (World.cell?_of_block (a := ⟨pa, oa + k * 7 + 5, none⟩) (hm7.2.2.block pa (World.block_lt_of_cell? _ _ r6) hpt.2.2.1 hpt.2.2.2)).trans r6
            have hpl : pa < W7.heap.size := World.block_lt_of_cell? _ _ r7
            obtain ⟨rfl, -, -⟩ := hm7
            clear A6 B6 r6 HDB
            obtain ⟨x, hx⟩ : ∃ x, x = mayB oA.tab.caps 1 0 1 ri := ⟨_, rfl⟩
            obtain ⟨y, hy⟩ : ∃ y, y = mayB oB.tab.caps 1 0 1 ri := ⟨_, rfl⟩
            obtain ⟨z, hz⟩ : ∃ z, z = strangerB oB.tab.caps := ⟨_, rfl⟩
            have hxyz : x ≠ y → z = true := by rw [hx, hy, hz]; exact stranger_may TW2.out ri
            have HMA := fun W' (h : TabAt W' ta ba oA.tab) => Lib.hid (show Calls Try.prog 15 #[.pointer (some ⟨ta, 0, none⟩), .int .i64 1, .int .i64 0, .int .i64 1, .int .i64 ri] W' (fun e w' => e = .returned (.bool x) ∧ Below W'.heap.size W' w') from hx ▸ may_any h 1 0 1 ri)
            have HMB := fun W' (h : TabAt W' tb bb oB.tab) => Lib.hid (show Calls Try.prog 15 #[.pointer (some ⟨tb, 0, none⟩), .int .i64 1, .int .i64 0, .int .i64 1, .int .i64 ri] W' (fun e w' => e = .returned (.bool y) ∧ Below W'.heap.size W' w') from hy ▸ may_any h 1 0 1 ri)
            have HGR := fun W' (h : TabAt W' tb bb oB.tab) => Lib.hid (show Calls Try.prog 25 #[.pointer (some ⟨tb, 0, none⟩)] W' (fun e w' => e = .returned (.bool z) ∧ Below W'.heap.size W' w') from hz ▸ granted_any h (by have := LB2.out; have := KN.out; omega))
            clear hx hy hz
            have hzt : x ≠ y → z = true := hxyz
            cases x <;> cases y
            case' false.true => (obtain rfl := hxyz (by decide)); clear hxyz hzt
            case' true.false => (obtain rfl := hxyz (by decide)); clear hxyz hzt
            case' false.true =>
              go_wp2_with fail
              go_region_held3 (fun W => W.cell? ⟨pa, oa + k * 7 + 5, none⟩ = some (.int .i64 ri))
                (first | exact (hB8.cell (p := ⟨pa, oa + k * 7 + 5, none⟩) hpl).trans r7 | exact (hB9.cell (p := ⟨pa, oa + k * 7 + 5, none⟩) hpl).trans r7 | exact (hB10.cell (p := ⟨pa, oa + k * 7 + 5, none⟩) hpl).trans r7 | go_keep)
                (first
                  | (go_at_call 15; refine (HMB _ (B7.out.tab.step hB8)).out.mono ?_; rintro e W9 ⟨rfl, hb9⟩; have hB9 : Below W7.heap.size W7 W9 := hB8.trans (hb9.mono hB8.size); clear hb9)
                  | (go_at_call 15; refine (HMA _ (A7.out.tab.step (by exact (Below.refl _ W7).drew))).out.mono ?_; rintro e W8 ⟨rfl, hb8⟩; have hB8 : Below W7.heap.size W7 W8 := (Below.refl _ W7).drew.trans hb8; clear hb8)
                  | (go_at_call 25; refine (HGR _ (B7.out.tab.step hB9)).out.mono ?_; rintro e W10 ⟨rfl, hb10⟩; have hB10 : Below W7.heap.size W7 W10 := hB9.trans (hb10.mono hB9.size); clear hb10))
              have BX := Lib.hid hB10
              go_wp2_with fail
              refine ⟨oF_of _ n c _ m d ta tb _ (k + 1) ⟨hlt, _, _, A7.out.step BX.out, B7.out.step BX.out, TW2.out, LA2.out, by have := LB2.out; omega⟩ rfl, ?_⟩
              simp [intOf]; omega
            case' true.false =>
              go_wp2_with fail
              go_region_held3 (fun W => W.cell? ⟨pa, oa + k * 7 + 5, none⟩ = some (.int .i64 ri))
                (first | exact (hB8.cell (p := ⟨pa, oa + k * 7 + 5, none⟩) hpl).trans r7 | exact (hB9.cell (p := ⟨pa, oa + k * 7 + 5, none⟩) hpl).trans r7 | exact (hB10.cell (p := ⟨pa, oa + k * 7 + 5, none⟩) hpl).trans r7 | go_keep)
                (first
                  | (go_at_call 15; refine (HMB _ (B7.out.tab.step hB8)).out.mono ?_; rintro e W9 ⟨rfl, hb9⟩; have hB9 : Below W7.heap.size W7 W9 := hB8.trans (hb9.mono hB8.size); clear hb9)
                  | (go_at_call 15; refine (HMA _ (A7.out.tab.step (by exact (Below.refl _ W7).drew))).out.mono ?_; rintro e W8 ⟨rfl, hb8⟩; have hB8 : Below W7.heap.size W7 W8 := (Below.refl _ W7).drew.trans hb8; clear hb8)
                  | (go_at_call 25; refine (HGR _ (B7.out.tab.step hB9)).out.mono ?_; rintro e W10 ⟨rfl, hb10⟩; have hB10 : Below W7.heap.size W7 W10 := hB9.trans (hb10.mono hB9.size); clear hb10))
              have BX := Lib.hid hB10
              go_wp2_with fail
              refine ⟨oF_of _ n c _ m d ta tb _ (k + 1) ⟨hlt, _, _, A7.out.step BX.out, B7.out.step BX.out, TW2.out, LA2.out, by have := LB2.out; omega⟩ rfl, ?_⟩
              simp [intOf]; omega
            all_goals
              clear hxyz hzt
              go_wp2_with fail
              refine wp_region_noPanic ?_
              refine wp_region_held_drew (S := (fun W => W.cell? ⟨pa, oa + k * 7 + 5, none⟩ = some (.int .i64 ri))) (by kernel_rfl) ?_ (fun hHeld => ?_)
              · (try dsimp only)
                go_keep
              refine wpAnyH_take (i := 0) (v := ?_) rfl (by kernel_rfl) (by kernel_rfl) (by kernel_rfl) (fun _ _ _ h => h) (Or.inl ⟨by rfl, ?_⟩) (by assumption) ?_
              rotate_left
              · (intro w hSw; (try dsimp only at hSw); (try simp only [List.getElem_toArray, List.getElem_cons_zero]); go_simp; try (with_reducible rfl))
              try simp only [Act.put, List.getElem_toArray, List.getElem_cons_zero, List.setIfInBounds_toArray, List.set_cons_zero, List.set_cons_succ]
              refine wpAnyH_take (i := 1) (v := ?_) rfl (by kernel_rfl) (by kernel_rfl) (by kernel_rfl) (fun _ _ _ h => h) (Or.inl ⟨by rfl, ?_⟩) (by assumption) ?_
              rotate_left
              · (intro w hSw; (try dsimp only at hSw); (try simp only [List.getElem_toArray, List.getElem_cons_zero, List.getElem_cons_succ]); go_simp; try (with_reducible rfl))
              try simp only [Act.put, List.getElem_toArray, List.getElem_cons_zero, List.getElem_cons_succ, List.setIfInBounds_toArray, List.set_cons_zero, List.set_cons_succ]
              refine wpAnyH_take (i := 2) (v := ?_) rfl (by kernel_rfl) (by kernel_rfl) (by kernel_rfl) (fun _ _ _ h => h) (Or.inl ⟨by rfl, ?_⟩) (by assumption) ?_
              rotate_left
              · (intro w hSw; (try dsimp only at hSw); (try simp only [List.getElem_toArray, List.getElem_cons_zero, List.getElem_cons_succ]); go_simp; try (with_reducible rfl))
              try simp only [Act.put, List.getElem_toArray, List.getElem_cons_zero, List.getElem_cons_succ, List.setIfInBounds_toArray, List.set_cons_zero, List.set_cons_succ]
              refine wpAnyH_take (i := 3) (v := ?_) rfl (by kernel_rfl) (by kernel_rfl) (by kernel_rfl) (fun _ _ _ h => h) (Or.inl ⟨by rfl, ?_⟩) (by assumption) ?_
              rotate_left
              · (intro w hSw; (try dsimp only at hSw); (try simp only [List.getElem_toArray, List.getElem_cons_zero, List.getElem_cons_succ]); go_simp; try (with_reducible rfl))
              try simp only [Act.put, List.getElem_toArray, List.getElem_cons_zero, List.getElem_cons_succ, List.setIfInBounds_toArray, List.set_cons_zero, List.set_cons_succ]
              refine wpAnyH_take (i := 4) (v := ?_) rfl (by kernel_rfl) (by kernel_rfl) (by kernel_rfl) (fun _ _ _ h => h) (Or.inl ⟨by rfl, ?_⟩) (by assumption) ?_
              rotate_left
              · (intro w hSw; (try dsimp only at hSw); (try simp only [List.getElem_toArray, List.getElem_cons_zero, List.getElem_cons_succ]); go_simp; try (with_reducible rfl))
              try simp only [Act.put, List.getElem_toArray, List.getElem_cons_zero, List.getElem_cons_succ, List.setIfInBounds_toArray, List.set_cons_zero, List.set_cons_succ]
              refine wpAnyH_take (i := 5) (v := ?_) rfl (by kernel_rfl) (by kernel_rfl) (by kernel_rfl) (fun _ _ _ h => h) (Or.inl ⟨by rfl, ?_⟩) (by assumption) ?_
              rotate_left
              · (intro w hSw; (try dsimp only at hSw); (try simp only [List.getElem_toArray, List.getElem_cons_zero, List.getElem_cons_succ]); go_simp; try (with_reducible rfl))
              try simp only [Act.put, List.getElem_toArray, List.getElem_cons_zero, List.getElem_cons_succ, List.setIfInBounds_toArray, List.set_cons_zero, List.set_cons_succ]
              refine wpAnyH_take (i := 6) (v := ?_) rfl (by kernel_rfl) (by kernel_rfl) (by kernel_rfl) (fun _ _ _ h => h) (Or.inl ⟨by rfl, ?_⟩) (by assumption) ?_
              rotate_left
              · (intro w hSw; (try dsimp only at hSw); (try simp only [List.getElem_toArray, List.getElem_cons_zero, List.getElem_cons_succ]); go_simp; try (with_reducible rfl))
              try simp only [Act.put, List.getElem_toArray, List.getElem_cons_zero, List.getElem_cons_succ, List.setIfInBounds_toArray, List.set_cons_zero, List.set_cons_succ]
              refine wpAnyH_take (i := 7) (v := ?_) rfl (by kernel_rfl) (by kernel_rfl) (by kernel_rfl) (fun _ _ _ h => h) (Or.inl ⟨by rfl, ?_⟩) (by assumption) ?_
              rotate_left
              · (intro w hSw; (try dsimp only at hSw); (try simp only [List.getElem_toArray, List.getElem_cons_zero, List.getElem_cons_succ]); go_simp; try (with_reducible rfl))
              try simp only [Act.put, List.getElem_toArray, List.getElem_cons_zero, List.getElem_cons_succ, List.setIfInBounds_toArray, List.set_cons_zero, List.set_cons_succ]
              refine wpAnyH_take (i := 8) (v := ?_) rfl (by kernel_rfl) (by kernel_rfl) (by kernel_rfl) (fun _ _ _ h => h) (Or.inl ⟨by rfl, ?_⟩) (by assumption) ?_
              rotate_left
              · (intro w hSw; (try dsimp only at hSw); (try simp only [List.getElem_toArray, List.getElem_cons_zero, List.getElem_cons_succ]); go_simp; try (with_reducible rfl))
              try simp only [Act.put, List.getElem_toArray, List.getElem_cons_zero, List.getElem_cons_succ, List.setIfInBounds_toArray, List.set_cons_zero, List.set_cons_succ]
              refine wpAnyH_take (i := 9) (v := ?_) rfl (by kernel_rfl) (by kernel_rfl) (by kernel_rfl) (fun _ _ _ h => h) (Or.inl ⟨by rfl, ?_⟩) (by assumption) ?_
              rotate_left
              · (intro w hSw; (try dsimp only at hSw); (try simp only [List.getElem_toArray, List.getElem_cons_zero, List.getElem_cons_succ]); go_simp; try (with_reducible rfl))
              try simp only [Act.put, List.getElem_toArray, List.getElem_cons_zero, List.getElem_cons_succ, List.setIfInBounds_toArray, List.set_cons_zero, List.set_cons_succ]
              refine wpAnyH_take (i := 11) (v := ?_) rfl (by kernel_rfl) (by kernel_rfl) (by kernel_rfl) (fun _ _ _ h => h) (Or.inl ⟨by rfl, ?_⟩) (by assumption) ?_
              rotate_left
              · (intro w hSw; (try dsimp only at hSw); (try simp only [List.getElem_toArray, List.getElem_cons_zero, List.getElem_cons_succ]); go_simp; try (with_reducible rfl))
              try simp only [Act.put, List.getElem_toArray, List.getElem_cons_zero, List.getElem_cons_succ, List.setIfInBounds_toArray, List.set_cons_zero, List.set_cons_succ]
              refine wpAnyH_take (i := 12) (v := ?_) rfl (by kernel_rfl) (by kernel_rfl) (by kernel_rfl) (fun _ _ _ h => h) (Or.inl ⟨by rfl, ?_⟩) (by assumption) ?_
              rotate_left
              · (intro w hSw; (try dsimp only at hSw); (try simp only [List.getElem_toArray, List.getElem_cons_zero, List.getElem_cons_succ]); go_simp; try (with_reducible rfl))
              try simp only [Act.put, List.getElem_toArray, List.getElem_cons_zero, List.getElem_cons_succ, List.setIfInBounds_toArray, List.set_cons_zero, List.set_cons_succ]
              refine wpAnyH_take (i := 13) (v := ?_) rfl (by kernel_rfl) (by kernel_rfl) (by kernel_rfl) (fun _ _ _ h => h) (Or.inl ⟨by rfl, ?_⟩) (by assumption) ?_
              rotate_left
              · (intro w hSw; (try dsimp only at hSw); (try simp only [List.getElem_toArray, List.getElem_cons_zero, List.getElem_cons_succ]); go_simp; try (with_reducible rfl))
              try simp only [Act.put, List.getElem_toArray, List.getElem_cons_zero, List.getElem_cons_succ, List.setIfInBounds_toArray, List.set_cons_zero, List.set_cons_succ]
              refine wpAnyH_take (i := 14) (v := ?_) rfl (by kernel_rfl) (by kernel_rfl) (by kernel_rfl) (fun _ _ _ h => h) (Or.inl ⟨by rfl, ?_⟩) (by assumption) ?_
              rotate_left
              · (intro w hSw; (try dsimp only at hSw); (try simp only [List.getElem_toArray, List.getElem_cons_zero, List.getElem_cons_succ]); go_simp; try (with_reducible rfl))
              try simp only [Act.put, List.getElem_toArray, List.getElem_cons_zero, List.getElem_cons_succ, List.setIfInBounds_toArray, List.set_cons_zero, List.set_cons_succ]
              refine wpAnyH_take (i := 15) (v := ?_) rfl (by kernel_rfl) (by kernel_rfl) (by kernel_rfl) (fun _ _ _ h => h) (Or.inl ⟨by rfl, ?_⟩) (by assumption) ?_
              rotate_left
              · (intro w hSw; (try dsimp only at hSw); (try simp only [List.getElem_toArray, List.getElem_cons_zero, List.getElem_cons_succ]); go_simp; try (with_reducible rfl))
              try simp only [Act.put, List.getElem_toArray, List.getElem_cons_zero, List.getElem_cons_succ, List.setIfInBounds_toArray, List.set_cons_zero, List.set_cons_succ]
              refine wpAnyH_take (i := 16) (v := ?_) rfl (by kernel_rfl) (by kernel_rfl) (by kernel_rfl) (fun _ _ _ h => h) (Or.inl ⟨by rfl, ?_⟩) (by assumption) ?_
              rotate_left
              · (intro w hSw; (try dsimp only at hSw); (try simp only [List.getElem_toArray, List.getElem_cons_zero, List.getElem_cons_succ]); go_simp; try (with_reducible rfl))
              try simp only [Act.put, List.getElem_toArray, List.getElem_cons_zero, List.getElem_cons_succ, List.setIfInBounds_toArray, List.set_cons_zero, List.set_cons_succ]
              refine wpAnyH_ready (rs := [10]) (by kernel_rfl) (by simp) ?_
              refine AllReadyH.cons rfl (fun K hK => ?_) AllReadyH.nil
              (try simp only [List.getElem_toArray, List.getElem_cons_zero, List.getElem_cons_succ]); go_simp
              (go_at_call 15; refine (HMA _ (A7.out.tab.step (by exact (Below.refl _ W7).drew))).out.mono ?_; rintro e W8 ⟨rfl, hb8⟩; have hB8 : Below W7.heap.size W7 W8 := (Below.refl _ W7).drew.trans hb8; clear hb8)
              try (go_wp2_with fail)
              refine hK.out _ _ ?_ (fun hHeld => ?_)
              · ((try dsimp only); exact (hB8.cell (p := ⟨pa, oa + k * 7 + 5, none⟩) hpl).trans r7)
              clear hK K
              try simp only [Act.put, List.getElem_toArray, List.getElem_cons_zero, List.getElem_cons_succ, List.setIfInBounds_toArray, List.set_cons_zero, List.set_cons_succ]
              refine wpAnyH_ready (rs := [17]) (by kernel_rfl) (by simp) ?_
              refine AllReadyH.cons rfl (fun K hK => ?_) AllReadyH.nil
              (try simp only [List.getElem_toArray, List.getElem_cons_zero, List.getElem_cons_succ]); go_simp
              (go_at_call 15; refine (HMB _ (B7.out.tab.step hB8)).out.mono ?_; rintro e W9 ⟨rfl, hb9⟩; have hB9 : Below W7.heap.size W7 W9 := hB8.trans (hb9.mono hB8.size); clear hb9)
              try (go_wp2_with fail)
              refine hK.out _ _ ?_ (fun hHeld => ?_)
              · ((try dsimp only); exact (hB9.cell (p := ⟨pa, oa + k * 7 + 5, none⟩) hpl).trans r7)
              clear hK K
              try simp only [Act.put, List.getElem_toArray, List.getElem_cons_zero, List.getElem_cons_succ, List.setIfInBounds_toArray, List.set_cons_zero, List.set_cons_succ]
              refine wpAnyH_take (i := 18) (v := ?_) rfl (by kernel_rfl) (by kernel_rfl) (by kernel_rfl) (fun _ _ _ h => h) (Or.inl ⟨by rfl, ?_⟩) (by assumption) ?_
              rotate_left
              · (intro w hSw; (try dsimp only at hSw); (try simp only [List.getElem_toArray, List.getElem_cons_zero, List.getElem_cons_succ]); go_simp; try (with_reducible rfl))
              try simp only [Act.put, List.getElem_toArray, List.getElem_cons_zero, List.getElem_cons_succ, List.setIfInBounds_toArray, List.set_cons_zero, List.set_cons_succ]
              refine wpAnyH_take (i := 19) (v := ?_) rfl (by kernel_rfl) (by kernel_rfl) (by kernel_rfl) (fun _ _ _ h => h) (Or.inl ⟨by rfl, ?_⟩) (by assumption) ?_
              rotate_left
              · (intro w hSw; (try dsimp only at hSw); (try simp only [List.getElem_toArray, List.getElem_cons_zero, List.getElem_cons_succ]); go_simp; try (with_reducible rfl))
              try simp only [Act.put, List.getElem_toArray, List.getElem_cons_zero, List.getElem_cons_succ, List.setIfInBounds_toArray, List.set_cons_zero, List.set_cons_succ]
              refine wpAnyH_take (i := 20) (v := undef) rfl (by kernel_rfl) (by kernel_rfl) (by kernel_rfl) (fun _ _ _ h => h) (Or.inr ⟨by rfl, rfl⟩) (by assumption) ?_
              try simp only [Act.put, List.getElem_toArray, List.getElem_cons_zero, List.getElem_cons_succ, List.setIfInBounds_toArray, List.set_cons_zero, List.set_cons_succ]
              refine wpAnyH_take (i := 21) (v := undef) rfl (by kernel_rfl) (by kernel_rfl) (by kernel_rfl) (fun _ _ _ h => h) (Or.inr ⟨by rfl, rfl⟩) (by assumption) ?_
              try simp only [Act.put, List.getElem_toArray, List.getElem_cons_zero, List.getElem_cons_succ, List.setIfInBounds_toArray, List.set_cons_zero, List.set_cons_succ]
              refine wpAnyH_take (i := 22) (v := undef) rfl (by kernel_rfl) (by kernel_rfl) (by kernel_rfl) (fun _ _ _ h => h) (Or.inr ⟨by rfl, rfl⟩) (by assumption) ?_
              try simp only [Act.put, List.getElem_toArray, List.getElem_cons_zero, List.getElem_cons_succ, List.setIfInBounds_toArray, List.set_cons_zero, List.set_cons_succ]
              refine wpAnyH_take (i := 23) (v := ?_) rfl (by kernel_rfl) (by kernel_rfl) (by kernel_rfl) (fun _ _ _ h => h) (Or.inl ⟨by rfl, ?_⟩) (by assumption) ?_
              rotate_left
              · (intro w hSw; (try dsimp only at hSw); (try simp only [List.getElem_toArray, List.getElem_cons_zero, List.getElem_cons_succ]); go_simp; try (with_reducible rfl))
              try simp only [Act.put, List.getElem_toArray, List.getElem_cons_zero, List.getElem_cons_succ, List.setIfInBounds_toArray, List.set_cons_zero, List.set_cons_succ]
              refine wpAnyH_take (i := 24) (v := ?_) rfl (by kernel_rfl) (by kernel_rfl) (by kernel_rfl) (fun _ _ _ h => h) (Or.inl ⟨by rfl, ?_⟩) (by assumption) ?_
              rotate_left
              · (intro w hSw; (try dsimp only at hSw); (try simp only [List.getElem_toArray, List.getElem_cons_zero, List.getElem_cons_succ]); go_simp; try (with_reducible rfl))
              try simp only [Act.put, List.getElem_toArray, List.getElem_cons_zero, List.getElem_cons_succ, List.setIfInBounds_toArray, List.set_cons_zero, List.set_cons_succ]
              refine wpAnyH_done (by kernel_rfl) ?_ _
              refine NoPanic.normal ?_
              have BX := Lib.hid hB9
              go_wp2_with fail
              refine ⟨oF_of _ n c _ m d ta tb _ (k + 1) ⟨hlt, _, _, A7.out.step BX.out, B7.out.step BX.out, TW2.out, LA2.out, by have := LB2.out; omega⟩ rfl, ?_⟩
              simp [intOf]; omega
          · have HX := Lib.hid ((Below.refl _ W).alloc (Nat.le_refl _) (.cells #[.int .i64 kd, .int .i64 2, .int .i64 dt, .int .i64 thg, .int .i64 obj, .int .i64 rr, .int .i64 idd] 31))
            have FIT := Lib.hid (show StepS.fits ⟨kd, 2, dt, thg, obj, rr, idd⟩ from FIT0.out)
            obtain ⟨Tc, hTc⟩ : ∃ T, T = (oneO Tb ⟨kd, 2, dt, thg, obj, rr, idd⟩).tab := ⟨_, rfl⟩
            have ONE := Lib.hid (one_any (TB.out.tab.step HX.out) (by have := LB1.out; have := KN.out; omega) ⟨kd, 2, dt, thg, obj, rr, idd⟩ FIT.out)
            have TW5 := Lib.hid (TwoOk.other TW.out ⟨kd, 2, dt, thg, obj, rr, idd⟩ h4 h5 (by dsimp only; decide))
            have LB5 := Lib.hid (show (oneO Tb ⟨kd, 2, dt, thg, obj, rr, idd⟩).tab.last ≤ 2 * k + 2 by have := oneO_last TB.out.tab.ok ⟨kd, 2, dt, thg, obj, rr, idd⟩ FIT.out; have := LB1.out; omega)
            rw [← hTc] at ONE TW5 LB5
            unfold stepV at ONE
            clear hTc FIT FIT0 TW LB
            have n4 : (kd != 4) = true := by simp [h4]
            have n5 : (kd != 5) = true := by simp [h5]
            go_wp2_with fail
            refine ONE.out.mono ?_
            rintro e W5 ⟨rfl, h5t, h5b⟩
            have TW := TW5; have LB := LB5
            replace TA := Lib.hid (FAR.out.a (TA.out.step HX.out) h5b)
            replace TB := Lib.hid (show TabOwn w W5 tb bb Tc from ⟨h5t, (TB.out.step HX.out).below.trans (h5b.below (TB.out.step HX.out).below.size FAR.out.b1 FAR.out.b2), FAR.out.b1, FAR.out.b2⟩)
            clear h5t h5b ONE HX TW5 LB5 n4 n5
            obtain ⟨_, _, e5, -, -, -, -, -, r5, -⟩ := steps_cell HA.out TA.out.below hlt
            cases e5
            obtain ⟨ri, hri⟩ : ∃ ri, ri = (R k).ri := ⟨_, rfl⟩
            rw [← hri] at r5
            clear hri
            obtain ⟨oA, hoA⟩ : ∃ o, o = deriveO Ta 1 1 1 ri ri := ⟨_, rfl⟩
            obtain ⟨oB, hoB⟩ : ∃ o, o = deriveO Tc 1 1 1 ri ri := ⟨_, rfl⟩
            have wf1 : (Lit.int .i64 1).wf = true := wf_small (by decide) (by decide)
            have HDA := Lib.hid (show Calls Try.prog 24 #[.pointer (some ⟨ta, 0, none⟩), .int .i64 1, .int .i64 1, .int .i64 ri] _ (MadeOut _ ta ba oA) from hoA ▸ Derive_any TA.out.tab (by have := LA.out; have := KN.out; omega) 1 1 ri wf1)
            have HDB := fun W' (h : TabAt W' tb bb Tc) => Lib.hid (show Calls Try.prog 24 #[.pointer (some ⟨tb, 0, none⟩), .int .i64 1, .int .i64 1, .int .i64 ri] W' (MadeOut W' tb bb oB) from hoB ▸ Derive_any h (by have := LB.out; have := KN.out; omega) 1 1 ri wf1)
            have hsame := derive_same TA.out.tab.ok TB.out.tab.ok TW.out ri
            rw [← hoA, ← hoB] at hsame
            have TW2 := Lib.hid hsame.2
            have hne : (oA.err != oB.err) = false := by rw [hsame.1]; simp
            have LA2 := Lib.hid (show oA.tab.last ≤ k + 2 by rw [hoA]; have := (deriveO_ok TA.out.tab.ok 1 1 1 ri ri (.inl rfl)).2; have := LA.out; omega)
            have LB2 := Lib.hid (show oB.tab.last ≤ 2 * k + 3 by rw [hoB]; have := (deriveO_ok TB.out.tab.ok 1 1 1 ri ri (.inl rfl)).2; have := LB.out; omega)
            have hpt : pa ≠ ta ∧ pa ≠ ba ∧ pa ≠ tb ∧ pa ≠ bb := by have := FAR.out.a1; have := FAR.out.a2; have := FAR.out.b1; have := FAR.out.b2; omega
            clear hsame hoA hoB
            go_wp2_with fail
            refine HDA.out.mono ?_
            rintro e W6 hm6
            have A6 := Lib.hid (TA.out.made hm6)
            have B6 := Lib.hid (FAR.out.b TB.out hm6.2.2)
            have r6 : W6.cell? ⟨pa, oa + k * 7 + 5, none⟩ = some (.int .i64 ri) := (World.cell?_of_block (a := ⟨pa, oa + k * 7 + 5, none⟩) (hm6.2.2.block pa (World.block_lt_of_cell? _ _ r5) hpt.1 hpt.2.1)).trans r5
            obtain ⟨rfl, -, -⟩ := hm6
            clear TA TB r5 HDA
            go_wp2_with fail
            refine (HDB _ B6.out.tab).out.mono ?_
            rintro e W7 hm7
            have B7 := Lib.hid (B6.out.made hm7)
            have A7 := Lib.hid (FAR.out.a A6.out hm7.2.2)
            have r7 : W7.cell? ⟨pa, oa + k * 7 + 5, none⟩ = some (.int .i64 ri) := (World.cell?_of_block (a := ⟨pa, oa + k * 7 + 5, none⟩) (hm7.2.2.block pa (World.block_lt_of_cell? _ _ r6) hpt.2.2.1 hpt.2.2.2)).trans r6
            have hpl : pa < W7.heap.size := World.block_lt_of_cell? _ _ r7
            obtain ⟨rfl, -, -⟩ := hm7
            clear A6 B6 r6 HDB
            obtain ⟨x, hx⟩ : ∃ x, x = mayB oA.tab.caps 1 0 1 ri := ⟨_, rfl⟩
            obtain ⟨y, hy⟩ : ∃ y, y = mayB oB.tab.caps 1 0 1 ri := ⟨_, rfl⟩
            obtain ⟨z, hz⟩ : ∃ z, z = strangerB oB.tab.caps := ⟨_, rfl⟩
            have hxyz : x ≠ y → z = true := by rw [hx, hy, hz]; exact stranger_may TW2.out ri
            have HMA := fun W' (h : TabAt W' ta ba oA.tab) => Lib.hid (show Calls Try.prog 15 #[.pointer (some ⟨ta, 0, none⟩), .int .i64 1, .int .i64 0, .int .i64 1, .int .i64 ri] W' (fun e w' => e = .returned (.bool x) ∧ Below W'.heap.size W' w') from hx ▸ may_any h 1 0 1 ri)
            have HMB := fun W' (h : TabAt W' tb bb oB.tab) => Lib.hid (show Calls Try.prog 15 #[.pointer (some ⟨tb, 0, none⟩), .int .i64 1, .int .i64 0, .int .i64 1, .int .i64 ri] W' (fun e w' => e = .returned (.bool y) ∧ Below W'.heap.size W' w') from hy ▸ may_any h 1 0 1 ri)
            have HGR := fun W' (h : TabAt W' tb bb oB.tab) => Lib.hid (show Calls Try.prog 25 #[.pointer (some ⟨tb, 0, none⟩)] W' (fun e w' => e = .returned (.bool z) ∧ Below W'.heap.size W' w') from hz ▸ granted_any h (by have := LB2.out; have := KN.out; omega))
            clear hx hy hz
            have hzt : x ≠ y → z = true := hxyz
            cases x <;> cases y
            case' false.true => (obtain rfl := hxyz (by decide)); clear hxyz hzt
            case' true.false => (obtain rfl := hxyz (by decide)); clear hxyz hzt
            case' false.true =>
              go_wp2_with fail
              go_region_held3 (fun W => W.cell? ⟨pa, oa + k * 7 + 5, none⟩ = some (.int .i64 ri))
                (first | exact (hB8.cell (p := ⟨pa, oa + k * 7 + 5, none⟩) hpl).trans r7 | exact (hB9.cell (p := ⟨pa, oa + k * 7 + 5, none⟩) hpl).trans r7 | exact (hB10.cell (p := ⟨pa, oa + k * 7 + 5, none⟩) hpl).trans r7 | go_keep)
                (first
                  | (go_at_call 15; refine (HMB _ (B7.out.tab.step hB8)).out.mono ?_; rintro e W9 ⟨rfl, hb9⟩; have hB9 : Below W7.heap.size W7 W9 := hB8.trans (hb9.mono hB8.size); clear hb9)
                  | (go_at_call 15; refine (HMA _ (A7.out.tab.step (by exact (Below.refl _ W7).drew))).out.mono ?_; rintro e W8 ⟨rfl, hb8⟩; have hB8 : Below W7.heap.size W7 W8 := (Below.refl _ W7).drew.trans hb8; clear hb8)
                  | (go_at_call 25; refine (HGR _ (B7.out.tab.step hB9)).out.mono ?_; rintro e W10 ⟨rfl, hb10⟩; have hB10 : Below W7.heap.size W7 W10 := hB9.trans (hb10.mono hB9.size); clear hb10))
              have BX := Lib.hid hB10
              go_wp2_with fail
              refine ⟨oF_of _ n c _ m d ta tb _ (k + 1) ⟨hlt, _, _, A7.out.step BX.out, B7.out.step BX.out, TW2.out, LA2.out, by have := LB2.out; omega⟩ rfl, ?_⟩
              simp [intOf]; omega
            case' true.false =>
              go_wp2_with fail
              go_region_held3 (fun W => W.cell? ⟨pa, oa + k * 7 + 5, none⟩ = some (.int .i64 ri))
                (first | exact (hB8.cell (p := ⟨pa, oa + k * 7 + 5, none⟩) hpl).trans r7 | exact (hB9.cell (p := ⟨pa, oa + k * 7 + 5, none⟩) hpl).trans r7 | exact (hB10.cell (p := ⟨pa, oa + k * 7 + 5, none⟩) hpl).trans r7 | go_keep)
                (first
                  | (go_at_call 15; refine (HMB _ (B7.out.tab.step hB8)).out.mono ?_; rintro e W9 ⟨rfl, hb9⟩; have hB9 : Below W7.heap.size W7 W9 := hB8.trans (hb9.mono hB8.size); clear hb9)
                  | (go_at_call 15; refine (HMA _ (A7.out.tab.step (by exact (Below.refl _ W7).drew))).out.mono ?_; rintro e W8 ⟨rfl, hb8⟩; have hB8 : Below W7.heap.size W7 W8 := (Below.refl _ W7).drew.trans hb8; clear hb8)
                  | (go_at_call 25; refine (HGR _ (B7.out.tab.step hB9)).out.mono ?_; rintro e W10 ⟨rfl, hb10⟩; have hB10 : Below W7.heap.size W7 W10 := hB9.trans (hb10.mono hB9.size); clear hb10))
              have BX := Lib.hid hB10
              go_wp2_with fail
              refine ⟨oF_of _ n c _ m d ta tb _ (k + 1) ⟨hlt, _, _, A7.out.step BX.out, B7.out.step BX.out, TW2.out, LA2.out, by have := LB2.out; omega⟩ rfl, ?_⟩
              simp [intOf]; omega
            all_goals
              clear hxyz hzt
              go_wp2_with fail
              refine wp_region_noPanic ?_
              refine wp_region_held_drew (S := (fun W => W.cell? ⟨pa, oa + k * 7 + 5, none⟩ = some (.int .i64 ri))) (by kernel_rfl) ?_ (fun hHeld => ?_)
              · (try dsimp only)
                go_keep
              refine wpAnyH_take (i := 0) (v := ?_) rfl (by kernel_rfl) (by kernel_rfl) (by kernel_rfl) (fun _ _ _ h => h) (Or.inl ⟨by rfl, ?_⟩) (by assumption) ?_
              rotate_left
              · (intro w hSw; (try dsimp only at hSw); (try simp only [List.getElem_toArray, List.getElem_cons_zero]); go_simp; try (with_reducible rfl))
              try simp only [Act.put, List.getElem_toArray, List.getElem_cons_zero, List.setIfInBounds_toArray, List.set_cons_zero, List.set_cons_succ]
              refine wpAnyH_take (i := 1) (v := ?_) rfl (by kernel_rfl) (by kernel_rfl) (by kernel_rfl) (fun _ _ _ h => h) (Or.inl ⟨by rfl, ?_⟩) (by assumption) ?_
              rotate_left
              · (intro w hSw; (try dsimp only at hSw); (try simp only [List.getElem_toArray, List.getElem_cons_zero, List.getElem_cons_succ]); go_simp; try (with_reducible rfl))
              try simp only [Act.put, List.getElem_toArray, List.getElem_cons_zero, List.getElem_cons_succ, List.setIfInBounds_toArray, List.set_cons_zero, List.set_cons_succ]
              refine wpAnyH_take (i := 2) (v := ?_) rfl (by kernel_rfl) (by kernel_rfl) (by kernel_rfl) (fun _ _ _ h => h) (Or.inl ⟨by rfl, ?_⟩) (by assumption) ?_
              rotate_left
              · (intro w hSw; (try dsimp only at hSw); (try simp only [List.getElem_toArray, List.getElem_cons_zero, List.getElem_cons_succ]); go_simp; try (with_reducible rfl))
              try simp only [Act.put, List.getElem_toArray, List.getElem_cons_zero, List.getElem_cons_succ, List.setIfInBounds_toArray, List.set_cons_zero, List.set_cons_succ]
              refine wpAnyH_take (i := 3) (v := ?_) rfl (by kernel_rfl) (by kernel_rfl) (by kernel_rfl) (fun _ _ _ h => h) (Or.inl ⟨by rfl, ?_⟩) (by assumption) ?_
              rotate_left
              · (intro w hSw; (try dsimp only at hSw); (try simp only [List.getElem_toArray, List.getElem_cons_zero, List.getElem_cons_succ]); go_simp; try (with_reducible rfl))
              try simp only [Act.put, List.getElem_toArray, List.getElem_cons_zero, List.getElem_cons_succ, List.setIfInBounds_toArray, List.set_cons_zero, List.set_cons_succ]
              refine wpAnyH_take (i := 4) (v := ?_) rfl (by kernel_rfl) (by kernel_rfl) (by kernel_rfl) (fun _ _ _ h => h) (Or.inl ⟨by rfl, ?_⟩) (by assumption) ?_
              rotate_left
              · (intro w hSw; (try dsimp only at hSw); (try simp only [List.getElem_toArray, List.getElem_cons_zero, List.getElem_cons_succ]); go_simp; try (with_reducible rfl))
              try simp only [Act.put, List.getElem_toArray, List.getElem_cons_zero, List.getElem_cons_succ, List.setIfInBounds_toArray, List.set_cons_zero, List.set_cons_succ]
              refine wpAnyH_take (i := 5) (v := ?_) rfl (by kernel_rfl) (by kernel_rfl) (by kernel_rfl) (fun _ _ _ h => h) (Or.inl ⟨by rfl, ?_⟩) (by assumption) ?_
              rotate_left
              · (intro w hSw; (try dsimp only at hSw); (try simp only [List.getElem_toArray, List.getElem_cons_zero, List.getElem_cons_succ]); go_simp; try (with_reducible rfl))
              try simp only [Act.put, List.getElem_toArray, List.getElem_cons_zero, List.getElem_cons_succ, List.setIfInBounds_toArray, List.set_cons_zero, List.set_cons_succ]
              refine wpAnyH_take (i := 6) (v := ?_) rfl (by kernel_rfl) (by kernel_rfl) (by kernel_rfl) (fun _ _ _ h => h) (Or.inl ⟨by rfl, ?_⟩) (by assumption) ?_
              rotate_left
              · (intro w hSw; (try dsimp only at hSw); (try simp only [List.getElem_toArray, List.getElem_cons_zero, List.getElem_cons_succ]); go_simp; try (with_reducible rfl))
              try simp only [Act.put, List.getElem_toArray, List.getElem_cons_zero, List.getElem_cons_succ, List.setIfInBounds_toArray, List.set_cons_zero, List.set_cons_succ]
              refine wpAnyH_take (i := 7) (v := ?_) rfl (by kernel_rfl) (by kernel_rfl) (by kernel_rfl) (fun _ _ _ h => h) (Or.inl ⟨by rfl, ?_⟩) (by assumption) ?_
              rotate_left
              · (intro w hSw; (try dsimp only at hSw); (try simp only [List.getElem_toArray, List.getElem_cons_zero, List.getElem_cons_succ]); go_simp; try (with_reducible rfl))
              try simp only [Act.put, List.getElem_toArray, List.getElem_cons_zero, List.getElem_cons_succ, List.setIfInBounds_toArray, List.set_cons_zero, List.set_cons_succ]
              refine wpAnyH_take (i := 8) (v := ?_) rfl (by kernel_rfl) (by kernel_rfl) (by kernel_rfl) (fun _ _ _ h => h) (Or.inl ⟨by rfl, ?_⟩) (by assumption) ?_
              rotate_left
              · (intro w hSw; (try dsimp only at hSw); (try simp only [List.getElem_toArray, List.getElem_cons_zero, List.getElem_cons_succ]); go_simp; try (with_reducible rfl))
              try simp only [Act.put, List.getElem_toArray, List.getElem_cons_zero, List.getElem_cons_succ, List.setIfInBounds_toArray, List.set_cons_zero, List.set_cons_succ]
              refine wpAnyH_take (i := 9) (v := ?_) rfl (by kernel_rfl) (by kernel_rfl) (by kernel_rfl) (fun _ _ _ h => h) (Or.inl ⟨by rfl, ?_⟩) (by assumption) ?_
              rotate_left
              · (intro w hSw; (try dsimp only at hSw); (try simp only [List.getElem_toArray, List.getElem_cons_zero, List.getElem_cons_succ]); go_simp; try (with_reducible rfl))
              try simp only [Act.put, List.getElem_toArray, List.getElem_cons_zero, List.getElem_cons_succ, List.setIfInBounds_toArray, List.set_cons_zero, List.set_cons_succ]
              refine wpAnyH_take (i := 11) (v := ?_) rfl (by kernel_rfl) (by kernel_rfl) (by kernel_rfl) (fun _ _ _ h => h) (Or.inl ⟨by rfl, ?_⟩) (by assumption) ?_
              rotate_left
              · (intro w hSw; (try dsimp only at hSw); (try simp only [List.getElem_toArray, List.getElem_cons_zero, List.getElem_cons_succ]); go_simp; try (with_reducible rfl))
              try simp only [Act.put, List.getElem_toArray, List.getElem_cons_zero, List.getElem_cons_succ, List.setIfInBounds_toArray, List.set_cons_zero, List.set_cons_succ]
              refine wpAnyH_take (i := 12) (v := ?_) rfl (by kernel_rfl) (by kernel_rfl) (by kernel_rfl) (fun _ _ _ h => h) (Or.inl ⟨by rfl, ?_⟩) (by assumption) ?_
              rotate_left
              · (intro w hSw; (try dsimp only at hSw); (try simp only [List.getElem_toArray, List.getElem_cons_zero, List.getElem_cons_succ]); go_simp; try (with_reducible rfl))
              try simp only [Act.put, List.getElem_toArray, List.getElem_cons_zero, List.getElem_cons_succ, List.setIfInBounds_toArray, List.set_cons_zero, List.set_cons_succ]
              refine wpAnyH_take (i := 13) (v := ?_) rfl (by kernel_rfl) (by kernel_rfl) (by kernel_rfl) (fun _ _ _ h => h) (Or.inl ⟨by rfl, ?_⟩) (by assumption) ?_
              rotate_left
              · (intro w hSw; (try dsimp only at hSw); (try simp only [List.getElem_toArray, List.getElem_cons_zero, List.getElem_cons_succ]); go_simp; try (with_reducible rfl))
              try simp only [Act.put, List.getElem_toArray, List.getElem_cons_zero, List.getElem_cons_succ, List.setIfInBounds_toArray, List.set_cons_zero, List.set_cons_succ]
              refine wpAnyH_take (i := 14) (v := ?_) rfl (by kernel_rfl) (by kernel_rfl) (by kernel_rfl) (fun _ _ _ h => h) (Or.inl ⟨by rfl, ?_⟩) (by assumption) ?_
              rotate_left
              · (intro w hSw; (try dsimp only at hSw); (try simp only [List.getElem_toArray, List.getElem_cons_zero, List.getElem_cons_succ]); go_simp; try (with_reducible rfl))
              try simp only [Act.put, List.getElem_toArray, List.getElem_cons_zero, List.getElem_cons_succ, List.setIfInBounds_toArray, List.set_cons_zero, List.set_cons_succ]
              refine wpAnyH_take (i := 15) (v := ?_) rfl (by kernel_rfl) (by kernel_rfl) (by kernel_rfl) (fun _ _ _ h => h) (Or.inl ⟨by rfl, ?_⟩) (by assumption) ?_
              rotate_left
              · (intro w hSw; (try dsimp only at hSw); (try simp only [List.getElem_toArray, List.getElem_cons_zero, List.getElem_cons_succ]); go_simp; try (with_reducible rfl))
              try simp only [Act.put, List.getElem_toArray, List.getElem_cons_zero, List.getElem_cons_succ, List.setIfInBounds_toArray, List.set_cons_zero, List.set_cons_succ]
              refine wpAnyH_take (i := 16) (v := ?_) rfl (by kernel_rfl) (by kernel_rfl) (by kernel_rfl) (fun _ _ _ h => h) (Or.inl ⟨by rfl, ?_⟩) (by assumption) ?_
              rotate_left
              · (intro w hSw; (try dsimp only at hSw); (try simp only [List.getElem_toArray, List.getElem_cons_zero, List.getElem_cons_succ]); go_simp; try (with_reducible rfl))
              try simp only [Act.put, List.getElem_toArray, List.getElem_cons_zero, List.getElem_cons_succ, List.setIfInBounds_toArray, List.set_cons_zero, List.set_cons_succ]
              refine wpAnyH_ready (rs := [10]) (by kernel_rfl) (by simp) ?_
              refine AllReadyH.cons rfl (fun K hK => ?_) AllReadyH.nil
              (try simp only [List.getElem_toArray, List.getElem_cons_zero, List.getElem_cons_succ]); go_simp
              (go_at_call 15; refine (HMA _ (A7.out.tab.step (by exact (Below.refl _ W7).drew))).out.mono ?_; rintro e W8 ⟨rfl, hb8⟩; have hB8 : Below W7.heap.size W7 W8 := (Below.refl _ W7).drew.trans hb8; clear hb8)
              try (go_wp2_with fail)
              refine hK.out _ _ ?_ (fun hHeld => ?_)
              · ((try dsimp only); exact (hB8.cell (p := ⟨pa, oa + k * 7 + 5, none⟩) hpl).trans r7)
              clear hK K
              try simp only [Act.put, List.getElem_toArray, List.getElem_cons_zero, List.getElem_cons_succ, List.setIfInBounds_toArray, List.set_cons_zero, List.set_cons_succ]
              refine wpAnyH_ready (rs := [17]) (by kernel_rfl) (by simp) ?_
              refine AllReadyH.cons rfl (fun K hK => ?_) AllReadyH.nil
              (try simp only [List.getElem_toArray, List.getElem_cons_zero, List.getElem_cons_succ]); go_simp
              (go_at_call 15; refine (HMB _ (B7.out.tab.step hB8)).out.mono ?_; rintro e W9 ⟨rfl, hb9⟩; have hB9 : Below W7.heap.size W7 W9 := hB8.trans (hb9.mono hB8.size); clear hb9)
              try (go_wp2_with fail)
              refine hK.out _ _ ?_ (fun hHeld => ?_)
              · ((try dsimp only); exact (hB9.cell (p := ⟨pa, oa + k * 7 + 5, none⟩) hpl).trans r7)
              clear hK K
              try simp only [Act.put, List.getElem_toArray, List.getElem_cons_zero, List.getElem_cons_succ, List.setIfInBounds_toArray, List.set_cons_zero, List.set_cons_succ]
              refine wpAnyH_take (i := 18) (v := ?_) rfl (by kernel_rfl) (by kernel_rfl) (by kernel_rfl) (fun _ _ _ h => h) (Or.inl ⟨by rfl, ?_⟩) (by assumption) ?_
              rotate_left
              · (intro w hSw; (try dsimp only at hSw); (try simp only [List.getElem_toArray, List.getElem_cons_zero, List.getElem_cons_succ]); go_simp; try (with_reducible rfl))
              try simp only [Act.put, List.getElem_toArray, List.getElem_cons_zero, List.getElem_cons_succ, List.setIfInBounds_toArray, List.set_cons_zero, List.set_cons_succ]
              refine wpAnyH_take (i := 19) (v := ?_) rfl (by kernel_rfl) (by kernel_rfl) (by kernel_rfl) (fun _ _ _ h => h) (Or.inl ⟨by rfl, ?_⟩) (by assumption) ?_
              rotate_left
              · (intro w hSw; (try dsimp only at hSw); (try simp only [List.getElem_toArray, List.getElem_cons_zero, List.getElem_cons_succ]); go_simp; try (with_reducible rfl))
              try simp only [Act.put, List.getElem_toArray, List.getElem_cons_zero, List.getElem_cons_succ, List.setIfInBounds_toArray, List.set_cons_zero, List.set_cons_succ]
              refine wpAnyH_take (i := 20) (v := undef) rfl (by kernel_rfl) (by kernel_rfl) (by kernel_rfl) (fun _ _ _ h => h) (Or.inr ⟨by rfl, rfl⟩) (by assumption) ?_
              try simp only [Act.put, List.getElem_toArray, List.getElem_cons_zero, List.getElem_cons_succ, List.setIfInBounds_toArray, List.set_cons_zero, List.set_cons_succ]
              refine wpAnyH_take (i := 21) (v := undef) rfl (by kernel_rfl) (by kernel_rfl) (by kernel_rfl) (fun _ _ _ h => h) (Or.inr ⟨by rfl, rfl⟩) (by assumption) ?_
              try simp only [Act.put, List.getElem_toArray, List.getElem_cons_zero, List.getElem_cons_succ, List.setIfInBounds_toArray, List.set_cons_zero, List.set_cons_succ]
              refine wpAnyH_take (i := 22) (v := undef) rfl (by kernel_rfl) (by kernel_rfl) (by kernel_rfl) (fun _ _ _ h => h) (Or.inr ⟨by rfl, rfl⟩) (by assumption) ?_
              try simp only [Act.put, List.getElem_toArray, List.getElem_cons_zero, List.getElem_cons_succ, List.setIfInBounds_toArray, List.set_cons_zero, List.set_cons_succ]
              refine wpAnyH_take (i := 23) (v := ?_) rfl (by kernel_rfl) (by kernel_rfl) (by kernel_rfl) (fun _ _ _ h => h) (Or.inl ⟨by rfl, ?_⟩) (by assumption) ?_
              rotate_left
              · (intro w hSw; (try dsimp only at hSw); (try simp only [List.getElem_toArray, List.getElem_cons_zero, List.getElem_cons_succ]); go_simp; try (with_reducible rfl))
              try simp only [Act.put, List.getElem_toArray, List.getElem_cons_zero, List.getElem_cons_succ, List.setIfInBounds_toArray, List.set_cons_zero, List.set_cons_succ]
              refine wpAnyH_take (i := 24) (v := ?_) rfl (by kernel_rfl) (by kernel_rfl) (by kernel_rfl) (fun _ _ _ h => h) (Or.inl ⟨by rfl, ?_⟩) (by assumption) ?_
              rotate_left
              · (intro w hSw; (try dsimp only at hSw); (try simp only [List.getElem_toArray, List.getElem_cons_zero, List.getElem_cons_succ]); go_simp; try (with_reducible rfl))
              try simp only [Act.put, List.getElem_toArray, List.getElem_cons_zero, List.getElem_cons_succ, List.setIfInBounds_toArray, List.set_cons_zero, List.set_cons_succ]
              refine wpAnyH_done (by kernel_rfl) ?_ _
              refine NoPanic.normal ?_
              have BX := Lib.hid hB9
              go_wp2_with fail
              refine ⟨oF_of _ n c _ m d ta tb _ (k + 1) ⟨hlt, _, _, A7.out.step BX.out, B7.out.step BX.out, TW2.out, LA2.out, by have := LB2.out; omega⟩ rfl, ?_⟩
              simp [intOf]; omega
      · by_cases h4 : kd = 4
        · subst h4
          have HX := Lib.hid ((Below.refl _ W).alloc (Nat.le_refl _) (.cells #[.int .i64 4, .int .i64 a, .int .i64 dt, .int .i64 thg, .int .i64 obj, .int .i64 rr, .int .i64 idd] 31))
          obtain ⟨Tc, hTc⟩ : ∃ T, T = Tb := ⟨_, rfl⟩
          rw [← hTc] at TB TW LB
          replace TA := Lib.hid (TA.out.step HX.out)
          replace TB := Lib.hid (TB.out.step HX.out)
          clear hTc HX FIT0
          obtain ⟨_, _, e5, -, -, -, -, -, r5, -⟩ := steps_cell HA.out TA.out.below hlt
          cases e5
          obtain ⟨ri, hri⟩ : ∃ ri, ri = (R k).ri := ⟨_, rfl⟩
          rw [← hri] at r5
          clear hri
          obtain ⟨oA, hoA⟩ : ∃ o, o = deriveO Ta 1 1 1 ri ri := ⟨_, rfl⟩
          obtain ⟨oB, hoB⟩ : ∃ o, o = deriveO Tc 1 1 1 ri ri := ⟨_, rfl⟩
          have wf1 : (Lit.int .i64 1).wf = true := wf_small (by decide) (by decide)
          have HDA := Lib.hid (show Calls Try.prog 24 #[.pointer (some ⟨ta, 0, none⟩), .int .i64 1, .int .i64 1, .int .i64 ri] _ (MadeOut _ ta ba oA) from hoA ▸ Derive_any TA.out.tab (by have := LA.out; have := KN.out; omega) 1 1 ri wf1)
          have HDB := fun W' (h : TabAt W' tb bb Tc) => Lib.hid (show Calls Try.prog 24 #[.pointer (some ⟨tb, 0, none⟩), .int .i64 1, .int .i64 1, .int .i64 ri] W' (MadeOut W' tb bb oB) from hoB ▸ Derive_any h (by have := LB.out; have := KN.out; omega) 1 1 ri wf1)
          have hsame := derive_same TA.out.tab.ok TB.out.tab.ok TW.out ri
          rw [← hoA, ← hoB] at hsame
          have TW2 := Lib.hid hsame.2
          have hne : (oA.err != oB.err) = false := by rw [hsame.1]; simp
          have LA2 := Lib.hid (show oA.tab.last ≤ k + 2 by rw [hoA]; have := (deriveO_ok TA.out.tab.ok 1 1 1 ri ri (.inl rfl)).2; have := LA.out; omega)
          have LB2 := Lib.hid (show oB.tab.last ≤ 2 * k + 3 by rw [hoB]; have := (deriveO_ok TB.out.tab.ok 1 1 1 ri ri (.inl rfl)).2; have := LB.out; omega)
          have hpt : pa ≠ ta ∧ pa ≠ ba ∧ pa ≠ tb ∧ pa ≠ bb := by have := FAR.out.a1; have := FAR.out.a2; have := FAR.out.b1; have := FAR.out.b2; omega
          clear hsame hoA hoB
          go_wp2_with fail
          refine HDA.out.mono ?_
          rintro e W6 hm6
          have A6 := Lib.hid (TA.out.made hm6)
          have B6 := Lib.hid (FAR.out.b TB.out hm6.2.2)
          have r6 : W6.cell? ⟨pa, oa + k * 7 + 5, none⟩ = some (.int .i64 ri) := (World.cell?_of_block (a := ⟨pa, oa + k * 7 + 5, none⟩) (hm6.2.2.block pa (World.block_lt_of_cell? _ _ r5) hpt.1 hpt.2.1)).trans r5
          obtain ⟨rfl, -, -⟩ := hm6
          clear TA TB r5 HDA
          go_wp2_with fail
          refine (HDB _ B6.out.tab).out.mono ?_
          rintro e W7 hm7
          have B7 := Lib.hid (B6.out.made hm7)
          have A7 := Lib.hid (FAR.out.a A6.out hm7.2.2)
          have r7 : W7.cell? ⟨pa, oa + k * 7 + 5, none⟩ = some (.int .i64 ri) := (World.cell?_of_block (a := ⟨pa, oa + k * 7 + 5, none⟩) (hm7.2.2.block pa (World.block_lt_of_cell? _ _ r6) hpt.2.2.1 hpt.2.2.2)).trans r6
          have hpl : pa < W7.heap.size := World.block_lt_of_cell? _ _ r7
          obtain ⟨rfl, -, -⟩ := hm7
          clear A6 B6 r6 HDB
          obtain ⟨x, hx⟩ : ∃ x, x = mayB oA.tab.caps 1 0 1 ri := ⟨_, rfl⟩
          obtain ⟨y, hy⟩ : ∃ y, y = mayB oB.tab.caps 1 0 1 ri := ⟨_, rfl⟩
          obtain ⟨z, hz⟩ : ∃ z, z = strangerB oB.tab.caps := ⟨_, rfl⟩
          have hxyz : x ≠ y → z = true := by rw [hx, hy, hz]; exact stranger_may TW2.out ri
          have HMA := fun W' (h : TabAt W' ta ba oA.tab) => Lib.hid (show Calls Try.prog 15 #[.pointer (some ⟨ta, 0, none⟩), .int .i64 1, .int .i64 0, .int .i64 1, .int .i64 ri] W' (fun e w' => e = .returned (.bool x) ∧ Below W'.heap.size W' w') from hx ▸ may_any h 1 0 1 ri)
          have HMB := fun W' (h : TabAt W' tb bb oB.tab) => Lib.hid (show Calls Try.prog 15 #[.pointer (some ⟨tb, 0, none⟩), .int .i64 1, .int .i64 0, .int .i64 1, .int .i64 ri] W' (fun e w' => e = .returned (.bool y) ∧ Below W'.heap.size W' w') from hy ▸ may_any h 1 0 1 ri)
          have HGR := fun W' (h : TabAt W' tb bb oB.tab) => Lib.hid (show Calls Try.prog 25 #[.pointer (some ⟨tb, 0, none⟩)] W' (fun e w' => e = .returned (.bool z) ∧ Below W'.heap.size W' w') from hz ▸ granted_any h (by have := LB2.out; have := KN.out; omega))
          clear hx hy hz
          have hzt : x ≠ y → z = true := hxyz
          cases x <;> cases y
          case' false.true => (obtain rfl := hxyz (by decide)); clear hxyz hzt
          case' true.false => (obtain rfl := hxyz (by decide)); clear hxyz hzt
          case' false.true =>
            go_wp2_with fail
            go_region_held3 (fun W => W.cell? ⟨pa, oa + k * 7 + 5, none⟩ = some (.int .i64 ri))
              (first | exact (hB8.cell (p := ⟨pa, oa + k * 7 + 5, none⟩) hpl).trans r7 | exact (hB9.cell (p := ⟨pa, oa + k * 7 + 5, none⟩) hpl).trans r7 | exact (hB10.cell (p := ⟨pa, oa + k * 7 + 5, none⟩) hpl).trans r7 | go_keep)
              (first
                | (go_at_call 15; refine (HMB _ (B7.out.tab.step hB8)).out.mono ?_; rintro e W9 ⟨rfl, hb9⟩; have hB9 : Below W7.heap.size W7 W9 := hB8.trans (hb9.mono hB8.size); clear hb9)
                | (go_at_call 15; refine (HMA _ (A7.out.tab.step (by exact (Below.refl _ W7).drew))).out.mono ?_; rintro e W8 ⟨rfl, hb8⟩; have hB8 : Below W7.heap.size W7 W8 := (Below.refl _ W7).drew.trans hb8; clear hb8)
                | (go_at_call 25; refine (HGR _ (B7.out.tab.step hB9)).out.mono ?_; rintro e W10 ⟨rfl, hb10⟩; have hB10 : Below W7.heap.size W7 W10 := hB9.trans (hb10.mono hB9.size); clear hb10))
            have BX := Lib.hid hB10
            go_wp2_with fail
            refine ⟨oF_of _ n c _ m d ta tb _ (k + 1) ⟨hlt, _, _, A7.out.step BX.out, B7.out.step BX.out, TW2.out, LA2.out, by have := LB2.out; omega⟩ rfl, ?_⟩
            simp [intOf]; omega
          case' true.false =>
            go_wp2_with fail
            go_region_held3 (fun W => W.cell? ⟨pa, oa + k * 7 + 5, none⟩ = some (.int .i64 ri))
              (first | exact (hB8.cell (p := ⟨pa, oa + k * 7 + 5, none⟩) hpl).trans r7 | exact (hB9.cell (p := ⟨pa, oa + k * 7 + 5, none⟩) hpl).trans r7 | exact (hB10.cell (p := ⟨pa, oa + k * 7 + 5, none⟩) hpl).trans r7 | go_keep)
              (first
                | (go_at_call 15; refine (HMB _ (B7.out.tab.step hB8)).out.mono ?_; rintro e W9 ⟨rfl, hb9⟩; have hB9 : Below W7.heap.size W7 W9 := hB8.trans (hb9.mono hB8.size); clear hb9)
                | (go_at_call 15; refine (HMA _ (A7.out.tab.step (by exact (Below.refl _ W7).drew))).out.mono ?_; rintro e W8 ⟨rfl, hb8⟩; have hB8 : Below W7.heap.size W7 W8 := (Below.refl _ W7).drew.trans hb8; clear hb8)
                | (go_at_call 25; refine (HGR _ (B7.out.tab.step hB9)).out.mono ?_; rintro e W10 ⟨rfl, hb10⟩; have hB10 : Below W7.heap.size W7 W10 := hB9.trans (hb10.mono hB9.size); clear hb10))
            have BX := Lib.hid hB10
            go_wp2_with fail
            refine ⟨oF_of _ n c _ m d ta tb _ (k + 1) ⟨hlt, _, _, A7.out.step BX.out, B7.out.step BX.out, TW2.out, LA2.out, by have := LB2.out; omega⟩ rfl, ?_⟩
            simp [intOf]; omega
          all_goals
            clear hxyz hzt
            go_wp2_with fail
            refine wp_region_noPanic ?_
            refine wp_region_held_drew (S := (fun W => W.cell? ⟨pa, oa + k * 7 + 5, none⟩ = some (.int .i64 ri))) (by kernel_rfl) ?_ (fun hHeld => ?_)
            · (try dsimp only)
              go_keep
            refine wpAnyH_take (i := 0) (v := ?_) rfl (by kernel_rfl) (by kernel_rfl) (by kernel_rfl) (fun _ _ _ h => h) (Or.inl ⟨by rfl, ?_⟩) (by assumption) ?_
            rotate_left
            · (intro w hSw; (try dsimp only at hSw); (try simp only [List.getElem_toArray, List.getElem_cons_zero]); go_simp; try (with_reducible rfl))
            try simp only [Act.put, List.getElem_toArray, List.getElem_cons_zero, List.setIfInBounds_toArray, List.set_cons_zero, List.set_cons_succ]
            refine wpAnyH_take (i := 1) (v := ?_) rfl (by kernel_rfl) (by kernel_rfl) (by kernel_rfl) (fun _ _ _ h => h) (Or.inl ⟨by rfl, ?_⟩) (by assumption) ?_
            rotate_left
            · (intro w hSw; (try dsimp only at hSw); (try simp only [List.getElem_toArray, List.getElem_cons_zero, List.getElem_cons_succ]); go_simp; try (with_reducible rfl))
            try simp only [Act.put, List.getElem_toArray, List.getElem_cons_zero, List.getElem_cons_succ, List.setIfInBounds_toArray, List.set_cons_zero, List.set_cons_succ]
            refine wpAnyH_take (i := 2) (v := ?_) rfl (by kernel_rfl) (by kernel_rfl) (by kernel_rfl) (fun _ _ _ h => h) (Or.inl ⟨by rfl, ?_⟩) (by assumption) ?_
            rotate_left
            · (intro w hSw; (try dsimp only at hSw); (try simp only [List.getElem_toArray, List.getElem_cons_zero, List.getElem_cons_succ]); go_simp; try (with_reducible rfl))
            try simp only [Act.put, List.getElem_toArray, List.getElem_cons_zero, List.getElem_cons_succ, List.setIfInBounds_toArray, List.set_cons_zero, List.set_cons_succ]
            refine wpAnyH_take (i := 3) (v := ?_) rfl (by kernel_rfl) (by kernel_rfl) (by kernel_rfl) (fun _ _ _ h => h) (Or.inl ⟨by rfl, ?_⟩) (by assumption) ?_
            rotate_left
            · (intro w hSw; (try dsimp only at hSw); (try simp only [List.getElem_toArray, List.getElem_cons_zero, List.getElem_cons_succ]); go_simp; try (with_reducible rfl))
            try simp only [Act.put, List.getElem_toArray, List.getElem_cons_zero, List.getElem_cons_succ, List.setIfInBounds_toArray, List.set_cons_zero, List.set_cons_succ]
            refine wpAnyH_take (i := 4) (v := ?_) rfl (by kernel_rfl) (by kernel_rfl) (by kernel_rfl) (fun _ _ _ h => h) (Or.inl ⟨by rfl, ?_⟩) (by assumption) ?_
            rotate_left
            · (intro w hSw; (try dsimp only at hSw); (try simp only [List.getElem_toArray, List.getElem_cons_zero, List.getElem_cons_succ]); go_simp; try (with_reducible rfl))
            try simp only [Act.put, List.getElem_toArray, List.getElem_cons_zero, List.getElem_cons_succ, List.setIfInBounds_toArray, List.set_cons_zero, List.set_cons_succ]
            refine wpAnyH_take (i := 5) (v := ?_) rfl (by kernel_rfl) (by kernel_rfl) (by kernel_rfl) (fun _ _ _ h => h) (Or.inl ⟨by rfl, ?_⟩) (by assumption) ?_
            rotate_left
            · (intro w hSw; (try dsimp only at hSw); (try simp only [List.getElem_toArray, List.getElem_cons_zero, List.getElem_cons_succ]); go_simp; try (with_reducible rfl))
            try simp only [Act.put, List.getElem_toArray, List.getElem_cons_zero, List.getElem_cons_succ, List.setIfInBounds_toArray, List.set_cons_zero, List.set_cons_succ]
            refine wpAnyH_take (i := 6) (v := ?_) rfl (by kernel_rfl) (by kernel_rfl) (by kernel_rfl) (fun _ _ _ h => h) (Or.inl ⟨by rfl, ?_⟩) (by assumption) ?_
            rotate_left
            · (intro w hSw; (try dsimp only at hSw); (try simp only [List.getElem_toArray, List.getElem_cons_zero, List.getElem_cons_succ]); go_simp; try (with_reducible rfl))
            try simp only [Act.put, List.getElem_toArray, List.getElem_cons_zero, List.getElem_cons_succ, List.setIfInBounds_toArray, List.set_cons_zero, List.set_cons_succ]
            refine wpAnyH_take (i := 7) (v := ?_) rfl (by kernel_rfl) (by kernel_rfl) (by kernel_rfl) (fun _ _ _ h => h) (Or.inl ⟨by rfl, ?_⟩) (by assumption) ?_
            rotate_left
            · (intro w hSw; (try dsimp only at hSw); (try simp only [List.getElem_toArray, List.getElem_cons_zero, List.getElem_cons_succ]); go_simp; try (with_reducible rfl))
            try simp only [Act.put, List.getElem_toArray, List.getElem_cons_zero, List.getElem_cons_succ, List.setIfInBounds_toArray, List.set_cons_zero, List.set_cons_succ]
            refine wpAnyH_take (i := 8) (v := ?_) rfl (by kernel_rfl) (by kernel_rfl) (by kernel_rfl) (fun _ _ _ h => h) (Or.inl ⟨by rfl, ?_⟩) (by assumption) ?_
            rotate_left
            · (intro w hSw; (try dsimp only at hSw); (try simp only [List.getElem_toArray, List.getElem_cons_zero, List.getElem_cons_succ]); go_simp; try (with_reducible rfl))
            try simp only [Act.put, List.getElem_toArray, List.getElem_cons_zero, List.getElem_cons_succ, List.setIfInBounds_toArray, List.set_cons_zero, List.set_cons_succ]
            refine wpAnyH_take (i := 9) (v := ?_) rfl (by kernel_rfl) (by kernel_rfl) (by kernel_rfl) (fun _ _ _ h => h) (Or.inl ⟨by rfl, ?_⟩) (by assumption) ?_
            rotate_left
            · (intro w hSw; (try dsimp only at hSw); (try simp only [List.getElem_toArray, List.getElem_cons_zero, List.getElem_cons_succ]); go_simp; try (with_reducible rfl))
            try simp only [Act.put, List.getElem_toArray, List.getElem_cons_zero, List.getElem_cons_succ, List.setIfInBounds_toArray, List.set_cons_zero, List.set_cons_succ]
            refine wpAnyH_take (i := 11) (v := ?_) rfl (by kernel_rfl) (by kernel_rfl) (by kernel_rfl) (fun _ _ _ h => h) (Or.inl ⟨by rfl, ?_⟩) (by assumption) ?_
            rotate_left
            · (intro w hSw; (try dsimp only at hSw); (try simp only [List.getElem_toArray, List.getElem_cons_zero, List.getElem_cons_succ]); go_simp; try (with_reducible rfl))
            try simp only [Act.put, List.getElem_toArray, List.getElem_cons_zero, List.getElem_cons_succ, List.setIfInBounds_toArray, List.set_cons_zero, List.set_cons_succ]
            refine wpAnyH_take (i := 12) (v := ?_) rfl (by kernel_rfl) (by kernel_rfl) (by kernel_rfl) (fun _ _ _ h => h) (Or.inl ⟨by rfl, ?_⟩) (by assumption) ?_
            rotate_left
            · (intro w hSw; (try dsimp only at hSw); (try simp only [List.getElem_toArray, List.getElem_cons_zero, List.getElem_cons_succ]); go_simp; try (with_reducible rfl))
            try simp only [Act.put, List.getElem_toArray, List.getElem_cons_zero, List.getElem_cons_succ, List.setIfInBounds_toArray, List.set_cons_zero, List.set_cons_succ]
            refine wpAnyH_take (i := 13) (v := ?_) rfl (by kernel_rfl) (by kernel_rfl) (by kernel_rfl) (fun _ _ _ h => h) (Or.inl ⟨by rfl, ?_⟩) (by assumption) ?_
            rotate_left
            · (intro w hSw; (try dsimp only at hSw); (try simp only [List.getElem_toArray, List.getElem_cons_zero, List.getElem_cons_succ]); go_simp; try (with_reducible rfl))
            try simp only [Act.put, List.getElem_toArray, List.getElem_cons_zero, List.getElem_cons_succ, List.setIfInBounds_toArray, List.set_cons_zero, List.set_cons_succ]
            refine wpAnyH_take (i := 14) (v := ?_) rfl (by kernel_rfl) (by kernel_rfl) (by kernel_rfl) (fun _ _ _ h => h) (Or.inl ⟨by rfl, ?_⟩) (by assumption) ?_
            rotate_left
            · (intro w hSw; (try dsimp only at hSw); (try simp only [List.getElem_toArray, List.getElem_cons_zero, List.getElem_cons_succ]); go_simp; try (with_reducible rfl))
            try simp only [Act.put, List.getElem_toArray, List.getElem_cons_zero, List.getElem_cons_succ, List.setIfInBounds_toArray, List.set_cons_zero, List.set_cons_succ]
            refine wpAnyH_take (i := 15) (v := ?_) rfl (by kernel_rfl) (by kernel_rfl) (by kernel_rfl) (fun _ _ _ h => h) (Or.inl ⟨by rfl, ?_⟩) (by assumption) ?_
            rotate_left
            · (intro w hSw; (try dsimp only at hSw); (try simp only [List.getElem_toArray, List.getElem_cons_zero, List.getElem_cons_succ]); go_simp; try (with_reducible rfl))
            try simp only [Act.put, List.getElem_toArray, List.getElem_cons_zero, List.getElem_cons_succ, List.setIfInBounds_toArray, List.set_cons_zero, List.set_cons_succ]
            refine wpAnyH_take (i := 16) (v := ?_) rfl (by kernel_rfl) (by kernel_rfl) (by kernel_rfl) (fun _ _ _ h => h) (Or.inl ⟨by rfl, ?_⟩) (by assumption) ?_
            rotate_left
            · (intro w hSw; (try dsimp only at hSw); (try simp only [List.getElem_toArray, List.getElem_cons_zero, List.getElem_cons_succ]); go_simp; try (with_reducible rfl))
            try simp only [Act.put, List.getElem_toArray, List.getElem_cons_zero, List.getElem_cons_succ, List.setIfInBounds_toArray, List.set_cons_zero, List.set_cons_succ]
            refine wpAnyH_ready (rs := [10]) (by kernel_rfl) (by simp) ?_
            refine AllReadyH.cons rfl (fun K hK => ?_) AllReadyH.nil
            (try simp only [List.getElem_toArray, List.getElem_cons_zero, List.getElem_cons_succ]); go_simp
            (go_at_call 15; refine (HMA _ (A7.out.tab.step (by exact (Below.refl _ W7).drew))).out.mono ?_; rintro e W8 ⟨rfl, hb8⟩; have hB8 : Below W7.heap.size W7 W8 := (Below.refl _ W7).drew.trans hb8; clear hb8)
            try (go_wp2_with fail)
            refine hK.out _ _ ?_ (fun hHeld => ?_)
            · ((try dsimp only); exact (hB8.cell (p := ⟨pa, oa + k * 7 + 5, none⟩) hpl).trans r7)
            clear hK K
            try simp only [Act.put, List.getElem_toArray, List.getElem_cons_zero, List.getElem_cons_succ, List.setIfInBounds_toArray, List.set_cons_zero, List.set_cons_succ]
            refine wpAnyH_ready (rs := [17]) (by kernel_rfl) (by simp) ?_
            refine AllReadyH.cons rfl (fun K hK => ?_) AllReadyH.nil
            (try simp only [List.getElem_toArray, List.getElem_cons_zero, List.getElem_cons_succ]); go_simp
            (go_at_call 15; refine (HMB _ (B7.out.tab.step hB8)).out.mono ?_; rintro e W9 ⟨rfl, hb9⟩; have hB9 : Below W7.heap.size W7 W9 := hB8.trans (hb9.mono hB8.size); clear hb9)
            try (go_wp2_with fail)
            refine hK.out _ _ ?_ (fun hHeld => ?_)
            · ((try dsimp only); exact (hB9.cell (p := ⟨pa, oa + k * 7 + 5, none⟩) hpl).trans r7)
            clear hK K
            try simp only [Act.put, List.getElem_toArray, List.getElem_cons_zero, List.getElem_cons_succ, List.setIfInBounds_toArray, List.set_cons_zero, List.set_cons_succ]
            refine wpAnyH_take (i := 18) (v := ?_) rfl (by kernel_rfl) (by kernel_rfl) (by kernel_rfl) (fun _ _ _ h => h) (Or.inl ⟨by rfl, ?_⟩) (by assumption) ?_
            rotate_left
            · (intro w hSw; (try dsimp only at hSw); (try simp only [List.getElem_toArray, List.getElem_cons_zero, List.getElem_cons_succ]); go_simp; try (with_reducible rfl))
            try simp only [Act.put, List.getElem_toArray, List.getElem_cons_zero, List.getElem_cons_succ, List.setIfInBounds_toArray, List.set_cons_zero, List.set_cons_succ]
            refine wpAnyH_take (i := 19) (v := ?_) rfl (by kernel_rfl) (by kernel_rfl) (by kernel_rfl) (fun _ _ _ h => h) (Or.inl ⟨by rfl, ?_⟩) (by assumption) ?_
            rotate_left
            · (intro w hSw; (try dsimp only at hSw); (try simp only [List.getElem_toArray, List.getElem_cons_zero, List.getElem_cons_succ]); go_simp; try (with_reducible rfl))
            try simp only [Act.put, List.getElem_toArray, List.getElem_cons_zero, List.getElem_cons_succ, List.setIfInBounds_toArray, List.set_cons_zero, List.set_cons_succ]
            refine wpAnyH_take (i := 20) (v := undef) rfl (by kernel_rfl) (by kernel_rfl) (by kernel_rfl) (fun _ _ _ h => h) (Or.inr ⟨by rfl, rfl⟩) (by assumption) ?_
            try simp only [Act.put, List.getElem_toArray, List.getElem_cons_zero, List.getElem_cons_succ, List.setIfInBounds_toArray, List.set_cons_zero, List.set_cons_succ]
            refine wpAnyH_take (i := 21) (v := undef) rfl (by kernel_rfl) (by kernel_rfl) (by kernel_rfl) (fun _ _ _ h => h) (Or.inr ⟨by rfl, rfl⟩) (by assumption) ?_
            try simp only [Act.put, List.getElem_toArray, List.getElem_cons_zero, List.getElem_cons_succ, List.setIfInBounds_toArray, List.set_cons_zero, List.set_cons_succ]
            refine wpAnyH_take (i := 22) (v := undef) rfl (by kernel_rfl) (by kernel_rfl) (by kernel_rfl) (fun _ _ _ h => h) (Or.inr ⟨by rfl, rfl⟩) (by assumption) ?_
            try simp only [Act.put, List.getElem_toArray, List.getElem_cons_zero, List.getElem_cons_succ, List.setIfInBounds_toArray, List.set_cons_zero, List.set_cons_succ]
            refine wpAnyH_take (i := 23) (v := ?_) rfl (by kernel_rfl) (by kernel_rfl) (by kernel_rfl) (fun _ _ _ h => h) (Or.inl ⟨by rfl, ?_⟩) (by assumption) ?_
            rotate_left
            · (intro w hSw; (try dsimp only at hSw); (try simp only [List.getElem_toArray, List.getElem_cons_zero, List.getElem_cons_succ]); go_simp; try (with_reducible rfl))
            try simp only [Act.put, List.getElem_toArray, List.getElem_cons_zero, List.getElem_cons_succ, List.setIfInBounds_toArray, List.set_cons_zero, List.set_cons_succ]
            refine wpAnyH_take (i := 24) (v := ?_) rfl (by kernel_rfl) (by kernel_rfl) (by kernel_rfl) (fun _ _ _ h => h) (Or.inl ⟨by rfl, ?_⟩) (by assumption) ?_
            rotate_left
            · (intro w hSw; (try dsimp only at hSw); (try simp only [List.getElem_toArray, List.getElem_cons_zero, List.getElem_cons_succ]); go_simp; try (with_reducible rfl))
            try simp only [Act.put, List.getElem_toArray, List.getElem_cons_zero, List.getElem_cons_succ, List.setIfInBounds_toArray, List.set_cons_zero, List.set_cons_succ]
            refine wpAnyH_done (by kernel_rfl) ?_ _
            refine NoPanic.normal ?_
            have BX := Lib.hid hB9
            go_wp2_with fail
            refine ⟨oF_of _ n c _ m d ta tb _ (k + 1) ⟨hlt, _, _, A7.out.step BX.out, B7.out.step BX.out, TW2.out, LA2.out, by have := LB2.out; omega⟩ rfl, ?_⟩
            simp [intOf]; omega
        · by_cases h5 : kd = 5
          · subst h5
            have HX := Lib.hid ((Below.refl _ W).alloc (Nat.le_refl _) (.cells #[.int .i64 5, .int .i64 a, .int .i64 dt, .int .i64 thg, .int .i64 obj, .int .i64 rr, .int .i64 idd] 31))
            obtain ⟨Tc, hTc⟩ : ∃ T, T = Tb := ⟨_, rfl⟩
            rw [← hTc] at TB TW LB
            replace TA := Lib.hid (TA.out.step HX.out)
            replace TB := Lib.hid (TB.out.step HX.out)
            clear hTc HX FIT0
            obtain ⟨_, _, e5, -, -, -, -, -, r5, -⟩ := steps_cell HA.out TA.out.below hlt
            cases e5
            obtain ⟨ri, hri⟩ : ∃ ri, ri = (R k).ri := ⟨_, rfl⟩
            rw [← hri] at r5
            clear hri
            obtain ⟨oA, hoA⟩ : ∃ o, o = deriveO Ta 1 1 1 ri ri := ⟨_, rfl⟩
            obtain ⟨oB, hoB⟩ : ∃ o, o = deriveO Tc 1 1 1 ri ri := ⟨_, rfl⟩
            have wf1 : (Lit.int .i64 1).wf = true := wf_small (by decide) (by decide)
            have HDA := Lib.hid (show Calls Try.prog 24 #[.pointer (some ⟨ta, 0, none⟩), .int .i64 1, .int .i64 1, .int .i64 ri] _ (MadeOut _ ta ba oA) from hoA ▸ Derive_any TA.out.tab (by have := LA.out; have := KN.out; omega) 1 1 ri wf1)
            have HDB := fun W' (h : TabAt W' tb bb Tc) => Lib.hid (show Calls Try.prog 24 #[.pointer (some ⟨tb, 0, none⟩), .int .i64 1, .int .i64 1, .int .i64 ri] W' (MadeOut W' tb bb oB) from hoB ▸ Derive_any h (by have := LB.out; have := KN.out; omega) 1 1 ri wf1)
            have hsame := derive_same TA.out.tab.ok TB.out.tab.ok TW.out ri
            rw [← hoA, ← hoB] at hsame
            have TW2 := Lib.hid hsame.2
            have hne : (oA.err != oB.err) = false := by rw [hsame.1]; simp
            have LA2 := Lib.hid (show oA.tab.last ≤ k + 2 by rw [hoA]; have := (deriveO_ok TA.out.tab.ok 1 1 1 ri ri (.inl rfl)).2; have := LA.out; omega)
            have LB2 := Lib.hid (show oB.tab.last ≤ 2 * k + 3 by rw [hoB]; have := (deriveO_ok TB.out.tab.ok 1 1 1 ri ri (.inl rfl)).2; have := LB.out; omega)
            have hpt : pa ≠ ta ∧ pa ≠ ba ∧ pa ≠ tb ∧ pa ≠ bb := by have := FAR.out.a1; have := FAR.out.a2; have := FAR.out.b1; have := FAR.out.b2; omega
            clear hsame hoA hoB
            go_wp2_with fail
            refine HDA.out.mono ?_
            rintro e W6 hm6
            have A6 := Lib.hid (TA.out.made hm6)
            have B6 := Lib.hid (FAR.out.b TB.out hm6.2.2)
            have r6 : W6.cell? ⟨pa, oa + k * 7 + 5, none⟩ = some (.int .i64 ri) := (World.cell?_of_block (a := ⟨pa, oa + k * 7 + 5, none⟩) (hm6.2.2.block pa (World.block_lt_of_cell? _ _ r5) hpt.1 hpt.2.1)).trans r5
            obtain ⟨rfl, -, -⟩ := hm6
            clear TA TB r5 HDA
            go_wp2_with fail
            refine (HDB _ B6.out.tab).out.mono ?_
            rintro e W7 hm7
            have B7 := Lib.hid (B6.out.made hm7)
            have A7 := Lib.hid (FAR.out.a A6.out hm7.2.2)
            have r7 : W7.cell? ⟨pa, oa + k * 7 + 5, none⟩ = some (.int .i64 ri) := (World.cell?_of_block (a := ⟨pa, oa + k * 7 + 5, none⟩) (hm7.2.2.block pa (World.block_lt_of_cell? _ _ r6) hpt.2.2.1 hpt.2.2.2)).trans r6
            have hpl : pa < W7.heap.size := World.block_lt_of_cell? _ _ r7
            obtain ⟨rfl, -, -⟩ := hm7
            clear A6 B6 r6 HDB
            obtain ⟨x, hx⟩ : ∃ x, x = mayB oA.tab.caps 1 0 1 ri := ⟨_, rfl⟩
            obtain ⟨y, hy⟩ : ∃ y, y = mayB oB.tab.caps 1 0 1 ri := ⟨_, rfl⟩
            obtain ⟨z, hz⟩ : ∃ z, z = strangerB oB.tab.caps := ⟨_, rfl⟩
            have hxyz : x ≠ y → z = true := by rw [hx, hy, hz]; exact stranger_may TW2.out ri
            have HMA := fun W' (h : TabAt W' ta ba oA.tab) => Lib.hid (show Calls Try.prog 15 #[.pointer (some ⟨ta, 0, none⟩), .int .i64 1, .int .i64 0, .int .i64 1, .int .i64 ri] W' (fun e w' => e = .returned (.bool x) ∧ Below W'.heap.size W' w') from hx ▸ may_any h 1 0 1 ri)
            have HMB := fun W' (h : TabAt W' tb bb oB.tab) => Lib.hid (show Calls Try.prog 15 #[.pointer (some ⟨tb, 0, none⟩), .int .i64 1, .int .i64 0, .int .i64 1, .int .i64 ri] W' (fun e w' => e = .returned (.bool y) ∧ Below W'.heap.size W' w') from hy ▸ may_any h 1 0 1 ri)
            have HGR := fun W' (h : TabAt W' tb bb oB.tab) => Lib.hid (show Calls Try.prog 25 #[.pointer (some ⟨tb, 0, none⟩)] W' (fun e w' => e = .returned (.bool z) ∧ Below W'.heap.size W' w') from hz ▸ granted_any h (by have := LB2.out; have := KN.out; omega))
            clear hx hy hz
            have hzt : x ≠ y → z = true := hxyz
            cases x <;> cases y
            case' false.true => (obtain rfl := hxyz (by decide)); clear hxyz hzt
            case' true.false => (obtain rfl := hxyz (by decide)); clear hxyz hzt
            case' false.true =>
              go_wp2_with fail
              go_region_held3 (fun W => W.cell? ⟨pa, oa + k * 7 + 5, none⟩ = some (.int .i64 ri))
                (first | exact (hB8.cell (p := ⟨pa, oa + k * 7 + 5, none⟩) hpl).trans r7 | exact (hB9.cell (p := ⟨pa, oa + k * 7 + 5, none⟩) hpl).trans r7 | exact (hB10.cell (p := ⟨pa, oa + k * 7 + 5, none⟩) hpl).trans r7 | go_keep)
                (first
                  | (go_at_call 15; refine (HMB _ (B7.out.tab.step hB8)).out.mono ?_; rintro e W9 ⟨rfl, hb9⟩; have hB9 : Below W7.heap.size W7 W9 := hB8.trans (hb9.mono hB8.size); clear hb9)
                  | (go_at_call 15; refine (HMA _ (A7.out.tab.step (by exact (Below.refl _ W7).drew))).out.mono ?_; rintro e W8 ⟨rfl, hb8⟩; have hB8 : Below W7.heap.size W7 W8 := (Below.refl _ W7).drew.trans hb8; clear hb8)
                  | (go_at_call 25; refine (HGR _ (B7.out.tab.step hB9)).out.mono ?_; rintro e W10 ⟨rfl, hb10⟩; have hB10 : Below W7.heap.size W7 W10 := hB9.trans (hb10.mono hB9.size); clear hb10))
              have BX := Lib.hid hB10
              go_wp2_with fail
              refine ⟨oF_of _ n c _ m d ta tb _ (k + 1) ⟨hlt, _, _, A7.out.step BX.out, B7.out.step BX.out, TW2.out, LA2.out, by have := LB2.out; omega⟩ rfl, ?_⟩
              simp [intOf]; omega
            case' true.false =>
              go_wp2_with fail
              go_region_held3 (fun W => W.cell? ⟨pa, oa + k * 7 + 5, none⟩ = some (.int .i64 ri))
                (first | exact (hB8.cell (p := ⟨pa, oa + k * 7 + 5, none⟩) hpl).trans r7 | exact (hB9.cell (p := ⟨pa, oa + k * 7 + 5, none⟩) hpl).trans r7 | exact (hB10.cell (p := ⟨pa, oa + k * 7 + 5, none⟩) hpl).trans r7 | go_keep)
                (first
                  | (go_at_call 15; refine (HMB _ (B7.out.tab.step hB8)).out.mono ?_; rintro e W9 ⟨rfl, hb9⟩; have hB9 : Below W7.heap.size W7 W9 := hB8.trans (hb9.mono hB8.size); clear hb9)
                  | (go_at_call 15; refine (HMA _ (A7.out.tab.step (by exact (Below.refl _ W7).drew))).out.mono ?_; rintro e W8 ⟨rfl, hb8⟩; have hB8 : Below W7.heap.size W7 W8 := (Below.refl _ W7).drew.trans hb8; clear hb8)
                  | (go_at_call 25; refine (HGR _ (B7.out.tab.step hB9)).out.mono ?_; rintro e W10 ⟨rfl, hb10⟩; have hB10 : Below W7.heap.size W7 W10 := hB9.trans (hb10.mono hB9.size); clear hb10))
              have BX := Lib.hid hB10
              go_wp2_with fail
              refine ⟨oF_of _ n c _ m d ta tb _ (k + 1) ⟨hlt, _, _, A7.out.step BX.out, B7.out.step BX.out, TW2.out, LA2.out, by have := LB2.out; omega⟩ rfl, ?_⟩
              simp [intOf]; omega
            all_goals
              clear hxyz hzt
              go_wp2_with fail
              refine wp_region_noPanic ?_
              refine wp_region_held_drew (S := (fun W => W.cell? ⟨pa, oa + k * 7 + 5, none⟩ = some (.int .i64 ri))) (by kernel_rfl) ?_ (fun hHeld => ?_)
              · (try dsimp only)
                go_keep
              refine wpAnyH_take (i := 0) (v := ?_) rfl (by kernel_rfl) (by kernel_rfl) (by kernel_rfl) (fun _ _ _ h => h) (Or.inl ⟨by rfl, ?_⟩) (by assumption) ?_
              rotate_left
              · (intro w hSw; (try dsimp only at hSw); (try simp only [List.getElem_toArray, List.getElem_cons_zero]); go_simp; try (with_reducible rfl))
              try simp only [Act.put, List.getElem_toArray, List.getElem_cons_zero, List.setIfInBounds_toArray, List.set_cons_zero, List.set_cons_succ]
              refine wpAnyH_take (i := 1) (v := ?_) rfl (by kernel_rfl) (by kernel_rfl) (by kernel_rfl) (fun _ _ _ h => h) (Or.inl ⟨by rfl, ?_⟩) (by assumption) ?_
              rotate_left
              · (intro w hSw; (try dsimp only at hSw); (try simp only [List.getElem_toArray, List.getElem_cons_zero, List.getElem_cons_succ]); go_simp; try (with_reducible rfl))
              try simp only [Act.put, List.getElem_toArray, List.getElem_cons_zero, List.getElem_cons_succ, List.setIfInBounds_toArray, List.set_cons_zero, List.set_cons_succ]
              refine wpAnyH_take (i := 2) (v := ?_) rfl (by kernel_rfl) (by kernel_rfl) (by kernel_rfl) (fun _ _ _ h => h) (Or.inl ⟨by rfl, ?_⟩) (by assumption) ?_
              rotate_left
              · (intro w hSw; (try dsimp only at hSw); (try simp only [List.getElem_toArray, List.getElem_cons_zero, List.getElem_cons_succ]); go_simp; try (with_reducible rfl))
              try simp only [Act.put, List.getElem_toArray, List.getElem_cons_zero, List.getElem_cons_succ, List.setIfInBounds_toArray, List.set_cons_zero, List.set_cons_succ]
              refine wpAnyH_take (i := 3) (v := ?_) rfl (by kernel_rfl) (by kernel_rfl) (by kernel_rfl) (fun _ _ _ h => h) (Or.inl ⟨by rfl, ?_⟩) (by assumption) ?_
              rotate_left
              · (intro w hSw; (try dsimp only at hSw); (try simp only [List.getElem_toArray, List.getElem_cons_zero, List.getElem_cons_succ]); go_simp; try (with_reducible rfl))
              try simp only [Act.put, List.getElem_toArray, List.getElem_cons_zero, List.getElem_cons_succ, List.setIfInBounds_toArray, List.set_cons_zero, List.set_cons_succ]
              refine wpAnyH_take (i := 4) (v := ?_) rfl (by kernel_rfl) (by kernel_rfl) (by kernel_rfl) (fun _ _ _ h => h) (Or.inl ⟨by rfl, ?_⟩) (by assumption) ?_
              rotate_left
              · (intro w hSw; (try dsimp only at hSw); (try simp only [List.getElem_toArray, List.getElem_cons_zero, List.getElem_cons_succ]); go_simp; try (with_reducible rfl))
              try simp only [Act.put, List.getElem_toArray, List.getElem_cons_zero, List.getElem_cons_succ, List.setIfInBounds_toArray, List.set_cons_zero, List.set_cons_succ]
              refine wpAnyH_take (i := 5) (v := ?_) rfl (by kernel_rfl) (by kernel_rfl) (by kernel_rfl) (fun _ _ _ h => h) (Or.inl ⟨by rfl, ?_⟩) (by assumption) ?_
              rotate_left
              · (intro w hSw; (try dsimp only at hSw); (try simp only [List.getElem_toArray, List.getElem_cons_zero, List.getElem_cons_succ]); go_simp; try (with_reducible rfl))
              try simp only [Act.put, List.getElem_toArray, List.getElem_cons_zero, List.getElem_cons_succ, List.setIfInBounds_toArray, List.set_cons_zero, List.set_cons_succ]
              refine wpAnyH_take (i := 6) (v := ?_) rfl (by kernel_rfl) (by kernel_rfl) (by kernel_rfl) (fun _ _ _ h => h) (Or.inl ⟨by rfl, ?_⟩) (by assumption) ?_
              rotate_left
              · (intro w hSw; (try dsimp only at hSw); (try simp only [List.getElem_toArray, List.getElem_cons_zero, List.getElem_cons_succ]); go_simp; try (with_reducible rfl))
              try simp only [Act.put, List.getElem_toArray, List.getElem_cons_zero, List.getElem_cons_succ, List.setIfInBounds_toArray, List.set_cons_zero, List.set_cons_succ]
              refine wpAnyH_take (i := 7) (v := ?_) rfl (by kernel_rfl) (by kernel_rfl) (by kernel_rfl) (fun _ _ _ h => h) (Or.inl ⟨by rfl, ?_⟩) (by assumption) ?_
              rotate_left
              · (intro w hSw; (try dsimp only at hSw); (try simp only [List.getElem_toArray, List.getElem_cons_zero, List.getElem_cons_succ]); go_simp; try (with_reducible rfl))
              try simp only [Act.put, List.getElem_toArray, List.getElem_cons_zero, List.getElem_cons_succ, List.setIfInBounds_toArray, List.set_cons_zero, List.set_cons_succ]
              refine wpAnyH_take (i := 8) (v := ?_) rfl (by kernel_rfl) (by kernel_rfl) (by kernel_rfl) (fun _ _ _ h => h) (Or.inl ⟨by rfl, ?_⟩) (by assumption) ?_
              rotate_left
              · (intro w hSw; (try dsimp only at hSw); (try simp only [List.getElem_toArray, List.getElem_cons_zero, List.getElem_cons_succ]); go_simp; try (with_reducible rfl))
              try simp only [Act.put, List.getElem_toArray, List.getElem_cons_zero, List.getElem_cons_succ, List.setIfInBounds_toArray, List.set_cons_zero, List.set_cons_succ]
              refine wpAnyH_take (i := 9) (v := ?_) rfl (by kernel_rfl) (by kernel_rfl) (by kernel_rfl) (fun _ _ _ h => h) (Or.inl ⟨by rfl, ?_⟩) (by assumption) ?_
              rotate_left
              · (intro w hSw; (try dsimp only at hSw); (try simp only [List.getElem_toArray, List.getElem_cons_zero, List.getElem_cons_succ]); go_simp; try (with_reducible rfl))
              try simp only [Act.put, List.getElem_toArray, List.getElem_cons_zero, List.getElem_cons_succ, List.setIfInBounds_toArray, List.set_cons_zero, List.set_cons_succ]
              refine wpAnyH_take (i := 11) (v := ?_) rfl (by kernel_rfl) (by kernel_rfl) (by kernel_rfl) (fun _ _ _ h => h) (Or.inl ⟨by rfl, ?_⟩) (by assumption) ?_
              rotate_left
              · (intro w hSw; (try dsimp only at hSw); (try simp only [List.getElem_toArray, List.getElem_cons_zero, List.getElem_cons_succ]); go_simp; try (with_reducible rfl))
              try simp only [Act.put, List.getElem_toArray, List.getElem_cons_zero, List.getElem_cons_succ, List.setIfInBounds_toArray, List.set_cons_zero, List.set_cons_succ]
              refine wpAnyH_take (i := 12) (v := ?_) rfl (by kernel_rfl) (by kernel_rfl) (by kernel_rfl) (fun _ _ _ h => h) (Or.inl ⟨by rfl, ?_⟩) (by assumption) ?_
              rotate_left
              · (intro w hSw; (try dsimp only at hSw); (try simp only [List.getElem_toArray, List.getElem_cons_zero, List.getElem_cons_succ]); go_simp; try (with_reducible rfl))
              try simp only [Act.put, List.getElem_toArray, List.getElem_cons_zero, List.getElem_cons_succ, List.setIfInBounds_toArray, List.set_cons_zero, List.set_cons_succ]
              refine wpAnyH_take (i := 13) (v := ?_) rfl (by kernel_rfl) (by kernel_rfl) (by kernel_rfl) (fun _ _ _ h => h) (Or.inl ⟨by rfl, ?_⟩) (by assumption) ?_
              rotate_left
              · (intro w hSw; (try dsimp only at hSw); (try simp only [List.getElem_toArray, List.getElem_cons_zero, List.getElem_cons_succ]); go_simp; try (with_reducible rfl))
              try simp only [Act.put, List.getElem_toArray, List.getElem_cons_zero, List.getElem_cons_succ, List.setIfInBounds_toArray, List.set_cons_zero, List.set_cons_succ]
              refine wpAnyH_take (i := 14) (v := ?_) rfl (by kernel_rfl) (by kernel_rfl) (by kernel_rfl) (fun _ _ _ h => h) (Or.inl ⟨by rfl, ?_⟩) (by assumption) ?_
              rotate_left
              · (intro w hSw; (try dsimp only at hSw); (try simp only [List.getElem_toArray, List.getElem_cons_zero, List.getElem_cons_succ]); go_simp; try (with_reducible rfl))
              try simp only [Act.put, List.getElem_toArray, List.getElem_cons_zero, List.getElem_cons_succ, List.setIfInBounds_toArray, List.set_cons_zero, List.set_cons_succ]
              refine wpAnyH_take (i := 15) (v := ?_) rfl (by kernel_rfl) (by kernel_rfl) (by kernel_rfl) (fun _ _ _ h => h) (Or.inl ⟨by rfl, ?_⟩) (by assumption) ?_
              rotate_left
              · (intro w hSw; (try dsimp only at hSw); (try simp only [List.getElem_toArray, List.getElem_cons_zero, List.getElem_cons_succ]); go_simp; try (with_reducible rfl))
              try simp only [Act.put, List.getElem_toArray, List.getElem_cons_zero, List.getElem_cons_succ, List.setIfInBounds_toArray, List.set_cons_zero, List.set_cons_succ]
              refine wpAnyH_take (i := 16) (v := ?_) rfl (by kernel_rfl) (by kernel_rfl) (by kernel_rfl) (fun _ _ _ h => h) (Or.inl ⟨by rfl, ?_⟩) (by assumption) ?_
              rotate_left
              · (intro w hSw; (try dsimp only at hSw); (try simp only [List.getElem_toArray, List.getElem_cons_zero, List.getElem_cons_succ]); go_simp; try (with_reducible rfl))
              try simp only [Act.put, List.getElem_toArray, List.getElem_cons_zero, List.getElem_cons_succ, List.setIfInBounds_toArray, List.set_cons_zero, List.set_cons_succ]
              refine wpAnyH_ready (rs := [10]) (by kernel_rfl) (by simp) ?_
              refine AllReadyH.cons rfl (fun K hK => ?_) AllReadyH.nil
              (try simp only [List.getElem_toArray, List.getElem_cons_zero, List.getElem_cons_succ]); go_simp
              (go_at_call 15; refine (HMA _ (A7.out.tab.step (by exact (Below.refl _ W7).drew))).out.mono ?_; rintro e W8 ⟨rfl, hb8⟩; have hB8 : Below W7.heap.size W7 W8 := (Below.refl _ W7).drew.trans hb8; clear hb8)
              try (go_wp2_with fail)
              refine hK.out _ _ ?_ (fun hHeld => ?_)
              · ((try dsimp only); exact (hB8.cell (p := ⟨pa, oa + k * 7 + 5, none⟩) hpl).trans r7)
              clear hK K
              try simp only [Act.put, List.getElem_toArray, List.getElem_cons_zero, List.getElem_cons_succ, List.setIfInBounds_toArray, List.set_cons_zero, List.set_cons_succ]
              refine wpAnyH_ready (rs := [17]) (by kernel_rfl) (by simp) ?_
              refine AllReadyH.cons rfl (fun K hK => ?_) AllReadyH.nil
              (try simp only [List.getElem_toArray, List.getElem_cons_zero, List.getElem_cons_succ]); go_simp
              (go_at_call 15; refine (HMB _ (B7.out.tab.step hB8)).out.mono ?_; rintro e W9 ⟨rfl, hb9⟩; have hB9 : Below W7.heap.size W7 W9 := hB8.trans (hb9.mono hB8.size); clear hb9)
              try (go_wp2_with fail)
              refine hK.out _ _ ?_ (fun hHeld => ?_)
              · ((try dsimp only); exact (hB9.cell (p := ⟨pa, oa + k * 7 + 5, none⟩) hpl).trans r7)
              clear hK K
              try simp only [Act.put, List.getElem_toArray, List.getElem_cons_zero, List.getElem_cons_succ, List.setIfInBounds_toArray, List.set_cons_zero, List.set_cons_succ]
              refine wpAnyH_take (i := 18) (v := ?_) rfl (by kernel_rfl) (by kernel_rfl) (by kernel_rfl) (fun _ _ _ h => h) (Or.inl ⟨by rfl, ?_⟩) (by assumption) ?_
              rotate_left
              · (intro w hSw; (try dsimp only at hSw); (try simp only [List.getElem_toArray, List.getElem_cons_zero, List.getElem_cons_succ]); go_simp; try (with_reducible rfl))
              try simp only [Act.put, List.getElem_toArray, List.getElem_cons_zero, List.getElem_cons_succ, List.setIfInBounds_toArray, List.set_cons_zero, List.set_cons_succ]
              refine wpAnyH_take (i := 19) (v := ?_) rfl (by kernel_rfl) (by kernel_rfl) (by kernel_rfl) (fun _ _ _ h => h) (Or.inl ⟨by rfl, ?_⟩) (by assumption) ?_
              rotate_left
              · (intro w hSw; (try dsimp only at hSw); (try simp only [List.getElem_toArray, List.getElem_cons_zero, List.getElem_cons_succ]); go_simp; try (with_reducible rfl))
              try simp only [Act.put, List.getElem_toArray, List.getElem_cons_zero, List.getElem_cons_succ, List.setIfInBounds_toArray, List.set_cons_zero, List.set_cons_succ]
              refine wpAnyH_take (i := 20) (v := undef) rfl (by kernel_rfl) (by kernel_rfl) (by kernel_rfl) (fun _ _ _ h => h) (Or.inr ⟨by rfl, rfl⟩) (by assumption) ?_
              try simp only [Act.put, List.getElem_toArray, List.getElem_cons_zero, List.getElem_cons_succ, List.setIfInBounds_toArray, List.set_cons_zero, List.set_cons_succ]
              refine wpAnyH_take (i := 21) (v := undef) rfl (by kernel_rfl) (by kernel_rfl) (by kernel_rfl) (fun _ _ _ h => h) (Or.inr ⟨by rfl, rfl⟩) (by assumption) ?_
              try simp only [Act.put, List.getElem_toArray, List.getElem_cons_zero, List.getElem_cons_succ, List.setIfInBounds_toArray, List.set_cons_zero, List.set_cons_succ]
              refine wpAnyH_take (i := 22) (v := undef) rfl (by kernel_rfl) (by kernel_rfl) (by kernel_rfl) (fun _ _ _ h => h) (Or.inr ⟨by rfl, rfl⟩) (by assumption) ?_
              try simp only [Act.put, List.getElem_toArray, List.getElem_cons_zero, List.getElem_cons_succ, List.setIfInBounds_toArray, List.set_cons_zero, List.set_cons_succ]
              refine wpAnyH_take (i := 23) (v := ?_) rfl (by kernel_rfl) (by kernel_rfl) (by kernel_rfl) (fun _ _ _ h => h) (Or.inl ⟨by rfl, ?_⟩) (by assumption) ?_
              rotate_left
              · (intro w hSw; (try dsimp only at hSw); (try simp only [List.getElem_toArray, List.getElem_cons_zero, List.getElem_cons_succ]); go_simp; try (with_reducible rfl))
              try simp only [Act.put, List.getElem_toArray, List.getElem_cons_zero, List.getElem_cons_succ, List.setIfInBounds_toArray, List.set_cons_zero, List.set_cons_succ]
              refine wpAnyH_take (i := 24) (v := ?_) rfl (by kernel_rfl) (by kernel_rfl) (by kernel_rfl) (fun _ _ _ h => h) (Or.inl ⟨by rfl, ?_⟩) (by assumption) ?_
              rotate_left
              · (intro w hSw; (try dsimp only at hSw); (try simp only [List.getElem_toArray, List.getElem_cons_zero, List.getElem_cons_succ]); go_simp; try (with_reducible rfl))
              try simp only [Act.put, List.getElem_toArray, List.getElem_cons_zero, List.getElem_cons_succ, List.setIfInBounds_toArray, List.set_cons_zero, List.set_cons_succ]
              refine wpAnyH_done (by kernel_rfl) ?_ _
              refine NoPanic.normal ?_
              have BX := Lib.hid hB9
              go_wp2_with fail
              refine ⟨oF_of _ n c _ m d ta tb _ (k + 1) ⟨hlt, _, _, A7.out.step BX.out, B7.out.step BX.out, TW2.out, LA2.out, by have := LB2.out; omega⟩ rfl, ?_⟩
              simp [intOf]; omega
          · have HX := Lib.hid ((Below.refl _ W).alloc (Nat.le_refl _) (.cells #[.int .i64 kd, .int .i64 a, .int .i64 dt, .int .i64 thg, .int .i64 obj, .int .i64 rr, .int .i64 idd] 31))
            have FIT := Lib.hid (show StepS.fits ⟨kd, a, dt, thg, obj, rr, idd⟩ from FIT0.out)
            obtain ⟨Tc, hTc⟩ : ∃ T, T = (oneO Tb ⟨kd, a, dt, thg, obj, rr, idd⟩).tab := ⟨_, rfl⟩
            have ONE := Lib.hid (one_any (TB.out.tab.step HX.out) (by have := LB1.out; have := KN.out; omega) ⟨kd, a, dt, thg, obj, rr, idd⟩ FIT.out)
            have TW5 := Lib.hid (TwoOk.other TW.out ⟨kd, a, dt, thg, obj, rr, idd⟩ h4 h5 ha)
            have LB5 := Lib.hid (show (oneO Tb ⟨kd, a, dt, thg, obj, rr, idd⟩).tab.last ≤ 2 * k + 2 by have := oneO_last TB.out.tab.ok ⟨kd, a, dt, thg, obj, rr, idd⟩ FIT.out; have := LB1.out; omega)
            rw [← hTc] at ONE TW5 LB5
            unfold stepV at ONE
            clear hTc FIT FIT0 TW LB
            have n4 : (kd != 4) = true := by simp [h4]
            have n5 : (kd != 5) = true := by simp [h5]
            go_wp2_with fail
            refine ONE.out.mono ?_
            rintro e W5 ⟨rfl, h5t, h5b⟩
            have TW := TW5; have LB := LB5
            replace TA := Lib.hid (FAR.out.a (TA.out.step HX.out) h5b)
            replace TB := Lib.hid (show TabOwn w W5 tb bb Tc from ⟨h5t, (TB.out.step HX.out).below.trans (h5b.below (TB.out.step HX.out).below.size FAR.out.b1 FAR.out.b2), FAR.out.b1, FAR.out.b2⟩)
            clear h5t h5b ONE HX TW5 LB5 n4 n5
            obtain ⟨_, _, e5, -, -, -, -, -, r5, -⟩ := steps_cell HA.out TA.out.below hlt
            cases e5
            obtain ⟨ri, hri⟩ : ∃ ri, ri = (R k).ri := ⟨_, rfl⟩
            rw [← hri] at r5
            clear hri
            obtain ⟨oA, hoA⟩ : ∃ o, o = deriveO Ta 1 1 1 ri ri := ⟨_, rfl⟩
            obtain ⟨oB, hoB⟩ : ∃ o, o = deriveO Tc 1 1 1 ri ri := ⟨_, rfl⟩
            have wf1 : (Lit.int .i64 1).wf = true := wf_small (by decide) (by decide)
            have HDA := Lib.hid (show Calls Try.prog 24 #[.pointer (some ⟨ta, 0, none⟩), .int .i64 1, .int .i64 1, .int .i64 ri] _ (MadeOut _ ta ba oA) from hoA ▸ Derive_any TA.out.tab (by have := LA.out; have := KN.out; omega) 1 1 ri wf1)
            have HDB := fun W' (h : TabAt W' tb bb Tc) => Lib.hid (show Calls Try.prog 24 #[.pointer (some ⟨tb, 0, none⟩), .int .i64 1, .int .i64 1, .int .i64 ri] W' (MadeOut W' tb bb oB) from hoB ▸ Derive_any h (by have := LB.out; have := KN.out; omega) 1 1 ri wf1)
            have hsame := derive_same TA.out.tab.ok TB.out.tab.ok TW.out ri
            rw [← hoA, ← hoB] at hsame
            have TW2 := Lib.hid hsame.2
            have hne : (oA.err != oB.err) = false := by rw [hsame.1]; simp
            have LA2 := Lib.hid (show oA.tab.last ≤ k + 2 by rw [hoA]; have := (deriveO_ok TA.out.tab.ok 1 1 1 ri ri (.inl rfl)).2; have := LA.out; omega)
            have LB2 := Lib.hid (show oB.tab.last ≤ 2 * k + 3 by rw [hoB]; have := (deriveO_ok TB.out.tab.ok 1 1 1 ri ri (.inl rfl)).2; have := LB.out; omega)
            have hpt : pa ≠ ta ∧ pa ≠ ba ∧ pa ≠ tb ∧ pa ≠ bb := by have := FAR.out.a1; have := FAR.out.a2; have := FAR.out.b1; have := FAR.out.b2; omega
            clear hsame hoA hoB
            go_wp2_with fail
            refine HDA.out.mono ?_
            rintro e W6 hm6
            have A6 := Lib.hid (TA.out.made hm6)
            have B6 := Lib.hid (FAR.out.b TB.out hm6.2.2)
            have r6 : W6.cell? ⟨pa, oa + k * 7 + 5, none⟩ = some (.int .i64 ri) := (World.cell?_of_block (a := ⟨pa, oa + k * 7 + 5, none⟩) (hm6.2.2.block pa (World.block_lt_of_cell? _ _ r5) hpt.1 hpt.2.1)).trans r5
            obtain ⟨rfl, -, -⟩ := hm6
            clear TA TB r5 HDA
            go_wp2_with fail
            refine (HDB _ B6.out.tab).out.mono ?_
            rintro e W7 hm7
            have B7 := Lib.hid (B6.out.made hm7)
            have A7 := Lib.hid (FAR.out.a A6.out hm7.2.2)
            have r7 : W7.cell? ⟨pa, oa + k * 7 + 5, none⟩ = some (.int .i64 ri) := (World.cell?_of_block (a := ⟨pa, oa + k * 7 + 5, none⟩) (hm7.2.2.block pa (World.block_lt_of_cell? _ _ r6) hpt.2.2.1 hpt.2.2.2)).trans r6
            have hpl : pa < W7.heap.size := World.block_lt_of_cell? _ _ r7
            obtain ⟨rfl, -, -⟩ := hm7
            clear A6 B6 r6 HDB
            obtain ⟨x, hx⟩ : ∃ x, x = mayB oA.tab.caps 1 0 1 ri := ⟨_, rfl⟩
            obtain ⟨y, hy⟩ : ∃ y, y = mayB oB.tab.caps 1 0 1 ri := ⟨_, rfl⟩
            obtain ⟨z, hz⟩ : ∃ z, z = strangerB oB.tab.caps := ⟨_, rfl⟩
            have hxyz : x ≠ y → z = true := by rw [hx, hy, hz]; exact stranger_may TW2.out ri
            have HMA := fun W' (h : TabAt W' ta ba oA.tab) => Lib.hid (show Calls Try.prog 15 #[.pointer (some ⟨ta, 0, none⟩), .int .i64 1, .int .i64 0, .int .i64 1, .int .i64 ri] W' (fun e w' => e = .returned (.bool x) ∧ Below W'.heap.size W' w') from hx ▸ may_any h 1 0 1 ri)
            have HMB := fun W' (h : TabAt W' tb bb oB.tab) => Lib.hid (show Calls Try.prog 15 #[.pointer (some ⟨tb, 0, none⟩), .int .i64 1, .int .i64 0, .int .i64 1, .int .i64 ri] W' (fun e w' => e = .returned (.bool y) ∧ Below W'.heap.size W' w') from hy ▸ may_any h 1 0 1 ri)
            have HGR := fun W' (h : TabAt W' tb bb oB.tab) => Lib.hid (show Calls Try.prog 25 #[.pointer (some ⟨tb, 0, none⟩)] W' (fun e w' => e = .returned (.bool z) ∧ Below W'.heap.size W' w') from hz ▸ granted_any h (by have := LB2.out; have := KN.out; omega))
            clear hx hy hz
            have hzt : x ≠ y → z = true := hxyz
            cases x <;> cases y
            case' false.true => (obtain rfl := hxyz (by decide)); clear hxyz hzt
            case' true.false => (obtain rfl := hxyz (by decide)); clear hxyz hzt
            case' false.true =>
              go_wp2_with fail
              go_region_held3 (fun W => W.cell? ⟨pa, oa + k * 7 + 5, none⟩ = some (.int .i64 ri))
                (first | exact (hB8.cell (p := ⟨pa, oa + k * 7 + 5, none⟩) hpl).trans r7 | exact (hB9.cell (p := ⟨pa, oa + k * 7 + 5, none⟩) hpl).trans r7 | exact (hB10.cell (p := ⟨pa, oa + k * 7 + 5, none⟩) hpl).trans r7 | go_keep)
                (first
                  | (go_at_call 15; refine (HMB _ (B7.out.tab.step hB8)).out.mono ?_; rintro e W9 ⟨rfl, hb9⟩; have hB9 : Below W7.heap.size W7 W9 := hB8.trans (hb9.mono hB8.size); clear hb9)
                  | (go_at_call 15; refine (HMA _ (A7.out.tab.step (by exact (Below.refl _ W7).drew))).out.mono ?_; rintro e W8 ⟨rfl, hb8⟩; have hB8 : Below W7.heap.size W7 W8 := (Below.refl _ W7).drew.trans hb8; clear hb8)
                  | (go_at_call 25; refine (HGR _ (B7.out.tab.step hB9)).out.mono ?_; rintro e W10 ⟨rfl, hb10⟩; have hB10 : Below W7.heap.size W7 W10 := hB9.trans (hb10.mono hB9.size); clear hb10))
              have BX := Lib.hid hB10
              go_wp2_with fail
              refine ⟨oF_of _ n c _ m d ta tb _ (k + 1) ⟨hlt, _, _, A7.out.step BX.out, B7.out.step BX.out, TW2.out, LA2.out, by have := LB2.out; omega⟩ rfl, ?_⟩
              simp [intOf]; omega
            case' true.false =>
              go_wp2_with fail
              go_region_held3 (fun W => W.cell? ⟨pa, oa + k * 7 + 5, none⟩ = some (.int .i64 ri))
                (first | exact (hB8.cell (p := ⟨pa, oa + k * 7 + 5, none⟩) hpl).trans r7 | exact (hB9.cell (p := ⟨pa, oa + k * 7 + 5, none⟩) hpl).trans r7 | exact (hB10.cell (p := ⟨pa, oa + k * 7 + 5, none⟩) hpl).trans r7 | go_keep)
                (first
                  | (go_at_call 15; refine (HMB _ (B7.out.tab.step hB8)).out.mono ?_; rintro e W9 ⟨rfl, hb9⟩; have hB9 : Below W7.heap.size W7 W9 := hB8.trans (hb9.mono hB8.size); clear hb9)
                  | (go_at_call 15; refine (HMA _ (A7.out.tab.step (by exact (Below.refl _ W7).drew))).out.mono ?_; rintro e W8 ⟨rfl, hb8⟩; have hB8 : Below W7.heap.size W7 W8 := (Below.refl _ W7).drew.trans hb8; clear hb8)
                  | (go_at_call 25; refine (HGR _ (B7.out.tab.step hB9)).out.mono ?_; rintro e W10 ⟨rfl, hb10⟩; have hB10 : Below W7.heap.size W7 W10 := hB9.trans (hb10.mono hB9.size); clear hb10))
              have BX := Lib.hid hB10
              go_wp2_with fail
              refine ⟨oF_of _ n c _ m d ta tb _ (k + 1) ⟨hlt, _, _, A7.out.step BX.out, B7.out.step BX.out, TW2.out, LA2.out, by have := LB2.out; omega⟩ rfl, ?_⟩
              simp [intOf]; omega
            all_goals
              clear hxyz hzt
              go_wp2_with fail
              refine wp_region_noPanic ?_
              refine wp_region_held_drew (S := (fun W => W.cell? ⟨pa, oa + k * 7 + 5, none⟩ = some (.int .i64 ri))) (by kernel_rfl) ?_ (fun hHeld => ?_)
              · (try dsimp only)
                go_keep
              refine wpAnyH_take (i := 0) (v := ?_) rfl (by kernel_rfl) (by kernel_rfl) (by kernel_rfl) (fun _ _ _ h => h) (Or.inl ⟨by rfl, ?_⟩) (by assumption) ?_
              rotate_left
              · (intro w hSw; (try dsimp only at hSw); (try simp only [List.getElem_toArray, List.getElem_cons_zero]); go_simp; try (with_reducible rfl))
              try simp only [Act.put, List.getElem_toArray, List.getElem_cons_zero, List.setIfInBounds_toArray, List.set_cons_zero, List.set_cons_succ]
              refine wpAnyH_take (i := 1) (v := ?_) rfl (by kernel_rfl) (by kernel_rfl) (by kernel_rfl) (fun _ _ _ h => h) (Or.inl ⟨by rfl, ?_⟩) (by assumption) ?_
              rotate_left
              · (intro w hSw; (try dsimp only at hSw); (try simp only [List.getElem_toArray, List.getElem_cons_zero, List.getElem_cons_succ]); go_simp; try (with_reducible rfl))
              try simp only [Act.put, List.getElem_toArray, List.getElem_cons_zero, List.getElem_cons_succ, List.setIfInBounds_toArray, List.set_cons_zero, List.set_cons_succ]
              refine wpAnyH_take (i := 2) (v := ?_) rfl (by kernel_rfl) (by kernel_rfl) (by kernel_rfl) (fun _ _ _ h => h) (Or.inl ⟨by rfl, ?_⟩) (by assumption) ?_
              rotate_left
              · (intro w hSw; (try dsimp only at hSw); (try simp only [List.getElem_toArray, List.getElem_cons_zero, List.getElem_cons_succ]); go_simp; try (with_reducible rfl))
              try simp only [Act.put, List.getElem_toArray, List.getElem_cons_zero, List.getElem_cons_succ, List.setIfInBounds_toArray, List.set_cons_zero, List.set_cons_succ]
              refine wpAnyH_take (i := 3) (v := ?_) rfl (by kernel_rfl) (by kernel_rfl) (by kernel_rfl) (fun _ _ _ h => h) (Or.inl ⟨by rfl, ?_⟩) (by assumption) ?_
              rotate_left
              · (intro w hSw; (try dsimp only at hSw); (try simp only [List.getElem_toArray, List.getElem_cons_zero, List.getElem_cons_succ]); go_simp; try (with_reducible rfl))
              try simp only [Act.put, List.getElem_toArray, List.getElem_cons_zero, List.getElem_cons_succ, List.setIfInBounds_toArray, List.set_cons_zero, List.set_cons_succ]
              refine wpAnyH_take (i := 4) (v := ?_) rfl (by kernel_rfl) (by kernel_rfl) (by kernel_rfl) (fun _ _ _ h => h) (Or.inl ⟨by rfl, ?_⟩) (by assumption) ?_
              rotate_left
              · (intro w hSw; (try dsimp only at hSw); (try simp only [List.getElem_toArray, List.getElem_cons_zero, List.getElem_cons_succ]); go_simp; try (with_reducible rfl))
              try simp only [Act.put, List.getElem_toArray, List.getElem_cons_zero, List.getElem_cons_succ, List.setIfInBounds_toArray, List.set_cons_zero, List.set_cons_succ]
              refine wpAnyH_take (i := 5) (v := ?_) rfl (by kernel_rfl) (by kernel_rfl) (by kernel_rfl) (fun _ _ _ h => h) (Or.inl ⟨by rfl, ?_⟩) (by assumption) ?_
              rotate_left
              · (intro w hSw; (try dsimp only at hSw); (try simp only [List.getElem_toArray, List.getElem_cons_zero, List.getElem_cons_succ]); go_simp; try (with_reducible rfl))
              try simp only [Act.put, List.getElem_toArray, List.getElem_cons_zero, List.getElem_cons_succ, List.setIfInBounds_toArray, List.set_cons_zero, List.set_cons_succ]
              refine wpAnyH_take (i := 6) (v := ?_) rfl (by kernel_rfl) (by kernel_rfl) (by kernel_rfl) (fun _ _ _ h => h) (Or.inl ⟨by rfl, ?_⟩) (by assumption) ?_
              rotate_left
              · (intro w hSw; (try dsimp only at hSw); (try simp only [List.getElem_toArray, List.getElem_cons_zero, List.getElem_cons_succ]); go_simp; try (with_reducible rfl))
              try simp only [Act.put, List.getElem_toArray, List.getElem_cons_zero, List.getElem_cons_succ, List.setIfInBounds_toArray, List.set_cons_zero, List.set_cons_succ]
              refine wpAnyH_take (i := 7) (v := ?_) rfl (by kernel_rfl) (by kernel_rfl) (by kernel_rfl) (fun _ _ _ h => h) (Or.inl ⟨by rfl, ?_⟩) (by assumption) ?_
              rotate_left
              · (intro w hSw; (try dsimp only at hSw); (try simp only [List.getElem_toArray, List.getElem_cons_zero, List.getElem_cons_succ]); go_simp; try (with_reducible rfl))
              try simp only [Act.put, List.getElem_toArray, List.getElem_cons_zero, List.getElem_cons_succ, List.setIfInBounds_toArray, List.set_cons_zero, List.set_cons_succ]
              refine wpAnyH_take (i := 8) (v := ?_) rfl (by kernel_rfl) (by kernel_rfl) (by kernel_rfl) (fun _ _ _ h => h) (Or.inl ⟨by rfl, ?_⟩) (by assumption) ?_
              rotate_left
              · (intro w hSw; (try dsimp only at hSw); (try simp only [List.getElem_toArray, List.getElem_cons_zero, List.getElem_cons_succ]); go_simp; try (with_reducible rfl))
              try simp only [Act.put, List.getElem_toArray, List.getElem_cons_zero, List.getElem_cons_succ, List.setIfInBounds_toArray, List.set_cons_zero, List.set_cons_succ]
              refine wpAnyH_take (i := 9) (v := ?_) rfl (by kernel_rfl) (by kernel_rfl) (by kernel_rfl) (fun _ _ _ h => h) (Or.inl ⟨by rfl, ?_⟩) (by assumption) ?_
              rotate_left
              · (intro w hSw; (try dsimp only at hSw); (try simp only [List.getElem_toArray, List.getElem_cons_zero, List.getElem_cons_succ]); go_simp; try (with_reducible rfl))
              try simp only [Act.put, List.getElem_toArray, List.getElem_cons_zero, List.getElem_cons_succ, List.setIfInBounds_toArray, List.set_cons_zero, List.set_cons_succ]
              refine wpAnyH_take (i := 11) (v := ?_) rfl (by kernel_rfl) (by kernel_rfl) (by kernel_rfl) (fun _ _ _ h => h) (Or.inl ⟨by rfl, ?_⟩) (by assumption) ?_
              rotate_left
              · (intro w hSw; (try dsimp only at hSw); (try simp only [List.getElem_toArray, List.getElem_cons_zero, List.getElem_cons_succ]); go_simp; try (with_reducible rfl))
              try simp only [Act.put, List.getElem_toArray, List.getElem_cons_zero, List.getElem_cons_succ, List.setIfInBounds_toArray, List.set_cons_zero, List.set_cons_succ]
              refine wpAnyH_take (i := 12) (v := ?_) rfl (by kernel_rfl) (by kernel_rfl) (by kernel_rfl) (fun _ _ _ h => h) (Or.inl ⟨by rfl, ?_⟩) (by assumption) ?_
              rotate_left
              · (intro w hSw; (try dsimp only at hSw); (try simp only [List.getElem_toArray, List.getElem_cons_zero, List.getElem_cons_succ]); go_simp; try (with_reducible rfl))
              try simp only [Act.put, List.getElem_toArray, List.getElem_cons_zero, List.getElem_cons_succ, List.setIfInBounds_toArray, List.set_cons_zero, List.set_cons_succ]
              refine wpAnyH_take (i := 13) (v := ?_) rfl (by kernel_rfl) (by kernel_rfl) (by kernel_rfl) (fun _ _ _ h => h) (Or.inl ⟨by rfl, ?_⟩) (by assumption) ?_
              rotate_left
              · (intro w hSw; (try dsimp only at hSw); (try simp only [List.getElem_toArray, List.getElem_cons_zero, List.getElem_cons_succ]); go_simp; try (with_reducible rfl))
              try simp only [Act.put, List.getElem_toArray, List.getElem_cons_zero, List.getElem_cons_succ, List.setIfInBounds_toArray, List.set_cons_zero, List.set_cons_succ]
              refine wpAnyH_take (i := 14) (v := ?_) rfl (by kernel_rfl) (by kernel_rfl) (by kernel_rfl) (fun _ _ _ h => h) (Or.inl ⟨by rfl, ?_⟩) (by assumption) ?_
              rotate_left
              · (intro w hSw; (try dsimp only at hSw); (try simp only [List.getElem_toArray, List.getElem_cons_zero, List.getElem_cons_succ]); go_simp; try (with_reducible rfl))
              try simp only [Act.put, List.getElem_toArray, List.getElem_cons_zero, List.getElem_cons_succ, List.setIfInBounds_toArray, List.set_cons_zero, List.set_cons_succ]
              refine wpAnyH_take (i := 15) (v := ?_) rfl (by kernel_rfl) (by kernel_rfl) (by kernel_rfl) (fun _ _ _ h => h) (Or.inl ⟨by rfl, ?_⟩) (by assumption) ?_
              rotate_left
              · (intro w hSw; (try dsimp only at hSw); (try simp only [List.getElem_toArray, List.getElem_cons_zero, List.getElem_cons_succ]); go_simp; try (with_reducible rfl))
              try simp only [Act.put, List.getElem_toArray, List.getElem_cons_zero, List.getElem_cons_succ, List.setIfInBounds_toArray, List.set_cons_zero, List.set_cons_succ]
              refine wpAnyH_take (i := 16) (v := ?_) rfl (by kernel_rfl) (by kernel_rfl) (by kernel_rfl) (fun _ _ _ h => h) (Or.inl ⟨by rfl, ?_⟩) (by assumption) ?_
              rotate_left
              · (intro w hSw; (try dsimp only at hSw); (try simp only [List.getElem_toArray, List.getElem_cons_zero, List.getElem_cons_succ]); go_simp; try (with_reducible rfl))
              try simp only [Act.put, List.getElem_toArray, List.getElem_cons_zero, List.getElem_cons_succ, List.setIfInBounds_toArray, List.set_cons_zero, List.set_cons_succ]
              refine wpAnyH_ready (rs := [10]) (by kernel_rfl) (by simp) ?_
              refine AllReadyH.cons rfl (fun K hK => ?_) AllReadyH.nil
              (try simp only [List.getElem_toArray, List.getElem_cons_zero, List.getElem_cons_succ]); go_simp
              (go_at_call 15; refine (HMA _ (A7.out.tab.step (by exact (Below.refl _ W7).drew))).out.mono ?_; rintro e W8 ⟨rfl, hb8⟩; have hB8 : Below W7.heap.size W7 W8 := (Below.refl _ W7).drew.trans hb8; clear hb8)
              try (go_wp2_with fail)
              refine hK.out _ _ ?_ (fun hHeld => ?_)
              · ((try dsimp only); exact (hB8.cell (p := ⟨pa, oa + k * 7 + 5, none⟩) hpl).trans r7)
              clear hK K
              try simp only [Act.put, List.getElem_toArray, List.getElem_cons_zero, List.getElem_cons_succ, List.setIfInBounds_toArray, List.set_cons_zero, List.set_cons_succ]
              refine wpAnyH_ready (rs := [17]) (by kernel_rfl) (by simp) ?_
              refine AllReadyH.cons rfl (fun K hK => ?_) AllReadyH.nil
              (try simp only [List.getElem_toArray, List.getElem_cons_zero, List.getElem_cons_succ]); go_simp
              (go_at_call 15; refine (HMB _ (B7.out.tab.step hB8)).out.mono ?_; rintro e W9 ⟨rfl, hb9⟩; have hB9 : Below W7.heap.size W7 W9 := hB8.trans (hb9.mono hB8.size); clear hb9)
              try (go_wp2_with fail)
              refine hK.out _ _ ?_ (fun hHeld => ?_)
              · ((try dsimp only); exact (hB9.cell (p := ⟨pa, oa + k * 7 + 5, none⟩) hpl).trans r7)
              clear hK K
              try simp only [Act.put, List.getElem_toArray, List.getElem_cons_zero, List.getElem_cons_succ, List.setIfInBounds_toArray, List.set_cons_zero, List.set_cons_succ]
              refine wpAnyH_take (i := 18) (v := ?_) rfl (by kernel_rfl) (by kernel_rfl) (by kernel_rfl) (fun _ _ _ h => h) (Or.inl ⟨by rfl, ?_⟩) (by assumption) ?_
              rotate_left
              · (intro w hSw; (try dsimp only at hSw); (try simp only [List.getElem_toArray, List.getElem_cons_zero, List.getElem_cons_succ]); go_simp; try (with_reducible rfl))
              try simp only [Act.put, List.getElem_toArray, List.getElem_cons_zero, List.getElem_cons_succ, List.setIfInBounds_toArray, List.set_cons_zero, List.set_cons_succ]
              refine wpAnyH_take (i := 19) (v := ?_) rfl (by kernel_rfl) (by kernel_rfl) (by kernel_rfl) (fun _ _ _ h => h) (Or.inl ⟨by rfl, ?_⟩) (by assumption) ?_
              rotate_left
              · (intro w hSw; (try dsimp only at hSw); (try simp only [List.getElem_toArray, List.getElem_cons_zero, List.getElem_cons_succ]); go_simp; try (with_reducible rfl))
              try simp only [Act.put, List.getElem_toArray, List.getElem_cons_zero, List.getElem_cons_succ, List.setIfInBounds_toArray, List.set_cons_zero, List.set_cons_succ]
              refine wpAnyH_take (i := 20) (v := undef) rfl (by kernel_rfl) (by kernel_rfl) (by kernel_rfl) (fun _ _ _ h => h) (Or.inr ⟨by rfl, rfl⟩) (by assumption) ?_
              try simp only [Act.put, List.getElem_toArray, List.getElem_cons_zero, List.getElem_cons_succ, List.setIfInBounds_toArray, List.set_cons_zero, List.set_cons_succ]
              refine wpAnyH_take (i := 21) (v := undef) rfl (by kernel_rfl) (by kernel_rfl) (by kernel_rfl) (fun _ _ _ h => h) (Or.inr ⟨by rfl, rfl⟩) (by assumption) ?_
              try simp only [Act.put, List.getElem_toArray, List.getElem_cons_zero, List.getElem_cons_succ, List.setIfInBounds_toArray, List.set_cons_zero, List.set_cons_succ]
              refine wpAnyH_take (i := 22) (v := undef) rfl (by kernel_rfl) (by kernel_rfl) (by kernel_rfl) (fun _ _ _ h => h) (Or.inr ⟨by rfl, rfl⟩) (by assumption) ?_
              try simp only [Act.put, List.getElem_toArray, List.getElem_cons_zero, List.getElem_cons_succ, List.setIfInBounds_toArray, List.set_cons_zero, List.set_cons_succ]
              refine wpAnyH_take (i := 23) (v := ?_) rfl (by kernel_rfl) (by kernel_rfl) (by kernel_rfl) (fun _ _ _ h => h) (Or.inl ⟨by rfl, ?_⟩) (by assumption) ?_
              rotate_left
              · (intro w hSw; (try dsimp only at hSw); (try simp only [List.getElem_toArray, List.getElem_cons_zero, List.getElem_cons_succ]); go_simp; try (with_reducible rfl))
              try simp only [Act.put, List.getElem_toArray, List.getElem_cons_zero, List.getElem_cons_succ, List.setIfInBounds_toArray, List.set_cons_zero, List.set_cons_succ]
              refine wpAnyH_take (i := 24) (v := ?_) rfl (by kernel_rfl) (by kernel_rfl) (by kernel_rfl) (fun _ _ _ h => h) (Or.inl ⟨by rfl, ?_⟩) (by assumption) ?_
              rotate_left
              · (intro w hSw; (try dsimp only at hSw); (try simp only [List.getElem_toArray, List.getElem_cons_zero, List.getElem_cons_succ]); go_simp; try (with_reducible rfl))
              try simp only [Act.put, List.getElem_toArray, List.getElem_cons_zero, List.getElem_cons_succ, List.setIfInBounds_toArray, List.set_cons_zero, List.set_cons_succ]
              refine wpAnyH_done (by kernel_rfl) ?_ _
              refine NoPanic.normal ?_
              have BX := Lib.hid hB9
              go_wp2_with fail
              refine ⟨oF_of _ n c _ m d ta tb _ (k + 1) ⟨hlt, _, _, A7.out.step BX.out, B7.out.step BX.out, TW2.out, LA2.out, by have := LB2.out; omega⟩ rfl, ?_⟩
              simp [intOf]; omega
    · have hge2 : ¬ (k : Int) < m := by omega
      obtain ⟨Tc, hTc⟩ : ∃ T, T = Tb := ⟨_, rfl⟩
      rw [← hTc] at TB TW LB
      clear hTc
      obtain ⟨_, _, e5, -, -, -, -, -, r5, -⟩ := steps_cell HA.out TA.out.below hlt
      cases e5
      obtain ⟨ri, hri⟩ : ∃ ri, ri = (R k).ri := ⟨_, rfl⟩
      rw [← hri] at r5
      clear hri
      obtain ⟨oA, hoA⟩ : ∃ o, o = deriveO Ta 1 1 1 ri ri := ⟨_, rfl⟩
      obtain ⟨oB, hoB⟩ : ∃ o, o = deriveO Tc 1 1 1 ri ri := ⟨_, rfl⟩
      have wf1 : (Lit.int .i64 1).wf = true := wf_small (by decide) (by decide)
      have HDA := Lib.hid (show Calls Try.prog 24 #[.pointer (some ⟨ta, 0, none⟩), .int .i64 1, .int .i64 1, .int .i64 ri] _ (MadeOut _ ta ba oA) from hoA ▸ Derive_any TA.out.tab (by have := LA.out; have := KN.out; omega) 1 1 ri wf1)
      have HDB := fun W' (h : TabAt W' tb bb Tc) => Lib.hid (show Calls Try.prog 24 #[.pointer (some ⟨tb, 0, none⟩), .int .i64 1, .int .i64 1, .int .i64 ri] W' (MadeOut W' tb bb oB) from hoB ▸ Derive_any h (by have := LB.out; have := KN.out; omega) 1 1 ri wf1)
      have hsame := derive_same TA.out.tab.ok TB.out.tab.ok TW.out ri
      rw [← hoA, ← hoB] at hsame
      have TW2 := Lib.hid hsame.2
      have hne : (oA.err != oB.err) = false := by rw [hsame.1]; simp
      have LA2 := Lib.hid (show oA.tab.last ≤ k + 2 by rw [hoA]; have := (deriveO_ok TA.out.tab.ok 1 1 1 ri ri (.inl rfl)).2; have := LA.out; omega)
      have LB2 := Lib.hid (show oB.tab.last ≤ 2 * k + 3 by rw [hoB]; have := (deriveO_ok TB.out.tab.ok 1 1 1 ri ri (.inl rfl)).2; have := LB.out; omega)
      have hpt : pa ≠ ta ∧ pa ≠ ba ∧ pa ≠ tb ∧ pa ≠ bb := by have := FAR.out.a1; have := FAR.out.a2; have := FAR.out.b1; have := FAR.out.b2; omega
      clear hsame hoA hoB
      go_wp2_with fail
      refine HDA.out.mono ?_
      rintro e W6 hm6
      have A6 := Lib.hid (TA.out.made hm6)
      have B6 := Lib.hid (FAR.out.b TB.out hm6.2.2)
      have r6 : W6.cell? ⟨pa, oa + k * 7 + 5, none⟩ = some (.int .i64 ri) := (World.cell?_of_block (a := ⟨pa, oa + k * 7 + 5, none⟩) (hm6.2.2.block pa (World.block_lt_of_cell? _ _ r5) hpt.1 hpt.2.1)).trans r5
      obtain ⟨rfl, -, -⟩ := hm6
      clear TA TB r5 HDA
      go_wp2_with fail
      refine (HDB _ B6.out.tab).out.mono ?_
      rintro e W7 hm7
      have B7 := Lib.hid (B6.out.made hm7)
      have A7 := Lib.hid (FAR.out.a A6.out hm7.2.2)
      have r7 : W7.cell? ⟨pa, oa + k * 7 + 5, none⟩ = some (.int .i64 ri) := (World.cell?_of_block (a := ⟨pa, oa + k * 7 + 5, none⟩) (hm7.2.2.block pa (World.block_lt_of_cell? _ _ r6) hpt.2.2.1 hpt.2.2.2)).trans r6
      have hpl : pa < W7.heap.size := World.block_lt_of_cell? _ _ r7
      obtain ⟨rfl, -, -⟩ := hm7
      clear A6 B6 r6 HDB
      obtain ⟨x, hx⟩ : ∃ x, x = mayB oA.tab.caps 1 0 1 ri := ⟨_, rfl⟩
      obtain ⟨y, hy⟩ : ∃ y, y = mayB oB.tab.caps 1 0 1 ri := ⟨_, rfl⟩
      obtain ⟨z, hz⟩ : ∃ z, z = strangerB oB.tab.caps := ⟨_, rfl⟩
      have hxyz : x ≠ y → z = true := by rw [hx, hy, hz]; exact stranger_may TW2.out ri
      have HMA := fun W' (h : TabAt W' ta ba oA.tab) => Lib.hid (show Calls Try.prog 15 #[.pointer (some ⟨ta, 0, none⟩), .int .i64 1, .int .i64 0, .int .i64 1, .int .i64 ri] W' (fun e w' => e = .returned (.bool x) ∧ Below W'.heap.size W' w') from hx ▸ may_any h 1 0 1 ri)
      have HMB := fun W' (h : TabAt W' tb bb oB.tab) => Lib.hid (show Calls Try.prog 15 #[.pointer (some ⟨tb, 0, none⟩), .int .i64 1, .int .i64 0, .int .i64 1, .int .i64 ri] W' (fun e w' => e = .returned (.bool y) ∧ Below W'.heap.size W' w') from hy ▸ may_any h 1 0 1 ri)
      have HGR := fun W' (h : TabAt W' tb bb oB.tab) => Lib.hid (show Calls Try.prog 25 #[.pointer (some ⟨tb, 0, none⟩)] W' (fun e w' => e = .returned (.bool z) ∧ Below W'.heap.size W' w') from hz ▸ granted_any h (by have := LB2.out; have := KN.out; omega))
      clear hx hy hz
      have hzt : x ≠ y → z = true := hxyz
      cases x <;> cases y
      case' false.true => (obtain rfl := hxyz (by decide)); clear hxyz hzt
      case' true.false => (obtain rfl := hxyz (by decide)); clear hxyz hzt
      case' false.true =>
        go_wp2_with fail
        go_region_held3 (fun W => W.cell? ⟨pa, oa + k * 7 + 5, none⟩ = some (.int .i64 ri))
          (first | exact (hB8.cell (p := ⟨pa, oa + k * 7 + 5, none⟩) hpl).trans r7 | exact (hB9.cell (p := ⟨pa, oa + k * 7 + 5, none⟩) hpl).trans r7 | exact (hB10.cell (p := ⟨pa, oa + k * 7 + 5, none⟩) hpl).trans r7 | go_keep)
          (first
            | (go_at_call 15; refine (HMB _ (B7.out.tab.step hB8)).out.mono ?_; rintro e W9 ⟨rfl, hb9⟩; have hB9 : Below W7.heap.size W7 W9 := hB8.trans (hb9.mono hB8.size); clear hb9)
            | (go_at_call 15; refine (HMA _ (A7.out.tab.step (by exact (Below.refl _ W7).drew))).out.mono ?_; rintro e W8 ⟨rfl, hb8⟩; have hB8 : Below W7.heap.size W7 W8 := (Below.refl _ W7).drew.trans hb8; clear hb8)
            | (go_at_call 25; refine (HGR _ (B7.out.tab.step hB9)).out.mono ?_; rintro e W10 ⟨rfl, hb10⟩; have hB10 : Below W7.heap.size W7 W10 := hB9.trans (hb10.mono hB9.size); clear hb10))
        have BX := Lib.hid hB10
        go_wp2_with fail
        refine ⟨oF_of _ n c _ m d ta tb _ (k + 1) ⟨hlt, _, _, A7.out.step BX.out, B7.out.step BX.out, TW2.out, LA2.out, by have := LB2.out; omega⟩ rfl, ?_⟩
        simp [intOf]; omega
      case' true.false =>
        go_wp2_with fail
        go_region_held3 (fun W => W.cell? ⟨pa, oa + k * 7 + 5, none⟩ = some (.int .i64 ri))
          (first | exact (hB8.cell (p := ⟨pa, oa + k * 7 + 5, none⟩) hpl).trans r7 | exact (hB9.cell (p := ⟨pa, oa + k * 7 + 5, none⟩) hpl).trans r7 | exact (hB10.cell (p := ⟨pa, oa + k * 7 + 5, none⟩) hpl).trans r7 | go_keep)
          (first
            | (go_at_call 15; refine (HMB _ (B7.out.tab.step hB8)).out.mono ?_; rintro e W9 ⟨rfl, hb9⟩; have hB9 : Below W7.heap.size W7 W9 := hB8.trans (hb9.mono hB8.size); clear hb9)
            | (go_at_call 15; refine (HMA _ (A7.out.tab.step (by exact (Below.refl _ W7).drew))).out.mono ?_; rintro e W8 ⟨rfl, hb8⟩; have hB8 : Below W7.heap.size W7 W8 := (Below.refl _ W7).drew.trans hb8; clear hb8)
            | (go_at_call 25; refine (HGR _ (B7.out.tab.step hB9)).out.mono ?_; rintro e W10 ⟨rfl, hb10⟩; have hB10 : Below W7.heap.size W7 W10 := hB9.trans (hb10.mono hB9.size); clear hb10))
        have BX := Lib.hid hB10
        go_wp2_with fail
        refine ⟨oF_of _ n c _ m d ta tb _ (k + 1) ⟨hlt, _, _, A7.out.step BX.out, B7.out.step BX.out, TW2.out, LA2.out, by have := LB2.out; omega⟩ rfl, ?_⟩
        simp [intOf]; omega
      all_goals
        clear hxyz hzt
        go_wp2_with fail
        refine wp_region_noPanic ?_
        refine wp_region_held_drew (S := (fun W => W.cell? ⟨pa, oa + k * 7 + 5, none⟩ = some (.int .i64 ri))) (by kernel_rfl) ?_ (fun hHeld => ?_)
        · (try dsimp only)
          go_keep
        refine wpAnyH_take (i := 0) (v := ?_) rfl (by kernel_rfl) (by kernel_rfl) (by kernel_rfl) (fun _ _ _ h => h) (Or.inl ⟨by rfl, ?_⟩) (by assumption) ?_
        rotate_left
        · (intro w hSw; (try dsimp only at hSw); (try simp only [List.getElem_toArray, List.getElem_cons_zero]); go_simp; try (with_reducible rfl))
        try simp only [Act.put, List.getElem_toArray, List.getElem_cons_zero, List.setIfInBounds_toArray, List.set_cons_zero, List.set_cons_succ]
        refine wpAnyH_take (i := 1) (v := ?_) rfl (by kernel_rfl) (by kernel_rfl) (by kernel_rfl) (fun _ _ _ h => h) (Or.inl ⟨by rfl, ?_⟩) (by assumption) ?_
        rotate_left
        · (intro w hSw; (try dsimp only at hSw); (try simp only [List.getElem_toArray, List.getElem_cons_zero, List.getElem_cons_succ]); go_simp; try (with_reducible rfl))
        try simp only [Act.put, List.getElem_toArray, List.getElem_cons_zero, List.getElem_cons_succ, List.setIfInBounds_toArray, List.set_cons_zero, List.set_cons_succ]
        refine wpAnyH_take (i := 2) (v := ?_) rfl (by kernel_rfl) (by kernel_rfl) (by kernel_rfl) (fun _ _ _ h => h) (Or.inl ⟨by rfl, ?_⟩) (by assumption) ?_
        rotate_left
        · (intro w hSw; (try dsimp only at hSw); (try simp only [List.getElem_toArray, List.getElem_cons_zero, List.getElem_cons_succ]); go_simp; try (with_reducible rfl))
        try simp only [Act.put, List.getElem_toArray, List.getElem_cons_zero, List.getElem_cons_succ, List.setIfInBounds_toArray, List.set_cons_zero, List.set_cons_succ]
        refine wpAnyH_take (i := 3) (v := ?_) rfl (by kernel_rfl) (by kernel_rfl) (by kernel_rfl) (fun _ _ _ h => h) (Or.inl ⟨by rfl, ?_⟩) (by assumption) ?_
        rotate_left
        · (intro w hSw; (try dsimp only at hSw); (try simp only [List.getElem_toArray, List.getElem_cons_zero, List.getElem_cons_succ]); go_simp; try (with_reducible rfl))
        try simp only [Act.put, List.getElem_toArray, List.getElem_cons_zero, List.getElem_cons_succ, List.setIfInBounds_toArray, List.set_cons_zero, List.set_cons_succ]
        refine wpAnyH_take (i := 4) (v := ?_) rfl (by kernel_rfl) (by kernel_rfl) (by kernel_rfl) (fun _ _ _ h => h) (Or.inl ⟨by rfl, ?_⟩) (by assumption) ?_
        rotate_left
        · (intro w hSw; (try dsimp only at hSw); (try simp only [List.getElem_toArray, List.getElem_cons_zero, List.getElem_cons_succ]); go_simp; try (with_reducible rfl))
        try simp only [Act.put, List.getElem_toArray, List.getElem_cons_zero, List.getElem_cons_succ, List.setIfInBounds_toArray, List.set_cons_zero, List.set_cons_succ]
        refine wpAnyH_take (i := 5) (v := ?_) rfl (by kernel_rfl) (by kernel_rfl) (by kernel_rfl) (fun _ _ _ h => h) (Or.inl ⟨by rfl, ?_⟩) (by assumption) ?_
        rotate_left
        · (intro w hSw; (try dsimp only at hSw); (try simp only [List.getElem_toArray, List.getElem_cons_zero, List.getElem_cons_succ]); go_simp; try (with_reducible rfl))
        try simp only [Act.put, List.getElem_toArray, List.getElem_cons_zero, List.getElem_cons_succ, List.setIfInBounds_toArray, List.set_cons_zero, List.set_cons_succ]
        refine wpAnyH_take (i := 6) (v := ?_) rfl (by kernel_rfl) (by kernel_rfl) (by kernel_rfl) (fun _ _ _ h => h) (Or.inl ⟨by rfl, ?_⟩) (by assumption) ?_
        rotate_left
        · (intro w hSw; (try dsimp only at hSw); (try simp only [List.getElem_toArray, List.getElem_cons_zero, List.getElem_cons_succ]); go_simp; try (with_reducible rfl))
        try simp only [Act.put, List.getElem_toArray, List.getElem_cons_zero, List.getElem_cons_succ, List.setIfInBounds_toArray, List.set_cons_zero, List.set_cons_succ]
        refine wpAnyH_take (i := 7) (v := ?_) rfl (by kernel_rfl) (by kernel_rfl) (by kernel_rfl) (fun _ _ _ h => h) (Or.inl ⟨by rfl, ?_⟩) (by assumption) ?_
        rotate_left
        · (intro w hSw; (try dsimp only at hSw); (try simp only [List.getElem_toArray, List.getElem_cons_zero, List.getElem_cons_succ]); go_simp; try (with_reducible rfl))
        try simp only [Act.put, List.getElem_toArray, List.getElem_cons_zero, List.getElem_cons_succ, List.setIfInBounds_toArray, List.set_cons_zero, List.set_cons_succ]
        refine wpAnyH_take (i := 8) (v := ?_) rfl (by kernel_rfl) (by kernel_rfl) (by kernel_rfl) (fun _ _ _ h => h) (Or.inl ⟨by rfl, ?_⟩) (by assumption) ?_
        rotate_left
        · (intro w hSw; (try dsimp only at hSw); (try simp only [List.getElem_toArray, List.getElem_cons_zero, List.getElem_cons_succ]); go_simp; try (with_reducible rfl))
        try simp only [Act.put, List.getElem_toArray, List.getElem_cons_zero, List.getElem_cons_succ, List.setIfInBounds_toArray, List.set_cons_zero, List.set_cons_succ]
        refine wpAnyH_take (i := 9) (v := ?_) rfl (by kernel_rfl) (by kernel_rfl) (by kernel_rfl) (fun _ _ _ h => h) (Or.inl ⟨by rfl, ?_⟩) (by assumption) ?_
        rotate_left
        · (intro w hSw; (try dsimp only at hSw); (try simp only [List.getElem_toArray, List.getElem_cons_zero, List.getElem_cons_succ]); go_simp; try (with_reducible rfl))
        try simp only [Act.put, List.getElem_toArray, List.getElem_cons_zero, List.getElem_cons_succ, List.setIfInBounds_toArray, List.set_cons_zero, List.set_cons_succ]
        refine wpAnyH_take (i := 11) (v := ?_) rfl (by kernel_rfl) (by kernel_rfl) (by kernel_rfl) (fun _ _ _ h => h) (Or.inl ⟨by rfl, ?_⟩) (by assumption) ?_
        rotate_left
        · (intro w hSw; (try dsimp only at hSw); (try simp only [List.getElem_toArray, List.getElem_cons_zero, List.getElem_cons_succ]); go_simp; try (with_reducible rfl))
        try simp only [Act.put, List.getElem_toArray, List.getElem_cons_zero, List.getElem_cons_succ, List.setIfInBounds_toArray, List.set_cons_zero, List.set_cons_succ]
        refine wpAnyH_take (i := 12) (v := ?_) rfl (by kernel_rfl) (by kernel_rfl) (by kernel_rfl) (fun _ _ _ h => h) (Or.inl ⟨by rfl, ?_⟩) (by assumption) ?_
        rotate_left
        · (intro w hSw; (try dsimp only at hSw); (try simp only [List.getElem_toArray, List.getElem_cons_zero, List.getElem_cons_succ]); go_simp; try (with_reducible rfl))
        try simp only [Act.put, List.getElem_toArray, List.getElem_cons_zero, List.getElem_cons_succ, List.setIfInBounds_toArray, List.set_cons_zero, List.set_cons_succ]
        refine wpAnyH_take (i := 13) (v := ?_) rfl (by kernel_rfl) (by kernel_rfl) (by kernel_rfl) (fun _ _ _ h => h) (Or.inl ⟨by rfl, ?_⟩) (by assumption) ?_
        rotate_left
        · (intro w hSw; (try dsimp only at hSw); (try simp only [List.getElem_toArray, List.getElem_cons_zero, List.getElem_cons_succ]); go_simp; try (with_reducible rfl))
        try simp only [Act.put, List.getElem_toArray, List.getElem_cons_zero, List.getElem_cons_succ, List.setIfInBounds_toArray, List.set_cons_zero, List.set_cons_succ]
        refine wpAnyH_take (i := 14) (v := ?_) rfl (by kernel_rfl) (by kernel_rfl) (by kernel_rfl) (fun _ _ _ h => h) (Or.inl ⟨by rfl, ?_⟩) (by assumption) ?_
        rotate_left
        · (intro w hSw; (try dsimp only at hSw); (try simp only [List.getElem_toArray, List.getElem_cons_zero, List.getElem_cons_succ]); go_simp; try (with_reducible rfl))
        try simp only [Act.put, List.getElem_toArray, List.getElem_cons_zero, List.getElem_cons_succ, List.setIfInBounds_toArray, List.set_cons_zero, List.set_cons_succ]
        refine wpAnyH_take (i := 15) (v := ?_) rfl (by kernel_rfl) (by kernel_rfl) (by kernel_rfl) (fun _ _ _ h => h) (Or.inl ⟨by rfl, ?_⟩) (by assumption) ?_
        rotate_left
        · (intro w hSw; (try dsimp only at hSw); (try simp only [List.getElem_toArray, List.getElem_cons_zero, List.getElem_cons_succ]); go_simp; try (with_reducible rfl))
        try simp only [Act.put, List.getElem_toArray, List.getElem_cons_zero, List.getElem_cons_succ, List.setIfInBounds_toArray, List.set_cons_zero, List.set_cons_succ]
        refine wpAnyH_take (i := 16) (v := ?_) rfl (by kernel_rfl) (by kernel_rfl) (by kernel_rfl) (fun _ _ _ h => h) (Or.inl ⟨by rfl, ?_⟩) (by assumption) ?_
        rotate_left
        · (intro w hSw; (try dsimp only at hSw); (try simp only [List.getElem_toArray, List.getElem_cons_zero, List.getElem_cons_succ]); go_simp; try (with_reducible rfl))
        try simp only [Act.put, List.getElem_toArray, List.getElem_cons_zero, List.getElem_cons_succ, List.setIfInBounds_toArray, List.set_cons_zero, List.set_cons_succ]
        refine wpAnyH_ready (rs := [10]) (by kernel_rfl) (by simp) ?_
        refine AllReadyH.cons rfl (fun K hK => ?_) AllReadyH.nil
        (try simp only [List.getElem_toArray, List.getElem_cons_zero, List.getElem_cons_succ]); go_simp
        (go_at_call 15; refine (HMA _ (A7.out.tab.step (by exact (Below.refl _ W7).drew))).out.mono ?_; rintro e W8 ⟨rfl, hb8⟩; have hB8 : Below W7.heap.size W7 W8 := (Below.refl _ W7).drew.trans hb8; clear hb8)
        try (go_wp2_with fail)
        refine hK.out _ _ ?_ (fun hHeld => ?_)
        · ((try dsimp only); exact (hB8.cell (p := ⟨pa, oa + k * 7 + 5, none⟩) hpl).trans r7)
        clear hK K
        try simp only [Act.put, List.getElem_toArray, List.getElem_cons_zero, List.getElem_cons_succ, List.setIfInBounds_toArray, List.set_cons_zero, List.set_cons_succ]
        refine wpAnyH_ready (rs := [17]) (by kernel_rfl) (by simp) ?_
        refine AllReadyH.cons rfl (fun K hK => ?_) AllReadyH.nil
        (try simp only [List.getElem_toArray, List.getElem_cons_zero, List.getElem_cons_succ]); go_simp
        (go_at_call 15; refine (HMB _ (B7.out.tab.step hB8)).out.mono ?_; rintro e W9 ⟨rfl, hb9⟩; have hB9 : Below W7.heap.size W7 W9 := hB8.trans (hb9.mono hB8.size); clear hb9)
        try (go_wp2_with fail)
        refine hK.out _ _ ?_ (fun hHeld => ?_)
        · ((try dsimp only); exact (hB9.cell (p := ⟨pa, oa + k * 7 + 5, none⟩) hpl).trans r7)
        clear hK K
        try simp only [Act.put, List.getElem_toArray, List.getElem_cons_zero, List.getElem_cons_succ, List.setIfInBounds_toArray, List.set_cons_zero, List.set_cons_succ]
        refine wpAnyH_take (i := 18) (v := ?_) rfl (by kernel_rfl) (by kernel_rfl) (by kernel_rfl) (fun _ _ _ h => h) (Or.inl ⟨by rfl, ?_⟩) (by assumption) ?_
        rotate_left
        · (intro w hSw; (try dsimp only at hSw); (try simp only [List.getElem_toArray, List.getElem_cons_zero, List.getElem_cons_succ]); go_simp; try (with_reducible rfl))
        try simp only [Act.put, List.getElem_toArray, List.getElem_cons_zero, List.getElem_cons_succ, List.setIfInBounds_toArray, List.set_cons_zero, List.set_cons_succ]
        refine wpAnyH_take (i := 19) (v := ?_) rfl (by kernel_rfl) (by kernel_rfl) (by kernel_rfl) (fun _ _ _ h => h) (Or.inl ⟨by rfl, ?_⟩) (by assumption) ?_
        rotate_left
        · (intro w hSw; (try dsimp only at hSw); (try simp only [List.getElem_toArray, List.getElem_cons_zero, List.getElem_cons_succ]); go_simp; try (with_reducible rfl))
        try simp only [Act.put, List.getElem_toArray, List.getElem_cons_zero, List.getElem_cons_succ, List.setIfInBounds_toArray, List.set_cons_zero, List.set_cons_succ]
        refine wpAnyH_take (i := 20) (v := undef) rfl (by kernel_rfl) (by kernel_rfl) (by kernel_rfl) (fun _ _ _ h => h) (Or.inr ⟨by rfl, rfl⟩) (by assumption) ?_
        try simp only [Act.put, List.getElem_toArray, List.getElem_cons_zero, List.getElem_cons_succ, List.setIfInBounds_toArray, List.set_cons_zero, List.set_cons_succ]
        refine wpAnyH_take (i := 21) (v := undef) rfl (by kernel_rfl) (by kernel_rfl) (by kernel_rfl) (fun _ _ _ h => h) (Or.inr ⟨by rfl, rfl⟩) (by assumption) ?_
        try simp only [Act.put, List.getElem_toArray, List.getElem_cons_zero, List.getElem_cons_succ, List.setIfInBounds_toArray, List.set_cons_zero, List.set_cons_succ]
        refine wpAnyH_take (i := 22) (v := undef) rfl (by kernel_rfl) (by kernel_rfl) (by kernel_rfl) (fun _ _ _ h => h) (Or.inr ⟨by rfl, rfl⟩) (by assumption) ?_
        try simp only [Act.put, List.getElem_toArray, List.getElem_cons_zero, List.getElem_cons_succ, List.setIfInBounds_toArray, List.set_cons_zero, List.set_cons_succ]
        refine wpAnyH_take (i := 23) (v := ?_) rfl (by kernel_rfl) (by kernel_rfl) (by kernel_rfl) (fun _ _ _ h => h) (Or.inl ⟨by rfl, ?_⟩) (by assumption) ?_
        rotate_left
        · (intro w hSw; (try dsimp only at hSw); (try simp only [List.getElem_toArray, List.getElem_cons_zero, List.getElem_cons_succ]); go_simp; try (with_reducible rfl))
        try simp only [Act.put, List.getElem_toArray, List.getElem_cons_zero, List.getElem_cons_succ, List.setIfInBounds_toArray, List.set_cons_zero, List.set_cons_succ]
        refine wpAnyH_take (i := 24) (v := ?_) rfl (by kernel_rfl) (by kernel_rfl) (by kernel_rfl) (fun _ _ _ h => h) (Or.inl ⟨by rfl, ?_⟩) (by assumption) ?_
        rotate_left
        · (intro w hSw; (try dsimp only at hSw); (try simp only [List.getElem_toArray, List.getElem_cons_zero, List.getElem_cons_succ]); go_simp; try (with_reducible rfl))
        try simp only [Act.put, List.getElem_toArray, List.getElem_cons_zero, List.getElem_cons_succ, List.setIfInBounds_toArray, List.set_cons_zero, List.set_cons_succ]
        refine wpAnyH_done (by kernel_rfl) ?_ _
        refine NoPanic.normal ?_
        have BX := Lib.hid hB9
        go_wp2_with fail
        refine ⟨oF_of _ n c _ m d ta tb _ (k + 1) ⟨hlt, _, _, A7.out.step BX.out, B7.out.step BX.out, TW2.out, LA2.out, by have := LB2.out; omega⟩ rfl, ?_⟩
        simp [intOf]; omega
  · have hge : ¬ (k : Int) < n := by omega
    go_wp2_with fail
    refine (known_any _).mono ?_
    rintro e w9 ⟨rfl, hb9⟩
    have B9 := Lib.hid (TA.out.below.trans (hb9.mono TA.out.below.size))
    clear hb9
    go_wp2_with fail
    go_ret
    exact ⟨rfl, B9.out⟩
end Go.Proofs.Ytgpmkllhljngfaa
