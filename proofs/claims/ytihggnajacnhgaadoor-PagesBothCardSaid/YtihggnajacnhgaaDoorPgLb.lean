/- The law PagesBoth. -/
import Derived.Test.YtihggnajacnhgaaDoorPgBm
import Derived.Test.YtihggnajacnhgaaDoorPgLa
namespace Go.Proofs.YtihggnajacnhgaaDoor
open Go.RowKit

theorem entTo_le (T : Tb) : ∀ s, entTo T s ≤ 32 * s
  | 0 => Nat.le_refl _
  | s + 1 => by
    have h1 := entTo_le T s
    have h2 := countK_le T s 32
    show entTo T s + countK T s 32 ≤ _
    omega
theorem allTo_le (T : Tb) : ∀ f, allTo T f ≤ 512 * f
  | 0 => Nat.le_refl _
  | f + 1 => by
    have h1 := allTo_le T f
    have h2 := countTo_le T f 16
    show allTo T f + countTo T f 16 ≤ _
    omega
theorem ask_x {w : World} {t b N : Nat} {T : Tb} (h : PT w t b N T) (s : Int) (a : Nat) (r x : Int) (hx : x = (a : Int)) (ha : a < 4294967296) {E F P : Int} (he : askE T s a r = E ∧ askF T s a r = F ∧ askP T s a r = P) :
    Calls Tryd.prog 19 #[.pointer (some ⟨t, 0, none⟩), .int .i64 s, .int .u32 x, .int .i64 r] w fun e w' => e = .returned (.tuple #[.int .i64 F, .int .i64 P, .int .i64 E]) ∧ Turned w w' [t] := by
  obtain ⟨rfl, rfl, rfl⟩ := he
  subst hx
  refine (ask_any h s a r ha).mono ?_
  rintro e w' ⟨rfl, h1, h2⟩
  exact ⟨rfl, h2⟩
/-- What Ask says of an entry at its eighth byte. -/
theorem ask_at {T : Tb} {s p : Nat} (hs : s < 16) (hp : p < 32) {r : Int} (hr : r = 1 ∨ r = 2 ∨ r = 4) :
    askE T s (256 * p + 7) r = (if (T s p).is then (if bits .and .i64 (T s p).ri r = 0 then 8 else 0) else 10) := by
  have h1 : (256 * p + 7) / 256 = p := by omega
  have hsb : spaceB s = true := (spaceB_iff _).2 ⟨by omega, by omega⟩
  have hrb : rightB r = true := by unfold rightB; rcases hr with rfl | rfl | rfl <;> rfl
  unfold askE
  rw [hsb, hrb, if_pos (show (true && true) = true from rfl), h1, takE_of hs hp]
  unfold atT
  simp only [Int.toNat_natCast]
  cases (T s p).is <;> simp
theorem ask_row {T : Tb} {s p : Nat} (hs : s < 16) (hp : p < 32) {r : Int} (hr : r = 1 ∨ r = 2 ∨ r = 4) {E : Ent} (hE : T s p = E) :
    (E.is = false → askE T s (256 * p + 7) r = 10 ∧ askF T s (256 * p + 7) r = 0 ∧ askP T s (256 * p + 7) r = 0) ∧
    (E.is = true → bits .and .i64 E.ri r = 0 → askE T s (256 * p + 7) r = 8 ∧ askF T s (256 * p + 7) r = 0 ∧ askP T s (256 * p + 7) r = 0) ∧
    (E.is = true → bits .and .i64 E.ri r = r → askE T s (256 * p + 7) r = 0 ∧ askF T s (256 * p + 7) r = E.fr ∧ askP T s (256 * p + 7) r = 7) := by
  have h := ask_at (T := T) hs hp hr
  have h1 : (256 * p + 7) / 256 = p := by omega
  have h2 : (256 * p + 7) % 256 = 7 := by omega
  rw [hE] at h
  unfold askF askP
  refine ⟨fun hi => ?_, fun hi hb => ?_, fun hi hb => ?_⟩
  · rw [hi] at h
    have h : askE T s (256 * p + 7) r = 10 := h
    rw [h]; exact ⟨rfl, rfl, rfl⟩
  · rw [hi, if_pos rfl, if_pos hb] at h
    rw [h]; exact ⟨rfl, rfl, rfl⟩
  · rw [hi, if_pos rfl, if_neg (by rw [hb]; rcases hr with rfl | rfl | rfl <;> decide)] at h
    rw [h, h1, h2, if_pos rfl, if_pos rfl]
    refine ⟨rfl, ?_, rfl⟩
    show (T ((s : Int).toNat) ((p : Int).toNat)).fr = E.fr
    simp only [Int.toNat_natCast]
    rw [hE]
theorem spots_base {w : World} {base : Nat} {v : Value} {l : List (Nat × Nat)} (h : w.ownsRow base 52 2 v l.length (l.flatMap spotC)) :
    ∃ a c, v = .slice a l.length c ∧ ∀ (i s p : Nat), l[i]? = some (s, p) → ∃ g, a = some ⟨g, 0, none⟩ ∧ g < w.heap.size ∧ w.cell? ⟨g, i * 2, none⟩ = some (.int .i64 s) ∧ w.cell? ⟨g, i * 2 + 1, none⟩ = some (.int .i64 p) := by
  by_cases hn : l.length = 0
  · obtain ⟨-, h2 | ⟨g, cap, cur, rfl, -⟩⟩ := h
    · refine ⟨none, 0, by rw [hn]; exact h2.1, fun i s p hi => ?_⟩
      rw [List.length_eq_zero_iff.1 hn] at hi
      simp at hi
    · refine ⟨_, _, rfl, fun i s p hi => ?_⟩
      rw [List.length_eq_zero_iff.1 hn] at hi
      simp at hi
  · obtain ⟨g, cap, cur, rfl, -, h4, h5⟩ := owns_open h hn
    refine ⟨_, _, rfl, fun i s p hi => ⟨g, rfl, lt_of_box h4, ?_, ?_⟩⟩
    · rw [cell_of_row _ _ _ _ _ _ h4]; exact h5 _ _ (spots_at l i s p hi).1
    · rw [cell_of_row _ _ _ _ _ _ h4]; exact h5 _ _ (spots_at l i s p hi).2
theorem Tryd.ix0 (w : World) : (Instr.index 43 (.agg #[.int .i64 1, .int .i64 2, .int .i64 4]) (.int .i64 0)).run Tryd.prog w = .ok (.int .i64 1) w := by kernel_rfl
theorem Tryd.ix1 (w : World) : (Instr.index 43 (.agg #[.int .i64 1, .int .i64 2, .int .i64 4]) (.int .i64 1)).run Tryd.prog w = .ok (.int .i64 2) w := by kernel_rfl
theorem Tryd.ix2 (w : World) : (Instr.index 43 (.agg #[.int .i64 1, .int .i64 2, .int .i64 4]) (.int .i64 2)).run Tryd.prog w = .ok (.int .i64 4) w := by kernel_rfl
section
variable {wr W : World} {m : Nat}
theorem ta {o : Obj} (h : Turned wr W []) : Turned wr (W.alloc o) [] := h.trans (Turned.of_below _ ((Below.refl _ _).alloc (Nat.le_refl _) _))
theorem td (h : Turned wr W []) : Turned wr W.drew [] := h.trans (Turned.of_below _ ((Below.refl _ _).drew))
theorem tf {a b c d : Value} (hm : wr.heap.size ≤ m) (h : Turned wr W []) : Turned wr ((((W.setCell ⟨m, 0, none⟩ a).setCell ⟨m, 1, none⟩ b).setCell ⟨m, 2, none⟩ c).setCell ⟨m, 3, none⟩ d) [] :=
  (((h.fresh hm _).fresh hm _).fresh hm _).fresh hm _
theorem tl (h : Turned wr W []) : Below wr.heap.size wr W := h.below (Nat.le_refl _) (fun g hg => by cases hg)
theorem get_v {w0 : World} {t b N : Nat} {T : Tb} {L : List (Nat × Obj)} (K : Kn w0 W t b N T L) (s p : Int) {E : Ent} {B : Bool} (h : getO T s p = E ∧ gotB T s p = B) :
    Calls Tryd.prog 16 #[.pointer (some ⟨t, 0, none⟩), .int .i64 s, .int .i64 p] W fun e w' => e = .returned (.tuple #[.agg #[.int .i64 E.fr, .int .i64 E.ri, .bool E.tc, .bool E.wr], .bool B]) ∧ Below W.heap.size W w' := by
  obtain ⟨rfl, rfl⟩ := h
  exact get_any K.pt s p
end
theorem Kn.copied {w0 w w1 w2 : World} {t b N t2 : Nat} {T : Tb} {L : List (Nat × Obj)} (K : Kn w0 w t b N T L) (h1 : Below w.heap.size w w1) (h2 : Turned w1 w2 [t2]) (ht : w.heap.size ≤ t2) : Kn w0 w2 t b N T L :=
  K.same (h1.trans (h2.below h1.size (fun g hg => by simp at hg; omega)))
set_option maxRecDepth 100000 in
set_option maxHeartbeats 4000000 in
theorem both_law {w : World} {A : Option Addr} {n c : Nat} {R : Nat → Stp} (h : StepsOf7 w A n R) (hz : TzTab w) :
    Calls Tryd.prog 7 #[.slice A n c] w fun e w' => e = .returned (.bool true) ∧ Below w.heap.size w w' := by
  have H := Lib.hid h
  have HZ := Lib.hid hz
  clear h hz
  go_enter Tryd.func7, Tryd.ntmps7
  go_wp2_with fail
  refine (known_any _ HZ.out).mono ?_
  rintro e w1 ⟨rfl, hb⟩
  have HB1 := Lib.hid hb
  have HZ1 := Lib.hid (HZ.out.below hb HZ.out.lt)
  have HG := Lib.hid (grown_any (c := c) (H.out.below hb))
  clear hb
  go_wp2_with fail
  refine HG.out.mono ?_
  rintro e w2 ⟨t, b, q, N, k1, rfl, -, hN, hd1⟩
  obtain ⟨T, hT⟩ : ∃ T, grownT R k1 = T := ⟨_, rfl⟩
  rw [hT] at hd1
  have K := Lib.hid (hd1.kn'.less (L' := []) (fun x hx => by cases hx))
  have hok := hd1.pt.ok
  have OK := Lib.hid hok
  clear hd1 hT HG hok
  go_wp2_with fail
  go_loopw [6, 8] (fun x y wr => ∃ s : Nat, s ≤ 16 ∧ x = .int .i64 (entTo T s : Nat) ∧ y = .int .i64 s ∧ Kn w1 wr t b N T []) (fun _ y _ => 16 - (intOf y).toNat)
  case atStart => exact ⟨0, Nat.zero_le _, rfl, rfl, K.out⟩
  case round =>
    obtain ⟨s, hs, rfl, rfl, hkn⟩ := hrel
    have K := Lib.hid hkn
    clear hkn
    by_cases hs16 : s < 16
    · have hs' : (s : Int) < 16 := by omega
      obtain ⟨base, hbase⟩ : ∃ base, entTo T s = base := ⟨_, rfl⟩
      have hble : base ≤ 512 := by have := entTo_le T s; omega
      have HBASE := Lib.hid hbase
      rw [hbase]
      clear hbase
      go_wp2_with fail
      go_loopw [6, 9] (fun x y wr => ∃ p : Nat, p ≤ 32 ∧ x = .int .i64 (base + countK T s p : Nat) ∧ y = .int .i64 p ∧ Kn w1 wr t b N T []) (fun _ y _ => 32 - (intOf y).toNat)
      case atStart => exact ⟨0, Nat.zero_le _, rfl, rfl, K.out⟩
      case round =>
        rename_i wr3
        obtain ⟨p, hp, rfl, rfl, hkn⟩ := hrel
        have K := Lib.hid hkn
        clear hkn
        by_cases hp32 : p < 32
        · have hp' : (p : Int) < 32 := by omega
          have hcl := countK_le T s p
          have hcs := countK_succ T s p
          obtain ⟨cnt, hcnt⟩ : ∃ cnt, base + countK T s p = cnt := ⟨_, rfl⟩
          have hcb : cnt ≤ 600 := by omega
          have HC := Lib.hid (⟨hcnt, hcs⟩ : base + countK T s p = cnt ∧ countK T s (p + 1) = countK T s p + (if (T s p).is then 1 else 0))
          rw [hcnt]
          have hg := getO_nat OK.out hs16 hp32
          have ha := fun r hr => ask_at (T := T) hs16 hp32 (r := r) hr
          have heo := OK.out.ok s p
          obtain ⟨E, hE⟩ : ∃ E, T s p = E := ⟨_, rfl⟩
          rw [hE] at hg heo
          have HA := Lib.hid ha
          have HE := Lib.hid hE
          have HGE := Lib.hid hg
          have HEO := Lib.hid heo
          clear hcl hcs hcnt hg ha hE heo
          obtain ⟨is, his⟩ : ∃ is, E.is = is := ⟨_, rfl⟩
          have HIS := Lib.hid his
          rw [his] at HGE
          clear his
          go_wp2_with fail
          refine (kn_get K.out s p HGE.out).mono ?_
          rintro e w5 ⟨rfl, hk⟩
          have K := Lib.hid (hk.alloc #[.int .i64 E.fr, .int .i64 E.ri, .bool E.tc, .bool E.wr] 38)
          have hlt5 : w5.heap.size < (w5.alloc (.cells #[.int .i64 E.fr, .int .i64 E.ri, .bool E.tc, .bool E.wr] 38)).heap.size := by simp
          clear hk
          obtain ⟨cnt', hcnt'⟩ : ∃ cnt', cnt + (if is then 1 else 0) = cnt' := ⟨_, rfl⟩
          have HC' := Lib.hid hcnt'
          have HEIS := Lib.hid (show (T s p).is = is by rw [HE.out]; exact HIS.out)
          cases is with
          | false =>
            have HEI : Hid (E.is = false) := HIS
            go_wp2_with fail
            go_loopw [51] (fun x wr => ∃ r : Nat, r ≤ 3 ∧ x = .int .i64 r ∧ Kn w1 wr t b N T [(w5.heap.size, .cells #[.int .i64 E.fr, .int .i64 E.ri, .bool E.tc, .bool E.wr] 38 (0, 0))]) (fun x _ => 3 - (intOf x).toNat)
            case atStart => exact ⟨0, by omega, rfl, K.out⟩
            case round =>
              obtain ⟨r, hr, rfl, hkn⟩ := hrel
              have K := Lib.hid hkn
              clear hkn
              rcases (show r = 0 ∨ r = 1 ∨ r = 2 ∨ r = 3 by omega) with rfl | rfl | rfl | rfl
              · have hix0 := Tryd.ix0
                have hix1 := Tryd.ix1
                have hix2 := Tryd.ix2
                go_wp2_with fail
                clear hix0 hix1 hix2
                refine (copy_any K.out.pt).mono ?_
                rintro e w7 ⟨t2, b2, rfl, hp2, ht2, hb2, htr⟩
                have HASK := Lib.hid (ask_x hp2 s (256 * p + 7) 1 (256 * (p : Int) + 7) (by omega) (by omega) ((ask_row hs16 hp32 (r := 1) (by decide) HE.out).1 HEI.out))
                clear hp2 hb2
                go_wp2_with fail
                refine HASK.out.mono ?_
                rintro e w8 ⟨rfl, hta⟩
                have K := Lib.hid (K.out.copied htr hta ht2)
                obtain ⟨⟨x0, x1, x2, x3⟩, -, xl⟩ := four_of (K.out.box _ (List.mem_cons_self ..)).1
                clear htr hta ht2 HASK
                go_wp2_with (go_at_call 20; refine (num_any _ _).mono ?_; rintro e w' ⟨rfl, rfl⟩)
                go_roundw
                case rel => exact ⟨1, by omega, rfl, K.out⟩
                case measure => simp [intOf]
              · have hix0 := Tryd.ix0
                have hix1 := Tryd.ix1
                have hix2 := Tryd.ix2
                go_wp2_with fail
                clear hix0 hix1 hix2
                refine (copy_any K.out.pt).mono ?_
                rintro e w7 ⟨t2, b2, rfl, hp2, ht2, hb2, htr⟩
                have HASK := Lib.hid (ask_x hp2 s (256 * p + 7) 2 (256 * (p : Int) + 7) (by omega) (by omega) ((ask_row hs16 hp32 (r := 2) (by decide) HE.out).1 HEI.out))
                clear hp2 hb2
                go_wp2_with fail
                refine HASK.out.mono ?_
                rintro e w8 ⟨rfl, hta⟩
                have K := Lib.hid (K.out.copied htr hta ht2)
                obtain ⟨⟨x0, x1, x2, x3⟩, -, xl⟩ := four_of (K.out.box _ (List.mem_cons_self ..)).1
                clear htr hta ht2 HASK
                go_wp2_with (go_at_call 20; refine (num_any _ _).mono ?_; rintro e w' ⟨rfl, rfl⟩)
                go_roundw
                case rel => exact ⟨2, by omega, rfl, K.out⟩
                case measure => simp [intOf]
              · have hix0 := Tryd.ix0
                have hix1 := Tryd.ix1
                have hix2 := Tryd.ix2
                go_wp2_with fail
                clear hix0 hix1 hix2
                refine (copy_any K.out.pt).mono ?_
                rintro e w7 ⟨t2, b2, rfl, hp2, ht2, hb2, htr⟩
                have HASK := Lib.hid (ask_x hp2 s (256 * p + 7) 4 (256 * (p : Int) + 7) (by omega) (by omega) ((ask_row hs16 hp32 (r := 4) (by decide) HE.out).1 HEI.out))
                clear hp2 hb2
                go_wp2_with fail
                refine HASK.out.mono ?_
                rintro e w8 ⟨rfl, hta⟩
                have K := Lib.hid (K.out.copied htr hta ht2)
                obtain ⟨⟨x0, x1, x2, x3⟩, -, xl⟩ := four_of (K.out.box _ (List.mem_cons_self ..)).1
                clear htr hta ht2 HASK
                go_wp2_with (go_at_call 20; refine (num_any _ _).mono ?_; rintro e w' ⟨rfl, rfl⟩)
                go_roundw
                case rel => exact ⟨3, by omega, rfl, K.out⟩
                case measure => simp [intOf]
              · have hlt5' := hlt5
                go_wp2_with fail
                go_roundw
                case rel => exact ⟨p + 1, by omega, by rw [HC.out.2, HEIS.out]; show Value.int .i64 _ = _; congr 1; have := HC.out.1; have := HC'.out; simp at this ⊢; omega, by go_num, K.out.less (fun x hx => by cases hx)⟩
                case measure => simp [intOf]; omega
          | true =>
            have HEI : Hid (E.is = true) := HIS
            go_wp2_with fail
            go_loopw [51] (fun x wr => ∃ r : Nat, r ≤ 3 ∧ x = .int .i64 r ∧ Kn w1 wr t b N T [(w5.heap.size, .cells #[.int .i64 E.fr, .int .i64 E.ri, .bool E.tc, .bool E.wr] 38 (0, 0))]) (fun x _ => 3 - (intOf x).toNat)
            case atStart => exact ⟨0, by omega, rfl, K.out⟩
            case round =>
              obtain ⟨r, hr, rfl, hkn⟩ := hrel
              have K := Lib.hid hkn
              clear hkn
              rcases (show r = 0 ∨ r = 1 ∨ r = 2 ∨ r = 3 by omega) with rfl | rfl | rfl | rfl
              · rcases right_bits (r := 1) HEO.out.r0 HEO.out.r1 (by decide) with hbit | hbit
                · have hix0 := Tryd.ix0
                  have hix1 := Tryd.ix1
                  have hix2 := Tryd.ix2
                  go_wp2_with fail
                  clear hix0 hix1 hix2
                  refine (copy_any K.out.pt).mono ?_
                  rintro e w7 ⟨t2, b2, rfl, hp2, ht2, hb2, htr⟩
                  have HASK := Lib.hid (ask_x hp2 s (256 * p + 7) 1 (256 * (p : Int) + 7) (by omega) (by omega) ((ask_row hs16 hp32 (r := 1) (by decide) HE.out).2.1 HEI.out hbit))
                  clear hp2 hb2
                  go_wp2_with fail
                  refine HASK.out.mono ?_
                  rintro e w8 ⟨rfl, hta⟩
                  have K := Lib.hid (K.out.copied htr hta ht2)
                  obtain ⟨⟨x0, x1, x2, x3⟩, -, xl⟩ := four_of (K.out.box _ (List.mem_cons_self ..)).1
                  clear htr hta ht2 HASK
                  go_wp2_with (go_at_call 20; refine (num_any _ _).mono ?_; rintro e w' ⟨rfl, rfl⟩)
                  go_roundw
                  case rel => exact ⟨1, by omega, rfl, K.out⟩
                  case measure => simp [intOf]
                · have hix0 := Tryd.ix0
                  have hix1 := Tryd.ix1
                  have hix2 := Tryd.ix2
                  go_wp2_with fail
                  clear hix0 hix1 hix2
                  refine (copy_any K.out.pt).mono ?_
                  rintro e w7 ⟨t2, b2, rfl, hp2, ht2, hb2, htr⟩
                  have HASK := Lib.hid (ask_x hp2 s (256 * p + 7) 1 (256 * (p : Int) + 7) (by omega) (by omega) ((ask_row hs16 hp32 (r := 1) (by decide) HE.out).2.2 HEI.out hbit))
                  clear hp2 hb2
                  go_wp2_with fail
                  refine HASK.out.mono ?_
                  rintro e w8 ⟨rfl, hta⟩
                  have K := Lib.hid (K.out.copied htr hta ht2)
                  obtain ⟨⟨x0, x1, x2, x3⟩, -, xl⟩ := four_of (K.out.box _ (List.mem_cons_self ..)).1
                  clear htr hta ht2 HASK
                  go_wp2_with (go_at_call 20; refine (num_any _ _).mono ?_; rintro e w' ⟨rfl, rfl⟩)
                  go_roundw
                  case rel => exact ⟨1, by omega, rfl, K.out⟩
                  case measure => simp [intOf]
              · rcases right_bits (r := 2) HEO.out.r0 HEO.out.r1 (by decide) with hbit | hbit
                · have hix0 := Tryd.ix0
                  have hix1 := Tryd.ix1
                  have hix2 := Tryd.ix2
                  go_wp2_with fail
                  clear hix0 hix1 hix2
                  refine (copy_any K.out.pt).mono ?_
                  rintro e w7 ⟨t2, b2, rfl, hp2, ht2, hb2, htr⟩
                  have HASK := Lib.hid (ask_x hp2 s (256 * p + 7) 2 (256 * (p : Int) + 7) (by omega) (by omega) ((ask_row hs16 hp32 (r := 2) (by decide) HE.out).2.1 HEI.out hbit))
                  clear hp2 hb2
                  go_wp2_with fail
                  refine HASK.out.mono ?_
                  rintro e w8 ⟨rfl, hta⟩
                  have K := Lib.hid (K.out.copied htr hta ht2)
                  obtain ⟨⟨x0, x1, x2, x3⟩, -, xl⟩ := four_of (K.out.box _ (List.mem_cons_self ..)).1
                  clear htr hta ht2 HASK
                  go_wp2_with (go_at_call 20; refine (num_any _ _).mono ?_; rintro e w' ⟨rfl, rfl⟩)
                  go_roundw
                  case rel => exact ⟨2, by omega, rfl, K.out⟩
                  case measure => simp [intOf]
                · have hix0 := Tryd.ix0
                  have hix1 := Tryd.ix1
                  have hix2 := Tryd.ix2
                  go_wp2_with fail
                  clear hix0 hix1 hix2
                  refine (copy_any K.out.pt).mono ?_
                  rintro e w7 ⟨t2, b2, rfl, hp2, ht2, hb2, htr⟩
                  have HASK := Lib.hid (ask_x hp2 s (256 * p + 7) 2 (256 * (p : Int) + 7) (by omega) (by omega) ((ask_row hs16 hp32 (r := 2) (by decide) HE.out).2.2 HEI.out hbit))
                  clear hp2 hb2
                  go_wp2_with fail
                  refine HASK.out.mono ?_
                  rintro e w8 ⟨rfl, hta⟩
                  have K := Lib.hid (K.out.copied htr hta ht2)
                  obtain ⟨⟨x0, x1, x2, x3⟩, -, xl⟩ := four_of (K.out.box _ (List.mem_cons_self ..)).1
                  clear htr hta ht2 HASK
                  go_wp2_with (go_at_call 20; refine (num_any _ _).mono ?_; rintro e w' ⟨rfl, rfl⟩)
                  go_roundw
                  case rel => exact ⟨2, by omega, rfl, K.out⟩
                  case measure => simp [intOf]
              · rcases right_bits (r := 4) HEO.out.r0 HEO.out.r1 (by decide) with hbit | hbit
                · have hix0 := Tryd.ix0
                  have hix1 := Tryd.ix1
                  have hix2 := Tryd.ix2
                  go_wp2_with fail
                  clear hix0 hix1 hix2
                  refine (copy_any K.out.pt).mono ?_
                  rintro e w7 ⟨t2, b2, rfl, hp2, ht2, hb2, htr⟩
                  have HASK := Lib.hid (ask_x hp2 s (256 * p + 7) 4 (256 * (p : Int) + 7) (by omega) (by omega) ((ask_row hs16 hp32 (r := 4) (by decide) HE.out).2.1 HEI.out hbit))
                  clear hp2 hb2
                  go_wp2_with fail
                  refine HASK.out.mono ?_
                  rintro e w8 ⟨rfl, hta⟩
                  have K := Lib.hid (K.out.copied htr hta ht2)
                  obtain ⟨⟨x0, x1, x2, x3⟩, -, xl⟩ := four_of (K.out.box _ (List.mem_cons_self ..)).1
                  clear htr hta ht2 HASK
                  go_wp2_with (go_at_call 20; refine (num_any _ _).mono ?_; rintro e w' ⟨rfl, rfl⟩)
                  go_roundw
                  case rel => exact ⟨3, by omega, rfl, K.out⟩
                  case measure => simp [intOf]
                · have hix0 := Tryd.ix0
                  have hix1 := Tryd.ix1
                  have hix2 := Tryd.ix2
                  go_wp2_with fail
                  clear hix0 hix1 hix2
                  refine (copy_any K.out.pt).mono ?_
                  rintro e w7 ⟨t2, b2, rfl, hp2, ht2, hb2, htr⟩
                  have HASK := Lib.hid (ask_x hp2 s (256 * p + 7) 4 (256 * (p : Int) + 7) (by omega) (by omega) ((ask_row hs16 hp32 (r := 4) (by decide) HE.out).2.2 HEI.out hbit))
                  clear hp2 hb2
                  go_wp2_with fail
                  refine HASK.out.mono ?_
                  rintro e w8 ⟨rfl, hta⟩
                  have K := Lib.hid (K.out.copied htr hta ht2)
                  obtain ⟨⟨x0, x1, x2, x3⟩, -, xl⟩ := four_of (K.out.box _ (List.mem_cons_self ..)).1
                  clear htr hta ht2 HASK
                  go_wp2_with (go_at_call 20; refine (num_any _ _).mono ?_; rintro e w' ⟨rfl, rfl⟩)
                  go_roundw
                  case rel => exact ⟨3, by omega, rfl, K.out⟩
                  case measure => simp [intOf]
              · have hlt5' := hlt5
                go_wp2_with fail
                go_roundw
                case rel => exact ⟨p + 1, by omega, by rw [HC.out.2, HEIS.out]; show Value.int .i64 _ = _; congr 1; have := HC.out.1; have := HC'.out; simp at this ⊢; omega, by go_num, K.out.less (fun x hx => by cases hx)⟩
                case measure => simp [intOf]; omega
        · have hp' : ¬ (p : Int) < 32 := by omega
          obtain rfl : p = 32 := by omega
          have hcl := countK_le T s 32
          obtain ⟨cnt, hcnt⟩ : ∃ cnt, base + countK T s 32 = cnt := ⟨_, rfl⟩
          have HC := Lib.hid hcnt
          rw [hcnt]
          clear hcl hcnt
          go_wp2_with fail
          go_roundw
          case rel => exact ⟨s + 1, by omega, by show _ = Value.int .i64 ((entTo T s + countK T s 32 : Nat) : Int); rw [HBASE.out, HC.out], by go_num, K.out⟩
          case measure => simp [intOf]; omega
    · obtain rfl : s = 16 := by omega
      obtain ⟨tot, htot⟩ : ∃ tot, entTo T 16 = tot := ⟨_, rfl⟩
      have HTOT := Lib.hid htot
      rw [htot]
      clear htot
      go_wp2_with fail
      go_loopw [7, 17] (fun x y wr => ∃ f : Nat, f ≤ 256 ∧ x = .int .i64 (allTo T f : Nat) ∧ y = .int .i64 f ∧ Kn w1 wr t b N T []) (fun _ y _ => 256 - (intOf y).toNat)
      case atStart => exact ⟨0, Nat.zero_le _, rfl, rfl, K.out⟩
      case round =>
        obtain ⟨f, hf, rfl, rfl, hkn⟩ := hrel
        have K := Lib.hid hkn
        clear hkn
        have hal := allTo_le T f
        obtain ⟨acc, hacc⟩ : ∃ acc, allTo T f = acc := ⟨_, rfl⟩
        have HACC := Lib.hid hacc
        rw [hacc] at hal ⊢
        clear hacc
        by_cases hf256 : f < 256
        · have hf' : (f : Int) < 256 := by omega
          have hcl := countTo_le T f 16
          have hsl := spotsTo_count T f 16
          obtain ⟨cn, hcn⟩ : ∃ cn, countTo T f 16 = cn := ⟨_, rfl⟩
          have HCN := Lib.hid hcn
          rw [hcn] at hcl hsl
          have HSL := Lib.hid hsl
          clear hcn hsl
          go_wp2_with fail
          refine (kn_where K.out f (wf_nat (by omega)) (K.out.tz HZ1.out) rfl).mono ?_
          rintro e w5 ⟨v, rfl, hown, hk⟩
          have K := Lib.hid hk
          obtain ⟨a, vc, rfl, hcells⟩ := spots_base hown
          have HCELL := Lib.hid hcells
          rw [HSL.out]
          clear hk hown hcells
          go_wp2_with fail
          refine (count_any K.out.pt f (wf_nat (by omega))).mono ?_
          rw [HCN.out]
          rintro e w6 ⟨rfl, hb⟩
          have K := Lib.hid (K.out.same hb)
          have HB6 := Lib.hid hb
          clear hb
          go_wp2_with fail
          go_loopw [19] (fun x wr => ∃ i : Nat, i ≤ cn ∧ x = .int .i64 i ∧ Below w6.heap.size w6 wr) (fun x _ => cn - (intOf x).toNat)
          case atStart => exact ⟨0, Nat.zero_le _, rfl, Below.refl _ _⟩
          case round =>
            obtain ⟨i, hi, rfl, hbl⟩ := hrel
            have HBL := Lib.hid hbl
            clear hbl
            by_cases hlt : i < cn
            · have hlt' : (i : Int) < cn := by omega
              obtain ⟨⟨s, p⟩, hsp⟩ : ∃ sp, (spotsTo T f 16)[i]? = some sp := ⟨(spotsTo T f 16)[i]'(by rw [HSL.out]; exact hlt), List.getElem?_eq_getElem _⟩
              obtain ⟨hs, hp, hh⟩ := spotsTo_mem (List.mem_of_getElem? hsp)
              obtain ⟨g, rfl, hg, hc0, hc1⟩ := HCELL.out i s p hsp
              have hgr : g < w6.heap.size := Nat.lt_of_lt_of_le hg HB6.out.size
              have hg6 := HBL.out.size
              have HC := Lib.hid (show ∀ W : World, Turned wr W [] → W.cell? ⟨g, i * 2, none⟩ = some (.int .i64 s) ∧ W.cell? ⟨g, i * 2 + 1, none⟩ = some (.int .i64 p) from fun W ht => by
                have hb := HB6.out.trans ((HBL.out.trans ((tl ht).mono hg6)).mono HB6.out.size)
                exact ⟨(hb.cell (p := ⟨g, i * 2, none⟩) hg).trans hc0, (hb.cell (p := ⟨g, i * 2 + 1, none⟩) hg).trans hc1⟩)
              have hgg := getO_nat OK.out hs hp
              obtain ⟨E, hE⟩ : ∃ E, T s p = E := ⟨_, rfl⟩
              unfold hitB at hh
              rw [hE] at hgg hh
              simp only [Bool.and_eq_true, beq_iff_eq] at hh
              rw [hh.1] at hgg
              have hfr : E.fr = f := hh.2
              have HGG := Lib.hid hgg
              have K := Lib.hid (K.out.same HBL.out)
              have hmm : wr.heap.size ≤ wr.heap.size := Nat.le_refl _
              have HT0 := Lib.hid (Turned.refl wr [])
              have HT := Lib.hid (td HT0.out)
              have D := Lib.hid (K.out.same ((Below.refl _ _).drew))
              have D2 := Lib.hid ((K.out.alloc #[.int .i64 0, .int .i64 0, .bool false, .bool false] 38).same ((Below.refl _ _).drew))
              clear hs hp hh hgg hg hc0 hc1 hsp hE
              go_wp2_with fail
              go_region_held3 (fun W => W.cell? ⟨g, i * 2, none⟩ = some (.int .i64 s) ∧ W.cell? ⟨g, i * 2 + 1, none⟩ = some (.int .i64 p))
                (first | exact HC.out _ HT.out | exact HC.out _ (ta HT.out) | exact HC.out _ (td (ta HT0.out)) | exact HC.out _ (tf hmm HT.out))
                (first
                  | (go_at_call 16; with_reducible refine (get_v D.out s p HGG.out).mono ?_; rintro e w7 ⟨rfl, hb⟩; have HT := Lib.hid (HT.out.trans (Turned.of_below _ hb)); clear hb)
                  | (go_at_call 16; with_reducible refine (get_v D2.out s p HGG.out).mono ?_; rintro e w7 ⟨rfl, hb⟩; obtain ⟨⟨z0, z1, z2, z3⟩, zf, zl⟩ := four_of ((D2.out.same hb).box _ (List.mem_cons_self ..)).1; have HT := Lib.hid ((td (ta HT0.out)).trans (Turned.of_below _ hb)); clear hb))
              all_goals
                go_wp2_with fail
                first
                  | with_reducible refine (count_any (K.out.same (tl (ta HT.out))).pt f (wf_nat (by omega))).mono ?_
                  | with_reducible refine (count_any (K.out.same (tl (tf hmm HT.out))).pt f (wf_nat (by omega))).mono ?_
                rw [HCN.out]
                rintro e w9 ⟨rfl, hb9⟩
                have HB9 := Lib.hid hb9
                clear hb9
                go_wp2_with fail
                go_roundw
                case rel =>
                  refine ⟨i + 1, hlt, by go_num, ?_⟩
                  first
                    | with_reducible exact HBL.out.trans (((tl (ta HT.out)).trans (HB9.out.mono (tl (ta HT.out)).size)).mono HBL.out.size)
                    | with_reducible exact HBL.out.trans (((tl (tf hmm HT.out)).trans (HB9.out.mono (tl (tf hmm HT.out)).size)).mono HBL.out.size)
                case measure => simp [intOf]; omega
            · have hci : i = cn := by omega
              have hlt' : ¬ (i : Int) < cn := by omega
              go_wp2_with fail
              go_roundw
              case rel =>
                refine ⟨_, .int .i64 ((acc : Int) + cn), .int .i64 ((f : Int) + 1), ⟨f + 1, by omega, ?_, by go_num, K.out.same HBL.out⟩, rfl, rfl, rfl⟩
                have e : allTo T (f + 1) = acc + cn := by rw [← HACC.out, ← HCN.out]; rfl
                rw [e]
                simp
              case measure => simp [intOf]; omega
        · obtain rfl : f = 256 := by omega
          have htt : acc = tot := by rw [← HACC.out, ← HTOT.out]; exact all_is_ent OK.out
          subst htt
          go_wp2_with fail
          go_ret
          exact ⟨rfl, HB1.out.trans (K.out.tr.mono HB1.out.size)⟩
end Go.Proofs.YtihggnajacnhgaaDoor
