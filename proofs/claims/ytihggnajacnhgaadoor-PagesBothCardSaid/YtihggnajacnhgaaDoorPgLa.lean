/- What is done in the space 3 alone; a table among others. -/
import Derived.Test.YtihggnajacnhgaaDoorPgDg
namespace Go.Proofs.YtihggnajacnhgaaDoor
open Go.RowKit

theorem stepT_apart {s : Stp} (ha : s.a = 3) (h6 : s.k ≠ 6) (T : Tb) {i j : Nat} (hi : i ≠ 3) : stepT s T i j = T i j := by
  have h3 : s.a.toNat = 3 := by rw [ha]; rfl
  unfold stepT
  split
  · unfold setO
    split
    · exact setT_other _ _ _ _ _ _ (Or.inl (by rw [h3]; exact hi))
    · rfl
  · split
    · unfold clearO
      split
      · exact setT_other _ _ _ _ _ _ (Or.inl (by rw [h3]; exact hi))
      · rfl
    · split
      · unfold rightsO
        split
        · split
          · exact setT_other _ _ _ _ _ _ (Or.inl (by rw [h3]; exact hi))
          · rfl
        · rfl
      · split
        · unfold askT
          split
          · exact setT_other _ _ _ _ _ _ (Or.inl (by rw [h3]; exact hi))
          · rfl
        · split
          · unfold cleanO
            split
            · exact setT_other _ _ _ _ _ _ (Or.inl (by rw [h3]; exact hi))
            · rfl
          · split
            · unfold dropT
              split
              · unfold dropK; rw [if_neg (fun e => hi (e.1.trans h3))]
              · rfl
            · rfl
section
variable {w0 w w' : World} {t b N : Nat} {T : Tb} {L : List (Nat × Obj)}
theorem duo_new {q : Nat} (e : w.heap.size = q) (K : Kn w0 w t b N T L) (hq : QT w' w.heap.size newT) (hb : Below w.heap.size w w') : Duo w0 w' t b q N T newT L := by
  subst e
  have hlt := K.pt.ht
  have hlb := K.pt.hb
  have k2 := K.same hb
  exact ⟨⟨k2.pt, k2.ht, k2.hb, k2.tr, fun x hx => by
    rcases List.mem_cons.1 hx with rfl | hx
    · exact ⟨hq.row.row, by show w.heap.size ≠ t; omega, by show w.heap.size ≠ b; omega⟩
    · exact k2.box x hx⟩, hq.ok, K.tr.size, fun x hx => by have := lt_of_box (K.box x hx).1; omega⟩
theorem stepCellsK {m : Nat} {k a b' c d : Int} {x : Nat} (h : Kn w0 w t b N T ((m, .cells #[.int .i64 k, .int .i64 a, .int .i64 b', .int .i64 c, .int .i64 d, .int .u32 x] 32 (0, 0)) :: L)) :
    w.cell? ⟨m, 0, none⟩ = some (.int .i64 k) ∧ w.cell? ⟨m, 1, none⟩ = some (.int .i64 a) ∧ w.cell? ⟨m, 2, none⟩ = some (.int .i64 b') ∧ w.cell? ⟨m, 3, none⟩ = some (.int .i64 c) ∧ w.cell? ⟨m, 4, none⟩ = some (.int .i64 d) ∧ w.cell? ⟨m, 5, none⟩ = some (.int .u32 x) := six_of (h.box _ (List.mem_cons_self ..)).1
theorem Kn.less (h : Kn w0 w t b N T L) {L' : List (Nat × Obj)} (hs : ∀ x ∈ L', x ∈ L) : Kn w0 w t b N T L' := ⟨h.pt, h.ht, h.hb, h.tr, fun x hx => h.box x (hs x hx)⟩
theorem do_at {q : Nat} {U : Tb} (K : Duo w0 w t b q N T U L) (hN : N < 90000) (kk aa bb cc dd : Int) (xx : Nat) (hx : xx < 4294967296) (h8 : kk ≠ 8) :
    Calls Tryd.prog 12 #[.pointer (some ⟨t, 0, none⟩), .pointer (some ⟨q, 0, none⟩), .agg #[.int .i64 kk, .int .i64 aa, .int .i64 bb, .int .i64 cc, .int .i64 dd, .int .u32 xx]] w fun e w' =>
      ∃ r, e = .returned (.tuple #[.pointer (some ⟨t, 0, none⟩), .pointer (some ⟨q, 0, none⟩), .bool r]) ∧ Kn w0 w' t b (N + 32) (stepT ⟨kk, aa, bb, cc, dd, xx⟩ T) L := by
  refine (do_any K hN ⟨kk, aa, bb, cc, dd, xx⟩ hx).mono ?_
  rintro e w' ⟨t', b', r, rfl, -, hs, hd⟩
  obtain ⟨rfl, rfl⟩ := hs h8
  exact ⟨r, rfl, hd.kn.less (fun x hx => List.mem_cons_of_mem _ hx)⟩
theorem Duo.kn' {q : Nat} {U : Tb} (h : Duo w0 w t b q N T U L) : Kn w0 w t b N T L := h.kn.less (fun x hx => List.mem_cons_of_mem _ hx)
end
theorem getO_row {T T' : Tb} {i : Nat} (h : ∀ j, T' i j = T i j) (p : Int) : getO T' i p = getO T i p ∧ gotB T' i p = gotB T i p := by
  unfold getO gotB takE atT
  constructor <;> simp only [Int.toNat_natCast, h]
set_option maxRecDepth 100000 in
set_option maxHeartbeats 4000000 in
theorem apart_law {w : World} {A A' : Option Addr} {n c n' c' : Nat} {R R' : Nat → Stp} (h : StepsOf7 w A n R) (h' : StepsOf7 w A' n' R') (hz : TzTab w) :
    Calls Tryd.prog 5 #[.slice A n c, .slice A' n' c'] w fun e w' => e = .returned (.bool true) ∧ Below w.heap.size w w' := by
  have H' := Lib.hid h'
  have HZ := Lib.hid hz
  have HG := Lib.hid (grown_any (c := c) h)
  clear h h' hz
  go_enter Tryd.func5, Tryd.ntmps5
  go_wp2_with fail
  refine HG.out.mono ?_
  rintro e w1 ⟨t, b, q, N, k1, rfl, -, hN, hd1⟩
  obtain ⟨T, hT⟩ : ∃ T, grownT R k1 = T := ⟨_, rfl⟩
  rw [hT] at hd1
  have D1 := Lib.hid hd1
  clear hd1 hT HG
  go_wp2_with fail
  refine (copy_any D1.out.pt).mono ?_
  rintro e w2 ⟨t2, b2, rfl, hp2, ht2, hb2, htr⟩
  obtain ⟨o1, ho1⟩ : ∃ o, w2.heap[t2]? = some o := ⟨_, Array.getElem?_eq_getElem hp2.ht⟩
  obtain ⟨o2, ho2⟩ : ∃ o, w2.heap[b2]? = some o := ⟨_, Array.getElem?_eq_getElem hp2.hb⟩
  have h1 := D1.out.pt.ht
  have h2 := D1.out.pt.hb
  have hK0 : Kn w w2 t b N T [(t2, o1), (b2, o2)] :=
    (((D1.out.same htr).kn'.less (fun x hx => by cases hx)).add ho2 (by omega) (by omega)).add ho1 (by omega) (by omega)
  have K0 := Lib.hid hK0
  have HP2 := Lib.hid (show ∀ W : World, W.heap[t2]? = some o1 → W.heap[b2]? = some o2 → PT W t2 b2 N T from fun W e1 e2 => hp2.keep (e1.trans ho1.symm) (e2.trans ho2.symm))
  clear hp2 ht2 hb2 htr ho1 ho2 h1 h2 hK0
  go_wp2_with fail
  go_loopw [9] (fun x wr => ∃ (k N' : Nat) (T' : Tb), k ≤ 60 ∧ x = .int .i64 k ∧ N' ≤ N + 32 * k ∧ (∀ i j, i ≠ 3 → T' i j = T i j) ∧ Kn w wr t b N' T' [(t2, o1), (b2, o2)]) (fun x _ => 60 - (intOf x).toNat)
  case atStart => exact ⟨0, N, T, Nat.zero_le _, rfl, by omega, fun _ _ _ => rfl, K0.out⟩
  case round =>
    obtain ⟨k, N', T', hk60, rfl, hN', hag, hkn⟩ := hrel
    have K := Lib.hid hkn
    have HAG := Lib.hid hag
    clear hkn hag
    by_cases hlt : k < n' ∧ k < 60
    · obtain ⟨hl1, hl2⟩ := hlt
      have hl1' : (k : Int) < n' := by omega
      have hl2' : (k : Int) < 60 := by omega
      obtain ⟨g, o, rfl, hc⟩ := (H'.out.below K.out.tr) (by omega)
      obtain ⟨hx, hc2⟩ := hc k hl1
      obtain ⟨c0, c1, c2, c3, c4, c5⟩ := six_cells hc2
      have gl := World.block_lt_of_cell? _ _ c0
      clear hc hc2
      obtain ⟨S, hS⟩ : ∃ S, R' k = S := ⟨_, rfl⟩
      rw [hS] at c0 c1 c2 c3 c4 c5 hx
      clear hS
      obtain ⟨kk, aa, bb, cc, dd, xx⟩ := S
      simp only at c0 c1 c2 c3 c4 c5 hx gl
      have HX := Lib.hid hx
      clear hx
      by_cases h6 : kk = 6
      · subst h6
        go_wp2_with fail
        go_roundw
        case rel => exact ⟨k + 1, N', T', by omega, by go_num, by omega, HAG.out, ((K.out.alloc _ _).less (fun x hx => List.mem_cons_of_mem _ hx))⟩
        case measure => simp [intOf]; omega
      by_cases h8 : kk = 8
      · subst h8
        go_wp2_with fail
        go_roundw
        case rel => exact ⟨k + 1, N', T', by omega, by go_num, by omega, HAG.out, ((K.out.alloc _ _).less (fun x hx => List.mem_cons_of_mem _ hx))⟩
        case measure => simp [intOf]; omega
      have b6 : (kk == 6) = false := by simpa using h6
      have b8 : (kk == 8) = false := by simpa using h8
      have H68 := Lib.hid (⟨h6, h8⟩ : kk ≠ 6 ∧ kk ≠ 8)
      have D := Lib.hid ((K.out.alloc #[.int .i64 kk, .int .i64 3, .int .i64 bb, .int .i64 cc, .int .i64 dd, .int .u32 xx] 32).same ((Below.refl _ _).drew))
      clear h6 h8
      go_wp2_with fail
      clear c0 c1 c2 c3 c4 c5 gl
      go_region_held3 (fun W => W.cell? ⟨wr.heap.size, 0, none⟩ = some (.int .i64 kk) ∧ W.cell? ⟨wr.heap.size, 1, none⟩ = some (.int .i64 3) ∧ W.cell? ⟨wr.heap.size, 2, none⟩ = some (.int .i64 bb) ∧ W.cell? ⟨wr.heap.size, 3, none⟩ = some (.int .i64 cc) ∧ W.cell? ⟨wr.heap.size, 4, none⟩ = some (.int .i64 dd) ∧ W.cell? ⟨wr.heap.size, 5, none⟩ = some (.int .u32 xx))
        (first | exact stepCellsK D.out | exact stepCellsK D.out.kn' | trivial)
        (first
          | (go_at_call 10; refine (q_new _).mono ?_; rintro e w3 ⟨rfl, hq, hb⟩; have D := Lib.hid (duo_new (q := wr.heap.size + 1) (by simp) D.out hq hb); clear hq hb)
          | (go_at_call 12; with_reducible refine (do_at D.out (by omega) kk 3 bb cc dd xx HX.out H68.out.2).mono ?_; rintro e w4 ⟨r, rfl, hd⟩; have D := Lib.hid hd; clear hd))
      all_goals
        go_wp2_with fail
        go_roundw
        case rel => exact ⟨k + 1, N' + 32, _, by omega, by go_num, by omega, fun i j hi => (stepT_apart rfl H68.out.1 T' hi).trans (HAG.out i j hi), D.out.less (fun x hx => List.mem_cons_of_mem _ hx)⟩
        case measure => simp [intOf]; omega
    · by_cases hl1 : k < n'
      · have hl1' : (k : Int) < n' := by omega
        have hl2' : ¬ (k : Int) < 60 := by omega
        go_wp2_with fail
        go_loopw [11] (fun x wr2 => ∃ s : Nat, s ≤ 16 ∧ x = .int .i64 s ∧ Kn w wr2 t b N' T' [(t2, o1), (b2, o2)]) (fun x _ => 16 - (intOf x).toNat)
        case atStart => exact ⟨0, Nat.zero_le _, rfl, K.out⟩
        case round =>
          obtain ⟨s, hs, rfl, hkn⟩ := hrel
          have K := Lib.hid hkn
          clear hkn
          by_cases hs16 : s < 16
          · have hs' : (s : Int) < 16 := by omega
            go_wp2_with fail
            go_loopw [12] (fun x wr3 => ∃ p : Nat, p ≤ 32 ∧ x = .int .i64 p ∧ Kn w wr3 t b N' T' [(t2, o1), (b2, o2)]) (fun x _ => 32 - (intOf x).toNat)
            case atStart => exact ⟨0, Nat.zero_le _, rfl, K.out⟩
            case round =>
              rename_i wr3
              obtain ⟨p, hp, rfl, hkn⟩ := hrel
              have K := Lib.hid hkn
              clear hkn
              by_cases hp32 : p < 32
              · have hp' : (p : Int) < 32 := by omega
                by_cases h3 : s = 3
                · subst h3
                  go_wp2_with fail
                  go_roundw
                  case rel => exact ⟨4, by omega, rfl, K.out⟩
                  case measure => simp [intOf]
                · have h3' : ((s : Int) != 3) = true := by simp; omega
                  have hgg := getO_row (T := T) (T' := T') (i := s) (fun j => HAG.out s j h3) p
                  obtain ⟨E, hE⟩ : ∃ E, getO T' s p = E := ⟨_, rfl⟩
                  obtain ⟨B, hB⟩ : ∃ B, gotB T' s p = B := ⟨_, rfl⟩
                  rw [hE, hB] at hgg
                  have HE := Lib.hid (⟨hE, hB⟩ : getO T' s p = E ∧ gotB T' s p = B)
                  have HE2 := Lib.hid (⟨hgg.1.symm, hgg.2.symm⟩ : getO T s p = E ∧ gotB T s p = B)
                  clear hgg hE hB
                  go_wp2_with fail
                  refine (kn_get K.out s p HE.out).mono ?_
                  rintro e w5 ⟨rfl, hk⟩
                  have K := Lib.hid (hk.alloc #[.int .i64 E.fr, .int .i64 E.ri, .bool E.tc, .bool E.wr] 38)
                  clear hk
                  go_wp2_with fail
                  have HG2 := Lib.hid (get_any (HP2.out _ (K.out.box (t2, o1) (by simp)).1 (K.out.box (b2, o2) (by simp)).1) s p)
                  rw [HE2.out.1, HE2.out.2] at HG2
                  unfold entV at HG2
                  refine HG2.out.mono ?_
                  rintro e w6 ⟨rfl, hb⟩
                  have K := Lib.hid (K.out.same hb)
                  obtain ⟨⟨x0, x1, x2, x3⟩, -, xl⟩ := four_of (K.out.box _ (List.mem_cons_self ..)).1
                  have K := Lib.hid (K.out.alloc #[.int .i64 E.fr, .int .i64 E.ri, .bool E.tc, .bool E.wr] 38)
                  clear hb
                  go_wp2_with fail
                  go_roundw
                  case rel => exact ⟨p + 1, hp32, by go_num, K.out.less (fun x hx => List.mem_cons_of_mem _ (List.mem_cons_of_mem _ hx))⟩
                  case measure => simp [intOf]; omega
              · have hp' : ¬ (p : Int) < 32 := by omega
                go_wp2_with fail
                go_roundw
                case rel => exact ⟨s + 1, by omega, by go_num, K.out⟩
                case measure => simp [intOf]; omega
          · have hs' : ¬ (s : Int) < 16 := by omega
            go_wp2_with fail
            refine (known_any _ (HZ.out.below K.out.tr HZ.out.lt)).mono ?_
            rintro e w7 ⟨rfl, hb⟩
            have K := Lib.hid (K.out.same hb)
            clear hb
            go_wp2_with fail
            go_ret
            exact ⟨rfl, K.out.tr⟩
      · have hl1' : ¬ (k : Int) < n' := by omega
        go_wp2_with fail
        go_loopw [11] (fun x wr2 => ∃ s : Nat, s ≤ 16 ∧ x = .int .i64 s ∧ Kn w wr2 t b N' T' [(t2, o1), (b2, o2)]) (fun x _ => 16 - (intOf x).toNat)
        case atStart => exact ⟨0, Nat.zero_le _, rfl, K.out⟩
        case round =>
          obtain ⟨s, hs, rfl, hkn⟩ := hrel
          have K := Lib.hid hkn
          clear hkn
          by_cases hs16 : s < 16
          · have hs' : (s : Int) < 16 := by omega
            go_wp2_with fail
            go_loopw [12] (fun x wr3 => ∃ p : Nat, p ≤ 32 ∧ x = .int .i64 p ∧ Kn w wr3 t b N' T' [(t2, o1), (b2, o2)]) (fun x _ => 32 - (intOf x).toNat)
            case atStart => exact ⟨0, Nat.zero_le _, rfl, K.out⟩
            case round =>
              rename_i wr3
              obtain ⟨p, hp, rfl, hkn⟩ := hrel
              have K := Lib.hid hkn
              clear hkn
              by_cases hp32 : p < 32
              · have hp' : (p : Int) < 32 := by omega
                by_cases h3 : s = 3
                · subst h3
                  go_wp2_with fail
                  go_roundw
                  case rel => exact ⟨4, by omega, rfl, K.out⟩
                  case measure => simp [intOf]
                · have h3' : ((s : Int) != 3) = true := by simp; omega
                  have hgg := getO_row (T := T) (T' := T') (i := s) (fun j => HAG.out s j h3) p
                  obtain ⟨E, hE⟩ : ∃ E, getO T' s p = E := ⟨_, rfl⟩
                  obtain ⟨B, hB⟩ : ∃ B, gotB T' s p = B := ⟨_, rfl⟩
                  rw [hE, hB] at hgg
                  have HE := Lib.hid (⟨hE, hB⟩ : getO T' s p = E ∧ gotB T' s p = B)
                  have HE2 := Lib.hid (⟨hgg.1.symm, hgg.2.symm⟩ : getO T s p = E ∧ gotB T s p = B)
                  clear hgg hE hB
                  go_wp2_with fail
                  refine (kn_get K.out s p HE.out).mono ?_
                  rintro e w5 ⟨rfl, hk⟩
                  have K := Lib.hid (hk.alloc #[.int .i64 E.fr, .int .i64 E.ri, .bool E.tc, .bool E.wr] 38)
                  clear hk
                  go_wp2_with fail
                  have HG2 := Lib.hid (get_any (HP2.out _ (K.out.box (t2, o1) (by simp)).1 (K.out.box (b2, o2) (by simp)).1) s p)
                  rw [HE2.out.1, HE2.out.2] at HG2
                  unfold entV at HG2
                  refine HG2.out.mono ?_
                  rintro e w6 ⟨rfl, hb⟩
                  have K := Lib.hid (K.out.same hb)
                  obtain ⟨⟨x0, x1, x2, x3⟩, -, xl⟩ := four_of (K.out.box _ (List.mem_cons_self ..)).1
                  have K := Lib.hid (K.out.alloc #[.int .i64 E.fr, .int .i64 E.ri, .bool E.tc, .bool E.wr] 38)
                  clear hb
                  go_wp2_with fail
                  go_roundw
                  case rel => exact ⟨p + 1, hp32, by go_num, K.out.less (fun x hx => List.mem_cons_of_mem _ (List.mem_cons_of_mem _ hx))⟩
                  case measure => simp [intOf]; omega
              · have hp' : ¬ (p : Int) < 32 := by omega
                go_wp2_with fail
                go_roundw
                case rel => exact ⟨s + 1, by omega, by go_num, K.out⟩
                case measure => simp [intOf]; omega
          · have hs' : ¬ (s : Int) < 16 := by omega
            go_wp2_with fail
            refine (known_any _ (HZ.out.below K.out.tr HZ.out.lt)).mono ?_
            rintro e w7 ⟨rfl, hb⟩
            have K := Lib.hid (K.out.same hb)
            clear hb
            go_wp2_with fail
            go_ret
            exact ⟨rfl, K.out.tr⟩
end Go.Proofs.YtihggnajacnhgaaDoor
