/- FramesQuotas: the walk. -/
import Derived.Test.YtjbamldhoeblbaaFrmAny
import Derived.Deep.DeepCutAuto
import Derived.Deep.CutRange
import Derived.Outline
import Derived.Deep.CutBlock
namespace Go.Proofs.Ytjbamldhoeblbaa
open Go.RowKit Go.Shelf

set_option maxRecDepth 100000 in
theorem quotas_no (n : Int) (A : Option Addr) (c : Nat) (L : List Int) (v : Value) (w : World) (hA : IntsOf w A L) (hk : (L.length : Int) ≤ 9223372036854775807) (h : ¬ NewOk n L) :
    Calls Try.prog 4 #[.int .i64 n, .slice A L.length c, v] w fun e w' => e = .returned (.bool true) ∧ Below w.heap.size w w' := by
  go_enter Try.func4, Try.ntmps4
  go_wp2_with (first
    | (refine (new_no n A c L hA hk h).mono ?_; rintro e w' ⟨rfl, rfl⟩)
    | (refine (known_any _).mono ?_; rintro e w1 ⟨rfl, hb⟩))
  go_ret
  exact ⟨rfl, hb⟩

/-- What stands at a round's head. -/
def QuoRel (w : World) (p F Q c : Nat) (n : Nat) (L : List Int) (m g : Nat) (i : Value) (W : World) : Prop :=
  ∃ k : Nat, k ≤ m ∧ k ≤ 200 ∧ g = 200 - k ∧ i = .int .i64 k ∧ ∃ s, PoolOwn w W p F Q c s ∧ Inv s ∧ s.quo = L ∧ s.n = n

theorem step_cell {W : World} {v0 v1 v2 v3 : Value} {t : TypeId} : (W.alloc (.cells #[v0, v1, v2, v3] t)).cell? ⟨W.heap.size, 1, none⟩ = some v1 := by rw [cell_of_row _ _ _ _ _ _ (heap_alloc_new W _)]; rfl
theorem grant_next_lit {w : World} {p F Q c : Nat} {s : St} (h : PoolAt w p F Q c s) (hi : Inv s) (a : Nat) (a' : Int) (ea : (a : Int) = a') (ha : a < s.k) (hf : (s.used a : Int) < s.quota a) :
    Calls Try.prog 17 #[.pointer (some ⟨p, 0, none⟩), .int .i64 a'] w (GrantOut p F Q c s a w) := by subst ea; exact grant_next h hi a ha hf
theorem one_below {W W1 : World} {b o : Nat} {v : Value} (hb : Below W.heap.size W W1) (h : W.cell? ⟨b, o, none⟩ = some v) : W1.cell? ⟨b, o, none⟩ = some v := (hb.cell (p := ⟨b, o, none⟩) (World.block_lt_of_cell? W _ h)).trans h
theorem quota_yes' {w : World} {p F Q c : Nat} {s : St} (h : PoolAt w p F Q c s) (a : Nat) (ha : a < s.k) : Calls Try.prog 22 #[.pointer (some ⟨p, 0, none⟩), .int .i64 a] w fun e w' => e = .returned (.int .i64 (s.quota a)) ∧ w = w' := quota_yes h a ha
theorem uses_step (s : St) (j : Nat) : s.usesTo (j + 1) s.n = s.usesTo j s.n + s.used j := rfl
theorem uses_mono (s : St) (k : Nat) : ∀ m j, j ≤ m → s.usesTo j k ≤ s.usesTo m k
  | 0, j, h => by have : j = 0 := by omega
                  subst this; exact Nat.le_refl _
  | m + 1, j, h => by
    by_cases e : j = m + 1
    · subst e; exact Nat.le_refl _
    · have ih := uses_mono s k m j (by omega)
      show _ ≤ s.usesTo m k + s.usedTo m k
      omega
theorem uses_le_n {s : St} (h : Inv s) (j : Nat) (hj : j ≤ s.k) : (s.usesTo j s.n : Int) ≤ 256 ∧ (s.held : Int) ≤ s.n ∧ (s.n : Int) ≤ 256 := by
  have h1 := uses_mono s s.n s.k j hj
  rw [h.uses] at h1
  have h2 := St.heldTo_le s s.n
  have h3 := h.ok.n2
  unfold St.held at *
  omega
theorem uses_zero (s : St) (k : Nat) : s.usesTo 0 k = 0 := rfl
/-- What stands behind a step. -/
def QuoNext (w : World) (p F Q c : Nat) (n : Nat) (L : List Int) (W : World) : Prop := ∃ s, PoolOwn w W p F Q c s ∧ Inv s ∧ s.quo = L ∧ s.n = n
/-- What stands at the head of a round that sums what all have. -/
def SumRel (w : World) (p F Q c : Nat) (s : St) (l g : Nat) (x a : Value) (W : World) : Prop :=
  ∃ j : Nat, j ≤ l ∧ g = l - j ∧ a = .int .i64 j ∧ x = .int .i64 ((s.n : Int) - s.held + s.usesTo j s.n) ∧ PoolOwn w W p F Q c s

set_option maxRecDepth 100000 in
set_option maxHeartbeats 1000000 in
theorem quotas_in (n : Nat) (A : Option Addr) (c : Nat) (L : List Int) (B : Option Addr) (m c2 : Nat) (kd nn mm : Nat → Int) (da : Nat → Option Addr) (dn dc : Nat → Nat) (w : World) (hA : IntsOf w A L) (hB : StepsOf w B m kd nn mm da dn dc) (hm : (m : Int) ≤ 9223372036854775807) (h : NewOk n L) :
    Calls Try.prog 4 #[.int .i64 n, .slice A L.length c, .slice B m c2] w fun e w' => e = .returned (.bool true) ∧ Below w.heap.size w w' := by
  have h8 := h.k2
  have hn2 := h.n2
  obtain ⟨l, hl⟩ : ∃ l, l = L.length := ⟨_, rfl⟩
  rw [← hl] at h8 ⊢
  obtain ⟨ba, oa, rfl, hla⟩ := hA (by have := h.k1; omega)
  have HLA := Lib.hid hla
  have HL := Lib.hid hl
  have HA := Lib.hid hA
  have HB := Lib.hid hB
  have HI := Lib.hid (inv_fresh h)
  have HN := Lib.hid h
  clear hl hA hB h hla
  go_enter Try.func4, Try.ntmps4
  go_wp2_with fail
  refine (new_yes_at n (some ⟨ba, oa, none⟩) l c L HL.out.symm HA.out HN.out).mono ?_
  rintro e w1 ⟨p, F, Q, cq, rfl, hp, hb, hF, -, -⟩
  have O := Lib.hid (PoolOwn.of_new (w0 := w) (Below.refl _ w) (s := fresh n L) hp hb hF)
  clear hp hb hF
  go_wp2
  go_loopg [9] 200 (fun g i W => QuoRel w p F Q cq n L m g i W)
  case atStart => exact ⟨0, Nat.zero_le _, Nat.zero_le _, rfl, rfl, _, O.out, HI.out, rfl, fresh_n n L⟩
  case round =>
    obtain ⟨k, hk1, hk2, rfl, rfl, s, hO, hI, hq, hn⟩ := hrel
    have O := Lib.hid hO
    have I := Lib.hid hI
    have HQ := Lib.hid hq
    have HNn := Lib.hid hn
    clear hO hI hq hn
    by_cases hlt : k < m ∧ k < 200
    · have hkm : (k : Int) < m := by omega
      have hk200 : (k : Int) < 200 := by omega
      obtain ⟨b, o, rfl, hc⟩ := HB.out (by omega)
      have c0 := (O.out.below.cell (p := ⟨b, o + k * 4 + 0, none⟩) (World.block_lt_of_cell? w _ (hc k (by omega) 0 (by omega)))).trans (hc k (by omega) 0 (by omega))
      have c1 := (O.out.below.cell (p := ⟨b, o + k * 4 + 1, none⟩) (World.block_lt_of_cell? w _ (hc k (by omega) 1 (by omega)))).trans (hc k (by omega) 1 (by omega))
      have c2' := (O.out.below.cell (p := ⟨b, o + k * 4 + 2, none⟩) (World.block_lt_of_cell? w _ (hc k (by omega) 2 (by omega)))).trans (hc k (by omega) 2 (by omega))
      have c3 := (O.out.below.cell (p := ⟨b, o + k * 4 + 3, none⟩) (World.block_lt_of_cell? w _ (hc k (by omega) 3 (by omega)))).trans (hc k (by omega) 3 (by omega))
      simp only [stepV, List.getElem?_cons_zero, List.getElem?_cons_succ, Nat.add_zero] at c0 c1 c2' c3
      have HK := Lib.hid hlt
      clear hc hlt
      go_upto_block 2 with fail
      go_cut [] (fun W => QuoNext w p F Q cq n L W)
      case first =>
        have hFw := O.out.pool.lt
        have OX := fun o => Lib.hid (O.out.step ((Below.refl _ wr).alloc (Nat.le_refl _) o))
        have SC := Lib.hid (step_cell (W := wr) (v0 := .int .i64 (kd k)) (v1 := .int .i64 (nn k)) (v2 := .int .i64 (mm k)) (v3 := .slice (da k) (dn k) (dc k)) (t := 34))
        by_cases q1 : kd k = 1
        · have b1 : (kd k == 1) = true := by simpa using q1
          clear q1
          by_cases r0 : nn k < 0 ∨ (l : Int) ≤ nn k
          · have R0 := Lib.hid (show nn k < 0 ∨ (s.k : Int) ≤ nn k by have := HQ.out; have := HL.out; unfold St.k; rw [HQ.out]; omega)
            by_cases r1 : 0 ≤ nn k
            · have r2 : (l : Int) ≤ nn k := by omega
              have hd2 : decide (nn k < (l : Int)) = false := by simpa using r2
              clear r0 r2
              go_wp2_with (first
                | (go_at_call 16; refine (used_any (OX _).out.pool (nn k)).mono ?_; rintro e w4 ⟨rfl, hb4⟩; have d1 := one_below hb4 SC.out; have O4 := Lib.hid ((OX _).out.step hb4); clear hb4)
                | (go_at_call 17; refine (grant_arg O4.out.pool (nn k) R0.out).mono ?_; rintro e w' ⟨rfl, rfl⟩))
              go_meet
              exact ⟨s, O4.out, I.out, HQ.out, HNn.out⟩
            · have hd1 : decide (0 ≤ nn k) = false := by simpa using r1
              clear r0 r1
              go_wp2_with (first
                | (go_at_call 16; refine (used_any (OX _).out.pool (nn k)).mono ?_; rintro e w4 ⟨rfl, hb4⟩; have d1 := one_below hb4 SC.out; have O4 := Lib.hid ((OX _).out.step hb4); clear hb4)
                | (go_at_call 17; refine (grant_arg O4.out.pool (nn k) R0.out).mono ?_; rintro e w' ⟨rfl, rfl⟩))
              go_meet
              exact ⟨s, O4.out, I.out, HQ.out, HNn.out⟩
          · have r1 : 0 ≤ nn k := by omega
            have r2 : nn k < (l : Int) := by omega
            have RA := Lib.hid (show (((nn k).toNat : Nat) : Int) = nn k by omega)
            have RK := Lib.hid (show (nn k).toNat < s.k by have := HL.out; unfold St.k; rw [HQ.out]; omega)
            have hqc0 : w.cell? ⟨ba, oa + (nn k).toNat, none⟩ = some (.int .i64 (s.quota (nn k).toNat)) := by
              rw [HLA.out (nn k).toNat (by have := HL.out; omega)]; unfold St.quota at0; rw [HQ.out]
            have HQ0 := Lib.hid hqc0
            have hle := I.out.cap (nn k).toNat RK.out
            rw [RA.out] at hle
            clear r0 hqc0
            by_cases hf : (s.used (nn k) : Int) < s.quota (nn k).toNat
            · have hne : ((s.used (nn k) : Int) == s.quota (nn k).toNat) = false := by simp; omega
              have HF := Lib.hid (show (s.used (((nn k).toNat : Nat) : Int) : Int) < s.quota (nn k).toNat by rw [RA.out]; exact hf)
              clear hf hle
              go_wp2_with (first
                | (go_at_call 16; refine (used_any (OX _).out.pool (nn k)).mono ?_; rintro e w4 ⟨rfl, hb4⟩; have d1 := one_below hb4 SC.out; have O4 := Lib.hid ((OX _).out.step hb4); clear hb4)
                | (go_at_call 17; refine (grant_next_lit O4.out.pool I.out (nn k).toNat (nn k) RA.out RK.out HF.out).mono ?_; rintro e w5 ⟨mz, rfl, -, -, hp, hg, hn⟩; have d2 := grown_cell hg (by omega) d1; have O5 := Lib.hid (O4.out.next hp hg); have N5 := Lib.hid hn; have hq5 := (O5.out.below.cell (p := ⟨ba, oa + (nn k).toNat, none⟩) (World.block_lt_of_cell? w _ HQ0.out)).trans HQ0.out; clear d1 hp hg hn))
              go_meet
              exact ⟨_, O5.out, N5.out.inv I.out, N5.out.quo.trans HQ.out, N5.out.n.trans HNn.out⟩
            · have hne : ((s.used (nn k) : Int) == s.quota (nn k).toNat) = true := by simp; omega
              have HF := Lib.hid (show s.quota (nn k).toNat ≤ (s.used (((nn k).toNat : Nat) : Int) : Int) by rw [RA.out]; omega)
              clear hf hle
              go_wp2_with (first
                | (go_at_call 16; refine (used_any (OX _).out.pool (nn k)).mono ?_; rintro e w4 ⟨rfl, hb4⟩; have d1 := one_below hb4 SC.out; have O4 := Lib.hid ((OX _).out.step hb4); clear hb4)
                | (go_at_call 17; refine (grant_full_lit O4.out.pool (nn k).toNat (nn k) RA.out RK.out HF.out).mono ?_; rintro e w5 ⟨rfl, hb5⟩; have d2 := one_below hb5 d1; have O5 := Lib.hid (O4.out.step hb5); have hq5 := (O5.out.below.cell (p := ⟨ba, oa + (nn k).toNat, none⟩) (World.block_lt_of_cell? w _ HQ0.out)).trans HQ0.out; clear d1 hb5))
              go_meet
              exact ⟨s, O5.out, I.out, HQ.out, HNn.out⟩
        · have b1 : (kd k == 1) = false := by simpa using q1
          clear q1
          by_cases q2 : kd k = 2
          · have b2 : (kd k == 2) = true := by simpa using q2
            clear q2
            go_wp2_with (go_at_call 18; refine (hold_next (OX _).out.pool (nn k)).mono ?_; rintro e w4 ⟨v, s4, rfl, hp, hg, hn⟩; have O4 := Lib.hid ((OX _).out.next hp hg); have N4 := Lib.hid hn; clear hp hg hn)
            go_meet
            exact ⟨s4, O4.out, N4.out.inv I.out, N4.out.quo.trans HQ.out, N4.out.n.trans HNn.out⟩
          · have b2 : (kd k == 2) = false := by simpa using q2
            clear q2
            by_cases q3 : kd k = 3
            · have b3 : (kd k == 3) = true := by simpa using q3
              clear q3
              go_wp2_with (go_at_call 19; refine (drop_next (OX _).out.pool (nn k)).mono ?_; rintro e w4 ⟨v, s4, rfl, hp, hg, hn⟩; have O4 := Lib.hid ((OX _).out.next hp hg); have N4 := Lib.hid hn; clear hp hg hn)
              go_meet
              exact ⟨s4, O4.out, N4.out.inv I.out, N4.out.quo.trans HQ.out, N4.out.n.trans HNn.out⟩
            · have b3 : (kd k == 3) = false := by simpa using q3
              clear q3
              by_cases q4 : kd k = 4
              · have b4 : (kd k == 4) = true := by simpa using q4
                clear q4
                go_wp2_with (go_at_call 20; refine (drops_next (OX _).out.pool (nn k)).mono ?_; rintro e w4 ⟨v, s4, rfl, hp, hg, hn⟩; have O4 := Lib.hid ((OX _).out.next hp hg); have N4 := Lib.hid hn; clear hp hg hn)
                go_meet
                exact ⟨s4, O4.out, N4.out.inv I.out, N4.out.quo.trans HQ.out, N4.out.n.trans HNn.out⟩
              · have b4 : (kd k == 4) = false := by simpa using q4
                clear q4
                go_wp2
                go_meet
                exact ⟨s, (OX _).out, I.out, HQ.out, HNn.out⟩
      case rest =>
        obtain ⟨s1, hO1, hI1, hq1, hn1⟩ := hcut
        have O1 := Lib.hid hO1
        have I1 := Lib.hid hI1
        have Q1 := Lib.hid hq1
        have N1 := Lib.hid hn1
        clear hO1 hI1 hq1 hn1 c0 c1 c2' c3 hkm hk200 O I HQ HNn
        go_wp2_with (refine (free_any O1.out.pool).mono ?_; rintro e w3 ⟨rfl, hb3⟩; have O3 := Lib.hid (O1.out.step hb3); clear hb3)
        go_loopg [14, 15] l (fun g x a W => SumRel w p F Q cq s1 l g x a W)
        case atStart => exact ⟨0, Nat.zero_le _, rfl, rfl, by rw [uses_zero]; simp, O3.out⟩
        case round =>
          obtain ⟨j, hj1, rfl, rfl, rfl, hO4⟩ := hrel
          have O4 := Lib.hid hO4
          clear hO4
          by_cases hlt2 : j < l
          · have hjl : (j : Int) < l := by omega
            have hjk : j < s1.k := by have := HL.out; have := Q1.out; unfold St.k; rw [this]; omega
            have hle := I1.out.cap j hjk
            have hqc0 : w.cell? ⟨ba, oa + j, none⟩ = some (.int .i64 (s1.quota j)) := by
              rw [HLA.out j (by have := HL.out; omega)]; unfold St.quota at0; rw [Q1.out]
            have hqc : wr.cell? ⟨ba, oa + j, none⟩ = some (.int .i64 (s1.quota j)) := (O4.out.below.cell (p := ⟨ba, oa + j, none⟩) (World.block_lt_of_cell? w _ hqc0)).trans hqc0
            have HS1 := Lib.hid (uses_step s1 j)
            have hu0 : 0 ≤ (s1.used j : Int) := by omega
            have hu1 : (s1.used j : Int) ≤ 256 := by have := St.usedTo_le s1 j s1.n; have := I1.out.ok.n2; unfold St.used; omega
            have hsum := uses_le_n I1.out j (by omega)
            have hd1 : decide ((s1.used j : Int) < 0) = false := by simp
            have hd2 : decide (s1.quota j < (s1.used j : Int)) = false := by simpa using hle
            clear hqc0
            go_wp2_with fail
            go_region_held3 (fun W => W.cell? ⟨ba, oa + j, none⟩ = some (.int .i64 (s1.quota j)))
              (first | exact one_below hB4 hqc | exact one_below hB5 hqc | go_keep)
              (first
                | (go_at_call 16; refine (used_any (O4.out.step (by exact (Below.refl _ wr).drew)).pool j).mono ?_; rintro e w4 ⟨rfl, hb4⟩; have hB4 : Below wr.heap.size wr w4 := (Below.refl _ wr).drew.trans hb4; clear hb4)
                | (go_at_call 16; refine (used_any (O4.out.step hB4).pool j).mono ?_; rintro e w5 ⟨rfl, hb5⟩; have hB5 : Below wr.heap.size wr w5 := hB4.trans (hb5.mono hB4.size); clear hb5)
                | (go_at_call 22; refine (quota_yes' (O4.out.step hB5).pool j hjk).mono ?_; rintro e w' ⟨rfl, rfl⟩))
            have O5 := Lib.hid (O4.out.step hB5)
            clear hB4 hB5 hqc
            go_wp2_with (go_at_call 16; refine (used_any O5.out.pool j).mono ?_; rintro e w6 ⟨rfl, hb6⟩; have O6 := Lib.hid (O5.out.step hb6); clear hb6)
            go_roundg (l - (j + 1))
            case measure => omega
            case rel => exact ⟨j + 1, by omega, rfl, by go_num, by rw [HS1.out]; push_cast; rw [Int.add_assoc], O6.out⟩
          · obtain rfl : j = l := by omega
            have hjj : ¬ (j : Int) < j := by omega
            have hall := I1.out.uses
            have hkl : s1.k = j := by have := HL.out; have := Q1.out; unfold St.k; rw [this]; omega
            rw [hkl] at hall
            have he : (s1.n : Int) - s1.held + s1.usesTo j s1.n = n := by rw [hall, N1.out]; omega
            have HE := Lib.hid he
            have hnn : ((n : Int) == n) = true := by simp
            clear hall hkl he hlt2
            rw [HE.out]
            go_wp2
            go_roundg (200 - (k + 1))
            case measure => have := HK.out; omega
            case rel => exact ⟨k + 1, by have := HK.out; omega, by have := HK.out; omega, rfl, by go_num, s1, O4.out, I1.out, Q1.out, N1.out⟩
    · have hend : (m : Int) ≤ k ∨ (200 : Int) ≤ k := by omega
      clear hlt
      by_cases e1 : (m : Int) ≤ k
      · have hd1 : decide (k < m) = false := by simp; omega
        have hd3 : ¬ (k < m) := by omega
        clear hend e1
        go_wp2_with (refine (known_any _).mono ?_; rintro e w4 ⟨rfl, hb4⟩; have O4 := Lib.hid (O.out.step hb4); clear hb4)
        go_ret
        exact ⟨rfl, O4.out.below⟩
      · have e2 : decide ((k : Int) < 200) = false := by simp; omega
        have e3 : (k : Int) < m := by omega
        clear hend e1
        go_wp2_with (refine (known_any _).mono ?_; rintro e w4 ⟨rfl, hb4⟩; have O4 := Lib.hid (O.out.step hb4); clear hb4)
        go_ret
        exact ⟨rfl, O4.out.below⟩
theorem quotas_any (n : Int) (A : Option Addr) (c : Nat) (L : List Int) (B : Option Addr) (m c2 : Nat) (kd nn mm : Nat → Int) (da : Nat → Option Addr) (dn dc : Nat → Nat) (w : World) (hA : IntsOf w A L) (hk : (L.length : Int) ≤ 9223372036854775807) (hB : StepsOf w B m kd nn mm da dn dc) (hm : (m : Int) ≤ 9223372036854775807) :
    Calls Try.prog 4 #[.int .i64 n, .slice A L.length c, .slice B m c2] w fun e w' => e = .returned (.bool true) ∧ Below w.heap.size w w' := by
  by_cases h : NewOk n L
  · obtain ⟨k, rfl⟩ : ∃ k : Nat, (k : Int) = n := ⟨n.toNat, by have := h.n1; omega⟩
    exact quotas_in k A c L B m c2 kd nn mm da dn dc w hA hB hm h
  · exact quotas_no n A c L _ w hA hk h

end Go.Proofs.Ytjbamldhoeblbaa
