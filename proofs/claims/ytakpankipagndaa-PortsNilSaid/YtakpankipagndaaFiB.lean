/- Match, of the project. -/
import Derived.Test.YtakpankipagndaaFiA
import Derived.WalkSmall
namespace Go.Proofs.Ytakpankipagndaa
open Go.RowKit

/-- A packet that a closure holds. -/
structure BxAt (w : World) (bx : Nat) (A : Option Addr) (pn pc : Nat) (P : List Nat) : Prop where
  box : w.cell? ⟨bx, 0, none⟩ = some (.slice A pn pc)
  len : P.length = pn
  pk : PkIn w A P
theorem BxAt.below {w w' : World} {bx : Nat} {A : Option Addr} {pn pc : Nat} {P : List Nat} (h : BxAt w bx A pn pc P) (hb : Below w.heap.size w w') : BxAt w' bx A pn pc P :=
  ⟨(hb.cell (World.block_lt_of_cell? w _ h.box)).trans h.box, h.len, h.pk.below hb⟩
theorem passN_no {P : List Nat} {n : Tn} (h : P.length ≤ n.p) : passN P n = false := by
  unfold passN; rw [decide_eq_false (by omega)]; rfl
theorem passN_at {P : List Nat} {n : Tn} {x : Nat} (h : P[n.p]? = some x) : passN P n = ((x &&& n.m) == n.v) := by
  unfold passN
  have hl : n.p < P.length := (List.getElem?_eq_some_iff.1 h).1
  rw [decide_eq_true hl, List.getD_eq_getElem?_getD, h]; rfl
set_option maxHeartbeats 1000000 in
set_option maxRecDepth 100000 in
theorem match1_any {w : World} {bx : Nat} {A : Option Addr} {pn pc : Nat} {P : List Nat} (h : BxAt w bx A pn pc P) (h64 : pn ≤ 64) (p m v : Nat) (ho : (⟨p, m, v⟩ : Tn).Ok) :
    Calls Try.prog 70 #[.agg #[.int .i64 (p : Int), .int .i64 (m : Int), .int .i64 (v : Int)], .pointer (some ⟨bx, 0, none⟩)] w fun e w' => e = .returned (.bool (!passN P ⟨p, m, v⟩)) ∧ Below w.heap.size w w' := by
  obtain ⟨hp, hm, hv⟩ := ho
  simp only at hp hm hv
  have hbx := h.box
  have hbl := World.block_lt_of_cell? w _ h.box
  have HP := Lib.hid h.pk
  have HL := Lib.hid h.len
  clear h
  by_cases hge : pn ≤ p
  · rw [passN_no (n := ⟨p, m, v⟩) (by rw [HL.out]; exact hge)]
    have hd : decide ((pn : Int) ≤ (p : Int)) = true := by simpa using hge
    go_enter Try.func70, Try.ntmps70
    go_wp2
    go_quiet (fail)
    all_goals
      go_wp2
      go_ret
      exact ⟨rfl, below_drewN ((Below.refl _ w).alloc (Nat.le_refl _) _) _⟩
  · obtain ⟨x, hx⟩ : ∃ x, P[p]? = some x := ⟨_, List.getElem?_eq_getElem (by rw [HL.out]; omega)⟩
    obtain ⟨hx8, b, o, rfl, hb, hc⟩ := HP.out p x hx
    have hd : decide ((pn : Int) ≤ (p : Int)) = false := by simp; omega
    have hlt : (p : Int) < (pn : Int) := by omega
    have hlt' : p < pn := by omega
    rw [passN_at (n := ⟨p, m, v⟩) hx]
    simp only
    have ha := i64_and_nat x m hx8
    generalize x &&& m = y at ha
    cases hq : decide ((y : Int) = (v : Int)) with
    | true =>
      have hq1 : y = v := by have := of_decide_eq_true hq; omega
      have hq' : ((y : Int) != (v : Int)) = false := by rw [hq1]; simp
      have hq2 : (y == v) = true := by simpa using hq1
      rw [hq2]
      clear hq hq2 hq1
      go_enter Try.func70, Try.ntmps70
      go_wp2
      go_quiet (fail)
      all_goals
        go_wp2
        go_ret
        exact ⟨rfl, below_drewN ((Below.refl _ w).alloc (Nat.le_refl _) _) _⟩
    | false =>
      have hq1 : ¬ y = v := by have := of_decide_eq_false hq; omega
      have hq' : ((y : Int) != (v : Int)) = true := by rw [bne_iff_ne]; omega
      have hq2 : (y == v) = false := by simpa using hq1
      rw [hq2]
      clear hq hq2 hq1
      go_enter Try.func70, Try.ntmps70
      go_wp2
      go_quiet (fail)
      all_goals
        go_wp2
        go_ret
        exact ⟨rfl, below_drewN ((Below.refl _ w).alloc (Nat.le_refl _) _) _⟩

set_option maxHeartbeats 1000000 in
set_option maxRecDepth 100000 in
theorem index_match {w : World} {A : Option Addr} {N : List Tn} (h : TsIn w A (N.map Tn.ts)) (ho : ∀ t ∈ N, t.Ok) (n c : Nat) (hn : N.length = n) (hn2 : n ≤ 1000) {bx : Nat} {B : Option Addr} {pn pc : Nat} {P : List Nat} (hx : BxAt w bx B pn pc P) (h64 : pn ≤ 64) :
    Calls Try.prog 72 #[.slice A n c, .func (.func 70) #[] #[.pointer (some ⟨bx, 0, none⟩)]] w (IdxOut (!N.all (passN P)) w) := by
  have H := Lib.hid h
  have HN := Lib.hid hn
  have HO := Lib.hid ho
  have HX := Lib.hid hx
  clear h hn ho hx
  go_enter Try.func72, Try.ntmps72
  go_wp2
  go_loopg [8] n (fun g i W => ∃ k : Nat, k + g = n ∧ i = .int .i64 (k : Int) ∧ (∀ j, j < k → ∀ t, N[j]? = some t → passN P t = true) ∧ Below w.heap.size w W)
  case atStart => exact ⟨0, by omega, rfl, fun j hj => by omega, Below.refl _ w⟩
  case round =>
    obtain ⟨k, hk, rfl, hb, hB⟩ := hrel
    have HB := Lib.hid hb
    have HW := Lib.hid hB
    clear hb hB
    by_cases hlt : k < n
    · have hlt2 : (k : Int) < n := by omega
      obtain ⟨t, ht⟩ : ∃ t, N[k]? = some t := ⟨_, List.getElem?_eq_getElem (by rw [HN.out]; exact hlt)⟩
      obtain ⟨b, o, rfl, hbl, c0, c1, c2⟩ := (H.out.below HW.out) k t.ts (by rw [List.getElem?_map, ht]; rfl)
      have HT := Lib.hid ht
      have HC := Lib.hid (match1_any (HX.out.below HW.out) h64 t.p t.m t.v (HO.out t (List.mem_of_getElem? ht)))
      clear ht hbl
      simp only [Tn.ts] at c0 c1 c2
      cases hw : passN P t with
      | false =>
        have HWT := Lib.hid hw
        rw [show passN P ⟨t.p, t.m, t.v⟩ = false from hw] at HC
        clear hw
        go_wp2_with (go_at_call 70; refine HC.out.mono ?_; rintro e w' ⟨rfl, hb⟩)
        go_ret
        refine ⟨k, ret_int rfl, ?_, HW.out.trans (hb.mono HW.out.size)⟩
        have : N.all (passN P) = false := by
          rw [List.all_eq_false]
          exact ⟨t, List.mem_of_getElem? HT.out, by rw [HWT.out]; simp⟩
        rw [this]; simp
      | true =>
        have HWT := Lib.hid hw
        rw [show passN P ⟨t.p, t.m, t.v⟩ = true from hw] at HC
        clear hw
        go_wp2_with (go_at_call 70; refine HC.out.mono ?_; rintro e w' ⟨rfl, hb⟩)
        go_roundg (n - (k + 1))
        case measure => omega
        case rel =>
          refine ⟨k + 1, by omega, by go_num, fun j hj u hu => ?_, HW.out.trans (hb.mono HW.out.size)⟩
          rcases Nat.lt_succ_iff_lt_or_eq.1 hj with h | rfl
          · exact HB.out j h u hu
          · have e := hu.symm.trans HT.out
            cases e
            exact HWT.out
    · obtain rfl : k = n := by omega
      have hlt2 : ¬ (k : Int) < (k : Int) := by omega
      go_wp2
      go_ret
      refine ⟨-1, ret_int rfl, ?_, HW.out⟩
      have : N.all (passN P) = true := by
        rw [List.all_eq_true]
        intro t ht
        obtain ⟨j, hj, e⟩ := List.getElem_of_mem ht
        exact HB.out j (by rw [← HN.out]; exact hj) t (by rw [List.getElem?_eq_getElem hj, e])
      rw [this]; decide
theorem contains_match {w : World} {A : Option Addr} {N : List Tn} (h : TsIn w A (N.map Tn.ts)) (ho : ∀ t ∈ N, t.Ok) (n c : Nat) (hn : N.length = n) (hn2 : n ≤ 1000) {bx : Nat} {B : Option Addr} {pn pc : Nat} {P : List Nat} (hx : BxAt w bx B pn pc P) (h64 : pn ≤ 64) :
    Calls Try.prog 69 #[.slice A n c, .func (.func 70) #[] #[.pointer (some ⟨bx, 0, none⟩)]] w fun e w' => e = .returned (.bool (!N.all (passN P))) ∧ Below w.heap.size w w' := by
  have HC := Lib.hid (index_match h ho n c hn hn2 hx h64)
  clear h hn ho hx
  go_enter Try.func69, Try.ntmps69
  go_wp2_with (go_at_call 72; refine HC.out.mono ?_; rintro e w' ⟨z, rfl, hz, hb⟩; have HZ := Lib.hid hz; clear hz)
  go_ret
  exact ⟨ret_bool (by simpa using HZ.out), hb⟩
theorem checkE_may {L : List Ts} (h : mayF L = true) : checkE L = 0 := by unfold checkE; rw [h]; rfl
theorem checkE_no {L : List Ts} (h : mayF L = false) : checkE L = 2 := by unfold checkE; rw [h]; rfl
set_option maxHeartbeats 1000000 in
set_option maxRecDepth 100000 in
theorem match_any {w : World} {A : Option Addr} {L : List Ts} (h : TsIn w A L) (n c : Nat) (hn : L.length = n) (hn2 : (n : Int) ≤ 9223372036854775807) {B : Option Addr} {pn pc : Nat} {P : List Nat} (hp : PkIn w B P) (hpn : P.length = pn) (hp2 : (pn : Int) ≤ 9223372036854775807) :
    Calls Try.prog 53 #[.slice A n c, .slice B pn pc] w fun e w' => e = .returned (.bool (matchL L P)) ∧ Below w.heap.size w w' := by
  have hB1 : Below w.heap.size w (w.alloc (Obj.cells #[.slice B pn pc] 32)) := (Below.refl _ w).alloc (Nat.le_refl _) _
  have hnew := heap_alloc_new w (Obj.cells #[.slice B pn pc] 32)
  have HC := Lib.hid (check_any (h.below hB1) n c hn hn2)
  have H := Lib.hid h
  have HP := Lib.hid hp
  have HN := Lib.hid hn
  have HPN := Lib.hid hpn
  have HB1 := Lib.hid hB1
  have HBX := Lib.hid (show BxAt (w.alloc (Obj.cells #[.slice B pn pc] 32)) w.heap.size B pn pc P from ⟨cell_of_row _ _ 0 _ _ _ hnew, hpn, hp.below hB1⟩)
  have hcx := HBX.out.box
  have hlx := World.block_lt_of_cell? _ _ hcx
  clear h hp hn hpn hB1 hnew
  cases hm : mayF L with
  | false =>
    rw [show matchL L P = false by unfold matchL; rw [hm]; rfl]
    rw [checkE_no hm] at HC
    clear hm
    go_enter Try.func53, Try.ntmps53
    go_wp2_with (go_at_call 51; refine HC.out.mono ?_; rintro e w' ⟨rfl, hb⟩; have HB := Lib.hid (HB1.out.trans (hb.mono HB1.out.size)))
    go_ret
    exact ⟨rfl, HB.out⟩
  | true =>
    rw [checkE_may hm] at HC
    obtain ⟨N, rfl, h8, ho⟩ := may_nat hm
    have HO := Lib.hid ho
    have h8' : n ≤ 8 := by rw [← HN.out, List.length_map]; exact h8
    by_cases h64 : pn ≤ 64
    · have h64' : ¬ (64 : Int) < pn := by omega
      rw [matchL_nat ho h8, decide_eq_true (by rw [HPN.out]; exact h64), Bool.true_and]
      have HNL := Lib.hid (show N.length = n by rw [← HN.out, List.length_map])
      clear hm ho h8
      go_enter Try.func53, Try.ntmps53
      go_wp2_with (first
        | (go_at_call 51; refine HC.out.mono ?_; rintro e w1 ⟨rfl, hb⟩; have HB := Lib.hid (HB1.out.trans (hb.mono HB1.out.size)); have hcx1 := (hb.cell (p := ⟨w.heap.size, 0, none⟩) hlx).trans hcx; have HX1 := Lib.hid (HBX.out.below hb); clear hb)
        | (go_at_call 69; refine (contains_match (H.out.below HB.out) HO.out n c HNL.out (by omega) HX1.out h64).mono ?_; rintro e w2 ⟨rfl, hb⟩))
      all_goals
        go_ret
        exact ⟨ret_bool (by simp), HB.out.trans (hb.mono HB.out.size)⟩
    · have h64' : (64 : Int) < pn := by omega
      rw [matchL_nat ho h8, decide_eq_false (by rw [HPN.out]; exact h64), Bool.false_and]
      clear hm ho h8
      go_enter Try.func53, Try.ntmps53
      go_wp2_with (go_at_call 51; refine HC.out.mono ?_; rintro e w1 ⟨rfl, hb⟩; have HB := Lib.hid (HB1.out.trans (hb.mono HB1.out.size)); have hcx1 := (hb.cell (p := ⟨w.heap.size, 0, none⟩) hlx).trans hcx; clear hb)
      all_goals
        go_ret
        exact ⟨rfl, HB.out⟩
end Go.Proofs.Ytakpankipagndaa
