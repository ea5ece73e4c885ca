/- SameTests, Byte, Long and mask of the document. -/
import Derived.Test.YteibholghonajaaFiC
namespace Go.Proofs.Yteibholghonajaa
open Go.RowKit

def tsEq (t u : Ts) : Bool := t.p == u.p && (t.m == u.m && t.v == u.v)
theorem tsEq_iff {t u : Ts} : tsEq t u = true ↔ t = u := by
  unfold tsEq
  cases t; cases u
  simp
theorem Try.tsih : Try.prog.stoodInHeld 52 = false := by kernel_rfl
theorem Try.tst : Try.prog.underlying 52 = some (.struct (Try.prog.fieldsOf 52)) := by kernel_rfl
theorem part3t (v0 v1 v2 : Value) (w : World) :
    (part 3 #[v0, v1, v2] 0).run Try.prog w = .ok v0 w ∧ (part 3 #[v0, v1, v2] 1).run Try.prog w = .ok v1 w ∧ (part 3 #[v0, v1, v2] 2).run Try.prog w = .ok v2 w :=
  ⟨by kernel_rfl, by kernel_rfl, by kernel_rfl⟩
theorem ts_fields : (Try.prog.fieldsOf 52).toList = [{ name := "At", type := 3, offset := 0, embedded := false, tag := "", pkgPath := "", byteOffset := 0 }, { name := "Mask", type := 3, offset := 1, embedded := false, tag := "", pkgPath := "", byteOffset := 8 }, { name := "Value", type := 3, offset := 2, embedded := false, tag := "", pkgPath := "", byteOffset := 16 }] := by kernel_rfl
theorem equal_ts (p m v p' m' v' : Int) (w : World) :
    (Op.equalIn 10000 52 (.agg #[.int .i64 p, .int .i64 m, .int .i64 v]) (.agg #[.int .i64 p', .int .i64 m', .int .i64 v'])).run Try.prog w = .ok (tsEq ⟨p, m, v⟩ ⟨p', m', v'⟩) w := by
  rw [run_equalIn_struct w 9999 52 _ _ Try.tst Try.tsih]
  rw [ts_fields]
  have p1 := fun w => part3t (.int .i64 p) (.int .i64 m) (.int .i64 v) w
  have p2 := fun w => part3t (.int .i64 p') (.int .i64 m') (.int .i64 v') w
  have q1 := fun a b (w : World) => run_equalIn_int w 9998 3 .i64 .i64 a b Try.underlying3
  unfold tsEq
  simp only [Op.eqFields, Sem.run_bind, Sem.run_ite, Sem.run_pure, p1, p2, Result.andThen_ok, q1]
  by_cases h0 : p = p' <;> by_cases h1 : m = m' <;> by_cases h2 : v = v' <;> simp [h0, h1, h2]
theorem neq_ts (p m v p' m' v' : Int) (w : World) :
    (binOp .neq 52 (.agg #[.int .i64 p, .int .i64 m, .int .i64 v]) (.agg #[.int .i64 p', .int .i64 m', .int .i64 v'])).run Try.prog w = .ok (.bool (!tsEq ⟨p, m, v⟩ ⟨p', m', v'⟩)) w := by
  rw [run_neq_struct, equal_ts]; rfl

instance : DecidableEq Ts := fun t u => if h : tsEq t u = true then isTrue (tsEq_iff.1 h) else isFalse (fun e => h (tsEq_iff.2 e))
set_option maxHeartbeats 2000000 in
set_option maxRecDepth 100000 in
theorem qsame_any {w : World} {A B : Option Addr} {L K : List Ts} (h : TsIn w A L) (h2 : TsIn w B K) (n c m d : Nat) (hn : L.length = n) (hm : K.length = m) (hn2 : n ≤ 1000000) (hm2 : m ≤ 1000000) :
    Calls Try.prog 17 #[.slice A n c, .slice B m d] w fun e w' => e = .returned (.bool (decide (L = K))) ∧ Below w.heap.size w w' := by
  have H := Lib.hid h
  have H2 := Lib.hid h2
  have HN := Lib.hid hn
  have HM := Lib.hid hm
  clear h h2 hn hm
  by_cases hl : n = m
  · have hl' : ((n : Int) != (m : Int)) = false := by rw [hl]; simp
    go_enter Try.func17, Try.ntmps17
    go_wp2
    go_loopg [5] n (fun g i W => ∃ k : Nat, k + g = n ∧ i = .int .i64 (k : Int) ∧ (∀ j, j < k → L[j]? = K[j]?) ∧ Below w.heap.size w W)
    case atStart => exact ⟨0, by omega, rfl, fun j hj => by omega, Below.refl _ w⟩
    case round =>
      obtain ⟨k, hk, rfl, hb, hB⟩ := hrel
      have HB := Lib.hid hb
      have HW := Lib.hid hB
      clear hb hB
      by_cases hlt : k < n
      · have hlt2 : (k : Int) < n := by omega
        have hlt3 : (k : Int) < m := by omega
        obtain ⟨t, ht⟩ : ∃ t, L[k]? = some t := ⟨_, List.getElem?_eq_getElem (by rw [HN.out]; exact hlt)⟩
        obtain ⟨u, hu⟩ : ∃ u, K[k]? = some u := ⟨_, List.getElem?_eq_getElem (by rw [HM.out]; omega)⟩
        obtain ⟨b, o, rfl, hbl, c0, c1, c2⟩ := (H.out.below HW.out) k t ht
        obtain ⟨b', o', rfl, hbl', d0, d1, d2⟩ := (H2.out.below HW.out) k u hu
        have HT := Lib.hid ht
        have HU := Lib.hid hu
        have hne := neq_ts t.p t.m t.v u.p u.m u.v
        clear ht hu hbl hbl'
        cases hq : tsEq ⟨t.p, t.m, t.v⟩ ⟨u.p, u.m, u.v⟩ with
        | true =>
          have HQ := Lib.hid (show t = u from tsEq_iff.1 hq)
          simp only [hq, Bool.not_true] at hne
          clear hq
          go_wp2
          go_quiet (fail)
          all_goals
            go_wp2
            go_roundg (n - (k + 1))
            case measure => omega
            case rel =>
              refine ⟨k + 1, by omega, by go_num, fun j hj => ?_, below_drewN HW.out _⟩
              rcases Nat.lt_succ_iff_lt_or_eq.1 hj with h | rfl
              · exact HB.out j h
              · rw [HT.out, HU.out, HQ.out]
        | false =>
          have HQ := Lib.hid (show ¬ t = u from fun e => by rw [show tsEq ⟨t.p, t.m, t.v⟩ ⟨u.p, u.m, u.v⟩ = true from tsEq_iff.2 e] at hq; cases hq)
          simp only [hq, Bool.not_false] at hne
          clear hq
          go_wp2
          go_quiet (fail)
          all_goals
            go_wp2
            go_ret
            refine ⟨ret_bool (decide_eq_false ?_).symm, below_drewN HW.out _⟩
            intro e
            have e1 := HT.out
            rw [e, HU.out] at e1
            exact HQ.out (Option.some.inj e1).symm
      · obtain rfl : k = n := by omega
        have hlt2 : ¬ (k : Int) < (k : Int) := by omega
        go_wp2
        go_ret
        refine ⟨ret_bool (decide_eq_true ?_).symm, HW.out⟩
        refine List.ext_getElem? fun j => ?_
        rcases Nat.lt_or_ge j k with hj | hj
        · exact HB.out j hj
        · rw [List.getElem?_eq_none (by rw [HN.out]; exact hj), List.getElem?_eq_none (by rw [HM.out]; omega)]
  · have hl' : ((n : Int) != (m : Int)) = true := by rw [bne_iff_ne]; omega
    go_enter Try.func17, Try.ntmps17
    go_wp2
    go_ret
    refine ⟨ret_bool (decide_eq_false ?_).symm, Below.refl _ w⟩
    rintro rfl
    exact hl (by rw [← HN.out, ← HM.out])

theorem byteN_no {N : List Tn} {q b k : Nat} {t : Tn} (h : N[k]? = some t) (hp : t.p = q) (hb : (b &&& t.m == t.v) = false) : byteN N q b = false := by
  unfold byteN
  rw [List.all_eq_false]
  exact ⟨t, List.mem_of_getElem? h, by simp [hp, hb]⟩
theorem byteN_yes {N : List Tn} {q b : Nat} (h : ∀ j, j < N.length → ∀ t, N[j]? = some t → (t.p != q || (b &&& t.m) == t.v) = true) : byteN N q b = true := by
  unfold byteN
  rw [List.all_eq_true]
  intro t ht
  obtain ⟨j, hj, e⟩ := List.getElem_of_mem ht
  exact h j hj t (by rw [List.getElem?_eq_getElem hj, e])
set_option maxHeartbeats 2000000 in
set_option maxRecDepth 100000 in
theorem qbyte_any {w : World} {A : Option Addr} {N : List Tn} (h : TsIn w A (N.map Tn.ts)) (ho : ∀ t ∈ N, t.Ok) (n c : Nat) (hn : N.length = n) (hn2 : n ≤ 1000) (q b : Nat) (hb : b < 256) (hq : q ≤ 64) :
    Calls Try.prog 32 #[.slice A n c, .int .i64 (q : Int), .int .i64 (b : Int)] w fun e w' => e = .returned (.bool (byteN N q b)) ∧ Below w.heap.size w w' := by
  have H := Lib.hid h
  have HN := Lib.hid hn
  have HO := Lib.hid ho
  clear h hn ho
  go_enter Try.func32, Try.ntmps32
  go_wp2
  go_loopg [7] n (fun g i W => ∃ k : Nat, k + g = n ∧ i = .int .i64 (k : Int) ∧ (∀ j, j < k → ∀ t, N[j]? = some t → (t.p != q || (b &&& t.m) == t.v) = true) ∧ Below w.heap.size w W)
  case atStart => exact ⟨0, by omega, rfl, fun j hj => by omega, Below.refl _ w⟩
  case round =>
    obtain ⟨k, hk, rfl, hb', hB⟩ := hrel
    have HB := Lib.hid hb'
    have HW := Lib.hid hB
    clear hb' hB
    by_cases hlt : k < n
    · have hlt2 : (k : Int) < n := by omega
      obtain ⟨t, ht⟩ : ∃ t, N[k]? = some t := ⟨_, List.getElem?_eq_getElem (by rw [HN.out]; exact hlt)⟩
      obtain ⟨ba, o, rfl, hbl, c0, c1, c2⟩ := (H.out.below HW.out) k t.ts (by rw [List.getElem?_map, ht]; rfl)
      have HT := Lib.hid ht
      clear hbl ht
      obtain ⟨p, m, v⟩ := t
      simp only [Tn.ts] at c0 c1 c2
      by_cases hpq : p = q
      · subst hpq
        have hd : decide ((p : Int) = (p : Int)) = true := by simp
        have hd2 : ((p : Int) == (p : Int)) = true := by simp
        have ha := i64_and_nat b m hb
        obtain ⟨y, hy⟩ : ∃ y, b &&& m = y := ⟨_, rfl⟩
        rw [hy] at ha
        have HY := Lib.hid hy
        clear hy
        by_cases hyv : y = v
        · have hq' : ((y : Int) != (v : Int)) = false := by rw [hyv]; simp
          have HYV := Lib.hid hyv
          clear hyv
          go_wp2
          go_quiet (fail)
          all_goals
            go_wp2
            go_roundg (n - (k + 1))
            case measure => omega
            case rel =>
              refine ⟨k + 1, by omega, by go_num, fun j hj u hu => ?_, below_drewN HW.out _⟩
              rcases Nat.lt_succ_iff_lt_or_eq.1 hj with h | rfl
              · exact HB.out j h u hu
              · have e := hu.symm.trans HT.out
                cases e
                simp [HY.out, HYV.out]
        · have hq' : ((y : Int) != (v : Int)) = true := by rw [bne_iff_ne]; omega
          have HYV := Lib.hid hyv
          clear hyv
          go_wp2
          go_quiet (fail)
          all_goals
            go_wp2
            go_ret
            exact ⟨ret_bool (byteN_no HT.out rfl (by simp only [HY.out]; simpa using HYV.out)).symm, below_drewN HW.out _⟩
      · have hd2 : ((p : Int) == (q : Int)) = false := by simp; omega
        have hd : decide ((p : Int) = (q : Int)) = false := by simp; omega
        have HPQ := Lib.hid hpq
        clear hpq
        go_wp2
        go_quiet (fail)
        all_goals
          go_wp2
          go_roundg (n - (k + 1))
          case measure => omega
          case rel =>
            refine ⟨k + 1, by omega, by go_num, fun j hj u hu => ?_, below_drewN HW.out _⟩
            rcases Nat.lt_succ_iff_lt_or_eq.1 hj with h | rfl
            · exact HB.out j h u hu
            · have e := hu.symm.trans HT.out
              cases e
              simp [HPQ.out]
    · obtain rfl : k = n := by omega
      have hlt2 : ¬ (k : Int) < (k : Int) := by omega
      go_wp2
      go_ret
      exact ⟨ret_bool (byteN_yes fun j hj => HB.out j (by rw [← HN.out]; exact hj)).symm, HW.out⟩

theorem take_snoc {N : List Tn} {k : Nat} {t : Tn} (h : N[k]? = some t) : N.take (k + 1) = N.take k ++ [t] := by
  rw [List.take_add_one, h]; rfl
theorem long_snoc (N : List Tn) (t : Tn) : longN (N ++ [t]) = max (longN N) (t.p + 1) := by unfold longN; rw [List.foldl_append]; rfl
theorem mask_snoc (N : List Tn) (t : Tn) (q : Nat) : maskN (N ++ [t]) q = if t.p = q then maskN N q ||| t.m else maskN N q := by unfold maskN; rw [List.foldl_append]; rfl
theorem take_ok {N : List Tn} (ho : ∀ t ∈ N, t.Ok) (k : Nat) : ∀ t ∈ N.take k, t.Ok := fun t ht => ho t (List.mem_of_mem_take ht)
set_option maxHeartbeats 2000000 in
set_option maxRecDepth 100000 in
theorem qlong_any {w : World} {A : Option Addr} {N : List Tn} (h : TsIn w A (N.map Tn.ts)) (ho : ∀ t ∈ N, t.Ok) (n c : Nat) (hn : N.length = n) (hn2 : n ≤ 1000) :
    Calls Try.prog 31 #[.slice A n c] w fun e w' => e = .returned (.int .i64 (longN N : Int)) ∧ w = w' := by
  have H := Lib.hid h
  have HN := Lib.hid hn
  have HO := Lib.hid ho
  clear h hn ho
  go_enter Try.func31, Try.ntmps31
  go_wp2
  go_loop [3, 4] (fun l i => ∃ k : Nat, k ≤ n ∧ i = .int .i64 (k : Int) ∧ l = .int .i64 (longN (N.take k) : Int)) (fun _ i => n - (intOf i).toNat)
  case atStart => exact ⟨0, by omega, rfl, rfl⟩
  case round =>
    obtain ⟨k, hk, rfl, rfl⟩ := hrel
    by_cases hlt : k < n
    · have hlt2 : (k : Int) < n := by omega
      obtain ⟨t, ht⟩ : ∃ t, N[k]? = some t := ⟨_, List.getElem?_eq_getElem (by rw [HN.out]; exact hlt)⟩
      obtain ⟨b, o, rfl, hbl, c0, c1, c2⟩ := H.out k t.ts (by rw [List.getElem?_map, ht]; rfl)
      have hp := (HO.out t (List.mem_of_getElem? ht)).p
      have hlk := long_bound (take_ok HO.out k)
      have HS := Lib.hid (show longN (N.take (k + 1)) = max (longN (N.take k)) (t.p + 1) by rw [take_snoc ht, long_snoc])
      obtain ⟨p, m, v⟩ := t
      simp only [Tn.ts] at c0 c1 c2 hp
      clear hbl ht
      generalize longN (N.take k) = l at hlk HS ⊢
      go_wp2
      go_round
      case measure => simp [intOf]; omega
      case rel => exact ⟨k + 1, by omega, by go_num, by rw [HS.out]; simp; try omega⟩
    · obtain rfl : k = n := by omega
      have hlt2 : ¬ (k : Int) < (k : Int) := by omega
      go_wp2
      go_ret
      exact ⟨ret_int (by rw [List.take_of_length_le (by rw [HN.out]; exact Nat.le_refl _)]), rfl⟩
set_option maxHeartbeats 2000000 in
set_option maxRecDepth 100000 in
theorem qmask_any {w : World} {A : Option Addr} {N : List Tn} (h : TsIn w A (N.map Tn.ts)) (ho : ∀ t ∈ N, t.Ok) (n c : Nat) (hn : N.length = n) (hn2 : n ≤ 1000) (q : Nat) (hq : q ≤ 64) :
    Calls Try.prog 33 #[.slice A n c, .int .i64 (q : Int)] w fun e w' => e = .returned (.int .i64 (maskN N q : Int)) ∧ w = w' := by
  have H := Lib.hid h
  have HN := Lib.hid hn
  have HO := Lib.hid ho
  clear h hn ho
  go_enter Try.func33, Try.ntmps33
  go_wp2
  go_loop [5, 6] (fun l i => ∃ k : Nat, k ≤ n ∧ i = .int .i64 (k : Int) ∧ l = .int .i64 (maskN (N.take k) q : Int)) (fun _ i => n - (intOf i).toNat)
  case atStart => exact ⟨0, by omega, rfl, rfl⟩
  case round =>
    obtain ⟨k, hk, rfl, rfl⟩ := hrel
    by_cases hlt : k < n
    · have hlt2 : (k : Int) < n := by omega
      obtain ⟨t, ht⟩ : ∃ t, N[k]? = some t := ⟨_, List.getElem?_eq_getElem (by rw [HN.out]; exact hlt)⟩
      obtain ⟨b, o, rfl, hbl, c0, c1, c2⟩ := H.out k t.ts (by rw [List.getElem?_map, ht]; rfl)
      have hm := (HO.out t (List.mem_of_getElem? ht)).m
      have hlk := sum_M256 (take_ok HO.out k) q
      rw [sum_M] at hlk
      have HS := Lib.hid (show maskN (N.take (k + 1)) q = if t.p = q then maskN (N.take k) q ||| t.m else maskN (N.take k) q by rw [take_snoc ht, mask_snoc])
      obtain ⟨p, m, v⟩ := t
      simp only [Tn.ts] at c0 c1 c2 hm
      simp only at HS
      clear hbl ht
      generalize maskN (N.take k) q = l at hlk HS ⊢
      have ho' := i64_or_nat l m hlk hm
      by_cases hpq : p = q
      · subst hpq
        have hd2 : ((p : Int) == (p : Int)) = true := by simp
        rw [if_pos rfl] at HS
        go_wp2
        go_round
        case measure => simp [intOf]; omega
        case rel => exact ⟨k + 1, by omega, by go_num, by rw [HS.out, ← ho']⟩
      · have hd2 : ((p : Int) == (q : Int)) = false := by simp; omega
        rw [if_neg hpq] at HS
        clear hpq
        go_wp2
        go_round
        case measure => simp [intOf]; omega
        case rel => exact ⟨k + 1, by omega, by go_num, by rw [HS.out]⟩
    · obtain rfl : k = n := by omega
      have hlt2 : ¬ (k : Int) < (k : Int) := by omega
      go_wp2
      go_ret
      exact ⟨ret_int (by rw [List.take_of_length_le (by rw [HN.out]; exact Nat.le_refl _)]), rfl⟩
end Go.Proofs.Yteibholghonajaa
