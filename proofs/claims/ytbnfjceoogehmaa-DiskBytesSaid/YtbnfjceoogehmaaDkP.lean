/- Are two sectors alike, are two rows of sectors; maps that are empty. -/
import Derived.Test.YtbnfjceoogehmaaDkO
import Derived.DeepKeys
import Derived.Maps.Ext
namespace Go.Proofs.Ytbnfjceoogehmaa
open Go.RowKit
open Go.Maps (Keyed)
attribute [local go_sem] Oper.semAt_some

theorem mapM_some9 {α β : Type} (g : α → Option β) (f : α → β) : ∀ (l : List α), (∀ i ∈ l, g i = some (f i)) → l.mapM g = some (l.map f)
  | [], _ => rfl
  | a :: l, h => by
    rw [List.mapM_cons, h a (List.mem_cons_self ..), mapM_some9 g f l (fun i hi => h i (List.mem_cons_of_mem _ hi))]
    rfl
theorem Try.cCont : Try.prog.cellsOf 85 = 128 := by kernel_rfl
theorem Try.cU8c : Try.prog.cellsOf 5 = 1 := by kernel_rfl
theorem Try.kCont : Try.prog.keyTypeAt 2 85 = true := by kernel_rfl
theorem u8_lits (d : Nat) {x : Int} (h : 0 ≤ x ∧ x < 256) : Try.prog.keyLits (d + 1) 5 [.int .u8 x] = some [.int .u8 x] := by
  have hw : (Lit.int .u8 x).wf = true := by
    rw [Lit.wf]; simp; exact ⟨h.1, by show x ≤ 255; omega⟩
  unfold Program.keyLits
  simp [Try.underlying5, hw]
theorem flat_one {α β : Type} (f : α → β) (l : List α) : (l.map (fun i => [f i])).flatten = l.map f := by
  induction l with
  | nil => rfl
  | cons a l ih => simp [ih]
theorem sec_lits (d : Nat) {c : Sec} (h : SecOk c) : Try.prog.keyLits (d + 2) 85 (secL c) = some ((List.range 128).map (fun i => Lit.int .u8 (c.getD i 0))) := by
  have hl := secL_len h
  rw [show d + 2 = (d + 1) + 1 from rfl]
  unfold Program.keyLits
  rw [Try.uContA]
  simp only [Try.cCont, Try.cU8c]
  rw [if_pos (by rw [hl]), mapM_some9 _ (fun i => [Lit.int .u8 (c.getD i 0)]) _ (fun i hi => ?_)]
  · show some _ = _
    rw [flat_one]
  · have hi := List.mem_range.1 hi
    have e : ((secL c).drop (i * 1)).take 1 = [.int .u8 (c.getD i 0)] := by
      rw [Nat.mul_one, List.drop_eq_getElem_cons (by omega), List.take_succ_cons, List.take_zero]
      unfold secL
      rw [List.getElem_map, List.getD_eq_getElem?_getD, List.getElem?_eq_getElem (by rw [h.len]; omega)]
      rfl
    rw [e]
    have hx : c.getD i 0 ∈ c := by
      rw [List.getD_eq_getElem?_getD, List.getElem?_eq_getElem (by rw [h.len]; omega)]
      exact List.getElem_mem _
    exact u8_lits d (h.b0 _ hx)
theorem sec_lits_inj {c d : Sec} (h : SecOk c) (k : SecOk d) (e : (List.range 128).map (fun i => Lit.int .u8 (c.getD i 0)) = (List.range 128).map (fun i => Lit.int .u8 (d.getD i 0))) : c = d := by
  apply List.ext_getElem?
  intro i
  by_cases hi : i < 128
  · have := congrArg (fun l => l[i]?) e
    simp only [List.getElem?_map, List.getElem?_range hi, Option.map_some, Option.some.injEq, Lit.int.injEq, true_and] at this
    rw [List.getD_eq_getElem?_getD, List.getD_eq_getElem?_getD, List.getElem?_eq_getElem (by rw [h.len]; omega), List.getElem?_eq_getElem (by rw [k.len]; omega)] at this
    rw [List.getElem?_eq_getElem (by rw [h.len]; omega), List.getElem?_eq_getElem (by rw [k.len]; omega)]
    exact congrArg some this
  · rw [List.getElem?_eq_none (by rw [h.len]; omega), List.getElem?_eq_none (by rw [k.len]; omega)]
theorem equal_sec {c d : Sec} (h : SecOk c) (k : SecOk d) (w : World) : (Op.equalIn 10000 85 (.agg (secA c)) (.agg (secA d))).run Try.prog w = .ok (decide (c = d)) w := by
  have hf : ∀ {c : Sec}, SecOk c → (Value.agg (secA c)).formed Try.prog 85 = true := fun {c} h => by simp [Value.formed, Try.uContA, Try.cCont, secA_size h]
  have hk : ∀ {c : Sec}, SecOk c → Try.prog.keyLits 2 85 (Value.agg (secA c)).cells.toList = some ((List.range 128).map (fun i => Lit.int .u8 (c.getD i 0))) := fun {c} h => by
    rw [show (Value.agg (secA c)).cells = (secL c).toArray from rfl, List.toList_toArray]
    exact sec_lits 0 h
  obtain ⟨r, hr, hi⟩ := run_equalIn_deep (P := Try.prog) 9998 2 85 Try.kCont w 2 2 (.agg (secA c)) (.agg (secA d)) _ _ (hf h) (hf k) (hk h) (hk k)
  rw [show 9998 + 2 = 10000 from rfl] at hr
  rw [hr]
  have e : r = decide (c = d) := by
    rw [Bool.eq_iff_iff, hi, decide_eq_true_iff]
    exact ⟨sec_lits_inj h k, fun e => by rw [e]⟩
  rw [e]
theorem neq_sec {c d : Sec} (h : SecOk c) (k : SecOk d) (w : World) : (binOp .neq 85 (.agg (secA c)) (.agg (secA d))).run Try.prog w = .ok (.bool (!decide (c = d))) w := by
  rw [run_neq_struct, equal_sec h k]; rfl
set_option maxHeartbeats 2000000 in
set_option maxRecDepth 100000 in
/-- Two rows of sectors. -/
theorem eqC_any9 {w : World} {B B' g g' n k k' : Nat} {l l' : List Sec} (h : w.ownsRow B 85 128 (.slice (some ⟨g, 0, none⟩) n k) n (rowV l)) (h' : w.ownsRow B' 85 128 (.slice (some ⟨g', 0, none⟩) n k') n (rowV l'))
    (hl : l.length = n) (hl' : l'.length = n) (ok : ∀ c ∈ l, SecOk c) (ok' : ∀ c ∈ l', SecOk c) (he : l = l') (hn : n ≤ 1000000) :
    Calls Try.prog 40 #[.slice (some ⟨g, 0, none⟩) n k, .slice (some ⟨g', 0, none⟩) n k'] w fun e w' => e = .returned (.bool true) ∧ Below w.heap.size w w' := by
  subst he
  have H := Lib.hid h
  have H' := Lib.hid h'
  have HL := Lib.hid hl
  have HOK := Lib.hid ok
  clear h h' hl hl' ok ok'
  go_enter Try.func40, Try.ntmps40
  go_wp2
  go_loopw [13] (fun i wr => ∃ j : Nat, j ≤ n ∧ i = .int .i64 (j : Int) ∧ Below w.heap.size w wr) (fun i _ => n - (intOf i).toNat)
  case atStart => exact ⟨0, Nat.zero_le _, rfl, Below.refl _ _⟩
  case round =>
    obtain ⟨j, hj, rfl, hb⟩ := hrel
    have HB := Lib.hid hb
    clear hb
    by_cases hlt : j < n
    · have hlt' : (j : Int) < n := by omega
      obtain ⟨c, hc⟩ : ∃ c, l[j]? = some c := ⟨_, List.getElem?_eq_getElem (by rw [HL.out]; exact hlt)⟩
      have hok := HOK.out c (List.mem_of_getElem? hc)
      have r1 := row_range (owns_eq H.out (fun r e => HB.out.drew.block r (H.out.lt r e).2)) HOK.out hc
      have r2 := row_range (owns_eq H'.out (fun r e => HB.out.drew.block r (H'.out.lt r e).2)) HOK.out hc
      have R := Lib.hid (show wr.drew.rangeAt g (j * 128) (secL c) ∧ wr.drew.rangeAt g' (j * 128) (secL c) from ⟨r1, r2⟩)
      have HO := Lib.hid hok
      have hne : ∀ w, (binOp .neq 85 (.agg (secA c)) (.agg (secA c))).run Try.prog w = .ok (.bool false) w := fun w => by rw [neq_sec hok hok]; simp
      clear hc hok r1 r2
      go_wp2
      refine wp_region_noPanic ?_
      refine wp_region_held_drew (S := fun W => W.rangeAt g (j * 128) (secL c) ∧ W.rangeAt g' (j * 128) (secL c)) (by kernel_rfl) ?_ (fun hHeld => ?_)
      · exact R.out
      obtain ⟨TD, hTD1, hTD2⟩ := uCont_d
      refine wpAnyH_take (i := 0) (v := ?_) rfl (by kernel_rfl) (by kernel_rfl) (by kernel_rfl) (fun _ _ _ h => h) (Or.inl ⟨by rfl, ?_⟩) (by assumption) ?_
      rotate_left
      · (intro w hSw; obtain ⟨hS1, hS2⟩ := hSw; (try simp only [List.getElem_toArray, List.getElem_cons_zero]); go_simp; try (with_reducible rfl))
      try simp only [Act.put, List.getElem_toArray, List.getElem_cons_zero, List.setIfInBounds_toArray, List.set_cons_zero, List.set_cons_succ]
      refine wpAnyH_take (i := 1) (v := ?_) rfl (by kernel_rfl) (by kernel_rfl) (by kernel_rfl) (fun _ _ _ h => h) (Or.inl ⟨by rfl, ?_⟩) (by assumption) ?_
      rotate_left
      · (intro w hSw; obtain ⟨hS1, hS2⟩ := hSw; (try simp only [List.getElem_toArray, List.getElem_cons_zero, List.getElem_cons_succ]); go_simp; try (with_reducible rfl))
      try simp only [Act.put, List.getElem_toArray, List.getElem_cons_zero, List.getElem_cons_succ, List.setIfInBounds_toArray, List.set_cons_zero, List.set_cons_succ]
      refine wpAnyH_take (i := 2) (v := ?_) rfl (by kernel_rfl) (by kernel_rfl) (by kernel_rfl) (fun _ _ _ h => h) (Or.inl ⟨by rfl, ?_⟩) (by assumption) ?_
      rotate_left
      · (intro w hSw; obtain ⟨hS1, hS2⟩ := hSw; (try simp only [List.getElem_toArray, List.getElem_cons_zero, List.getElem_cons_succ]); go_simp; try (with_reducible rfl))
      try simp only [Act.put, List.getElem_toArray, List.getElem_cons_zero, List.getElem_cons_succ, List.setIfInBounds_toArray, List.set_cons_zero, List.set_cons_succ]
      refine wpAnyH_take (i := 3) (v := .agg (secA c)) rfl (by kernel_rfl) (by kernel_rfl) (by kernel_rfl) (fun _ _ _ h => h) (yieldsIf_load_mid (by rfl) 85 _ rfl g (j * 128) rfl (secL c) TD (fun w h => h.1) hTD1 hTD2 (sContL c HO.out)) (by assumption) ?_
      try simp only [Act.put, List.getElem_toArray, List.getElem_cons_zero, List.getElem_cons_succ, List.setIfInBounds_toArray, List.set_cons_zero, List.set_cons_succ]
      refine wpAnyH_take (i := 4) (v := ?_) rfl (by kernel_rfl) (by kernel_rfl) (by kernel_rfl) (fun _ _ _ h => h) (Or.inl ⟨by rfl, ?_⟩) (by assumption) ?_
      rotate_left
      · (intro w hSw; obtain ⟨hS1, hS2⟩ := hSw; (try simp only [List.getElem_toArray, List.getElem_cons_zero, List.getElem_cons_succ]); go_simp; try (with_reducible rfl))
      try simp only [Act.put, List.getElem_toArray, List.getElem_cons_zero, List.getElem_cons_succ, List.setIfInBounds_toArray, List.set_cons_zero, List.set_cons_succ]
      refine wpAnyH_take (i := 5) (v := ?_) rfl (by kernel_rfl) (by kernel_rfl) (by kernel_rfl) (fun _ _ _ h => h) (Or.inl ⟨by rfl, ?_⟩) (by assumption) ?_
      rotate_left
      · (intro w hSw; obtain ⟨hS1, hS2⟩ := hSw; (try simp only [List.getElem_toArray, List.getElem_cons_zero, List.getElem_cons_succ]); go_simp; try (with_reducible rfl))
      try simp only [Act.put, List.getElem_toArray, List.getElem_cons_zero, List.getElem_cons_succ, List.setIfInBounds_toArray, List.set_cons_zero, List.set_cons_succ]
      refine wpAnyH_take (i := 6) (v := ?_) rfl (by kernel_rfl) (by kernel_rfl) (by kernel_rfl) (fun _ _ _ h => h) (Or.inl ⟨by rfl, ?_⟩) (by assumption) ?_
      rotate_left
      · (intro w hSw; obtain ⟨hS1, hS2⟩ := hSw; (try simp only [List.getElem_toArray, List.getElem_cons_zero, List.getElem_cons_succ]); go_simp; try (with_reducible rfl))
      try simp only [Act.put, List.getElem_toArray, List.getElem_cons_zero, List.getElem_cons_succ, List.setIfInBounds_toArray, List.set_cons_zero, List.set_cons_succ]
      refine wpAnyH_take (i := 7) (v := .agg (secA c)) rfl (by kernel_rfl) (by kernel_rfl) (by kernel_rfl) (fun _ _ _ h => h) (yieldsIf_load_mid (by rfl) 85 _ rfl g' (j * 128) rfl (secL c) TD (fun w h => h.2) hTD1 hTD2 (sContL c HO.out)) (by assumption) ?_
      try simp only [Act.put, List.getElem_toArray, List.getElem_cons_zero, List.getElem_cons_succ, List.setIfInBounds_toArray, List.set_cons_zero, List.set_cons_succ]
      refine wpAnyH_take (i := 8) (v := ?_) rfl (by kernel_rfl) (by kernel_rfl) (by kernel_rfl) (fun _ _ _ h => h) (Or.inl ⟨by rfl, ?_⟩) (by assumption) ?_
      rotate_left
      · (intro w hSw; obtain ⟨hS1, hS2⟩ := hSw; (try simp only [List.getElem_toArray, List.getElem_cons_zero, List.getElem_cons_succ]); go_simp; try (with_reducible rfl))
      try simp only [Act.put, List.getElem_toArray, List.getElem_cons_zero, List.getElem_cons_succ, List.setIfInBounds_toArray, List.set_cons_zero, List.set_cons_succ]
      refine wpAnyH_done (by kernel_rfl) ?_ _
      refine NoPanic.normal ?_
      go_wp2
      go_roundw
      case rel => exact ⟨j + 1, hlt, by go_num, HB.out.drew⟩
      case measure => simp [intOf]; omega
    · have hlt' : ¬ (j : Int) < n := by omega
      obtain rfl : j = n := by omega
      go_wp2
      go_ret
      exact ⟨rfl, HB.out⟩
/-- Two maps that are empty. -/
theorem has_none_size {D : DataW Unit} (h1 : Maps.Canon D) (h2 : ∀ k, Maps.has D k = false) : Maps.size D = 0 := by
  obtain ⟨es, rfl, -, hk⟩ := h1
  cases es with
  | nil => rfl
  | cons a l =>
    have h3 := h2 a.1
    have h4 := hk a (List.mem_cons_self ..)
    have h5 : Maps.has (.map (a :: l)) a.1 = true := by
      have h6 := Maps.atKey_put_same (D := (.map (a :: l))) ⟨_, rfl⟩ h4 a.2 .nil
      rw [Maps.has_eq, List.any_cons]
      have : a.1.sameKey a.1 = true := by
        obtain ⟨k, v⟩ := a
        cases k <;> simp_all [Lit.sameKey, WideAt.IsKeyLit]
      rw [this]; rfl
    rw [h5] at h3
    cases h3
theorem pend_size {w : World} {L : Lay9} {s : Dk} {D : DataW Unit} {m : Nat} (p : PendIs w L s D m) (h : ∀ i, s.pd i = []) : Maps.size D = 0 := by
  refine has_none_size (p.own.canon Try.kint) (fun k => ?_)
  cases hh : Maps.has D k with
  | false => rfl
  | true =>
    obtain ⟨i, rfl⟩ := p.ints k hh
    rw [p.has, h] at hh
    cases hh
end Go.Proofs.Ytbnfjceoogehmaa
