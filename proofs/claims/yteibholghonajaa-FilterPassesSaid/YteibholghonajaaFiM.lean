/- Plain, Never, Home, Within, Same and Least of the project. -/
import Derived.Test.YteibholghonajaaFiL
namespace Go.Proofs.Yteibholghonajaa
open Go.RowKit

section
variable {w : World} {A B : Option Addr} {n c m d : Nat} {L K : List Ts}
theorem FlIn.none (w : World) : FlIn w none 0 0 [] := ⟨rfl, fun _ => ⟨rfl, rfl⟩, TsIn.nil w _⟩
theorem plain_any (h : FlIn w A n c L) (h63 : (n : Int) ≤ 9223372036854775807) :
    Calls Try.prog 14 #[.slice A n c] w (BothOut (BothR L []) w) := by
  have HB := Lib.hid (both_any h (FlIn.none w) h63 (by decide))
  generalize BothR L [] = r at HB ⊢
  obtain ⟨code, T⟩ := r
  clear h
  go_enter Try.func14, Try.ntmps14
  go_wp2_with (go_at_call 19; refine HB.out.mono ?_; rintro e w1 ⟨v, rfl, ho, hb⟩)
  go_ret2
  exact ⟨_, rfl, ho, hb⟩
theorem never_any (h : FlIn w A n c L) (h63 : (n : Int) ≤ 9223372036854775807) :
    Calls Try.prog 13 #[.slice A n c] w (BEOut (ApartR L []) w) := by
  have HB := Lib.hid (apart_any h (FlIn.none w) h63 (by decide))
  generalize ApartR L [] = r at HB ⊢
  obtain ⟨x, code⟩ := r
  clear h
  go_enter Try.func13, Try.ntmps13
  go_wp2_with (go_at_call 20; refine HB.out.mono ?_; rintro e w1 ⟨rfl, hb⟩)
  go_ret2
  exact ⟨rfl, hb⟩
theorem fl_new (w : World) (t : Ts) : FlIn (w.alloc (.cells #[.int .i64 t.p, .int .i64 t.m, .int .i64 t.v] 52)) (some ⟨w.heap.size, 0, none⟩) 1 1 [t] := by
  have hr := heap_alloc_new w (Obj.cells #[.int .i64 t.p, .int .i64 t.m, .int .i64 t.v] 52)
  refine ⟨rfl, (fun e => by cases e), fun i u hu => ?_⟩
  have hi : i = 0 := by
    have := (List.getElem?_eq_some_iff.1 hu).1
    simp at this; exact this
  subst hi
  obtain rfl : t = u := by simpa using hu
  exact ⟨w.heap.size, 0, rfl, by simp, by rw [cell_of_row _ _ _ _ _ _ hr]; rfl, by rw [cell_of_row _ _ _ _ _ _ hr]; rfl, by rw [cell_of_row _ _ _ _ _ _ hr]; rfl⟩
theorem home_any (h : FlIn w A n c L) (h63 : (n : Int) ≤ 9223372036854775807) (a : Int) :
    Calls Try.prog 24 #[.int .i64 a, .slice A n c] w (BothOut (BothR L [⟨0, 255, a⟩]) w) := by
  have hb1 := (Below.refl w.heap.size w).alloc (Nat.le_refl _) (.cells #[.int .i64 0, .int .i64 255, .int .i64 a] 52)
  have HB1 := Lib.hid hb1
  have HB := Lib.hid (both_any (h.below hb1) (fl_new w ⟨0, 255, a⟩) h63 (by decide))
  generalize BothR L [⟨0, 255, a⟩] = r at HB ⊢
  obtain ⟨code, T⟩ := r
  clear h hb1
  go_enter Try.func24, Try.ntmps24
  go_wp2_with (go_at_call 19; refine HB.out.mono ?_; rintro e w1 ⟨v, rfl, ho, hb⟩)
  go_ret2
  exact ⟨_, rfl, own_base ho HB1.out.size, HB1.out.trans (hb.mono HB1.out.size)⟩
/-- What Within answers. -/
def WithinR (L K : List Ts) : Bool × Int := if (TogR [L, K]).1 = 2 then (false, 2) else (smEq (TogR [L]).2 (TogR [L, K]).2 && (TogR [L]).1 == (TogR [L, K]).1, 0)
set_option maxHeartbeats 2000000 in
set_option maxRecDepth 100000 in
theorem within_anyF (h : FlIn w A n c L) (k : FlIn w B m d K) (h63 : (n : Int) ≤ 9223372036854775807) (k63 : (m : Int) ≤ 9223372036854775807) :
    Calls Try.prog 21 #[.slice A n c, .slice B m d] w (BEOut (WithinR L K) w) := by
  have HT := Lib.hid (tog_two h k h63 k63)
  have H := Lib.hid h
  have HO1 := Lib.hid (togR_ok [L, K])
  have HO2 := Lib.hid (togR_ok [L])
  have HT2 := Lib.hid (fun (w' : World) (hb : Below w.heap.size w w') => tog_one (h.below hb) h63)
  unfold WithinR
  generalize TogR [L, K] = r at HT HO1 ⊢
  generalize TogR [L] = r2 at HT2 HO2 ⊢
  obtain ⟨code, s⟩ := r
  obtain ⟨code2, s2⟩ := r2
  simp only at HT HT2 HO1 HO2 ⊢
  clear h k
  by_cases hc : code = 2
  · subst hc
    go_enter Try.func21, Try.ntmps21
    go_wp2_with (first
      | (go_at_call 29; refine HT.out.mono ?_; rintro e w1 ⟨rfl, hb1⟩; have HB1 := Lib.hid hb1; have BN := Lib.hid ((Below.refl _ w1).alloc (Nat.le_refl _) (Obj.cells (smA s) 57)); clear hb1)
      | (refine wpList_box_sm rfl rfl 6 rfl rfl _ rfl rfl s rfl rfl ?_))
    go_ret2
    exact ⟨rfl, HB1.out.trans (BN.out.mono HB1.out.size)⟩
  · have hc1 : (code == 2) = false := by simpa using hc
    rw [if_neg hc]
    clear hc
    go_enter Try.func21, Try.ntmps21
    go_wp2_with (first
      | (go_at_call 29; refine HT.out.mono ?_; rintro e w1 ⟨rfl, hb1⟩; have tok : True := trivial; have HB1 := Lib.hid hb1; have BN := Lib.hid ((Below.refl _ w1).alloc (Nat.le_refl _) (Obj.cells (smA s) 57)); have NEW := Lib.hid (SmAt.new w1 s); have HB2 := Lib.hid (hb1.trans (BN.out.mono hb1.size)); clear hb1; clear HT; generalize hw2 : w1.alloc (Obj.cells (smA s) 57) = w2 at BN NEW HB2)
      | (refine wpList_box_sm rfl rfl 6 rfl rfl _ rfl rfl s rfl rfl ?_; rw [hw2])
      | (go_at_call 29; refine (HT2.out _ HB2.out).mono ?_; rintro e w3 ⟨rfl, hb3⟩; have HB3 := Lib.hid (HB2.out.trans (hb3.mono HB2.out.size)); have N3 := Lib.hid (NEW.out.below hb3); have BM := Lib.hid ((Below.refl _ w3).alloc (Nat.le_refl _) (Obj.cells (smA s2) 57)); have N4 := Lib.hid (N3.out.below BM.out); have NEW4 := Lib.hid (SmAt.new w3 s2); clear hb3)
      | (refine wpList_box_sm rfl rfl 8 rfl rfl _ rfl rfl s2 rfl rfl ?_)
      | (refine wpList_load_sm rfl _ rfl w3.heap.size rfl s2 NEW4.out ?_)
      | (refine wpList_load_sm rfl _ rfl w1.heap.size rfl s N4.out ?_; have hq := eql_sm HO2.out HO1.out))
    all_goals
      go_ret2
      exact ⟨by simp [*], HB3.out.trans (BM.out.mono HB3.out.size)⟩
def SameR (L K : List Ts) : Bool × Int := ((WithinR L K).1 && (WithinR K L).1, (WithinR L K).2)
set_option maxHeartbeats 2000000 in
set_option maxRecDepth 100000 in
theorem same_anyF (h : FlIn w A n c L) (k : FlIn w B m d K) (h63 : (n : Int) ≤ 9223372036854775807) (k63 : (m : Int) ≤ 9223372036854775807) :
    Calls Try.prog 22 #[.slice A n c, .slice B m d] w (BEOut (SameR L K) w) := by
  have H1 := Lib.hid (within_anyF h k h63 k63)
  have H2 := Lib.hid (fun (w' : World) (hb : Below w.heap.size w w') => within_anyF (k.below hb) (h.below hb) k63 h63)
  unfold SameR
  generalize WithinR L K = r at H1 ⊢
  generalize WithinR K L = r2 at H2 ⊢
  obtain ⟨x, code⟩ := r
  obtain ⟨x2, code2⟩ := r2
  simp only
  clear h k
  cases x <;> cases x2
  all_goals
    go_enter Try.func22, Try.ntmps22
    go_wp2_with (first
      | (go_at_call 21; refine H1.out.mono ?_; rintro e w1 ⟨rfl, hb1⟩; have HB1 := Lib.hid hb1; clear hb1; clear H1)
      | (go_at_call 21; refine (H2.out _ HB1.out).mono ?_; rintro e w2 ⟨rfl, hb2⟩; have HB2 := Lib.hid (HB1.out.trans (hb2.mono HB1.out.size)); clear hb2))
    go_ret2
    exact ⟨rfl, HB2.out⟩

/-! ### Least -/
def CloneOutF (n : Nat) (cs : List Value) (w : World) (e : Ending) (w' : World) : Prop := ∃ v', e = .returned v' ∧ w'.ownsRow w.heap.size 5 1 v' n cs ∧ v' ≠ .slice none 0 0 ∧ Below w.heap.size w w'
set_option maxHeartbeats 1000000 in
set_option maxRecDepth 100000 in
theorem clone_some {w : World} (b off n c : Nat) (cs : List Value) (hn : cs.length = n) (hc : (∀ (j : Nat) (v : Value), cs[j]? = some v → w.cell? ⟨b, off + j, none⟩ = some v) ∧ ∀ v ∈ cs, v.oneCell' = true) (hb : n ≤ 1000000) :
    Calls Try.prog 30 #[.slice (some ⟨b, off, none⟩) n c] w (CloneOutF n cs w) := by
  obtain ⟨i0, hi, hz0, hz1, hz2⟩ := info_parts Try.inU8t
  have q22 : ∀ (w : World) (a : Option Addr) (n c n' c' : Nat), (binOp .eql 23 (.slice a n c) (.slice none n' c')).run Try.prog w = .ok (.bool a.isNone) w := fun w a n c n' c' => Lib.run_eql_slice_nil w _ _ a n c n' c' Try.underlying23
  have HC := Lib.hid hc
  have HN := Lib.hid hn
  clear hc hn
  go_enter Try.func30, Try.ntmps30
  go_wp2_with (at_builtin; refine wpList_append_own _ rfl _ _ 23 rfl w.heap.size 5 i0 (.int .u8 0) 1 1 Try.underlying23 hi hz0 hz1 hz2 rfl (by decide) _ _ _ rfl (World.ownsRow_made w #[] 0 (Nat.le_refl _) (Nat.zero_le _) rfl) ⟨b, off, none⟩ n c cs rfl ?qc1 ?qc2 ?qc3 ?qc4 ?qc5 ?qc6 ?_)
  case qc1 => rw [HN.out, Nat.mul_one]
  case qc2 =>
    intro j u hj
    rw [Addr.add_lit]
    exact Lib.cell?_alloc_some _ (HC.out.1 j u hj)
  case qc3 => exact HC.out.2
  case qc4 => unfold maxLen; omega
  case qc5 => omega
  case qc6 => simp
  intro v' w1 hown hgrow hnil
  go_wp2
  go_ret
  exact ⟨v', rfl, by simpa using hown, hnil, ((Below.refl _ w).alloc (Nat.le_refl _) _).grown hgrow (by simp) (by intro k hk; simp [Value.ownBlock] at hk; omega)⟩
def LeastR (L : List Ts) : Int × List Nat := if (TogR [L]).1 = 0 then (0, (List.range (TogR [L]).2.size).map (TogR [L]).2.V) else ((TogR [L]).1, [])
def LeastPOut (r : Int × List Nat) (w : World) (e : Ending) (w' : World) : Prop := ∃ v, e = .returned (.tuple #[v, .int .i64 r.1]) ∧ w'.ownsRow w.heap.size 5 1 v r.2.length (byL r.2) ∧ Below w.heap.size w w'
theorem slice_values (g l : Nat) (h : l ≤ 64) (w : World) : (Instr.sliceAt 55 (.pointer (some ⟨g, 65, none⟩)) none (some (.int .i64 (l : Int))) none).run Try.prog w = .ok (.slice (some ⟨g, 65, none⟩) l 64) w := by
  rw [run_sliceAt_array_h w 55 ⟨g, 65, none⟩ (by kernel_rfl) .i64 (l : Int) (by omega) (by rw [Try.arrT64]; omega)]
  rw [Try.arrT64, show (sizeOf (Try.prog.elem 55)).run Try.prog w = .ok 1 w from by kernel_rfl]
  simp [slicedAt, Addr.add]
theorem byL_one (l : List Nat) : ∀ v ∈ byL l, v.oneCell' = true := fun v hv => by
  obtain ⟨x, -, rfl⟩ := List.mem_map.1 hv
  rfl
theorem sm_vals {w : World} {g : Nat} {s : Sm} (h : SmAt w g s) {l : Nat} (hl : l ≤ 64) : (∀ (j : Nat) (v : Value), (byL ((List.range l).map s.V))[j]? = some v → w.cell? ⟨g, 65 + j, none⟩ = some v) ∧ ∀ v ∈ byL ((List.range l).map s.V), v.oneCell' = true := by
  refine ⟨fun j v hj => ?_, byL_one _⟩
  have hjl : j < l := by
    have := (List.getElem?_eq_some_iff.1 hj).1
    simpa [byL] using this
  rw [h.cV (by omega)]
  unfold byL at hj
  rw [List.getElem?_map, List.getElem?_map, List.getElem?_range hjl] at hj
  exact hj
set_option maxHeartbeats 2000000 in
set_option maxRecDepth 100000 in
theorem least_anyF (h : FlIn w A n c L) (h63 : (n : Int) ≤ 9223372036854775807) :
    Calls Try.prog 15 #[.slice A n c] w (LeastPOut (LeastR L) w) := by
  have HT := Lib.hid (tog_one h h63)
  have hok := togR_ok [L]
  unfold LeastR
  generalize TogR [L] = r at HT hok ⊢
  obtain ⟨code, s⟩ := r
  simp only at HT hok ⊢
  have HOK := Lib.hid hok
  clear h hok
  by_cases hc : code = 0
  · subst hc
    rw [if_pos rfl]
    have h64 := HOK.out.n
    obtain ⟨l, hl⟩ : ∃ l, s.size = l := ⟨_, rfl⟩
    have HL := Lib.hid hl
    rw [hl] at h64 ⊢
    clear hl
    go_enter Try.func15, Try.ntmps15
    go_wp2_with (first
      | (go_at_call 29; refine HT.out.mono ?_; rintro e w1 ⟨rfl, hb1⟩; have HB1 := Lib.hid hb1; have BN := Lib.hid ((Below.refl _ w1).alloc (Nat.le_refl _) (Obj.cells (smA s) 57)); have NEW := Lib.hid (SmAt.new w1 s); have HB2 := Lib.hid (hb1.trans (BN.out.mono hb1.size)); have hsl := slice_values w1.heap.size l h64; clear hb1; generalize hw2 : w1.alloc (Obj.cells (smA s) 57) = w2 at BN NEW HB2; have c0 := NEW.out.c0; rw [HL.out] at c0)
      | (refine wpList_box_sm rfl rfl 4 rfl rfl _ rfl rfl s rfl rfl ?_; rw [hw2])
      | (go_at_call 30; refine (clone_some w1.heap.size 65 l 64 (byL ((List.range l).map s.V)) (by simp [byL]) (sm_vals NEW.out h64) (by omega)).mono ?_; rintro e w3 ⟨v3, rfl, ho3, -, hb3⟩))
    go_ret2
    refine ⟨_, rfl, ?_, HB2.out.trans (hb3.mono HB2.out.size)⟩
    have ho := own_base ho3 HB2.out.size
    show w3.ownsRow w.heap.size 5 1 _ ((List.range l).map s.V).length _
    rw [show ((List.range l).map s.V).length = l by simp]
    exact ho
  · rw [if_neg hc]
    have hc1 : (code != 0) = true := by rw [bne_iff_ne]; exact hc
    clear hc
    go_enter Try.func15, Try.ntmps15
    go_wp2_with (first
      | (go_at_call 29; refine HT.out.mono ?_; rintro e w1 ⟨rfl, hb1⟩; have HB1 := Lib.hid hb1; have BN := Lib.hid ((Below.refl _ w1).alloc (Nat.le_refl _) (Obj.cells (smA s) 57)); clear hb1)
      | (refine wpList_box_sm rfl rfl 4 rfl rfl _ rfl rfl s rfl rfl ?_))
    all_goals
      go_ret2
      exact ⟨_, rfl, World.ownsRow_nil _ _ _ _, HB1.out.trans (BN.out.mono HB1.out.size)⟩
end
end Go.Proofs.Yteibholghonajaa
