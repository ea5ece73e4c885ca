/- All: an account's capabilities by ids, as an iterator. -/
import Derived.Test.YtgpmkllhljngfaaCapN
import Derived.Shelf.SlSortCmp.NoneTotal
namespace Go.Proofs.Ytgpmkllhljngfaa
open Go.RowKit Go.Sort Go.Lib Go.Shelf
open Go.Maps (Keyed)

theorem Try.infoCap : (Try.prog.info? 43).map (fun i => (i.zero, i.size, i.bytes)) = some (some (capV nilC), 7, 56) := by kernel_rfl
/-- An iterator over a row of capabilities. -/
structure SeqAt (w : World) (F : Nat) (S : List Cap) : Prop where
  hF : F < w.heap.size
  cell : ∃ A cap, w.cell? ⟨F, 0, none⟩ = some (.slice A S.length cap) ∧ (S ≠ [] → ∃ g, A = some ⟨g, 0, none⟩ ∧ g < w.heap.size ∧ RowAt w g S)
theorem RowAt.below {w w' : World} {g B : Nat} {L : List Cap} (h : RowAt w g L) (hb : Below B w w') (hg : g < B) : RowAt w' g L := by
  obtain ⟨cur, t, h1, h2⟩ := h
  exact ⟨cur, t, (hb.block g hg).trans h1, h2⟩
theorem SeqAt.below {w w' : World} {F B : Nat} {S : List Cap} (h : SeqAt w F S) (hb : Below B w w') (hB : w.heap.size ≤ B) : SeqAt w' F S := by
  obtain ⟨hF, A, cap, h1, h2⟩ := h
  refine ⟨Nat.lt_of_lt_of_le hF hb.size, A, cap, (hb.cell (p := ⟨F, 0, none⟩) (show F < B by omega)).trans h1, fun hS => ?_⟩
  obtain ⟨g, e, hg, hr⟩ := h2 hS
  exact ⟨g, e, Nat.lt_of_lt_of_le hg hb.size, hr.below hb (by omega)⟩
theorem seven_new (w : World) (c : Cap) (t : TypeId) : ∀ j u, (capL c)[j]? = some u → (w.alloc (.cells #[.int .i64 c.id, .int .i64 c.parent, .int .i64 c.account, .int .i64 c.maker, .int .i64 c.kind, .int .i64 c.object, .int .i64 c.rights] t)).cell? ((⟨w.heap.size, 0, none⟩ : Addr).add j) = some u := by
  intro j u h
  rw [Addr.add_lit, Nat.zero_add, cell_of_row _ _ _ _ _ _ (heap_alloc_new w _), List.getElem?_toArray]
  exact h
theorem seven_at (W : World) (c : Cap) (t : TypeId) (n : Nat) (hn : n = W.heap.size) : ∀ j u, (capL c)[j]? = some u → (W.alloc (.cells #[.int .i64 c.id, .int .i64 c.parent, .int .i64 c.account, .int .i64 c.maker, .int .i64 c.kind, .int .i64 c.object, .int .i64 c.rights] t)).cell? ((⟨n, 0, none⟩ : Addr).add j) = some u := by
  subst hn; exact seven_new W c t
theorem row_nil {w : World} {base : Nat} {e : TypeId} {size : Nat} {v : Value} {L : List Cap} {xs : List Value} (h : w.ownsRow base e size v L.length xs) (hz : L = []) : ∃ A cap, v = .slice A 0 cap := by
  subst hz
  obtain ⟨-, ⟨rfl, -⟩ | ⟨g, cap, cur, rfl, -⟩⟩ := h
  · exact ⟨_, _, rfl⟩
  · exact ⟨_, _, rfl⟩
def seqV (F : Nat) : Value := .func (.func 58) #[] #[.pointer (some ⟨F, 0, none⟩)]
theorem all_perm {S : List Cap} (hS : S.Pairwise (fun c d => c.id < d.id)) (a : Int) : (allC S a).Pairwise (fun c d => c.id < d.id) := hS.sublist List.filter_sublist
theorem sort_none (cap : Nat) (A : Option Addr) (fv : Value) (w : World) : Calls Try.prog 40 #[.slice A 0 cap, fv] w fun e w' => e = .returned (.tuple #[]) ∧ w' = w := AnyF.slices_SortFunc_none Try.sortCaps A cap fv w
theorem values_any (w : World) (A : Option Addr) (n cap : Nat) : Calls Try.prog 43 #[.slice A n cap] w fun e w' => ∃ F, e = .returned (seqV F) ∧ F = w.heap.size ∧ w' = w.alloc (.cells #[.slice A n cap] 27) := by
  go_enter Try.func43, Try.ntmps43
  go_wp2_with fail
  go_ret
  exact ⟨w.heap.size, rfl, rfl, rfl⟩
theorem seq_new (W : World) (A : Option Addr) (cap : Nat) (S : List Cap) (h : S ≠ [] → ∃ g, A = some ⟨g, 0, none⟩ ∧ g < W.heap.size ∧ RowAt W g S) : SeqAt (W.alloc (.cells #[.slice A S.length cap] 27)) W.heap.size S := by
  refine ⟨by simp, A, cap, by rw [cell_of_row _ _ _ _ _ _ (heap_alloc_new W _)]; rfl, fun hS => ?_⟩
  obtain ⟨g, e, hg, hr⟩ := h hS
  exact ⟨g, e, by simp; omega, hr.below ((Below.refl _ W).alloc (Nat.le_refl _) _) hg⟩
set_option maxRecDepth 100000 in
set_option maxHeartbeats 2000000 in
theorem all_any {w : World} {t b : Nat} {T : Tab} (h : TabAt w t b T) (hl : T.last ≤ 1000) (a : Int) :
    Calls Try.prog 18 #[.pointer (some ⟨t, 0, none⟩), .int .i64 a] w fun e w' => ∃ F, e = .returned (seqV F) ∧ SeqAt w' F (allC T.caps a) ∧ Below w.heap.size w w' ∧ w.heap.size ≤ F := by
  obtain ⟨D, hown, hD⟩ := h.map
  obtain ⟨i0, hi, hz0, hz1, hz2⟩ := info_parts Try.infoCap
  have HU := Lib.hid h.ok.up
  have HLEN := Lib.hid (show T.caps.length ≤ 1000 from Nat.le_trans h.ok.len hl)
  have HALL := Lib.hid (met_all T.caps D hD h.ok.up)
  have HD := Lib.hid hD
  have HOW := Lib.hid hown
  have HBL := Lib.hid h.hb
  have H := Lib.hid h
  clear hD h hown hl
  go_enter Try.func18, Try.ntmps18
  go_wp2_with (first
    | (go_at_call 30; refine (there_any H.out).mono ?_; rintro e w' ⟨rfl, rfl⟩)
    | (at_range; refine wpList_range_own _ rfl _ 59 rfl 2 43 Try.kid Try.underlying59 capE b T.last D rfl HOW.out ?_; intro w0 hrg0 hg0 hs0))
  have HRG0 := Lib.hid hrg0
  have HG0 := Lib.hid hg0
  clear hrg0 hg0 hs0
  go_frame
  go_loopw [5] (fun v wr => ∃ (left : Lit → Bool) (cnt : Nat) (L : List Cap), wr.ranges Try.prog 2 capE b w.heap.size T.last D left cnt ∧ wr.ownsRow w.heap.size 43 7 v L.length (L.flatMap capL) ∧
      L.Perm (metC T.caps left (fun c => decide (a < 0) || c.account == a)) ∧ Below w.heap.size w wr)
    (fun _ wr => wr.rangeLeft b w.heap.size)
  case atStart => exact ⟨_, _, [], HRG0.out, ⟨rfl, .inl ⟨rfl, rfl⟩⟩, by rw [met_start _ _ _ HALL.out], (Below.refl _ _).grown HG0.out (Nat.le_refl _) (by simp)⟩
  case round =>
    obtain ⟨left, cnt, L, hrg, hrow, hperm, hbl⟩ := hrel
    have HRG := Lib.hid hrg
    have HROW := Lib.hid hrow
    have HPERM := Lib.hid hperm
    have BL := Lib.hid hbl
    have HN := Lib.hid (met_len hperm HLEN.out)
    clear hrg hrow hperm hbl
    go_wp2_with (first
      | (at_next; refine wpList_next_caps _ rfl _ rfl b w.heap.size T.last D T.caps left cnt rfl HRG.out HD.out ?_ ?_)
      | go_in)
    · intro hl0
      have hp := HPERM.out
      rw [met_end _ _ _ hl0] at hp
      have HP := Lib.hid (show L.Perm (allC T.caps a) from hp)
      clear hp
      by_cases hz : L = []
      · have HV := row_nil HROW.out hz
        have HS := Lib.hid (show allC T.caps a = [] by have := HP.out; rw [hz] at this; exact this.nil_eq.symm)
        subst hz
        obtain ⟨A, cap, rfl⟩ := HV
        go_wp2_with fail
        refine (sort_none _ _ _ _).mono ?_
        rintro e w3 ⟨rfl, rfl⟩
        go_wp2_with fail
        refine (values_any _ _ _ _).mono ?_
        rintro e w4 ⟨F, rfl, hF, rfl⟩
        have HF := Lib.hid hF
        clear hF
        go_wp2_with fail
        go_ret
        refine ⟨F, rfl, ?_, BL.out.alloc BL.out.size _, by rw [HF.out]; exact BL.out.size⟩
        rw [HF.out, HS.out]
        exact seq_new _ _ _ [] (fun h => absurd rfl h)
      · obtain ⟨g, cap, rfl, hg0, hg1, hrow⟩ := row_of_owns HROW.out hz
        have HS := Lib.hid (sort_any (cap := cap) hrow hg1 HN.out HP.out (all_perm HU.out a))
        have HG0 := Lib.hid hg0
        have HG1 := Lib.hid hg1
        clear hrow hg0 hg1 hz
        go_wp2_with fail
        refine HS.out.mono ?_
        rintro e w3 ⟨rfl, hg3, hr3⟩
        have B3 := Lib.hid (BL.out.grown hg3 BL.out.size (by rintro k hk; cases hk; exact HG0.out))
        have R3 := Lib.hid hr3
        have G3 := Lib.hid (Nat.lt_of_lt_of_le HG1.out hg3.size)
        clear hg3 hr3
        go_wp2_with fail
        refine (values_any _ _ _ _).mono ?_
        rintro e w4 ⟨F, rfl, hF, rfl⟩
        have HF := Lib.hid hF
        clear hF
        go_wp2_with fail
        go_ret
        refine ⟨F, rfl, ?_, B3.out.alloc B3.out.size _, by rw [HF.out]; exact B3.out.size⟩
        rw [HF.out, HP.out.length_eq]
        exact seq_new _ _ _ _ (fun _ => ⟨g, rfl, G3.out, R3.out⟩)
    · intro c w2 cnt1 hmem hlx hwf hrg1 hlt hg1 hs1 hen
      have HP := Lib.hid (met_step left (fun c => decide (a < 0) || c.account == a) c hlx HU.out hmem)
      have HRG1 := Lib.hid hrg1
      have HLT := Lib.hid hlt
      have HROW1 := Lib.hid (HROW.out.kept hg1 (Or.inr (row_ne_iter HROW.out HRG.out).symm))
      have BL1 := Lib.hid (BL.out.grown hg1 BL.out.size (by rintro k hk; cases hk; exact Nat.le_refl _))
      clear hmem hlx hwf hrg1 hlt hg1 hs1
      unfold capV at hen
      have ON : (decide (a < 0) || c.account == a) = true → (L ++ [c]).Perm (metC T.caps (fun z => left z && !z.sameKey (.int .i64 c.id)) (fun c => decide (a < 0) || c.account == a)) := fun hm => by
        have hp := HP.out
        rw [hm, if_pos rfl] at hp
        exact (HPERM.out.append_right [c]).trans hp.symm
      have OFF : (decide (a < 0) || c.account == a) = false → L.Perm (metC T.caps (fun z => left z && !z.sameKey (.int .i64 c.id)) (fun c => decide (a < 0) || c.account == a)) := fun hm => by
        have hp := HP.out
        rw [hm] at hp
        exact HPERM.out.trans (by simpa using hp.symm)
      have HON := Lib.hid ON
      have HOFF := Lib.hid OFF
      clear ON OFF
      cases h1 : decide (a < 0)
      case' false => cases h2 : c.account == a
      case' false.false =>
        go_wp2_with fail
        go_roundw
        case rel => exact ⟨_, cnt1, L, HRG1.out.alloc _, HROW1.out.alloc _, HOFF.out (by rw [h1, h2]; rfl), BL1.out.alloc BL1.out.size _⟩
        case measure => rw [(HRG1.out.alloc _).left_eq, HRG.out.left_eq]; exact HLT.out
      all_goals
        go_wp2_with (at_builtin; refine wpList_append_own _ rfl _ _ 27 rfl w.heap.size 43 i0 (capV nilC) 7 56 Try.underlying27 hi hz0 hz1 hz2 rfl (by decide) _ _ _ rfl ((HROW1.out.alloc _).alloc _) ⟨w2.heap.size + 1, 0, none⟩ 1 1 (capL c) rfl rfl (seven_at _ c _ _ (by simp)) (by simp [Value.oneCell', capL]) (by have := HN.out; unfold maxLen; omega) (by have := HN.out; omega) (by have := BL1.out.size; simp; omega) ?_; intro v' w3 hown' hg3 hnil3; go_frame)
        have HRG3 := Lib.hid (((HRG1.out.alloc _).alloc _).kept hg3 (row_ne_low HROW1.out HBL.out) (row_ne_iter HROW1.out HRG1.out))
        go_roundw
        case rel =>
          refine ⟨_, cnt1, L ++ [c], HRG3.out, by rw [List.length_append, List.flatMap_append, List.flatMap_singleton]; exact hown', HON.out (by simp [*]), ?_⟩
          exact ((BL1.out.alloc BL1.out.size _).alloc (by have := BL1.out.size; simp; omega) _).grown hg3 (by have := BL1.out.size; simp; omega) (fun j hj => (HROW1.out.lt j hj).1)
        case measure => rw [HRG3.out.left_eq, HRG.out.left_eq]; exact HLT.out
end Go.Proofs.Ytgpmkllhljngfaa
