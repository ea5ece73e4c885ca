/- Rows of capabilities; slices.SortFunc by ids. -/
import Derived.Test.YtgpmkllhljngfaaCapM
import Derived.Test.YtgpmkllhljngfaaShelf
import Derived.OwnWalk
import Derived.Sort.OwnSorted
import Derived.Shelf.SlSortCmp.WholeK
namespace Go.Proofs.Ytgpmkllhljngfaa
open Go.RowKit Go.Sort Go.Lib Go.Shelf
open Go.Maps (Keyed)

def capAt (c : Cap) (m : Nat) : Value := (capL c).getD m undef
/-- A row of capabilities. -/
def RowAt (w : World) (g : Nat) (L : List Cap) : Prop := ∃ cur t, w.heap[g]? = some (.cells cur t (0, 0)) ∧ L.length * 7 ≤ cur.size ∧ ∀ j m, j < L.length → m < 7 → cur[j * 7 + m]? = some (capAt (L.getD j nilC) m)
theorem capL_len (c : Cap) : (capL c).length = 7 := rfl
theorem capL_at (c : Cap) (m : Nat) (hm : m < 7) : (capL c)[m]? = some (capAt c m) := by
  unfold capAt; rw [List.getD_eq_getElem?_getD, List.getElem?_eq_getElem (by rw [capL_len]; exact hm)]; rfl
theorem flat_len : ∀ L : List Cap, (L.flatMap capL).length = L.length * 7
  | [] => rfl
  | c :: L => by rw [List.flatMap_cons, List.length_append, flat_len L, capL_len, List.length_cons]; omega
theorem flat_at : ∀ (L : List Cap) (j m : Nat), j < L.length → m < 7 → (L.flatMap capL)[j * 7 + m]? = some (capAt (L.getD j nilC) m)
  | [], j, m, h, _ => by simp at h
  | c :: L, 0, m, _, hm => by
    rw [List.flatMap_cons, Nat.zero_mul, Nat.zero_add, List.getElem?_append_left (by rw [capL_len]; exact hm)]
    exact capL_at c m hm
  | c :: L, j + 1, m, h, hm => by
    rw [List.flatMap_cons, List.getElem?_append_right (by rw [capL_len]; omega), capL_len, show (j + 1) * 7 + m - 7 = j * 7 + m by omega]
    exact flat_at L j m (by simpa using h) hm
theorem row_of_owns {w : World} {base : Nat} {e : TypeId} {v : Value} {L : List Cap} (h : w.ownsRow base e 7 v L.length (L.flatMap capL)) (hv : L ≠ []) :
    ∃ g cap, v = .slice (some ⟨g, 0, none⟩) L.length cap ∧ base ≤ g ∧ g < w.heap.size ∧ RowAt w g L := by
  obtain ⟨h1, ⟨rfl, h2⟩ | ⟨g, cap, cur, rfl, h3, h4, h5, h6, h7, h8⟩⟩ := h
  · exact absurd (List.length_eq_zero_iff.1 h2) hv
  · refine ⟨g, cap, rfl, h3, (Array.getElem?_eq_some_iff.1 h4).1, cur, _, h4, by rw [h7]; exact Nat.mul_le_mul_right 7 h5, fun j m hj hm => ?_⟩
    have e2 := flat_at L j m hj hm
    rw [← h8, List.getElem?_take_of_lt (by omega)] at e2
    simpa using e2

theorem compare_any (x y : Int) (w : World) : Calls Try.prog 42 #[.int .i64 x, .int .i64 y] w fun e w' => e = .returned (.int .i64 (Lib.compareInt x y)) ∧ w = w' := by
  have hn : ∀ (z : Int) (W : World), Calls Try.prog 57 #[.int .i64 z] W fun e w' => e = .returned (.bool false) ∧ W = w' := fun z W => by
    go_enter Try.func57, Try.ntmps57
    go_wp2_with fail
    go_ret
    exact ⟨by simp, rfl⟩
  have HN := Lib.hid hn
  clear hn
  unfold Lib.compareInt
  by_cases h1 : x < y
  · rw [if_pos h1]
    go_enter Try.func42, Try.ntmps42
    go_wp2_with (go_at_call 57; refine (HN.out _ _).mono ?_; rintro e w' ⟨rfl, rfl⟩)
    go_ret
    exact ⟨rfl, rfl⟩
  · rw [if_neg h1]
    by_cases h2 : y < x
    · rw [if_pos h2]
      go_enter Try.func42, Try.ntmps42
      go_wp2_with (go_at_call 57; refine (HN.out _ _).mono ?_; rintro e w' ⟨rfl, rfl⟩)
      go_ret
      exact ⟨rfl, rfl⟩
    · rw [if_neg h2]
      go_enter Try.func42, Try.ntmps42
      go_wp2_with (go_at_call 57; refine (HN.out _ _).mono ?_; rintro e w' ⟨rfl, rfl⟩)
      go_ret
      exact ⟨rfl, rfl⟩
def cmpC (x y : Cap) : Int := Lib.compareInt x.id y.id
theorem allLit_any (x y : Cap) (W : World) : Calls Try.prog 41 #[capV x, capV y] W fun e w' => e = .returned (.int .i64 (cmpC x y)) ∧ ∃ q os', w' = grow (W.drewN q) os' := by
  have hcon := fun W' => Lib.hid (compare_any x.id y.id W')
  unfold cmpC
  generalize Lib.compareInt x.id y.id = r at hcon ⊢
  unfold capV
  go_enter Try.func41, Try.ntmps41
  go_wp2_with (go_at_call 42; refine (hcon _).out.mono ?_; rintro e w' ⟨rfl, rfl⟩)
  go_ret
  exact ⟨rfl, 0, _, by rw [alloc_eq_grow, alloc_eq_grow, grow_grow]; rfl⟩
theorem lt_cmpC (x y : Cap) : ltOf cmpC x y = decide (x.id < y.id) := by
  unfold ltOf cmpC Lib.compareInt
  by_cases h1 : x.id < y.id
  · simp [h1]
  · by_cases h2 : y.id < x.id <;> simp [h1, h2]
theorem sorted_one : ∀ {L S : List Cap}, L.Perm S → L.Pairwise (fun c d => c.id ≤ d.id) → S.Pairwise (fun c d => c.id < d.id) → L = S
  | [], S, hp, _, _ => hp.nil_eq
  | a :: L, [], hp, _, _ => absurd hp.eq_nil (by simp)
  | a :: L, b :: S, hp, hL, hS => by
    obtain ⟨l1, l2⟩ := List.pairwise_cons.1 hL
    obtain ⟨s1, s2⟩ := List.pairwise_cons.1 hS
    have hb : b ∈ a :: L := hp.symm.subset (List.mem_cons_self ..)
    have ha : a ∈ b :: S := hp.subset (List.mem_cons_self ..)
    have e : a = b := by
      rcases List.mem_cons.1 ha with e | ha
      · exact e
      · rcases List.mem_cons.1 hb with e | hb
        · exact e.symm
        · have := s1 a ha; have := l1 b hb; omega
    subst e
    rw [sorted_one (List.Perm.cons_inv hp) l2 s2]
set_option maxHeartbeats 2000000 in
theorem sort_any {w : World} {g cap : Nat} {L S : List Cap} (h : RowAt w g L) (hg : g < w.heap.size) (hn : L.length ≤ 1000) (hp : L.Perm S) (hS : S.Pairwise (fun c d => c.id < d.id)) :
    Calls Try.prog 40 #[.slice (some ⟨g, 0, none⟩) L.length cap, .func (.func 41) #[] #[]] w fun e w' => e = .returned (.tuple #[]) ∧ w.grownBy w' (some g) ∧ RowAt w' g S := by
  obtain ⟨cur, ty, hb, hsz, hat⟩ := h
  have eg : ∀ args w, (callFunc 41 args).run Try.prog w = .ok (.enter 41 args) w := enters_of Try.func41 (by kernel_rfl) rfl
  letI : Inhabited Cap := ⟨nilC⟩
  have hSWO : SWO (ltOf cmpC) := ⟨fun x => by rw [lt_cmpC]; simp, fun x y z h1 h2 => by rw [lt_cmpC] at *; simp at *; omega, fun x y z h1 h2 => by rw [lt_cmpC] at *; simp at *; omega⟩
  have hcmp : CmpLays Try.prog 41 #[] capL 7 cmpC g 0 L.toArray.size w := fun _ _ _ _ x y => allLit_any x y _
  have hget : ∀ (d : Array Cap) (t : Nat), t < d.size * 7 → (flatK capL 7 d)[t]! = capAt (d.toList.getD (t / 7) nilC) (t % 7) := fun d t ht => by
    rw [get_flatK _ _ _ _ ht]
    have h7 : t / 7 < d.size := by omega
    have e1 : d[t / 7]! = d.toList.getD (t / 7) nilC := by rw [getElem!_pos d _ h7, List.getD_eq_getElem?_getD, List.getElem?_eq_getElem (by simpa using h7)]; simp
    rw [e1]
    have h8 : t % 7 < (capL (d.toList.getD (t / 7) nilC)).length := by rw [capL_len]; omega
    unfold capAt
    rw [getElem!_pos (capL (d.toList.getD (t / 7) nilC)) (t % 7) h8]
    generalize d.toList.getD (t / 7) nilC = c at h8 ⊢
    rw [List.getD_eq_getElem?_getD (l := capL c), List.getElem?_eq_getElem h8]; rfl
  have hH : HoldsK capL 7 w g 0 L.toArray := fun t ht => by
    have ht' : t < L.length * 7 := by simpa using ht
    have e := hat (t / 7) (t % 7) (by omega) (by omega)
    rw [show t / 7 * 7 + t % 7 = t by omega] at e
    refine ⟨?_, by simp [World.frozen?, hb]⟩
    rw [Nat.zero_add, cell_of_row _ _ _ _ _ _ hb, e, hget L.toArray t (by simpa using ht')]
    rfl
  have hcon := AnyQ.slices_SortFunc Try.sortCaps 7 Try.isAgg43 Try.sizeOf43 capL (fun _ => rfl) (fun x v hv => by simp [capL] at hv; rcases hv with rfl | rfl | rfl | rfl | rfl | rfl | rfl <;> rfl) cmpC hSWO 41 #[] g 0 cap L.toArray w eg hcmp hH hg (by simp; omega)
  change Calls Try.prog 40 _ _ _ at hcon
  refine hcon.mono ?_
  rintro e w' ⟨rfl, d', n, os, hperm, hsort, rfl⟩
  obtain ⟨p1, p2, p3⟩ := hperm
  have hd : d'.toList.Perm L := by
    have e1 : (d'.extract 0 L.toArray.size) = d' := by rw [← p1]; simp
    have e2 : (L.toArray.extract 0 L.toArray.size) = L.toArray := by simp
    rw [e1, e2] at p3
    simpa using p3
  have hso : d'.toList.Pairwise (fun c d => c.id ≤ d.id) := by
    rw [List.pairwise_iff_getElem]
    intro i j hi hj hij
    have := hsort i j (Nat.zero_le _) hij (by rw [← p1]; simpa using hj)
    rw [lt_cmpC] at this
    have hi' : i < d'.size := by simpa using hi
    have hj' : j < d'.size := by simpa using hj
    rw [getElem!_pos d' i hi', getElem!_pos d' j hj'] at this
    simp at this
    simpa using this
  have e := sorted_one (hd.trans hp) hso hS
  subst e
  have hsize : d'.size * 7 ≤ cur.size := by rw [p1]; simpa using hsz
  refine ⟨rfl, ?_, ?_⟩
  · refine ⟨rfl, rfl, rfl, by simp [sortWorldK, putRowK], fun k hk hne => ?_⟩
    unfold sortWorldK putRowK
    rw [heap_grow_old _ _ (by simpa using hk)]
    have : g ≠ k := fun e => hne (by rw [e])
    simp [putRow, mapBlock, Sort.ahead, Array.getElem?_modify, this]
  · refine ⟨putCells id 0 (flatK capL 7 d') cur, ty, ?_, by simpa [putCells] using hsize, fun j m hj hm => ?_⟩
    · unfold sortWorldK putRowK
      rw [heap_grow_old _ _ (by simpa using hg)]
      simp [putRow, mapBlock, Sort.ahead, Array.getElem?_modify, hb, onCells]
    · have hj' : j < d'.size := by simpa using hj
      have ht : j * 7 + m < d'.size * 7 := by omega
      have := hget d' (j * 7 + m) ht
      rw [show (j * 7 + m) / 7 = j by omega, show (j * 7 + m) % 7 = m by omega] at this
      rw [← this]
      have hl : j * 7 + m < cur.size := by omega
      simp [putCells, ht, hl]
end Go.Proofs.Ytgpmkllhljngfaa
