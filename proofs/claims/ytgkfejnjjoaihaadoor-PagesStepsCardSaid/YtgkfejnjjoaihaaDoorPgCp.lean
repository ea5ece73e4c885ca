/- New and Same; whole tables laid, read, held against each other. -/
import Derived.Test.YtgkfejnjjoaihaaDoorPgWh
import Derived.Great.Ranges
import Derived.Great.BuildSlice
import Derived.DeepKeys
namespace Go.Proofs.YtgkfejnjjoaihaaDoor
open Go.RowKit

/-! ### A whole table's value -/
theorem set_zip (xs : List Value) : ∀ (cells : Array Value) (off j : Nat), off + j + xs.length ≤ cells.size →
    ∀ i, ((xs.zipIdx j).foldl (fun cs (c, j) => cs.setIfInBounds (off + j) c) cells)[i]? = if off + j ≤ i ∧ i < off + j + xs.length then xs[i - (off + j)]? else cells[i]? := by
  induction xs with
  | nil => intro cells off j h i; simp; intro h1 h2; omega
  | cons x xs ih =>
    intro cells off j h i
    rw [List.zipIdx_cons, List.foldl_cons]
    simp only [List.length_cons] at h ⊢
    have h2 := ih (cells.setIfInBounds (off + j) x) off (j + 1) (by simp; omega) i
    rw [h2, Array.getElem?_setIfInBounds]
    by_cases c1 : off + (j + 1) ≤ i ∧ i < off + (j + 1) + xs.length
    · rw [if_pos c1, if_pos ⟨by omega, by omega⟩, show i - (off + j) = (i - (off + (j + 1))) + 1 by omega, List.getElem?_cons_succ]
    · rw [if_neg c1]
      by_cases c2 : off + j = i
      · subst c2
        rw [if_pos rfl, if_pos (by omega), if_pos ⟨Nat.le_refl _, by omega⟩]
        simp
      · rw [if_neg c2, if_neg (by omega)]
theorem Tryd.uTab : Tryd.prog.underlying 64 = some (.struct (Tryd.prog.fieldsOf 64)) := by kernel_rfl
theorem Tryd.zTab : (Tryd.prog.info? 64).map (fun i => (i.zero, i.size)) = some (some (.agg (tabL cvP newT ++ [Value.map Option.none]).toArray), 2561) := by kernel_rfl
theorem Tryd.plTab : ((Tryd.prog.fieldsOf 64).toList.mapM fun f => (Tryd.prog.info? f.type).map fun i => (f.offset, i.size)) = some [(0, 2560), (2560, 1)] := by kernel_rfl
theorem Tryd.zQTab : (Tryd.prog.info? 70).map (fun i => (i.zero, i.size)) = some (some (.agg (tabL cvD newT).toArray), 2560) := by kernel_rfl
theorem fill_one (cells : Array Value) (pl : Nat → Option (Nat × Nat)) (i off size : Nat) (v : Value) (rest : List (Nat × Value)) (hp : pl i = some (off, size)) (hs : v.cells.size = size) (ho : off + size ≤ cells.size) :
    ∃ cells', cells'.size = cells.size ∧ (∀ j, cells'[j]? = if off ≤ j ∧ j < off + size then v.cells[j - off]? else cells[j]?) ∧ Instr.fill pl cells ((i, v) :: rest) = Instr.fill pl cells' rest := by
  refine ⟨v.cells.zipIdx.foldl (fun cs (c, j) => cs.setIfInBounds (off + j) c) cells, ?_, fun j => ?_, ?_⟩
  · have : ∀ (l : List (Value × Nat)) (c : Array Value), (l.foldl (fun cs (x : Value × Nat) => cs.setIfInBounds (off + x.2) x.1) c).size = c.size := by
      intro l
      induction l with
      | nil => intro c; rfl
      | cons a l ih => intro c; rw [List.foldl_cons, ih]; simp
    rw [← Array.foldl_toList]
    exact this _ _
  · rw [← Array.foldl_toList, Array.toList_zipIdx]
    have h := set_zip v.cells.toList cells off 0 (by rw [Array.length_toList]; omega) j
    rw [Array.length_toList, Nat.add_zero, hs, Array.getElem?_toList] at h
    exact h
  · show (match pl i with
      | none => none
      | some (off, size) => if v.cells.size ≠ size || off + v.cells.size > cells.size then none else Instr.fill pl (v.cells.zipIdx.foldl (fun cs (c, j) => cs.setIfInBounds (off + j) c) cells) rest) = _
    rw [hp]
    simp only
    rw [if_neg (by simp; omega)]
theorem tab_split (cv : Ent → Nat → Value) (T : Tb) (v : Value) (cells : Array Value) (hs : cells.size = 2561) (h1 : ∀ j, j < 2560 → cells[j]? = (tabL cv T)[j]?) (h2 : cells[2560]? = some v) : cells = (tabL cv T ++ [v]).toArray := by
  apply Array.ext_getElem?
  intro j
  simp only [List.getElem?_toArray]
  by_cases hj : j < 2560
  · rw [h1 j hj, List.getElem?_append_left (by rw [tabL_len]; exact hj)]
  · by_cases e : j = 2560
    · subst e
      rw [h2, List.getElem?_append_right (by rw [tabL_len]; exact Nat.le_refl _), tabL_len]
      rfl
    · rw [Array.getElem?_eq_none (by omega), List.getElem?_eq_none (by simp [tabL_len]; omega)]
theorem built_parts (parts : List (Nat × Value)) : Tryd.prog.built 64 parts = Instr.fill (fun i => (#[(0, 2560), (2560, 1)] : Array (Nat × Nat))[i]?) (tabL cvP newT ++ [Value.map none]).toArray parts := by
  have hz := Tryd.zTab
  have hpl := Tryd.plTab
  unfold Program.built
  rw [Tryd.uTab]
  cases hq : Tryd.prog.info? 64 with
  | none => rw [hq] at hz; cases hz
  | some it =>
    rw [hq] at hz
    simp only [Option.map_some, Option.some.injEq, Prod.mk.injEq] at hz
    simp only [hz.1, hpl]
    rfl
theorem built_map (m : Value) (hm : m.cells.size = 1) (h0 : m.cells[0]? = some m) : Tryd.prog.built 64 [(1, m)] = some (tabL cvP newT ++ [m]).toArray := by
  rw [built_parts]
  obtain ⟨c1, hs, hg, hf⟩ := fill_one (tabL cvP newT ++ [Value.map none]).toArray (fun i => (#[(0, 2560), (2560, 1)] : Array (Nat × Nat))[i]?) 1 2560 1 m [] rfl hm (by simp [tabL_len])
  rw [hf]
  show some c1 = _
  rw [tab_split cvP newT m c1 (by rw [hs]; simp [tabL_len]) (fun j hj => by
    rw [hg, if_neg (by omega)]
    simp only [List.getElem?_toArray]
    rw [List.getElem?_append_left (by rw [tabL_len]; exact hj)]) (by rw [hg, if_pos (by omega)]; simpa using h0)]
theorem built_both (T : Tb) (m : Value) (hm : m.cells.size = 1) (h0 : m.cells[0]? = some m) : Tryd.prog.built 64 [(0, .agg (tabL cvP T).toArray), (1, m)] = some (tabL cvP T ++ [m]).toArray := by
  rw [built_parts]
  obtain ⟨c0, hs0, hg0, hf0⟩ := fill_one (tabL cvP newT ++ [Value.map none]).toArray (fun i => (#[(0, 2560), (2560, 1)] : Array (Nat × Nat))[i]?) 0 0 2560 (.agg (tabL cvP T).toArray) [(1, m)] rfl (by simp [Value.cells, tabL_len]) (by simp [tabL_len])
  have hs0' : c0.size = 2561 := by rw [hs0]; simp [tabL_len]
  obtain ⟨c1, hs, hg, hf⟩ := fill_one c0 (fun i => (#[(0, 2560), (2560, 1)] : Array (Nat × Nat))[i]?) 1 2560 1 m [] rfl hm (by omega)
  rw [hf0, hf]
  show some c1 = _
  rw [tab_split cvP T m c1 (by omega) (fun j hj => by
    rw [hg, if_neg (by omega), hg0, if_pos (by omega)]
    simp [Value.cells]) (by rw [hg, if_pos (by omega)]; simpa using h0)]

theorem Tryd.zCells : Tryd.zeroCells64 = (tabL cvP newT ++ [Value.map none]).toArray := by kernel_rfl
theorem zero_set (m : Value) : Tryd.zeroCells64.setIfInBounds 2560 m = (tabL cvP newT ++ [m]).toArray := by
  rw [Tryd.zCells]
  refine tab_split cvP newT m _ (by simp [tabL_len]) (fun j hj => ?_) ?_
  · rw [Array.getElem?_setIfInBounds, if_neg (by omega)]
    simp only [List.getElem?_toArray]
    rw [List.getElem?_append_left (by rw [tabL_len]; exact hj)]
  · rw [Array.getElem?_setIfInBounds, if_pos rfl, if_pos (by simp [tabL_len])]
theorem mapIs_new : MapIs (.map []) newT := fun f s _ _ => by
  have : mask newT f s = 0 := by
    apply Nat.eq_of_testBit_eq
    intro i
    rw [mask_bit]
    simp [hitB, newT, nilE]
  rw [this]; rfl
set_option maxRecDepth 100000 in
set_option maxHeartbeats 1000000 in
theorem new_any (w : World) : Calls Tryd.prog 9 #[] w fun e w' => e = .returned (.pointer (some ⟨w.heap.size + 1, 0, none⟩)) ∧ PT w' (w.heap.size + 1) w.heap.size 0 newT ∧ Below w.heap.size w w' := by
  have hmm := @run_makeMap Tryd.prog
  go_enter Tryd.func9, Tryd.ntmps9
  go_wp2_with fail
  go_ret
  rw [zero_set]
  refine ⟨rfl, ⟨newT_ok, ⟨?_⟩, .map [], ?_, mapIs_new⟩, ?_⟩
  · have := heap_alloc_new (w.alloc (.map #[] 0)) (.cells (tabL cvP newT ++ [Value.map (some w.heap.size)]).toArray 64)
    rw [World.size_alloc] at this
    exact this
  · exact ownsMap_eq (World.ownsMap_made w _ _ _) (Below.heap_alloc _ _ _ (by rw [World.size_alloc]; omega))
  · exact ((Below.refl _ w).alloc (Nat.le_refl _) _).alloc (by rw [World.size_alloc]; omega) _

/-! ### Same -/
theorem Tryd.uRows : Tryd.prog.underlying 61 = some (.array 16 60) := by kernel_rfl
theorem Tryd.sRows : (Tryd.prog.info? 61).map (·.size) = some 2560 := by kernel_rfl
theorem Tryd.kRows : Tryd.prog.keyTypeAt 5 61 = true := by kernel_rfl
end Go.Proofs.YtgkfejnjjoaihaaDoor
