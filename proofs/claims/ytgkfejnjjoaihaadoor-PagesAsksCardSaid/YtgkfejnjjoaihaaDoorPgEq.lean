/- Whole tables held against each other. -/
import Derived.Test.YtgkfejnjjoaihaaDoorPgCp
namespace Go.Proofs.YtgkfejnjjoaihaaDoor
open Go.RowKit

theorem mapM_some {α β : Type} (g : α → Option β) (f : α → β) : ∀ (l : List α), (∀ i ∈ l, g i = some (f i)) → l.mapM g = some (l.map f)
  | [], _ => rfl
  | a :: l, h => by
    rw [List.mapM_cons, h a (List.mem_cons_self ..), mapM_some g f l (fun i hi => h i (List.mem_cons_of_mem _ hi))]
    rfl
theorem flat_inj {α β : Type} (f g : α → List β) (n : Nat) : ∀ (l : List α), (∀ i ∈ l, (f i).length = n ∧ (g i).length = n) → (l.map f).flatten = (l.map g).flatten → ∀ i ∈ l, f i = g i
  | [], _, _ => fun i hi => by simp at hi
  | a :: l, hn, h => by
    obtain ⟨h1, h2⟩ := hn a (List.mem_cons_self ..)
    simp only [List.map_cons, List.flatten_cons] at h
    obtain ⟨e1, e2⟩ := List.append_inj h (by omega)
    intro i hi
    rcases List.mem_cons.1 hi with rfl | hi
    · exact e1
    · exact flat_inj f g n l (fun j hj => hn j (List.mem_cons_of_mem _ hj)) e2 i hi
theorem array_lits {t e : TypeId} {n m d : Nat} {cs : List Value} (f : Nat → List Lit) (hu : Tryd.prog.underlying t = some (.array n e)) (hc : Tryd.prog.cellsOf t = n * m) (he : Tryd.prog.cellsOf e = m) (hl : cs.length = n * m)
    (h : ∀ i, i < n → Tryd.prog.keyLits d e ((cs.drop (i * m)).take m) = some (f i)) : Tryd.prog.keyLits (d + 1) t cs = some ((List.range n).map f).flatten := by
  unfold Program.keyLits
  rw [hu]
  simp only [hc, he]
  rw [if_pos hl, mapM_some _ f _ (fun i hi => h i (List.mem_range.1 hi))]
  rfl
theorem tab_row (cv : Ent → Nat → Value) (T : Tb) (s : Nat) (hs : s < 16) : ((tabL cv T).drop (s * 160)).take 160 = rowL cv T s := by
  apply List.ext_getElem?
  intro i
  rw [List.getElem?_take]
  by_cases hi : i < 160
  · rw [if_pos hi, List.getElem?_drop]
    have h1 := tabL_get cv T s (i / 5) (i % 5) hs (by omega) (by omega)
    have h2 := rowL_get cv T s (i / 5) (i % 5) (by omega) (by omega)
    rw [show s * 160 + i / 5 * 5 + i % 5 = s * 160 + i by omega] at h1
    rw [show i / 5 * 5 + i % 5 = i by omega] at h2
    rw [h1, h2]
  · rw [if_neg hi, List.getElem?_eq_none (by rw [rowL_len]; omega)]
theorem row_slot (cv : Ent → Nat → Value) (T : Tb) (s p : Nat) (hp : p < 32) : ((rowL cv T s).drop (p * 5)).take 5 = [cv (T s p) 0, cv (T s p) 1, cv (T s p) 2, cv (T s p) 3, cv (T s p) 4] := by
  apply List.ext_getElem?
  intro i
  rw [List.getElem?_take]
  by_cases hi : i < 5
  · rw [if_pos hi, List.getElem?_drop, rowL_get cv T s p i hp hi]
    rcases (show i = 0 ∨ i = 1 ∨ i = 2 ∨ i = 3 ∨ i = 4 by omega) with rfl | rfl | rfl | rfl | rfl <;> rfl
  · rw [if_neg hi, List.getElem?_eq_none (by simp; omega)]
theorem Tryd.uEntryX : ∃ a b c d : Nat, Tryd.prog.underlying 38 = some (.struct #[{ name := "Frame", type := 3, offset := 0, embedded := false, tag := "", pkgPath := "", byteOffset := a }, { name := "Rights", type := 3, offset := 1, embedded := false, tag := "", pkgPath := "", byteOffset := b }, { name := "Touched", type := 4, offset := 2, embedded := false, tag := "", pkgPath := "", byteOffset := c }, { name := "Written", type := 4, offset := 3, embedded := false, tag := "", pkgPath := "", byteOffset := d }]) := ⟨0, 8, 16, 17, by kernel_rfl⟩
theorem Tryd.uSlotX : ∃ a b : Nat, Tryd.prog.underlying 59 = some (.struct #[{ name := "Entry", type := 38, offset := 0, embedded := true, tag := "", pkgPath := "", byteOffset := a }, { name := "taken", type := 4, offset := 4, embedded := false, tag := "", pkgPath := "steading/pages", byteOffset := b }]) := ⟨0, 24, by kernel_rfl⟩
theorem Tryd.uCellX : ∃ a b : Nat, Tryd.prog.underlying 66 = some (.struct #[{ name := "Is", type := 4, offset := 0, embedded := false, tag := "", pkgPath := "", byteOffset := a }, { name := "E", type := 38, offset := 1, embedded := false, tag := "", pkgPath := "", byteOffset := b }]) := ⟨0, 8, by kernel_rfl⟩
theorem Tryd.uQTabX : ∃ a : Nat, Tryd.prog.underlying 70 = some (.struct #[{ name := "C", type := 68, offset := 0, embedded := false, tag := "", pkgPath := "", byteOffset := a }]) := ⟨0, by kernel_rfl⟩
theorem Tryd.cEntry : Tryd.prog.cellsOf 38 = 4 := by kernel_rfl
theorem Tryd.cSlot7 : Tryd.prog.cellsOf 59 = 5 := by kernel_rfl
theorem Tryd.cCell7 : Tryd.prog.cellsOf 66 = 5 := by kernel_rfl
theorem Tryd.cBool : Tryd.prog.cellsOf 4 = 1 := by kernel_rfl
theorem Tryd.cRow7 : Tryd.prog.cellsOf 60 = 32 * 5 := by kernel_rfl
theorem Tryd.cRows7 : Tryd.prog.cellsOf 61 = 16 * 160 := by kernel_rfl
theorem Tryd.cCRow7 : Tryd.prog.cellsOf 67 = 32 * 5 := by kernel_rfl
theorem Tryd.cCRows7 : Tryd.prog.cellsOf 68 = 16 * 160 := by kernel_rfl
theorem Tryd.cQTab7 : Tryd.prog.cellsOf 70 = 2560 := by kernel_rfl
theorem Tryd.uCRow : Tryd.prog.underlying 67 = some (.array 32 66) := by kernel_rfl
theorem Tryd.uCRows : Tryd.prog.underlying 68 = some (.array 16 67) := by kernel_rfl
def litP (e : Ent) : List Lit := [.int .i64 e.fr, .int .i64 e.ri, .bool e.tc, .bool e.wr, .bool e.is]
def litD (e : Ent) : List Lit := [.bool e.is, .int .i64 e.fr, .int .i64 e.ri, .bool e.tc, .bool e.wr]
theorem ent_wf {e : Ent} (h : EntOk e) : (Lit.int .i64 e.fr).wf = true ∧ (Lit.int .i64 e.ri).wf = true := by
  have := h.f0; have := h.f1; have := h.r0; have := h.r1
  constructor
  · simp [Lit.wf]; exact ⟨by show (-9223372036854775808 : Int) ≤ _; omega, by omega⟩
  · simp [Lit.wf]; exact ⟨by show (-9223372036854775808 : Int) ≤ _; omega, by omega⟩
theorem entry_lits (d : Nat) {e : Ent} (h : EntOk e) : Tryd.prog.keyLits (d + 2) 38 [.int .i64 e.fr, .int .i64 e.ri, .bool e.tc, .bool e.wr] = some [.int .i64 e.fr, .int .i64 e.ri, .bool e.tc, .bool e.wr] := by
  obtain ⟨a, b, c, d', hu⟩ := Tryd.uEntryX
  obtain ⟨h1, h2⟩ := ent_wf h
  simp [Program.keyLits, hu, Tryd.cEntry, Tryd.cInt, Tryd.cBool, Tryd.underlying3, Tryd.underlying4, h1, h2]
theorem slot_lits (d : Nat) {e : Ent} (h : EntOk e) : Tryd.prog.keyLits (d + 3) 59 [cvP e 0, cvP e 1, cvP e 2, cvP e 3, cvP e 4] = some (litP e) := by
  obtain ⟨a, b, hu⟩ := Tryd.uSlotX
  have he := entry_lits d h
  have hb : Tryd.prog.keyLits (d + 2) 4 [.bool e.is] = some [.bool e.is] := by simp [Program.keyLits, Tryd.underlying4]
  rw [show d + 3 = (d + 2) + 1 from rfl]
  unfold Program.keyLits
  simp [hu, Tryd.cSlot7, Tryd.cEntry, Tryd.cBool, cvP, he, hb, litP]
theorem cell_lits (d : Nat) {e : Ent} (h : EntOk e) : Tryd.prog.keyLits (d + 3) 66 [cvD e 0, cvD e 1, cvD e 2, cvD e 3, cvD e 4] = some (litD e) := by
  obtain ⟨a, b, hu⟩ := Tryd.uCellX
  have he := entry_lits d h
  have hb : Tryd.prog.keyLits (d + 2) 4 [.bool e.is] = some [.bool e.is] := by simp [Program.keyLits, Tryd.underlying4]
  rw [show d + 3 = (d + 2) + 1 from rfl]
  unfold Program.keyLits
  simp [hu, Tryd.cCell7, Tryd.cEntry, Tryd.cBool, cvD, he, hb, litD]

def rowLits (lit : Ent → List Lit) (T : Tb) (s : Nat) : List Lit := ((List.range 32).map fun p => lit (T s p)).flatten
def tabLits (lit : Ent → List Lit) (T : Tb) : List Lit := ((List.range 16).map fun s => rowLits lit T s).flatten
theorem litP_len (e : Ent) : (litP e).length = 5 := rfl
theorem litD_len (e : Ent) : (litD e).length = 5 := rfl
theorem litP_inj {e e' : Ent} (h : litP e = litP e') : e = e' := by
  obtain ⟨a, b, c, d, f⟩ := e
  obtain ⟨a', b', c', d', f'⟩ := e'
  simp [litP] at h
  obtain ⟨rfl, rfl, rfl, rfl, rfl⟩ := h
  rfl
theorem litD_inj {e e' : Ent} (h : litD e = litD e') : e = e' := by
  obtain ⟨a, b, c, d, f⟩ := e
  obtain ⟨a', b', c', d', f'⟩ := e'
  simp [litD] at h
  obtain ⟨rfl, rfl, rfl, rfl, rfl⟩ := h
  rfl
theorem flat_len {α β : Type} (f : α → List β) (n : Nat) : ∀ (l : List α), (∀ i ∈ l, (f i).length = n) → ((l.map f).flatten).length = l.length * n
  | [], _ => by simp
  | a :: l, h => by
    rw [List.map_cons, List.flatten_cons, List.length_append, h a (List.mem_cons_self ..), flat_len f n l (fun i hi => h i (List.mem_cons_of_mem _ hi)), List.length_cons, Nat.succ_mul]
    omega
theorem tabLits_inj {lit : Ent → List Lit} (hl : ∀ e, (lit e).length = 5) (hi : ∀ {e e'}, lit e = lit e' → e = e') {T T' : Tb} (hT : TbOk T) (hT' : TbOk T') (h : tabLits lit T = tabLits lit T') : T = T' := by
  have hr : ∀ (T : Tb) (s : Nat), (rowLits lit T s).length = 160 := fun T s => by
    unfold rowLits
    rw [flat_len _ 5 _ (fun i _ => hl _), List.length_range]
  have h1 := flat_inj _ _ 160 (List.range 16) (fun s _ => ⟨hr T s, hr T' s⟩) h
  funext s p
  by_cases hs : s < 16
  · by_cases hp : p < 32
    · exact hi (flat_inj _ _ 5 (List.range 32) (fun p _ => ⟨hl _, hl _⟩) (h1 s (List.mem_range.2 hs)) p (List.mem_range.2 hp))
    · rw [hT.out s p (Or.inr (by omega)), hT'.out s p (Or.inr (by omega))]
  · rw [hT.out s p (Or.inl (by omega)), hT'.out s p (Or.inl (by omega))]
theorem rows_lits (d : Nat) {T : Tb} (h : TbOk T) : Tryd.prog.keyLits (d + 5) 61 (tabL cvP T) = some (tabLits litP T) := by
  refine array_lits (m := 160) (rowLits litP T) Tryd.uRows Tryd.cRows7 Tryd.cRow7 (tabL_len _ _) (fun s hs => ?_)
  rw [tab_row cvP T s hs]
  refine array_lits (m := 5) (fun p => litP (T s p)) Tryd.uRow Tryd.cRow7 Tryd.cSlot7 (rowL_len _ _ _) (fun p hp => ?_)
  rw [row_slot cvP T s p hp]
  exact slot_lits d (h.ok s p)
theorem crows_lits (d : Nat) {T : Tb} (h : TbOk T) : Tryd.prog.keyLits (d + 5) 68 (tabL cvD T) = some (tabLits litD T) := by
  refine array_lits (m := 160) (rowLits litD T) Tryd.uCRows Tryd.cCRows7 Tryd.cCRow7 (tabL_len _ _) (fun s hs => ?_)
  rw [tab_row cvD T s hs]
  refine array_lits (m := 5) (fun p => litD (T s p)) Tryd.uCRow Tryd.cCRow7 Tryd.cCell7 (rowL_len _ _ _) (fun p hp => ?_)
  rw [row_slot cvD T s p hp]
  exact cell_lits d (h.ok s p)
theorem qtab_lits (d : Nat) {T : Tb} (h : TbOk T) : Tryd.prog.keyLits (d + 6) 70 (tabL cvD T) = some (tabLits litD T) := by
  obtain ⟨a, hu⟩ := Tryd.uQTabX
  have hc := crows_lits d h
  have hl := tabL_len cvD T
  have ht : List.take 2560 (tabL cvD T) = tabL cvD T := List.take_of_length_le (by rw [hl]; exact Nat.le_refl _)
  rw [show d + 6 = (d + 5) + 1 from rfl]
  unfold Program.keyLits
  simp [hu, Tryd.cQTab7, Tryd.cCRows7, hl, ht, hc]
/-- Are two tables the same? -/
noncomputable def sameB (T T' : Tb) : Bool := @decide (T = T') (Classical.propDecidable _)
theorem sameB_iff (T T' : Tb) : sameB T T' = true ↔ T = T' := by unfold sameB; exact @decide_eq_true_iff _ (Classical.propDecidable _)
theorem eql_rows {T T' : Tb} (h : TbOk T) (h' : TbOk T') (w : World) : (binOp .eql 61 (.agg (tabL cvP T).toArray) (.agg (tabL cvP T').toArray)).run Tryd.prog w = .ok (.bool (sameB T T')) w := by
  rw [run_eql_struct]
  have hf : ∀ T : Tb, (Value.agg (tabL cvP T).toArray).formed Tryd.prog 61 = true := fun T => by simp [Value.formed, Tryd.uRows, Tryd.cRows7, tabL_len]
  have hk : ∀ {T : Tb}, TbOk T → Tryd.prog.keyLits 5 61 (Value.agg (tabL cvP T).toArray).cells.toList = some (tabLits litP T) := fun {T} h => by
    rw [show (Value.agg (tabL cvP T).toArray).cells = (tabL cvP T).toArray from rfl, List.toList_toArray]
    exact rows_lits 0 h
  obtain ⟨r, hr, hi⟩ := run_equalIn_deep (P := Tryd.prog) 9995 5 61 Tryd.kRows w 5 5 (.agg (tabL cvP T).toArray) (.agg (tabL cvP T').toArray) (tabLits litP T) (tabLits litP T') (hf T) (hf T') (hk h) (hk h')
  rw [show 9995 + 5 = 10000 from rfl] at hr
  rw [hr]
  have e : r = sameB T T' := by
    rw [Bool.eq_iff_iff, hi, sameB_iff]
    exact ⟨fun e => tabLits_inj litP_len litP_inj h h' e, fun e => by rw [e]⟩
  rw [e]; rfl
theorem Tryd.kQTab : Tryd.prog.keyTypeAt 6 70 = true := by kernel_rfl
theorem eql_qtabs {T T' : Tb} (h : TbOk T) (h' : TbOk T') (w : World) : (binOp .eql 70 (.agg (tabL cvD T).toArray) (.agg (tabL cvD T').toArray)).run Tryd.prog w = .ok (.bool (sameB T T')) w := by
  rw [run_eql_struct]
  obtain ⟨a, hu⟩ := Tryd.uQTabX
  have hf : ∀ T : Tb, (Value.agg (tabL cvD T).toArray).formed Tryd.prog 70 = true := fun T => by simp [Value.formed, hu, Tryd.cQTab7, tabL_len]
  have hk : ∀ {T : Tb}, TbOk T → Tryd.prog.keyLits 6 70 (Value.agg (tabL cvD T).toArray).cells.toList = some (tabLits litD T) := fun {T} h => by
    rw [show (Value.agg (tabL cvD T).toArray).cells = (tabL cvD T).toArray from rfl, List.toList_toArray]
    exact qtab_lits 0 h
  obtain ⟨r, hr, hi⟩ := run_equalIn_deep (P := Tryd.prog) 9994 6 70 Tryd.kQTab w 6 6 (.agg (tabL cvD T).toArray) (.agg (tabL cvD T').toArray) (tabLits litD T) (tabLits litD T') (hf T) (hf T') (hk h) (hk h')
  rw [show 9994 + 6 = 10000 from rfl] at hr
  rw [hr]
  have e : r = sameB T T' := by
    rw [Bool.eq_iff_iff, hi, sameB_iff]
    exact ⟨fun e => tabLits_inj litD_len litD_inj h h' e, fun e => by rw [e]⟩
  rw [e]; rfl
end Go.Proofs.YtgkfejnjjoaihaaDoor
