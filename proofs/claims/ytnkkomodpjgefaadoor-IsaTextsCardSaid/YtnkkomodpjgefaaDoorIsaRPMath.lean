/- What the document's Parse makes of a text: of a text of Text's, its instruction. -/
import Derived.Test.YtnkkomodpjgefaaDoorIsaCut
namespace Go.Proofs.YtnkkomodpjgefaaDoor
open Go.RowKit

/-- Parts with a blank between. -/
def joinB : List (List UInt8) → List UInt8
  | [] => []
  | [p] => p
  | p :: q :: r => p ++ 32 :: joinB (q :: r)
theorem fold_part : ∀ (p : List UInt8) (l : List (List UInt8)) (cur : List UInt8), 32 ∉ p → l.length < 9 → p.foldl cutStep (l, cur) = (l, cur ++ p)
  | [], l, cur, _, _ => by simp
  | c :: p, l, cur, h, h9 => by
    have hc : c ≠ 32 := fun e => h (by rw [e]; exact List.mem_cons_self ..)
    have e : cutStep (l, cur) c = (l, cur ++ [c]) := by unfold cutStep; rw [if_pos h9, if_neg hc]
    rw [List.foldl_cons, e, fold_part p l _ (fun h' => h (List.mem_cons_of_mem _ h')) h9]; simp
theorem fold_join : ∀ (ps : List (List UInt8)) (l : List (List UInt8)), ps ≠ [] → (∀ p ∈ ps, 32 ∉ p) → l.length + ps.length ≤ 9 →
    ∃ l' q, (joinB ps).foldl cutStep (l, []) = (l', q) ∧ l' ++ [q] = l ++ ps
  | [], _, h, _, _ => absurd rfl h
  | [p], l, _, h, h9 => ⟨l, p, by rw [joinB, fold_part p l [] (h p (List.mem_singleton.2 rfl)) (by simp at h9; omega)]; simp, rfl⟩
  | p :: q :: r, l, _, h, h9 => by
    have hl : l.length < 9 := by simp at h9; omega
    have e : cutStep (l, p) 32 = (l ++ [p], []) := by unfold cutStep; rw [if_pos hl, if_pos rfl]
    obtain ⟨l', x, h1, h2⟩ := fold_join (q :: r) (l ++ [p]) (by simp) (fun y hy => h y (List.mem_cons_of_mem _ hy)) (by simp at h9 ⊢; omega)
    refine ⟨l', x, ?_, by rw [h2]; simp⟩
    rw [joinB, List.foldl_append, fold_part p l [] (h p (List.mem_cons_self ..)) hl, List.nil_append, List.foldl_cons, e, h1]
theorem cut_join (ps : List (List UInt8)) (hne : ps ≠ []) (h : ∀ p ∈ ps, 32 ∉ p) (h9 : ps.length ≤ 9) : cutL (joinB ps) = ps := by
  obtain ⟨l', q, h1, h2⟩ := fold_join ps [] hne h (by simpa using h9)
  have e : cutAt (joinB ps) (joinB ps).length = (l', q) := by unfold cutAt; rw [List.take_length, h1]
  have hl : l'.length < 9 := by
    have := congrArg List.length h2; simp at this; omega
  unfold cutL; rw [e, if_pos hl]; simpa using h2

/-- A text's parts. -/
def partsOf (op d a b m : Int) : List (List UInt8) :=
  (nameOf op).data.toList :: ((if nmD (formOf op) then [114 :: Lib.itoa d] else []) ++ ((if nmA (formOf op) then [114 :: Lib.itoa a] else []) ++ ((if nmB (formOf op) then [114 :: Lib.itoa b] else []) ++ (if nmM (formOf op) then [Lib.itoa m] else []))))
theorem parts_join (op d a b m : Int) : joinB (partsOf op d a b m) = textL op d a b m := by
  unfold partsOf textL regT immT
  cases nmD (formOf op) <;> cases nmA (formOf op) <;> cases nmB (formOf op) <;> cases nmM (formOf op) <;> simp [joinB]
theorem parts_cut (op d a b m : Int) : cutL (textL op d a b m) = partsOf op d a b m := by
  rw [← parts_join]
  refine cut_join _ (by simp [partsOf]) ?_ ?_
  · intro p hp
    have c1 := reg_blank d
    have c2 := reg_blank a
    have c3 := reg_blank b
    have c4 := itoa_blank m
    have c0 := name_blank op
    unfold partsOf at hp
    rcases List.mem_cons.1 hp with rfl | hp
    · exact c0
    · rcases List.mem_append.1 hp with hp | hp
      · split at hp
        · rw [List.mem_singleton.1 hp]; exact c1
        · cases hp
      · rcases List.mem_append.1 hp with hp | hp
        · split at hp
          · rw [List.mem_singleton.1 hp]; exact c2
          · cases hp
        · rcases List.mem_append.1 hp with hp | hp
          · split at hp
            · rw [List.mem_singleton.1 hp]; exact c3
            · cases hp
          · split at hp
            · rw [List.mem_singleton.1 hp]; exact c4
            · cases hp
  · unfold partsOf
    cases nmD (formOf op) <;> cases nmA (formOf op) <;> cases nmB (formOf op) <;> cases nmM (formOf op) <;> simp

/-! ### The document's candidate -/
def rL (s : ByteArray) : List (List UInt8) := cutL s.data.toList
def rcOp (s : ByteArray) : Int := namedV ⟨((rL s).getD 0 []).toArray⟩
def rcD (s : ByteArray) : Int := if nmD (formOf (rcOp s)) then numR (rL s) 1 1 else 0
def at1 (f : Int) : Nat := if nmD f then 2 else 1
def rcA (s : ByteArray) : Int := if nmA (formOf (rcOp s)) then numR (rL s) (at1 (formOf (rcOp s))) 1 else 0
def at2 (f : Int) : Nat := if nmA f then at1 f + 1 else at1 f
def rcB (s : ByteArray) : Int := if nmB (formOf (rcOp s)) then numR (rL s) (at2 (formOf (rcOp s))) 1 else 0
def at3 (f : Int) : Nat := if nmB f then at2 f + 1 else at2 f
def rcM (s : ByteArray) : Int := if nmM (formOf (rcOp s)) then numR (rL s) (at3 (formOf (rcOp s))) 0 else 0
def okR (s : ByteArray) : Bool := mayB (rcOp s) (rcD s) (rcA s) (rcB s) (rcM s) && ((textOf (rcOp s) (rcD s) (rcA s) (rcB s) (rcM s)).toList == s.toList)

theorem atoiV_itoa (n : Int) (h0 : -100000000 ≤ n) (h1 : n ≤ 100000000) : atoiV (Lib.itoa n) = n := by unfold atoiV; rw [atoi_itoa n h0 h1]

theorem rc_back {op d a b m : Int} (h : mayB op d a b m = true) :
    rcOp (textOf op d a b m) = op ∧ rcD (textOf op d a b m) = d ∧ rcA (textOf op d a b m) = a ∧ rcB (textOf op d a b m) = b ∧ rcM (textOf op d a b m) = m := by
  obtain ⟨⟨ho, ho'⟩, ⟨hd, hd'⟩, ⟨ha, ha'⟩, ⟨hb, hb'⟩, ⟨hm, hm'⟩, -, -⟩ := may_parts h
  have hop : isOp op = true := by unfold isOp; simp; omega
  have h' := h
  unfold mayB regOk at h'
  simp only [Bool.and_eq_true, Bool.or_eq_true, decide_eq_true_eq] at h'
  obtain ⟨-, z1, z2, z3, z4⟩ := h'
  have n1 := atoiV_itoa d (by omega) (by omega)
  have n2 := atoiV_itoa a (by omega) (by omega)
  have n3 := atoiV_itoa b (by omega) (by omega)
  have n4 := atoiV_itoa m (by omega) (by omega)
  have eL : rL (textOf op d a b m) = partsOf op d a b m := by unfold rL textOf; exact parts_cut op d a b m
  have e0 : rcOp (textOf op d a b m) = op := by
    unfold rcOp; rw [eL]
    show namedV ⟨(nameOf op).data.toList.toArray⟩ = op
    rw [show (⟨(nameOf op).data.toList.toArray⟩ : ByteArray) = nameOf op from ba_eq (by simp), named_name hop]
  refine ⟨e0, ?_, ?_, ?_, ?_⟩
  · unfold rcD; rw [e0, eL]; unfold partsOf numR
    rcases form_range op with hf | hf | hf | hf | hf | hf | hf <;> rw [hf] at z1 ⊢ <;> simp [nmD, nmA, nmB, nmM, n1] at z1 ⊢ <;> omega
  · unfold rcA; rw [e0, eL]; unfold partsOf numR
    rcases form_range op with hf | hf | hf | hf | hf | hf | hf <;> rw [hf] at z2 ⊢ <;> simp [nmD, nmA, nmB, nmM, at1, n2] at z2 ⊢ <;> omega
  · unfold rcB; rw [e0, eL]; unfold partsOf numR
    rcases form_range op with hf | hf | hf | hf | hf | hf | hf <;> rw [hf] at z3 ⊢ <;> simp [nmD, nmA, nmB, nmM, at1, at2, n3] at z3 ⊢ <;> omega
  · unfold rcM; rw [e0, eL]; unfold partsOf numR
    rcases form_range op with hf | hf | hf | hf | hf | hf | hf <;> rw [hf] at z4 ⊢ <;> simp [nmD, nmA, nmB, nmM, at1, at2, at3, n4] at z4 ⊢ <;> omega

/-- Both readings of a text agree. -/
theorem read_same (s : ByteArray) : okR s = okP s ∧ (okR s = true → rcOp s = pOp s ∧ rcD s = pD s ∧ rcA s = pA s ∧ rcB s = pB s ∧ rcM s = pM s) := by
  have key : ∀ {op d a b m : Int}, mayB op d a b m = true → ((textOf op d a b m).toList == s.toList) = true → s = textOf op d a b m := fun h e => by
    simp only [beq_iff_eq] at e
    exact (ba_eq (by rw [← ByteArray.toList_eq, ← ByteArray.toList_eq, e])).symm
  have one : okR s = true → okP s = true ∧ rcOp s = pOp s ∧ rcD s = pD s ∧ rcA s = pA s ∧ rcB s = pB s ∧ rcM s = pM s := fun h => by
    unfold okR at h
    rw [Bool.and_eq_true] at h
    have e := key h.1 h.2
    obtain ⟨e0, e1, e2, e3, e4⟩ := parse_back h.1
    have ok := parse_text h.1
    rw [← e] at e0 e1 e2 e3 e4 ok
    exact ⟨ok, e0.symm, e1.symm, e2.symm, e3.symm, e4.symm⟩
  have two : okP s = true → okR s = true := fun h => by
    unfold okP at h
    rw [Bool.and_eq_true] at h
    have e := key h.1 h.2
    obtain ⟨e0, e1, e2, e3, e4⟩ := rc_back h.1
    rw [← e] at e0 e1 e2 e3 e4
    unfold okR; rw [e0, e1, e2, e3, e4, Bool.and_eq_true]; exact h
  refine ⟨?_, fun h => (one h).2⟩
  rw [Bool.eq_iff_iff]
  exact ⟨fun h => (one h).1, two⟩

end Go.Proofs.YtnkkomodpjgefaaDoor
