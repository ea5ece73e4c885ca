/- isa.Parse at any text of at most 4000 bytes: the one instruction that has it, or none; and a text of Text's is read as the instruction. -/
import Derived.Test.YtnkkomodpjgefaaGreatDoorIsaP1
import Derived.Test.YtnkkomodpjgefaaGreatDoorIsaP2
import Derived.Test.YtnkkomodpjgefaaGreatDoorIsaP3
import Derived.Test.YtnkkomodpjgefaaGreatDoorIsaPMath
namespace Go.Proofs.YtnkkomodpjgefaaGreatDoor
open Go.RowKit

/-! ### What is read off a text, kindly -/
def pOp (s : ByteArray) : Int := namedV (cutA s)
def pR0 (s : ByteArray) : ByteArray := cutB s
def pD (s : ByteArray) : Int := if nmD (formOf (pOp s)) then numV (trimR (cutA (pR0 s))) else 0
def pR1 (s : ByteArray) : ByteArray := if nmD (formOf (pOp s)) then cutB (pR0 s) else pR0 s
def pA (s : ByteArray) : Int := if nmA (formOf (pOp s)) then numV (trimR (cutA (pR1 s))) else 0
def pR2 (s : ByteArray) : ByteArray := if nmA (formOf (pOp s)) then cutB (pR1 s) else pR1 s
def pB (s : ByteArray) : Int := if nmB (formOf (pOp s)) then numV (trimR (cutA (pR2 s))) else 0
def pR3 (s : ByteArray) : ByteArray := if nmB (formOf (pOp s)) then cutB (pR2 s) else pR2 s
def pM (s : ByteArray) : Int := if nmM (formOf (pOp s)) then numV (trimR (cutA (pR3 s))) else 0
/-- Has what was read that text? -/
def okP (s : ByteArray) : Bool := mayB (pOp s) (pD s) (pA s) (pB s) (pM s) && ((textOf (pOp s) (pD s) (pA s) (pB s) (pM s)).toList == s.toList)
def qOp (s : ByteArray) : Int := if okP s then pOp s else 0
def qD (s : ByteArray) : Int := if okP s then pD s else 0
def qA (s : ByteArray) : Int := if okP s then pA s else 0
def qB (s : ByteArray) : Int := if okP s then pB s else 0
def qM (s : ByteArray) : Int := if okP s then pM s else 0
def qE (s : ByteArray) : Int := if okP s then 0 else 4

theorem parse_fin {s : ByteArray} {w : World} {D A B M : Int} (eD : pD s = D) (eA : pA s = A) (eB : pB s = B) (eM : pM s = M)
    (h1 : mayB (pOp s) D A B M = true → ((textOf (pOp s) D A B M).toList == s.toList) = true → Calls Tryz.prog 9 #[.string s] w fun e w' => e = .returned (.tuple #[.agg #[.int .i64 (pOp s), .int .i64 D, .int .i64 A, .int .i64 B, .int .i64 M], .int .i64 0]) ∧ Below w.heap.size w w')
    (h2 : mayB (pOp s) D A B M = false → Calls Tryz.prog 9 #[.string s] w fun e w' => e = .returned (.tuple #[.agg #[.int .i64 0, .int .i64 0, .int .i64 0, .int .i64 0, .int .i64 0], .int .i64 4]) ∧ Below w.heap.size w w')
    (h3 : mayB (pOp s) D A B M = true → ((textOf (pOp s) D A B M).toList == s.toList) = false → Calls Tryz.prog 9 #[.string s] w fun e w' => e = .returned (.tuple #[.agg #[.int .i64 0, .int .i64 0, .int .i64 0, .int .i64 0, .int .i64 0], .int .i64 4]) ∧ Below w.heap.size w w') :
    Calls Tryz.prog 9 #[.string s] w fun e w' => e = .returned (.tuple #[.agg #[.int .i64 (qOp s), .int .i64 (qD s), .int .i64 (qA s), .int .i64 (qB s), .int .i64 (qM s)], .int .i64 (qE s)]) ∧ Below w.heap.size w w' := by
  subst eD eA eB eM
  unfold qOp qD qA qB qM qE
  cases hm : mayB (pOp s) (pD s) (pA s) (pB s) (pM s)
  · have ho : okP s = false := by unfold okP; rw [hm]; rfl
    rw [ho]; simpa using h2 hm
  · cases ht : ((textOf (pOp s) (pD s) (pA s) (pB s) (pM s)).toList == s.toList)
    · have ho : okP s = false := by unfold okP; rw [hm, ht]; rfl
      rw [ho]; simpa using h3 hm ht
    · have ho : okP s = true := by unfold okP; rw [hm, ht]; rfl
      rw [ho]; simpa using h1 hm ht

theorem parse_any (s : ByteArray) (hs : s.size ≤ 4000) (w : World) (he : Env w) :
    Calls Tryz.prog 9 #[.string s] w fun e w' => e = .returned (.tuple #[.agg #[.int .i64 (qOp s), .int .i64 (qD s), .int .i64 (qA s), .int .i64 (qB s), .int .i64 (qM s)], .int .i64 (qE s)]) ∧ Below w.heap.size w w' := by
  rcases form_range (pOp s) with hf | hf | hf | hf | hf | hf | hf
  · refine parse_fin (D := 0) (A := 0) (B := 0) (M := 0) (by simp [pD, pR0, hf, nmD]) (by simp [pA, pR1, pR0, hf, nmD, nmA]) (by simp [pB, pR2, pR1, pR0, hf, nmD, nmA, nmB]) (by simp [pM, pR3, pR2, pR1, pR0, hf, nmD, nmA, nmB, nmM]) ?_ ?_ ?_
    · exact fun hm ht => parse_0y s hs _ w he rfl hf hm ht
    · exact fun hm => parse_0m s hs _ w he rfl hf hm
    · exact fun hm ht => parse_0w s hs _ w he rfl hf hm ht
  · refine parse_fin (D := 0) (A := 0) (B := 0) (M := (numV (trimR (cutA (cutB s))))) (by simp [pD, pR0, hf, nmD]) (by simp [pA, pR1, pR0, hf, nmD, nmA]) (by simp [pB, pR2, pR1, pR0, hf, nmD, nmA, nmB]) (by simp [pM, pR3, pR2, pR1, pR0, hf, nmD, nmA, nmB, nmM]) ?_ ?_ ?_
    · exact fun hm ht => parse_1y s hs _ w he rfl hf hm ht
    · exact fun hm => parse_1m s hs _ w he rfl hf hm
    · exact fun hm ht => parse_1w s hs _ w he rfl hf hm ht
  · refine parse_fin (D := 0) (A := (numV (trimR (cutA (cutB s))))) (B := 0) (M := 0) (by simp [pD, pR0, hf, nmD]) (by simp [pA, pR1, pR0, hf, nmD, nmA]) (by simp [pB, pR2, pR1, pR0, hf, nmD, nmA, nmB]) (by simp [pM, pR3, pR2, pR1, pR0, hf, nmD, nmA, nmB, nmM]) ?_ ?_ ?_
    · exact fun hm ht => parse_2y s hs _ w he rfl hf hm ht
    · exact fun hm => parse_2m s hs _ w he rfl hf hm
    · exact fun hm ht => parse_2w s hs _ w he rfl hf hm ht
  · refine parse_fin (D := (numV (trimR (cutA (cutB s))))) (A := 0) (B := 0) (M := (numV (trimR (cutA (cutB (cutB s)))))) (by simp [pD, pR0, hf, nmD]) (by simp [pA, pR1, pR0, hf, nmD, nmA]) (by simp [pB, pR2, pR1, pR0, hf, nmD, nmA, nmB]) (by simp [pM, pR3, pR2, pR1, pR0, hf, nmD, nmA, nmB, nmM]) ?_ ?_ ?_
    · exact fun hm ht => parse_3y s hs _ w he rfl hf hm ht
    · exact fun hm => parse_3m s hs _ w he rfl hf hm
    · exact fun hm ht => parse_3w s hs _ w he rfl hf hm ht
  · refine parse_fin (D := (numV (trimR (cutA (cutB s))))) (A := (numV (trimR (cutA (cutB (cutB s)))))) (B := 0) (M := 0) (by simp [pD, pR0, hf, nmD]) (by simp [pA, pR1, pR0, hf, nmD, nmA]) (by simp [pB, pR2, pR1, pR0, hf, nmD, nmA, nmB]) (by simp [pM, pR3, pR2, pR1, pR0, hf, nmD, nmA, nmB, nmM]) ?_ ?_ ?_
    · exact fun hm ht => parse_4y s hs _ w he rfl hf hm ht
    · exact fun hm => parse_4m s hs _ w he rfl hf hm
    · exact fun hm ht => parse_4w s hs _ w he rfl hf hm ht
  · refine parse_fin (D := (numV (trimR (cutA (cutB s))))) (A := (numV (trimR (cutA (cutB (cutB s)))))) (B := (numV (trimR (cutA (cutB (cutB (cutB s))))))) (M := 0) (by simp [pD, pR0, hf, nmD]) (by simp [pA, pR1, pR0, hf, nmD, nmA]) (by simp [pB, pR2, pR1, pR0, hf, nmD, nmA, nmB]) (by simp [pM, pR3, pR2, pR1, pR0, hf, nmD, nmA, nmB, nmM]) ?_ ?_ ?_
    · exact fun hm ht => parse_5y s hs _ w he rfl hf hm ht
    · exact fun hm => parse_5m s hs _ w he rfl hf hm
    · exact fun hm ht => parse_5w s hs _ w he rfl hf hm ht
  · refine parse_fin (D := (numV (trimR (cutA (cutB s))))) (A := (numV (trimR (cutA (cutB (cutB s)))))) (B := 0) (M := (numV (trimR (cutA (cutB (cutB (cutB s))))))) (by simp [pD, pR0, hf, nmD]) (by simp [pA, pR1, pR0, hf, nmD, nmA]) (by simp [pB, pR2, pR1, pR0, hf, nmD, nmA, nmB]) (by simp [pM, pR3, pR2, pR1, pR0, hf, nmD, nmA, nmB, nmM]) ?_ ?_ ?_
    · exact fun hm ht => parse_6y s hs _ w he rfl hf hm ht
    · exact fun hm => parse_6m s hs _ w he rfl hf hm
    · exact fun hm ht => parse_6w s hs _ w he rfl hf hm ht

/-! ### A text of Text's -/
theorem cutA_l (L : List UInt8) : cutA ⟨L.toArray⟩ = ⟨(Lib.cut L [32]).1.toArray⟩ := by unfold cutA; simp
theorem cutB_l (L : List UInt8) : cutB ⟨L.toArray⟩ = ⟨(Lib.cut L [32]).2.1.toArray⟩ := by unfold cutB; simp
theorem num_l (L : List UInt8) (n : Int) (h0 : -100000000 ≤ n) (h1 : n ≤ 100000000) (h : Lib.trimPrefix L [114] = Lib.itoa n) : numV (trimR ⟨L.toArray⟩) = n := by
  unfold numV trimR atoiV; simp only [h, atoi_itoa n h0 h1]
theorem reg_blank (n : Int) : 32 ∉ 114 :: Lib.itoa n := by
  intro h; rcases List.mem_cons.1 h with h | h
  · exact absurd h (by decide)
  · exact itoa_blank n h
theorem reg_next (n : Int) (t : List UInt8) (h0 : -100000000 ≤ n) (h1 : n ≤ 100000000) : numV (trimR (cutA ⟨(114 :: (Lib.itoa n ++ 32 :: t)).toArray⟩)) = n ∧ cutB ⟨(114 :: (Lib.itoa n ++ 32 :: t)).toArray⟩ = ⟨t.toArray⟩ := by
  have e : 114 :: (Lib.itoa n ++ 32 :: t) = (114 :: Lib.itoa n) ++ 32 :: t := rfl
  rw [e, cutA_l, cutB_l, cut_hit _ _ (reg_blank n)]
  exact ⟨num_l _ n h0 h1 (trim_hit _), rfl⟩
theorem reg_last (n : Int) (h0 : -100000000 ≤ n) (h1 : n ≤ 100000000) : numV (trimR (cutA ⟨(114 :: Lib.itoa n).toArray⟩)) = n := by
  rw [cutA_l, cut_miss _ (reg_blank n)]; exact num_l _ n h0 h1 (trim_hit _)
theorem imm_last (n : Int) (h0 : -100000000 ≤ n) (h1 : n ≤ 100000000) : numV (trimR (cutA ⟨(Lib.itoa n).toArray⟩)) = n := by
  rw [cutA_l, cut_miss _ (itoa_blank n)]; exact num_l _ n h0 h1 (trim_itoa n)
theorem name_next (op : Int) (t : List UInt8) : cutA ⟨((nameOf op).data.toList ++ 32 :: t).toArray⟩ = nameOf op ∧ cutB ⟨((nameOf op).data.toList ++ 32 :: t).toArray⟩ = ⟨t.toArray⟩ := by
  rw [cutA_l, cutB_l, cut_hit _ _ (name_blank op)]; exact ⟨rfl, rfl⟩
theorem name_last (op : Int) : cutA ⟨((nameOf op).data.toList).toArray⟩ = nameOf op := by
  rw [cutA_l, cut_miss _ (name_blank op)]

/-- A text of Text's is read as the instruction. -/
theorem parse_back {op d a b m : Int} (h : mayB op d a b m = true) :
    pOp (textOf op d a b m) = op ∧ pD (textOf op d a b m) = d ∧ pA (textOf op d a b m) = a ∧ pB (textOf op d a b m) = b ∧ pM (textOf op d a b m) = m := by
  obtain ⟨⟨ho, ho'⟩, ⟨hd, hd'⟩, ⟨ha, ha'⟩, ⟨hb, hb'⟩, ⟨hm, hm'⟩, -, -⟩ := may_parts h
  have hop : isOp op = true := by unfold isOp; simp; omega
  have h' := h
  unfold mayB regOk at h'
  simp only [Bool.and_eq_true, Bool.or_eq_true, decide_eq_true_eq] at h'
  obtain ⟨-, z1, z2, z3, z4⟩ := h'
  have r1 := fun t => reg_next d t (by omega) (by omega)
  have r2 := fun t => reg_next a t (by omega) (by omega)
  have r3 := fun t => reg_next b t (by omega) (by omega)
  have l1 := reg_last d (by omega) (by omega)
  have l2 := reg_last a (by omega) (by omega)
  have l3 := reg_last b (by omega) (by omega)
  have l4 := imm_last m (by omega) (by omega)
  rcases form_range op with hf | hf | hf | hf | hf | hf | hf
  · have ht : textOf op d a b m = ⟨((nameOf op).data.toList).toArray⟩ := by unfold textOf textL; rw [hf]; simp [regT, immT, nmD, nmA, nmB, nmM]
    rw [hf] at z1 z2 z3 z4
    have e0 : cutA (textOf op d a b m) = nameOf op := by rw [ht]; exact name_last op
    have p0 : pOp (textOf op d a b m) = op := by unfold pOp; rw [e0, named_name hop]
    have p1 : formOf (pOp (textOf op d a b m)) = 0 := by rw [p0, hf]
    have v0 : pD (textOf op d a b m) = d := by unfold pD; rw [p1]; simp [nmD] at z1 ⊢ <;> omega
    have v1 : pA (textOf op d a b m) = a := by unfold pA; rw [p1]; simp [nmA] at z2 ⊢ <;> omega
    have v2 : pB (textOf op d a b m) = b := by unfold pB; rw [p1]; simp [nmB] at z3 ⊢ <;> omega
    have v3 : pM (textOf op d a b m) = m := by unfold pM; rw [p1]; simp [nmM] at z4 ⊢ <;> omega
    exact ⟨p0, v0, v1, v2, v3⟩
  · have ht : textOf op d a b m = ⟨((nameOf op).data.toList ++ 32 :: (Lib.itoa m)).toArray⟩ := by unfold textOf textL; rw [hf]; simp [regT, immT, nmD, nmA, nmB, nmM]
    rw [hf] at z1 z2 z3 z4
    have e0 : cutA (textOf op d a b m) = nameOf op := by rw [ht]; exact (name_next op _).1
    have p0 : pOp (textOf op d a b m) = op := by unfold pOp; rw [e0, named_name hop]
    have p1 : formOf (pOp (textOf op d a b m)) = 1 := by rw [p0, hf]
    have c0 : pR0 (textOf op d a b m) = ⟨(Lib.itoa m).toArray⟩ := by unfold pR0; rw [ht]; exact (name_next op _).2
    have v0 : pD (textOf op d a b m) = d := by unfold pD; rw [p1]; simp [nmD] at z1 ⊢ <;> omega
    have c1 : pR1 (textOf op d a b m) = pR0 (textOf op d a b m) := by unfold pR1; rw [p1]; rfl
    have v1 : pA (textOf op d a b m) = a := by unfold pA; rw [p1]; simp [nmA] at z2 ⊢ <;> omega
    have c2 : pR2 (textOf op d a b m) = pR1 (textOf op d a b m) := by unfold pR2; rw [p1]; rfl
    have v2 : pB (textOf op d a b m) = b := by unfold pB; rw [p1]; simp [nmB] at z3 ⊢ <;> omega
    have c3 : pR3 (textOf op d a b m) = pR2 (textOf op d a b m) := by unfold pR3; rw [p1]; rfl
    have v3 : pM (textOf op d a b m) = m := by unfold pM; rw [p1]; simp only [nmM, decide_true, if_true]; show numV (trimR (cutA (pR3 _))) = _; rw [c3, c2, c1, c0]; exact l4
    exact ⟨p0, v0, v1, v2, v3⟩
  · have ht : textOf op d a b m = ⟨((nameOf op).data.toList ++ 32 :: (114 :: Lib.itoa a)).toArray⟩ := by unfold textOf textL; rw [hf]; simp [regT, immT, nmD, nmA, nmB, nmM]
    rw [hf] at z1 z2 z3 z4
    have e0 : cutA (textOf op d a b m) = nameOf op := by rw [ht]; exact (name_next op _).1
    have p0 : pOp (textOf op d a b m) = op := by unfold pOp; rw [e0, named_name hop]
    have p1 : formOf (pOp (textOf op d a b m)) = 2 := by rw [p0, hf]
    have c0 : pR0 (textOf op d a b m) = ⟨(114 :: Lib.itoa a).toArray⟩ := by unfold pR0; rw [ht]; exact (name_next op _).2
    have v0 : pD (textOf op d a b m) = d := by unfold pD; rw [p1]; simp [nmD] at z1 ⊢ <;> omega
    have c1 : pR1 (textOf op d a b m) = pR0 (textOf op d a b m) := by unfold pR1; rw [p1]; rfl
    have v1 : pA (textOf op d a b m) = a := by unfold pA; rw [p1]; simp only [nmA, decide_true, if_true]; show numV (trimR (cutA (pR1 _))) = _; rw [c1, c0]; exact l2
    have c2 : pR2 (textOf op d a b m) = cutB ⟨(114 :: Lib.itoa a).toArray⟩ := by unfold pR2; rw [p1]; show cutB (pR1 _) = _; rw [c1, c0]
    have v2 : pB (textOf op d a b m) = b := by unfold pB; rw [p1]; simp [nmB] at z3 ⊢ <;> omega
    have c3 : pR3 (textOf op d a b m) = pR2 (textOf op d a b m) := by unfold pR3; rw [p1]; rfl
    have v3 : pM (textOf op d a b m) = m := by unfold pM; rw [p1]; simp [nmM] at z4 ⊢ <;> omega
    exact ⟨p0, v0, v1, v2, v3⟩
  · have ht : textOf op d a b m = ⟨((nameOf op).data.toList ++ 32 :: (114 :: (Lib.itoa d ++ 32 :: (Lib.itoa m)))).toArray⟩ := by unfold textOf textL; rw [hf]; simp [regT, immT, nmD, nmA, nmB, nmM]
    rw [hf] at z1 z2 z3 z4
    have e0 : cutA (textOf op d a b m) = nameOf op := by rw [ht]; exact (name_next op _).1
    have p0 : pOp (textOf op d a b m) = op := by unfold pOp; rw [e0, named_name hop]
    have p1 : formOf (pOp (textOf op d a b m)) = 3 := by rw [p0, hf]
    have c0 : pR0 (textOf op d a b m) = ⟨(114 :: (Lib.itoa d ++ 32 :: (Lib.itoa m))).toArray⟩ := by unfold pR0; rw [ht]; exact (name_next op _).2
    have v0 : pD (textOf op d a b m) = d := by unfold pD; rw [p1]; simp only [nmD, decide_true, if_true]; show numV (trimR (cutA (pR0 _))) = _; rw [c0]; exact (r1 _).1
    have c1 : pR1 (textOf op d a b m) = ⟨(Lib.itoa m).toArray⟩ := by unfold pR1; rw [p1]; show cutB (pR0 _) = _; rw [c0]; exact (r1 _).2
    have v1 : pA (textOf op d a b m) = a := by unfold pA; rw [p1]; simp [nmA] at z2 ⊢ <;> omega
    have c2 : pR2 (textOf op d a b m) = pR1 (textOf op d a b m) := by unfold pR2; rw [p1]; rfl
    have v2 : pB (textOf op d a b m) = b := by unfold pB; rw [p1]; simp [nmB] at z3 ⊢ <;> omega
    have c3 : pR3 (textOf op d a b m) = pR2 (textOf op d a b m) := by unfold pR3; rw [p1]; rfl
    have v3 : pM (textOf op d a b m) = m := by unfold pM; rw [p1]; simp only [nmM, decide_true, if_true]; show numV (trimR (cutA (pR3 _))) = _; rw [c3, c2, c1]; exact l4
    exact ⟨p0, v0, v1, v2, v3⟩
  · have ht : textOf op d a b m = ⟨((nameOf op).data.toList ++ 32 :: (114 :: (Lib.itoa d ++ 32 :: (114 :: Lib.itoa a)))).toArray⟩ := by unfold textOf textL; rw [hf]; simp [regT, immT, nmD, nmA, nmB, nmM]
    rw [hf] at z1 z2 z3 z4
    have e0 : cutA (textOf op d a b m) = nameOf op := by rw [ht]; exact (name_next op _).1
    have p0 : pOp (textOf op d a b m) = op := by unfold pOp; rw [e0, named_name hop]
    have p1 : formOf (pOp (textOf op d a b m)) = 4 := by rw [p0, hf]
    have c0 : pR0 (textOf op d a b m) = ⟨(114 :: (Lib.itoa d ++ 32 :: (114 :: Lib.itoa a))).toArray⟩ := by unfold pR0; rw [ht]; exact (name_next op _).2
    have v0 : pD (textOf op d a b m) = d := by unfold pD; rw [p1]; simp only [nmD, decide_true, if_true]; show numV (trimR (cutA (pR0 _))) = _; rw [c0]; exact (r1 _).1
    have c1 : pR1 (textOf op d a b m) = ⟨(114 :: Lib.itoa a).toArray⟩ := by unfold pR1; rw [p1]; show cutB (pR0 _) = _; rw [c0]; exact (r1 _).2
    have v1 : pA (textOf op d a b m) = a := by unfold pA; rw [p1]; simp only [nmA, decide_true, if_true]; show numV (trimR (cutA (pR1 _))) = _; rw [c1]; exact l2
    have c2 : pR2 (textOf op d a b m) = cutB ⟨(114 :: Lib.itoa a).toArray⟩ := by unfold pR2; rw [p1]; show cutB (pR1 _) = _; rw [c1]
    have v2 : pB (textOf op d a b m) = b := by unfold pB; rw [p1]; simp [nmB] at z3 ⊢ <;> omega
    have c3 : pR3 (textOf op d a b m) = pR2 (textOf op d a b m) := by unfold pR3; rw [p1]; rfl
    have v3 : pM (textOf op d a b m) = m := by unfold pM; rw [p1]; simp [nmM] at z4 ⊢ <;> omega
    exact ⟨p0, v0, v1, v2, v3⟩
  · have ht : textOf op d a b m = ⟨((nameOf op).data.toList ++ 32 :: (114 :: (Lib.itoa d ++ 32 :: (114 :: (Lib.itoa a ++ 32 :: (114 :: Lib.itoa b)))))).toArray⟩ := by unfold textOf textL; rw [hf]; simp [regT, immT, nmD, nmA, nmB, nmM]
    rw [hf] at z1 z2 z3 z4
    have e0 : cutA (textOf op d a b m) = nameOf op := by rw [ht]; exact (name_next op _).1
    have p0 : pOp (textOf op d a b m) = op := by unfold pOp; rw [e0, named_name hop]
    have p1 : formOf (pOp (textOf op d a b m)) = 5 := by rw [p0, hf]
    have c0 : pR0 (textOf op d a b m) = ⟨(114 :: (Lib.itoa d ++ 32 :: (114 :: (Lib.itoa a ++ 32 :: (114 :: Lib.itoa b))))).toArray⟩ := by unfold pR0; rw [ht]; exact (name_next op _).2
    have v0 : pD (textOf op d a b m) = d := by unfold pD; rw [p1]; simp only [nmD, decide_true, if_true]; show numV (trimR (cutA (pR0 _))) = _; rw [c0]; exact (r1 _).1
    have c1 : pR1 (textOf op d a b m) = ⟨(114 :: (Lib.itoa a ++ 32 :: (114 :: Lib.itoa b))).toArray⟩ := by unfold pR1; rw [p1]; show cutB (pR0 _) = _; rw [c0]; exact (r1 _).2
    have v1 : pA (textOf op d a b m) = a := by unfold pA; rw [p1]; simp only [nmA, decide_true, if_true]; show numV (trimR (cutA (pR1 _))) = _; rw [c1]; exact (r2 _).1
    have c2 : pR2 (textOf op d a b m) = ⟨(114 :: Lib.itoa b).toArray⟩ := by unfold pR2; rw [p1]; show cutB (pR1 _) = _; rw [c1]; exact (r2 _).2
    have v2 : pB (textOf op d a b m) = b := by unfold pB; rw [p1]; simp only [nmB, decide_true, if_true]; show numV (trimR (cutA (pR2 _))) = _; rw [c2]; exact l3
    have c3 : pR3 (textOf op d a b m) = cutB ⟨(114 :: Lib.itoa b).toArray⟩ := by unfold pR3; rw [p1]; show cutB (pR2 _) = _; rw [c2]
    have v3 : pM (textOf op d a b m) = m := by unfold pM; rw [p1]; simp [nmM] at z4 ⊢ <;> omega
    exact ⟨p0, v0, v1, v2, v3⟩
  · have ht : textOf op d a b m = ⟨((nameOf op).data.toList ++ 32 :: (114 :: (Lib.itoa d ++ 32 :: (114 :: (Lib.itoa a ++ 32 :: (Lib.itoa m)))))).toArray⟩ := by unfold textOf textL; rw [hf]; simp [regT, immT, nmD, nmA, nmB, nmM]
    rw [hf] at z1 z2 z3 z4
    have e0 : cutA (textOf op d a b m) = nameOf op := by rw [ht]; exact (name_next op _).1
    have p0 : pOp (textOf op d a b m) = op := by unfold pOp; rw [e0, named_name hop]
    have p1 : formOf (pOp (textOf op d a b m)) = 6 := by rw [p0, hf]
    have c0 : pR0 (textOf op d a b m) = ⟨(114 :: (Lib.itoa d ++ 32 :: (114 :: (Lib.itoa a ++ 32 :: (Lib.itoa m))))).toArray⟩ := by unfold pR0; rw [ht]; exact (name_next op _).2
    have v0 : pD (textOf op d a b m) = d := by unfold pD; rw [p1]; simp only [nmD, decide_true, if_true]; show numV (trimR (cutA (pR0 _))) = _; rw [c0]; exact (r1 _).1
    have c1 : pR1 (textOf op d a b m) = ⟨(114 :: (Lib.itoa a ++ 32 :: (Lib.itoa m))).toArray⟩ := by unfold pR1; rw [p1]; show cutB (pR0 _) = _; rw [c0]; exact (r1 _).2
    have v1 : pA (textOf op d a b m) = a := by unfold pA; rw [p1]; simp only [nmA, decide_true, if_true]; show numV (trimR (cutA (pR1 _))) = _; rw [c1]; exact (r2 _).1
    have c2 : pR2 (textOf op d a b m) = ⟨(Lib.itoa m).toArray⟩ := by unfold pR2; rw [p1]; show cutB (pR1 _) = _; rw [c1]; exact (r2 _).2
    have v2 : pB (textOf op d a b m) = b := by unfold pB; rw [p1]; simp [nmB] at z3 ⊢ <;> omega
    have c3 : pR3 (textOf op d a b m) = pR2 (textOf op d a b m) := by unfold pR3; rw [p1]; rfl
    have v3 : pM (textOf op d a b m) = m := by unfold pM; rw [p1]; simp only [nmM, decide_true, if_true]; show numV (trimR (cutA (pR3 _))) = _; rw [c3, c2]; exact l4
    exact ⟨p0, v0, v1, v2, v3⟩

theorem parse_text {op d a b m : Int} (h : mayB op d a b m = true) : okP (textOf op d a b m) = true := by
  obtain ⟨e0, e1, e2, e3, e4⟩ := parse_back h
  unfold okP; rw [e0, e1, e2, e3, e4, h]; simp

end Go.Proofs.YtnkkomodpjgefaaGreatDoor
