/- New. -/
import Derived.Test.YtgpdkfmneoggkaaExF
import Derived.Great.Ranges
namespace Go.Proofs.Ytgpdkfmneoggkaa
open Go.RowKit Go.Great

/-- A whole value of many cells is stored amid a row. -/
theorem wpList_store_amid10 {P : Program} {ops : Array Oper} {rest : List Oper} {o : Oper} {a : Act} {w : World} {Q : Exit → Act → World → Prop} (hgd : o.guard = none) (ty : TypeId) (x y : Operand) (ho : o.op = .store ty x y)
    (g off : Nat) (cells : Array Value) (hx : a.eval x = .pointer (some ⟨g, off, none⟩)) (hy : a.eval y = .agg cells)
    (t : TypeId) (old : Array Value) (hg : w.heap[g]? = some (.cells old t (0, 0))) (hi : (P.info? ty).map (·.size) = some cells.size)
    (hold : off + cells.size ≤ old.size) (h1 : cells.all (·.oneCell') = true)
    (h : wpList P ops Q rest (a.put o.dst undef) (w.setRow g (splice old.toList off cells.toList).toArray)) : wpList P ops Q (o :: rest) a w := by
  refine wpList_plain hgd fun K hK => ?_
  have hst : (storeVar ty ⟨g, off, none⟩ (.agg cells)).run P w = .ok () (w.setRow g (splice old.toList off cells.toList).toArray) := by
    have := run_storeCells_atF P g off t (0, 0) cells.toList 0 old w hg (by simp) (by simpa using hold) (fun v hv => (Array.all_eq_true_iff_forall_mem.1 h1) v (by simpa using hv))
    rw [Nat.add_zero, List.append_assoc] at this
    cases hq : P.info? ty with
    | none => simp [hq] at hi
    | some i =>
      have hs : cells.size = i.size := by simp [hq] at hi; omega
      simp [storeVar, sizeOf, typeInfo, hq, Value.cells, hs, this, splice]
  unfold Oper.wp execOp
  simp only [ho, hx, hy, Instr.storeAt, Instr.sureAddr, Sem.run_bind, Sem.run_pure, Result.andThen_ok, hst]
  exact hK _ _ h
theorem pcell_one (p : Pt) (k : Nat) : (pcell p k).oneCell' = true := by
  unfold pcell
  split
  · rfl
  split <;> rfl
theorem ptL_one (p : Pt) : (ptL p).toArray.all (·.oneCell') = true := by
  apply all_oneCell_toArray
  intro v hv
  obtain ⟨k, -, rfl⟩ := List.mem_map.1 hv
  exact pcell_one p k
theorem Try.sPart : (Try.prog.info? 67).map (·.size) = some 66 := by kernel_rfl
theorem built_ext (d n : Nat) : Try.prog.built 70 [(0, .pointer (some ⟨d, 0, none⟩)), (1, .int .i64 (n : Int))] = some (xL d ⟨n, fun _ => zeroP⟩).toArray := by kernel_rfl
theorem built_part (f n : Nat) : Try.prog.built 67 [(0, .int .i64 (f : Int)), (1, .int .i64 (n : Int))] = some (ptL (newP f n)).toArray := by kernel_rfl
theorem splice_ext (d : Nat) (s : Xt) {a : Nat} (ha : a < 8) (p : Pt) : splice (xL d s) (2 + a * 66) (ptL p) = xL d (s.set a p) := by
  unfold splice
  rw [← List.append_assoc]
  apply List.ext_getElem?
  intro k
  by_cases h1 : k < 2 + a * 66
  · rw [List.append_assoc, List.getElem?_append_left (by simp [xL_len]; omega), List.getElem?_take_of_lt h1, xL_get _ _ (by omega), xL_get _ _ (by omega)]
    unfold xcell
    split
    · rfl
    split
    · rfl
    · rw [Xt.set_other _ _ _ (by omega)]
  · by_cases h2 : k < 2 + a * 66 + 66
    · rw [List.getElem?_append_left (by simp [xL_len, ptL_len]; omega), List.getElem?_append_right (by simp [xL_len]; omega), List.length_take, xL_len, Nat.min_eq_left (by omega), ptL_get _ (by omega), xL_get _ _ (by omega)]
      obtain ⟨j, rfl⟩ : ∃ j, k = 2 + a * 66 + j := ⟨k - (2 + a * 66), by omega⟩
      rw [xcell_part _ _ (by omega), Xt.set_same, show 2 + a * 66 + j - (2 + a * 66) = j by omega]
    · rw [List.getElem?_append_right (by simp [xL_len, ptL_len]; omega), List.getElem?_drop]
      simp only [List.length_append, List.length_take, xL_len, ptL_len]
      rw [Nat.min_eq_left (by omega), show 2 + a * 66 + 66 + (k - (2 + a * 66 + 66)) = k by omega]
      by_cases h3 : k < 530
      · rw [xL_get _ _ h3, xL_get _ _ h3]
        unfold xcell
        rw [if_neg (by omega), if_neg (by omega), if_neg (by omega), if_neg (by omega), Xt.set_other _ _ _ (by omega)]
      · rw [List.getElem?_eq_none (by rw [xL_len]; omega), List.getElem?_eq_none (by rw [xL_len]; omega)]

/-- Quotas that came in. -/
def IntsIn (w : World) (A : Option Addr) (qs : List Int) : Prop := ∀ k v, qs[k]? = some v → ∃ g o, A = some ⟨g, o, none⟩ ∧ w.cell? ⟨g, o + k, none⟩ = some (.int .i64 v) ∧ -9223372036854775808 ≤ v ∧ v ≤ 9223372036854775807
theorem IntsIn.step {w w' : World} {A : Option Addr} {qs : List Int} (h : IntsIn w A qs) (hb : Below w.heap.size w w') : IntsIn w' A qs := fun k v hk => by
  obtain ⟨g, o, rfl, hc, hv⟩ := h k v hk
  exact ⟨g, o, rfl, (hb.cell (p := ⟨g, o + k, none⟩) (World.block_lt_of_cell? w _ hc)).trans hc, hv⟩
/-- So many of them together. -/
def sumQ (qs : List Int) (k : Nat) : Nat := ((qs.take k).map Int.toNat).sum
theorem sumQ_succ {qs : List Int} {k : Nat} {q : Int} (h : qs[k]? = some q) : sumQ qs (k + 1) = sumQ qs k + q.toNat := by
  unfold sumQ
  rw [List.take_add_one, h]
  simp
theorem sumQ_mono {qs : List Int} {k j : Nat} (h : k ≤ j) : sumQ qs k ≤ sumQ qs j := by
  unfold sumQ
  obtain ⟨m, rfl⟩ : ∃ m, j = k + m := ⟨j - k, by omega⟩
  rw [List.take_add]
  simp
def newXt (qs : List Int) (k : Nat) : Xt := ⟨qs.length, fun a => if a < k then newP (sumQ qs a) (qs.getD a 0).toNat else zeroP⟩
theorem newXt_zero (qs : List Int) : newXt qs 0 = ⟨qs.length, fun _ => zeroP⟩ := by
  unfold newXt
  simp
theorem newXt_succ {qs : List Int} {k : Nat} {q : Int} (h : qs[k]? = some q) : (newXt qs k).set k (newP (sumQ qs k) q.toNat) = newXt qs (k + 1) := by
  unfold newXt Xt.set
  congr 1
  funext b
  dsimp only
  by_cases h1 : b = k
  · subst h1
    rw [if_pos rfl, if_pos (by omega), List.getD_eq_getElem?_getD, h]
    rfl
  · rw [if_neg h1]
    by_cases h2 : b < k
    · rw [if_pos h2, if_pos (by omega)]
    · rw [if_neg h2, if_neg (by omega)]
/-- What New leaves. -/
def NewXOut (w : World) (d size : Nat) (qs : List Int) (e : Ending) (w' : World) : Prop :=
  ((qs.length < 1 ∨ 8 < qs.length ∨ ∃ q ∈ qs, q < 0) ∧ e = .returned (.tuple #[.pointer none, .int .i64 2]) ∧ Below w.heap.size w w') ∨
  ((1 ≤ qs.length ∧ qs.length ≤ 8 ∧ (∀ q ∈ qs, 0 ≤ q) ∧ size < sumQ qs qs.length) ∧ e = .returned (.tuple #[.pointer none, .int .i64 5]) ∧ Below w.heap.size w w') ∨
  ((1 ≤ qs.length ∧ qs.length ≤ 8 ∧ (∀ q ∈ qs, 0 ≤ q) ∧ sumQ qs qs.length ≤ size) ∧ ∃ x, e = .returned (.tuple #[.pointer (some ⟨x, 0, none⟩), .int .i64 0]) ∧ ExIs w' x d (newXt qs qs.length) ∧ w.heap.size ≤ x ∧ Below w.heap.size w w')
theorem xnew_no {w : World} {v : Value} (h : NoDk w v) (A : Option Addr) (n c : Nat) : Calls Try.prog 20 #[v, .slice A n c] w fun e w' => e = .returned (.tuple #[.pointer none, .int .i64 1]) ∧ w = w' := by
  go_enter Try.func20, Try.ntmps20
  go_wp2_with (go_at_call 53; refine (size_no9 h).mono ?_; rintro e w' ⟨rfl, rfl⟩)
  go_ret2
  exact ⟨rfl, rfl⟩
section
variable {w : World} {O : Nat → Prop} {d : Nat} {L : Lay9} {k : Dk}
set_option maxHeartbeats 4000000 in
set_option maxRecDepth 100000 in
theorem xnew_any (h : DkAt w O d L k) (A : Option Addr) (qs : List Int) (n c : Nat) (hn : qs.length = n) (hn2 : n ≤ 9223372036854775807) (hq : IntsIn w A qs) :
    Calls Try.prog 20 #[.pointer (some ⟨d, 0, none⟩), .slice A n c] w (NewXOut w d k.fl.length qs) := by
  have hk1 := h.ok.n1
  have hk2 := h.ok.n2
  have H := Lib.hid h
  have HQ := Lib.hid hq
  have HN := Lib.hid hn
  obtain ⟨z, hz⟩ : ∃ z, k.fl.length = z := ⟨_, rfl⟩
  have HZ := Lib.hid hz
  rw [hz] at hk1 hk2 ⊢
  clear h hq hn hz
  have hz0 : ¬ ((z : Int) = 0) := by omega
  by_cases h1 : n < 1
  · have h1' : (n : Int) < 1 := by omega
    go_enter Try.func20, Try.ntmps20
    go_wp2_with (go_at_call 53; refine (size_any9 H.out).mono ?_; rintro e w' ⟨rfl, rfl⟩; rw [HZ.out])
    go_ret2
    exact .inl ⟨.inl (by rw [HN.out]; exact h1), rfl, Below.refl _ _⟩
  have h1' : ¬ (n : Int) < 1 := by omega
  by_cases h2 : 8 < n
  · have h2' : (8 : Int) < n := by omega
    go_enter Try.func20, Try.ntmps20
    go_wp2_with (go_at_call 53; refine (size_any9 H.out).mono ?_; rintro e w' ⟨rfl, rfl⟩; rw [HZ.out])
    go_ret2
    exact .inl ⟨.inr (.inl (by rw [HN.out]; exact h2)), rfl, Below.refl _ _⟩
  have h2' : ¬ (8 : Int) < n := by omega
  go_enter Try.func20, Try.ntmps20
  go_wp2_with (go_at_call 53; refine (size_any9 H.out).mono ?_; rintro e w' ⟨rfl, rfl⟩; rw [HZ.out])
  go_loopg [7, 27] n (fun g i7 i wr => ∃ j : Nat, j + g = n ∧ i = .int .i64 (j : Int) ∧ (∀ m q, m < j → qs[m]? = some q → 0 ≤ q) ∧ wr = w)
  case atStart => exact ⟨0, by omega, rfl, fun m q h => by omega, rfl⟩
  case round =>
    obtain ⟨j, hj, rfl, hall, rfl⟩ := hrel
    have HA := Lib.hid hall
    clear hall
    by_cases hlt : j < n
    · have hlt' : (j : Int) < (n : Int) := by omega
      obtain ⟨q, hjq⟩ : ∃ q, qs[j]? = some q := ⟨_, List.getElem?_eq_getElem (by rw [HN.out]; exact hlt)⟩
      obtain ⟨g, o, rfl, hc, -⟩ := HQ.out j q hjq
      have HJ := Lib.hid hjq
      clear hjq
      by_cases hq0 : q < 0
      · go_wp2
        go_ret2
        exact .inl ⟨.inr (.inr ⟨q, List.mem_of_getElem? HJ.out, hq0⟩), rfl, Below.refl _ _⟩
      · go_wp2
        go_roundg (n - (j + 1))
        case measure => omega
        case rel => exact ⟨j + 1, by omega, by go_num, (fun m q' hm hq' => by
          by_cases e : m = j
          · subst e
            rw [HJ.out] at hq'
            cases hq'
            omega
          · exact HA.out m q' (by omega) hq'), rfl⟩
    · obtain rfl : j = n := by omega
      have hlt' : ¬ (j : Int) < (j : Int) := by omega
      have HP := Lib.hid (show ∀ q ∈ qs, 0 ≤ q from fun q hq => by
        obtain ⟨m, hm, e⟩ := List.getElem_of_mem hq
        exact HA.out m q (by rw [← HN.out]; exact hm) (by rw [List.getElem?_eq_getElem hm, e]))
      clear HA
      go_wp2_with (first
        | (refine wpList_buildTo rfl 70 _ rfl (some 37) rfl (xL d ⟨j, fun _ => zeroP⟩).toArray (built_ext d j) ?_)
        | (refine wpList_boxTo rfl 70 _ rfl (some 38) rfl wr.heap.size rfl (xL d ⟨j, fun _ => zeroP⟩).toArray rfl ?_))
      obtain ⟨wb, rfl⟩ : ∃ wb : World, wb = wr := ⟨_, rfl⟩
      have HE0 := Lib.hid (show ExIs (wb.alloc (.cells (xL d ⟨j, fun _ => zeroP⟩).toArray 70)) wb.heap.size d (newXt qs 0) from
        ⟨by rw [newXt_zero]; show qs.length ≤ 8; rw [HN.out]; omega, fun a => by rw [newXt_zero]; exact zeroP_ok, by rw [newXt_zero, HN.out]; exact heap_alloc_new wb _⟩)
      go_loopg [9, 10, 11, 41] j (fun g nx i10 i11 i W => ∃ m : Nat, m + g = j ∧ nx = .int .i64 (sumQ qs m : Int) ∧ i = .int .i64 (m : Int) ∧ sumQ qs m ≤ z ∧ ExIs W wb.heap.size d (newXt qs m) ∧ Below wb.heap.size wb W)
      case atStart => exact ⟨0, by omega, rfl, rfl, Nat.zero_le _, HE0.out, (Below.refl _ wb).alloc (Nat.le_refl _) _⟩
      case round =>
        obtain ⟨m, hm, rfl, rfl, hsz, hE, hB⟩ := hrel
        have HE := Lib.hid hE
        have HB := Lib.hid hB
        obtain ⟨sn, hsn⟩ : ∃ sn, sumQ qs m = sn := ⟨_, rfl⟩
        have HS := Lib.hid hsn
        rw [hsn] at hsz ⊢
        clear hE hB hsn
        by_cases hlt2 : m < j
        · have hlt2' : (m : Int) < (j : Int) := by omega
          obtain ⟨q, hmq⟩ : ∃ q, qs[m]? = some q := ⟨_, List.getElem?_eq_getElem (by rw [HN.out]; exact hlt2)⟩
          obtain ⟨g, o, rfl, hc, hq1, hq2⟩ := (HQ.out.step HB.out) m q hmq
          have hq0 := HP.out q (List.mem_of_getElem? hmq)
          obtain ⟨qn, rfl⟩ : ∃ qn : Nat, q = qn := ⟨q.toNat, by omega⟩
          have HJ := Lib.hid hmq
          have HSS := Lib.hid (show sumQ qs (m + 1) = sn + qn by rw [sumQ_succ hmq, HS.out]; rfl)
          clear hmq
          have hw1 : IntKind.i64.wrap ((z : Int) - sn) = (z : Int) - sn := IntWalk.i64_in _ (by omega)
          by_cases hbig : z < sn + qn
          · have hbig' : (z : Int) - sn < (qn : Int) := by omega
            go_wp2_with (go_at_call 53; refine (size_any9 (H.out.step HB.out)).mono ?_; rintro e w' ⟨rfl, rfl⟩; rw [HZ.out])
            go_ret2
            refine .inr (.inl ⟨⟨by rw [HN.out]; omega, by rw [HN.out]; omega, HP.out, ?_⟩, rfl, HB.out⟩)
            have := sumQ_mono (qs := qs) (show m + 1 ≤ qs.length by rw [HN.out]; omega)
            rw [HSS.out] at this
            omega
          · have hbig' : ¬ (z : Int) - sn < (qn : Int) := by omega
            have hw2 : IntKind.i64.wrap ((sn : Int) + qn) = ((sn + qn : Nat) : Int) := by rw [IntWalk.i64_in _ (by omega)]; push_cast; rfl
            have hsp := splice_ext d (newXt qs m) (a := m) (by omega) (newP sn qn)
            have hset := newXt_succ HJ.out
            rw [HS.out, Int.toNat_natCast] at hset
            rw [hset] at hsp
            have HSP := Lib.hid hsp
            clear hsp hset
            have hrow := HE.out.row
            have HR := Lib.hid hrow
            clear hrow
            go_wp2_with (first
              | (go_at_call 53; refine (size_any9 (H.out.step HB.out)).mono ?_; rintro e w' ⟨rfl, rfl⟩; rw [HZ.out])
              | (refine wpList_buildTo rfl 67 _ rfl (some 56) rfl (ptL (newP sn qn)).toArray (built_part sn qn) ?_)
              | (refine wpList_store_amid10 rfl 67 _ _ rfl wb.heap.size (2 + m * 66) (ptL (newP sn qn)).toArray rfl rfl 70 (xL d (newXt qs m)).toArray HR.out (by rw [List.size_toArray, ptL_len]; exact Try.sPart) (by rw [List.size_toArray, List.size_toArray, ptL_len, xL_len]; omega) (ptL_one _) ?_; rw [HSP.out]))
            go_roundg (j - (m + 1))
            case measure => omega
            case rel =>
              refine ⟨m + 1, by omega, by rw [HSS.out]; first | rfl | (push_cast; rfl) | simp, by go_num, by rw [HSS.out]; omega, ⟨HE.out.n8, fun a => ?_, setRow_heap _ _ _ _ _ _ HR.out⟩, below_setRow HB.out (Nat.le_refl _) _⟩
              unfold newXt
              dsimp only
              by_cases ea : a < m + 1
              · rw [if_pos ea]
                refine newP_ok ?_
                by_cases e2 : a = m
                · subst e2
                  rw [HS.out, List.getD_eq_getElem?_getD, HJ.out]
                  show sn + qn ≤ 4096
                  omega
                · have h3 := sumQ_mono (qs := qs) (show a + 1 ≤ m by omega)
                  obtain ⟨y, hy⟩ : ∃ y, qs[a]? = some y := ⟨_, List.getElem?_eq_getElem (by rw [HN.out]; omega)⟩
                  rw [sumQ_succ hy, HS.out] at h3
                  rw [List.getD_eq_getElem?_getD, hy]
                  show sumQ qs a + y.toNat ≤ 4096
                  omega
              · rw [if_neg ea]; exact zeroP_ok
        · obtain rfl : m = j := by omega
          have hlt2' : ¬ (m : Int) < (m : Int) := by omega
          go_wp2
          go_ret2
          exact .inr (.inr ⟨⟨by rw [HN.out]; omega, by rw [HN.out]; omega, HP.out, by rw [HN.out, HS.out]; exact hsz⟩, _, rfl, by rw [HN.out]; exact HE.out, Nat.le_refl _, HB.out⟩)
end
end Go.Proofs.Ytgpdkfmneoggkaa
