/- together. -/
import Derived.Test.YteibholghonajaaFiI
namespace Go.Proofs.Yteibholghonajaa
open Go.RowKit

theorem Try.uSum : Try.prog.underlying 57 = some (.struct (Try.prog.fieldsOf 57)) := by kernel_rfl
theorem Try.smSize : (Try.prog.info? 57).map (·.size) = some 129 := by kernel_rfl
theorem Try.zSum (w : World) : (zeroValue 57).run Try.prog w = .ok (.agg (smA sm0)) w := by kernel_rfl
theorem Try.builtSum : Try.prog.built 57 [] = some (smA sm0) := by kernel_rfl
theorem Try.smSzA (s : Sm) : (Try.prog.info? 57).map (·.size) = some (smA s).size := by rw [smA_size]; exact Try.smSize
theorem sm0_ok : SmOk sm0 := ⟨by simp [sm0], fun q => by simp [sm0], fun q => by simp [sm0]⟩
theorem SmOk.add {s : Sm} (h : SmOk s) {n : Tn} (ho : n.Ok) : SmOk (s.add n) := by
  have hp := ho.p
  have hn := h.n
  refine ⟨?_, fun q => ?_, fun q => ?_⟩
  · show max s.size (n.p + 1) ≤ 64; omega
  · show upd s.M n.p (s.M n.p ||| n.m) q < 256
    unfold upd
    split
    · exact Nat.or_lt_two_pow (n := 8) (h.m _) ho.m
    · exact h.m q
  · show upd s.V n.p (s.V n.p ||| n.v) q < 256
    unfold upd
    split
    · exact Nat.or_lt_two_pow (n := 8) (h.v _) ho.v
    · exact h.v q
theorem SmAt.range {w : World} {g : Nat} {s : Sm} (h : SmAt w g s) : w.rangeAt g 0 (smA s).toList := fun j v hj => by
  rw [Nat.zero_add, cell_of_row _ _ _ _ _ _ h]
  simpa using hj
set_option maxRecDepth 100000 in
theorem wpList_load_sm {ops : Array Oper} {rest : List Oper} {op : Oper} {a : Act} {w : World} {Q : Exit → Act → World → Prop} (hgd : op.guard = none) (x : Operand) (ho : op.op = .load 57 x)
    (b : Nat) (hx : a.eval x = .pointer (some ⟨b, 0, none⟩)) (s : Sm) (hc : SmAt w b s)
    (h : wpList Try.prog ops Q rest (a.put op.dst (.agg (smA s))) w) : wpList Try.prog ops Q (op :: rest) a w :=
  wpList_load_mid hgd 57 x ho b 0 hx (smA s).toList _ hc.range Try.uSum rfl ((Try.smSzA s).trans (by rw [Array.length_toList])) (by rw [Array.toArray_toList]; exact h)
theorem wpList_store_sm {ops : Array Oper} {rest : List Oper} {o : Oper} {a : Act} {w : World} {Q : Exit → Act → World → Prop} (hgd : o.guard = none) (x y : Operand) (ho : o.op = .store 57 x y)
    (hd : o.dst = none) (g : Nat) (s old : Sm) (hx : a.eval x = .pointer (some ⟨g, 0, none⟩)) (hy : a.eval y = .agg (smA s)) (hg : SmAt w g old)
    (h : wpList Try.prog ops Q rest a (w.setRow g (smA s))) : wpList Try.prog ops Q (o :: rest) a w :=
  wpList_store_rowTo hgd 57 x y ho hd g (smA s) hx hy 57 _ hg (by rw [smA_size]; exact Try.smSize) (by rw [smA_size, smA_size]) (smA_one s) h
theorem SmAt.new (w : World) (s : Sm) : SmAt (w.alloc (.cells (smA s) 57)) w.heap.size s := heap_alloc_new w _
theorem SmAt.row {w : World} {g : Nat} {s : Sm} (h : SmAt w g s) (s' : Sm) : SmAt (w.setRow g (smA s')) g s' := setRow_heap w g _ _ _ _ h
theorem results_sm {P : Program} {fn : Func} {p u : Tmp} {ty : TypeId} (h : fn.results = #[.cell p ty, .tmp u]) (tmps : Array Value) (w : World) (g : Nat) (t : TypeId) (cs : Array Value) (fr : Nat × Nat) (d : TypeDesc)
    (hp : tmps.getD p undef = .pointer (some ⟨g, 0, none⟩)) (hg : w.heap[g]? = some (.cells cs t fr))
    (hu : P.underlying ty = some d) (hd : (match d with | .struct _ | .array _ _ => true | _ => false) = true) (hi : (P.info? ty).map (·.size) = some cs.size) (v : Value) (hv : tmps.getD u undef = v) :
    (results fn tmps).run P w = .ok (.tuple #[.agg cs, v]) w := by
  subst hv
  have hp' : tmps[p]?.getD undef = .pointer (some ⟨g, 0, none⟩) := by simpa using hp
  simp [results, h, hp', asAddr, run_loadVar_row w g t ty cs fr d hg hu hd hi]

/-- What together answers: an error, and what is asked for. -/
def TogR (Ls : List (List Ts)) : Int × Sm := if Ls.all mayF then (match tog sm0 (Ls.flatten.map Ts.n) with | none => (210, sm0) | some s => (0, s)) else (2, sm0)
def TogOut (r : Int × Sm) (w : World) (e : Ending) (w' : World) : Prop := e = .returned (.tuple #[.agg (smA r.2), .int .i64 r.1]) ∧ Below w.heap.size w w'
theorem cat_flat (Fs : List Fl) : catL Fs = (Fs.map (·.L)).flatten := by unfold catL; rw [List.flatMap_def]
theorem any_flat {Ls : List (List Ts)} (h : Ls.all mayF = true) : Ls.flatten.any wrongT = false := by
  rw [List.all_eq_true] at h
  rw [List.any_eq_false]
  intro t ht
  obtain ⟨L, hL, hm⟩ := List.mem_flatten.1 ht
  have := h L hL
  unfold mayF at this
  simp only [Bool.and_eq_true, Bool.not_eq_true', List.any_eq_false] at this
  exact this.2 t hm
theorem may_len {L : List Ts} (h : mayF L = true) : L.length ≤ 8 := by
  unfold mayF at h
  simp only [Bool.and_eq_true, decide_eq_true_eq] at h
  exact h.1
theorem tog_step {s : Sm} {N : List Tn} {k : Nat} {t : Tn} (h : N[k]? = some t) : tog s (N.drop k) = if s.can t then tog (s.add t) (N.drop (k + 1)) else none := by
  obtain ⟨hk, e⟩ := List.getElem?_eq_some_iff.1 h
  rw [List.drop_eq_getElem_cons hk, e]
  rfl
set_option maxHeartbeats 4000000 in
set_option maxRecDepth 100000 in
theorem together_any {w : World} {b : Nat} {Fs : List Fl} (h : FsIn w b Fs) (n : Nat) (hn : Fs.length = n) (hn2 : n ≤ 10) (h63 : ∀ x ∈ Fs, (x.n : Int) ≤ 9223372036854775807) :
    Calls Try.prog 29 #[.slice (some ⟨b, 0, none⟩) n n] w (TogOut (TogR (Fs.map (·.L))) w) := by
  have H := Lib.hid h
  have HN := Lib.hid hn
  have H63 := Lib.hid h63
  have R0 := Lib.hid (SmAt.new w sm0)
  have B0 := Lib.hid ((Below.refl _ w).alloc (Nat.le_refl _) (Obj.cells (smA sm0) 57))
  have hz := Try.zSum
  clear h hn h63
  go_enter Try.func29, Try.ntmps29
  go_wp2_with fail
  generalize w.alloc (Obj.cells (smA sm0) 57) = w0 at R0 B0 ⊢
  go_loopg [12] n (fun g i W => ∃ k : Nat, k + g = n ∧ i = .int .i64 (k : Int) ∧ (∀ j, j < k → ∀ x, Fs[j]? = some x → mayF x.L = true) ∧ Below w0.heap.size w0 W)
  case atStart => exact ⟨0, by omega, rfl, fun j hj => by omega, Below.refl _ _⟩
  case round =>
    obtain ⟨k, hk, rfl, hb, hB⟩ := hrel
    have HB := Lib.hid hb
    have HW := Lib.hid hB
    have HWW := Lib.hid (B0.out.trans (hB.mono B0.out.size))
    clear hb hB
    by_cases hlt : k < n
    · have hlt2 : (k : Int) < n := by omega
      obtain ⟨x, hx⟩ : ∃ x, Fs[k]? = some x := ⟨_, List.getElem?_eq_getElem (by rw [HN.out]; exact hlt)⟩
      have hc := (H.out.below HWW.out).at hx
      have hfl := (H.out.below HWW.out).fl x (List.mem_of_getElem? hx)
      have HX := Lib.hid hx
      have HC := Lib.hid (check_any hfl.ts x.n x.c hfl.len (H63.out x (List.mem_of_getElem? hx)))
      clear hfl hx
      cases hm : mayF x.L with
      | false =>
        rw [checkE_no hm] at HC
        have HM := Lib.hid hm
        clear hm
        obtain ⟨xA, xn, xc, xL⟩ := x
        simp only at hc HC
        have hb0 := Try.builtSum
        go_wp2_with (first
          | (go_at_call 9; refine HC.out.mono ?_; rintro e w1 ⟨rfl, hb⟩; have HB1 := Lib.hid (HW.out.trans (hb.mono HW.out.size)); have R1 := Lib.hid (R0.out.below HB1.out); clear hb)
          | (refine wpList_buildTo rfl 57 _ rfl _ rfl (smA sm0) hb0 ?_)
          | (refine wpList_store_sm rfl _ _ rfl rfl w.heap.size sm0 sm0 rfl rfl R1.out ?_))
        have hT : TogR (Fs.map (·.L)) = (2, sm0) := by
          unfold TogR
          rw [if_neg]
          intro ha
          rw [List.all_eq_true] at ha
          have := ha xL (List.mem_map.2 ⟨_, List.mem_of_getElem? HX.out, rfl⟩)
          rw [show mayF xL = false from HM.out] at this
          cases this
        rw [hT]
        exact bodyPost_ret (v := .tuple #[.agg (smA sm0), .int .i64 2]) (results_sm rfl _ _ w.heap.size 57 (smA sm0) (0, 0) _ rfl (SmAt.row R1.out sm0) Try.uSum rfl (Try.smSzA sm0) _ rfl) rfl ⟨rfl, below_setRow (B0.out.trans (HB1.out.mono B0.out.size)) (Nat.le_refl _) _⟩
      | true =>
        rw [checkE_may hm] at HC
        have HM := Lib.hid hm
        clear hm
        obtain ⟨xA, xn, xc, xL⟩ := x
        simp only at hc HC
        go_wp2_with (go_at_call 9; refine HC.out.mono ?_; rintro e w1 ⟨rfl, hb⟩; have HB1 := Lib.hid (HW.out.trans (hb.mono HW.out.size)); clear hb)
        go_roundg (n - (k + 1))
        case measure => omega
        case rel =>
          refine ⟨k + 1, by omega, by go_num, fun j hj u hu => ?_, HB1.out⟩
          rcases Nat.lt_succ_iff_lt_or_eq.1 hj with h | rfl
          · exact HB.out j h u hu
          · have e := hu.symm.trans HX.out
            cases e
            exact HM.out
    · obtain rfl : k = n := by omega
      have hlt2 : ¬ (k : Int) < (k : Int) := by omega
      have HALL : Hid (∀ x ∈ Fs, mayF x.L = true) := Lib.hid fun x hx => by
        obtain ⟨j, hj, e⟩ := List.getElem_of_mem hx
        exact HB.out j (by rw [← HN.out]; exact hj) x (by rw [List.getElem?_eq_getElem hj, e])
      have hall2 : (Fs.map (·.L)).all mayF = true := by
        rw [List.all_eq_true]
        intro L hL
        obtain ⟨x, hx, rfl⟩ := List.mem_map.1 hL
        exact HALL.out x hx
      obtain ⟨N, hN⟩ : ∃ N, (Fs.map (·.L)).flatten.map Ts.n = N := ⟨_, rfl⟩
      obtain ⟨hN1, hN2⟩ := nats_of (any_flat hall2)
      rw [hN] at hN1 hN2
      have HTR : Hid (TogR (Fs.map (·.L)) = match tog sm0 N with | none => (210, sm0) | some s => (0, s)) := Lib.hid (by unfold TogR; rw [if_pos hall2, hN])
      have HNN := Lib.hid hN2
      have HCAT : Hid (catL Fs = N.map Tn.ts) := Lib.hid (by rw [cat_flat, ← hN1])
      have hx8 : ∀ x ∈ Fs, x.L.length ≤ 1000 := fun x hx => by have := may_len (HALL.out x hx); omega
      have hNl : N.length ≤ 10000 := by
        have h1 := catL_len hx8
        rw [HCAT.out, List.length_map, HN.out] at h1
        have h2 := Nat.mul_le_mul hn2 (Nat.le_refl 1000)
        omega
      have HX8 := Lib.hid hx8
      clear hN1 hN2 hN hall2 hx8
      have R1 := Lib.hid (R0.out.below HW.out)
      have R2 := Lib.hid (SmAt.new wr sm0)
      have B2 := Lib.hid ((Below.refl _ wr).alloc (Nat.le_refl _) (Obj.cells (smA sm0) 57))
      have SZ0 := B0.out.size
      go_wp2_with fail
      generalize hg7 : wr.heap.size = g7 at R2 ⊢
      have HG7 := Lib.hid (show w.heap.size < g7 by
        have h1 := R0.out.lt
        have h2 := HW.out.size
        omega)
      generalize wr.alloc (Obj.cells (smA sm0) 57) = w2 at R2 B2 ⊢
      have R12 := Lib.hid (R1.out.below B2.out)
      have HB2 := Lib.hid (HWW.out.trans (B2.out.mono HWW.out.size))
      refine (concat_any ((H.out.below HWW.out).below B2.out) k HN.out hn2 HX8.out).mono ?_
      rintro e w3 ⟨v3, rfl, ho3, hb3⟩
      rw [HCAT.out, List.length_map] at ho3
      have HO3 := Lib.hid ho3
      obtain ⟨A3, c3, rfl, hA3, hA3'⟩ := own_form ho3
      have HA3 := Lib.hid hA3'
      have HTS := Lib.hid (TsIn.of_own ho3 (by simp))
      have HB3 := Lib.hid hb3
      have R13 := Lib.hid (R12.out.below hb3)
      have R23 := Lib.hid (R2.out.below hb3)
      have HW3 := Lib.hid (HB2.out.trans (hb3.mono HB2.out.size))
      clear ho3 hA3 hA3' hb3
      obtain ⟨m, hm⟩ : ∃ m, N.length = m := ⟨_, rfl⟩
      rw [hm] at hNl ⊢
      have HM := Lib.hid hm
      clear hm hg7
      go_wp2_with fail
      go_loopg [26] m (fun g i W => ∃ (j : Nat) (s : Sm), j + g = m ∧ i = .int .i64 (j : Int) ∧ SmAt W g7 s ∧ SmOk s ∧ tog sm0 N = tog s (N.drop j) ∧ TurnO (· = g7) w3 W)
      case atStart => exact ⟨0, sm0, by omega, rfl, R23.out, sm0_ok, rfl, TurnO.refl _ _⟩
      case round =>
        obtain ⟨j, s, hj, rfl, hsm, hok, htog, hT⟩ := hrel
        have HSM := Lib.hid hsm
        have HOK := Lib.hid hok
        have HTG := Lib.hid htog
        have HT := Lib.hid hT
        have HBW := Lib.hid (HW3.out.trans (HT.out.below HW3.out.size (fun k e => by rw [e]; have := HG7.out; omega)))
        have RW : Hid (SmAt wr w.heap.size sm0) := Lib.hid ((HT.out.block w.heap.size R13.out.lt (by have := HG7.out; show ¬ w.heap.size = g7; omega)).trans R13.out)
        clear hsm hok htog hT
        by_cases hjt : j < m
        · have hjt2 : (j : Int) < m := by omega
          obtain ⟨t, ht⟩ : ∃ t, N[j]? = some t := ⟨_, List.getElem?_eq_getElem (by rw [HM.out]; exact hjt)⟩
          have hto := HNN.out t (List.mem_of_getElem? ht)
          obtain ⟨b3, o3, rfl, hb3, c0, c1, c2⟩ := HTS.out j t.ts (by rw [List.getElem?_map, ht]; rfl)
          have hne : ¬ b3 = g7 := by
            obtain ⟨g, e, h1, h2, -⟩ := HA3.out _ rfl
            cases e
            have := R2.out.lt
            omega
          have hbk := HT.out.block b3 hb3 hne
          have d0 := (World.cell?_of_block (a := ⟨b3, o3 + j * 3, none⟩) hbk).trans c0
          have d1 := (World.cell?_of_block (a := ⟨b3, o3 + j * 3 + 1, none⟩) hbk).trans c1
          have d2 := (World.cell?_of_block (a := ⟨b3, o3 + j * 3 + 2, none⟩) hbk).trans c2
          have HTS2 := Lib.hid (tog_step (s := s) ht)
          clear c0 c1 c2 hbk hne hb3 ht
          obtain ⟨p, mm, v⟩ := t
          simp only [Tn.ts] at d0 d1 d2
          have BX := Lib.hid (fun o : Obj => (Below.refl wr.heap.size wr).alloc (Nat.le_refl _) o)
          have AD := Lib.hid (add_any (HSM.out.below (BX.out (Obj.cells #[.int .i64 (p : Int), .int .i64 (mm : Int), .int .i64 (v : Int)] 52))) HOK.out p mm v hto)
          have hb0 := Try.builtSum
          cases hq : s.can ⟨p, mm, v⟩ with
          | true =>
            rw [hq, if_pos rfl] at HTS2
            rw [hq] at AD
            have HOK2 := Lib.hid (HOK.out.add hto)
            clear hq
            go_wp2_with (go_at_call 38; refine AD.out.mono ?_; rintro e w5 ⟨rfl, hs5, ht5⟩)
            go_roundg (m - (j + 1))
            case measure => omega
            case rel =>
              exact ⟨j + 1, _, by omega, by go_num, hs5, HOK2.out, HTG.out.trans HTS2.out, (HT.out.trans (TurnO.of_below (BX.out _) : TurnO (· = g7) _ _) (fun b hb => .inl hb)).trans ht5 (fun b hb => .inl hb)⟩
          | false =>
            rw [hq, if_neg (by simp)] at HTS2
            rw [hq] at AD
            clear hq
            go_wp2_with (first
              | (go_at_call 38; refine AD.out.mono ?_; rintro e w5 ⟨rfl, hs5, ht5⟩; have T5 := Lib.hid ((TurnO.of_below (BX.out _) : TurnO (· = g7) wr _).trans ht5 (fun b hb => .inl hb)); have RW5 : Hid (SmAt w5 w.heap.size sm0) := Lib.hid ((T5.out.block w.heap.size RW.out.lt (by have := HG7.out; show ¬ w.heap.size = g7; omega)).trans RW.out); clear hs5 ht5)
              | (refine wpList_buildTo rfl 57 _ rfl _ rfl (smA sm0) hb0 ?_)
              | (refine wpList_store_sm rfl _ _ rfl rfl w.heap.size sm0 sm0 rfl rfl RW5.out ?_))
            rw [HTR.out, HTG.out, HTS2.out]
            exact bodyPost_ret (v := .tuple #[.agg (smA sm0), .int .i64 210]) (results_sm rfl _ _ w.heap.size 57 (smA sm0) (0, 0) _ rfl (SmAt.row RW5.out sm0) Try.uSum rfl (Try.smSzA sm0) _ rfl) rfl ⟨rfl, below_setRow (HBW.out.trans (T5.out.below HBW.out.size (fun k e => by rw [e]; have := HG7.out; omega))) (Nat.le_refl _) _⟩
        · obtain rfl : j = m := by omega
          have hjt2 : ¬ (j : Int) < (j : Int) := by omega
          have HF : Hid (tog sm0 N = some s) := Lib.hid (by rw [HTG.out, List.drop_of_length_le (by rw [HM.out]; exact Nat.le_refl _)]; rfl)
          go_wp2_with (first
            | (refine wpList_load_sm rfl _ rfl g7 rfl s HSM.out ?_)
            | (refine wpList_store_sm rfl _ _ rfl rfl w.heap.size s sm0 rfl rfl RW.out ?_))
          rw [HTR.out, HF.out]
          exact bodyPost_ret (v := .tuple #[.agg (smA s), .int .i64 0]) (results_sm rfl _ _ w.heap.size 57 (smA s) (0, 0) _ rfl (SmAt.row RW.out s) Try.uSum rfl (Try.smSzA s) _ rfl) rfl ⟨rfl, below_setRow HBW.out (Nat.le_refl _) _⟩
end Go.Proofs.Yteibholghonajaa
