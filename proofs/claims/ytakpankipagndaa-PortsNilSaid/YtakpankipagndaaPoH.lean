/- Claim. -/
import Derived.Test.YtakpankipagndaaPoG
import Derived.Deep.LoopGhost
namespace Go.Proofs.Ytakpankipagndaa
open Go.RowKit (wrap64)
open Go.RowKit
open Go.Maps (Keyed)
attribute [local go_sem] Oper.semAt_some

/-- A map's update, at a step of a region that draws its order. -/
theorem step_mapUpdate12 {P : Program} {ops : Array Oper} {o : Oper} {a : Act} {w : World} {K : Act → World → Prop} {Q : Exit → Act → World → Prop} {E : Prop}
    (hg : o.guard = none) (m x v : Operand) (t : TypeId) (hop : o.op = Op.mapUpdate t m x v)
    (k e : TypeId) (KK : Keyed P k) (ht : P.underlying t = some (.map k e)) (R : Value → Option (DataW Unit × List MemPlace)) (b n : Nat) (D : DataW Unit)
    (hm : a.eval m = .map (some b)) (hown : w.ownsMap P k R b n D) (hn : n < maxLen) (key val : Value) (kl : Lit) (hx : a.eval x = key) (hv : a.eval v = val) (hkey : keyOf P k key = some kl)
    (d : DataW Unit) (ps : List MemPlace) (hval : R val = some (d, ps))
    (hK : ∀ w', w'.ownsMap P k R b (n + 1) (D.put kl d) → w.grownBy w' (some b) → K (a.put o.dst undef) w') :
    if Region.wanted o (yielded ops a.tmps) = true then Oper.wp P o a w K Q else E := by
  have hw : Region.wanted o (yielded ops a.tmps) = true := by simp [Region.wanted, hg]
  rw [if_pos hw]
  obtain ⟨w', hrun, r1, r2⟩ := hown.update KK ht hn hkey hval
  unfold Oper.wp
  simp [execOp, hop, hm, hx, hv, hrun, Result.andThen]
  exact hK w' r1 r2
def newCl (F : List Ts) : Cl := ⟨F, [], 0, 0⟩
theorem newCl_ok {F : List Ts} (h : mayF F = true) : ClOk (newCl F) := ⟨h, Nat.zero_le _, fun P hP => (List.not_mem_nil hP).elim, by show 0 < 8; omega⟩
/-- The lowest free port. -/
def Ps.free (s : Ps) (a : Int) : Option Nat := (List.range (s.qt a)).find? fun n => (s.c a (n : Int)).isNone
def Ps.claimed (s : Ps) (a n : Int) (F : List Ts) : Ps := ⟨s.q, fun b m => if b = a ∧ m = n then some (newCl F) else s.c b m, s.m + 1⟩
theorem Ps.cl_same (s : Ps) (a n : Int) (F : List Ts) : (s.claimed a n F).c a n = some (newCl F) := by unfold Ps.claimed; simp
theorem Ps.cl_other (s : Ps) (a n : Int) (F : List Ts) {b m : Int} (h : ¬ (b = a ∧ m = n)) : (s.claimed a n F).c b m = s.c b m := by unfold Ps.claimed; simp only [if_neg h]
theorem free_at {s : Ps} {a : Int} {k : Nat} (hk : k < s.qt a) (h : ∀ j, j < k → (s.c a (j : Int)).isSome = true) (hn : s.c a (k : Int) = none) : s.free a = some k := by
  unfold Ps.free
  rw [List.find?_range_eq_some]
  exact ⟨by rw [hn]; rfl, by simpa using hk, fun j hj => by have := h j hj; cases hc : s.c a (j : Int) <;> simp_all⟩
theorem free_no {s : Ps} {a : Int} (h : ∀ j, j < s.qt a → (s.c a (j : Int)).isSome = true) : s.free a = none := by
  unfold Ps.free
  rw [List.find?_eq_none]
  intro j hj
  have := h j (by simpa using hj)
  cases hc : s.c a (j : Int) <;> simp_all
section
variable {w : World} {O R : Nat → Prop} {p : Nat} {L : Lay12} {s : Ps}
/-- Ports with one more. -/
theorem PoAt.more {w1 w' : World} (h : PoAt w1 O R p L s) {a : Int} {n : Nat} (hacc : s.acc a = true) (hnq : n < s.qt a) (hc : s.c a n = none) {F : List Ts} (hF : mayF F = true) {A : Option Addr} {c g : Nat}
    {B : Nat} (hB : ∀ k, O k ∨ R k → k < B) (hBs : B ≤ w1.heap.size)
    (hg : g = w1.heap.size) (hfl : FlIn w1 A F.length c F) (hd : Rd (fun k => B ≤ k ∧ k < w1.heap.size) A) {D : DataW Unit} (hD : MpIs D L.C s.c)
    (hm : w'.ownsMap Try.prog 95 ptE L.b (s.m + 1) (D.put (keyP a n) (ptD (some g)))) (hmap : w1.ownsMap Try.prog 95 ptE L.b s.m D)
    (hgr : (w1.alloc (.cells (clA (.slice A F.length c) (fun _ => .slice none 0 0) 0 0 0) 110)).grownBy w' (some L.b)) :
    PoAt w' (fun k => O k ∨ k = g) (fun k => R k ∨ (B ≤ k ∧ k < w1.heap.size)) p { L with C := fun b m => if b = a ∧ m = (n : Int) then g else L.C b m } (s.claimed a n F) ∧ TurnO (· = L.b) w1 w' := by
  have hT : TurnO (· = L.b) w1 w' := (TurnO.of_below ((Below.refl _ w1).alloc (Nat.le_refl _) _)).trans (TurnO.of_grown (O := (· = L.b)) hgr (fun k e => (Option.some.inj e).symm)) (fun b e => .inl e)
  have hs : w1.heap.size + 1 ≤ w'.heap.size := by have := hgr.size; rw [World.size_alloc] at this; exact this
  have hRb : ∀ k, R k → k ≠ L.b := fun k hk e => h.dis k hk (e ▸ h.ob)
  have blk : ∀ k, k < w1.heap.size → k ≠ L.b → w'.heap[k]? = w1.heap[k]? := fun k hk hn => hT.block k hk hn
  have hwa : wf12 a ∧ wf12 (n : Int) := by
    obtain ⟨h4, h5⟩ := Ps.acc_of hacc
    have := h.ok.q2
    have := h.ok.qt_le hacc
    exact ⟨wf12_of (by omega), wf12_of (by omega)⟩
  have hkey : ∀ b m, wf12 b → wf12 m → ¬ (b = a ∧ m = (n : Int)) → keyP b m ≠ keyP a n := fun b m hb hm' hne e => hne (key_inj12 hb hwa.1 hm' hwa.2 e)
  have hLb : L.b < w1.heap.size := h.lo _ h.ob
  have rg : w'.heap[g]? = some (.cells (clA (.slice A F.length c) (fun _ => .slice none 0 0) 0 0 0) 110 (0, 0)) := by
    rw [hg]
    exact (hgr.block _ (by rw [World.size_alloc]; omega) (fun e => by have := Option.some.inj e; omega)).trans (heap_alloc_new w1 _)
  have hsome : ∀ b m Y, (s.claimed a n F).c b m = some Y → (b = a ∧ m = (n : Int) ∧ Y = newCl F) ∨ (¬ (b = a ∧ m = (n : Int)) ∧ s.c b m = some Y) := fun b m Y hY => by
    by_cases e : b = a ∧ m = (n : Int)
    · rw [e.1, e.2, Ps.cl_same] at hY; exact .inl ⟨e.1, e.2, (Option.some.inj hY).symm⟩
    · rw [Ps.cl_other _ _ _ _ e] at hY; exact .inr ⟨e, hY⟩
  have isM := hmap.tidy Try.kSpot
  have klit := key_lit12 a n hwa.1 hwa.2
  refine ⟨⟨⟨h.ok.q1, h.ok.q2, h.ok.q3, fun b m Y hY => ?_, fun b m Y hY => ?_⟩, (blk p h.hp h.pne).trans h.pb, fun i x hi => (World.cell?_of_block (a := ⟨_, i, none⟩) (blk _ (h.lr _ h.rq) (hRb _ h.rq))).trans (h.qs i x hi),
    ⟨_, hm, ⟨fun b m hb hm => ?_, fun b m hb hm => ?_⟩⟩, fun b m Y hY => ?_, fun b m b' m' Y Y' hY hY' => ?_, .inl h.op, .inl h.ob, fun b m Y hY => ?_, .inl h.rq, fun k hk => ?_, fun k hk => ?_, fun k hk hk' => ?_⟩, hT⟩
  · rcases hsome b m Y hY with ⟨rfl, rfl, -⟩ | ⟨-, hY⟩
    · exact ⟨hacc, by omega, by show (n : Int) < (s.qt _ : Int); omega⟩
    · exact h.ok.dom b m Y hY
  · rcases hsome b m Y hY with ⟨-, -, rfl⟩ | ⟨-, hY⟩
    · exact newCl_ok hF
    · exact h.ok.cl b m Y hY
  · by_cases e : b = a ∧ m = (n : Int)
    · rw [e.1, e.2, Ps.cl_same, Maps.has_put_same isM.isMap klit]; rfl
    · rw [Ps.cl_other _ _ _ _ e, Maps.has_put_other (hkey b m hb hm e)]; exact hD.has b m hb hm
  · dsimp only
    by_cases e : b = a ∧ m = (n : Int)
    · rw [if_pos e, e.1, e.2, Ps.cl_same, Maps.atKey_put_same isM.isMap klit]; rfl
    · rw [if_neg e, Ps.cl_other _ _ _ _ e, Maps.atKey_put_other (hkey b m hb hm e)]; exact hD.at_ b m hb hm
  · dsimp only
    rcases hsome b m Y hY with ⟨rfl, rfl, rfl⟩ | ⟨hne, hY⟩
    · rw [if_pos ⟨rfl, rfl⟩]
      exact ⟨A, c, fun _ => .slice none 0 0, rg, hfl.keepR hd hT.size (fun k hk => blk k hk.2 (fun e => by have := hB _ (.inl h.ob); omega)), hd.mono (fun k hk => .inr hk), ⟨fun k P hk => by simp [newCl] at hk, fun k _ => ⟨_, _, _, rfl⟩⟩⟩
    · rw [if_neg hne]
      exact (h.cl b m Y hY).keep hT.size (fun k hk => blk k (h.lr k hk) (hRb k hk)) (blk _ (h.lo _ (h.oc b m Y hY)) (h.cne hY).2) (fun _ hk => .inl hk)
  · dsimp only
    rcases hsome b m Y hY with ⟨e1, e2, -⟩ | ⟨hne, hZ⟩ <;> rcases hsome b' m' Y' hY' with ⟨e1', e2', -⟩ | ⟨hne', hZ'⟩
    · intro _; exact ⟨e1.trans e1'.symm, e2.trans e2'.symm⟩
    · rw [if_pos ⟨e1, e2⟩, if_neg hne']
      intro e; have := h.lo _ (h.oc b' m' Y' hZ'); omega
    · rw [if_neg hne, if_pos ⟨e1', e2'⟩]
      intro e; have := h.lo _ (h.oc b m Y hZ); omega
    · rw [if_neg hne, if_neg hne']
      exact h.ne b m b' m' Y Y' hZ hZ'
  · dsimp only
    rcases hsome b m Y hY with ⟨rfl, rfl, -⟩ | ⟨hne, hY⟩
    · rw [if_pos ⟨rfl, rfl⟩]; exact .inr rfl
    · rw [if_neg hne]; exact .inl (h.oc b m Y hY)
  · rcases hk with hk | rfl
    · have := h.lo k hk; omega
    · omega
  · rcases hk with hk | hk
    · have := h.lr k hk; omega
    · omega
  · rcases hk with hk | hk <;> rcases hk' with hk' | rfl
    · exact h.dis k hk hk'
    · have := h.lr _ hk; omega
    · have := hB k (.inl hk'); omega
    · omega
theorem claim_none12 {w : World} {v : Value} (h : NoPo w v) (a : Int) (f : Value) : Calls Try.prog 17 #[v, .int .i64 a, f] w fun e w' => e = .returned (.tuple #[.int .i64 0, .int .i64 1]) ∧ w = w' := by
  go_enter Try.func17, Try.ntmps17
  go_wp2_with (go_at_call 50; refine (asks_no12 h a).mono ?_; rintro e w' ⟨rfl, rfl⟩)
  go_ret2
  exact ⟨rfl, rfl⟩
theorem claim_acc12 (h : PoAt w O R p L s) {a : Int} (ha : s.acc a = false) (f : Value) : Calls Try.prog 17 #[.pointer (some ⟨p, 0, none⟩), .int .i64 a, f] w fun e w' => e = .returned (.tuple #[.int .i64 0, .int .i64 2]) ∧ w = w' := by
  have HA := Lib.hid (asks_not12 h ha)
  clear h
  go_enter Try.func17, Try.ntmps17
  go_wp2_with (go_at_call 50; refine HA.out.mono ?_; rintro e w' ⟨rfl, rfl⟩)
  go_ret2
  exact ⟨rfl, rfl⟩
theorem claim_may12 (h : PoAt w O R p L s) {a : Int} (ha : s.acc a = true) {A : Option Addr} {F : List Ts} {n c : Nat} (hF : FlIn w A n c F) (hn2 : (n : Int) ≤ 9223372036854775807) (hm : mayF F = false) : Calls Try.prog 17 #[.pointer (some ⟨p, 0, none⟩), .int .i64 a, .slice A n c] w fun e w' => e = .returned (.tuple #[.int .i64 0, .int .i64 2]) ∧ Below w.heap.size w w' := by
  have HA := Lib.hid (asks_yes12 h ha)
  have HC := Lib.hid (check_any hF.ts n c hF.len hn2)
  rw [checkE_no hm] at HC
  clear h hF hm
  go_enter Try.func17, Try.ntmps17
  go_wp2_with (first
    | (go_at_call 50; refine HA.out.mono ?_; rintro e w' ⟨rfl, rfl⟩)
    | (go_at_call 51; refine HC.out.mono ?_; rintro e w' ⟨rfl, hb⟩))
  go_ret2
  exact ⟨rfl, hb⟩
/-- What Claim answers and leaves. -/
def ClaimOut (w : World) (O R : Nat → Prop) (p : Nat) (s : Ps) (a : Int) (F : List Ts) (e : Ending) (w' : World) : Prop := match s.free a with
  | some n => e = .returned (.tuple #[.int .i64 (n : Int), .int .i64 0]) ∧ PoTo w O R p (s.claimed a n F) w'
  | none => e = .returned (.tuple #[.int .i64 0, .int .i64 5]) ∧ Below w.heap.size w w'
set_option maxHeartbeats 4000000 in
set_option maxRecDepth 100000 in
theorem claim_yes12 (h : PoAt w O R p L s) {a : Int} (ha : s.acc a = true) {A : Option Addr} {F : List Ts} {n c : Nat} (hF : FlIn w A n c F) (hm : mayF F = true) (hms : s.m < 1000000) : Calls Try.prog 17 #[.pointer (some ⟨p, 0, none⟩), .int .i64 a, .slice A n c] w (ClaimOut w O R p s a F) := by
  have hn8 : n ≤ 8 := by
    have := hF.len
    unfold mayF at hm
    simp only [Bool.and_eq_true, decide_eq_true_eq] at hm
    omega
  obtain ⟨h1, h2⟩ := Ps.acc_of ha
  obtain ⟨i, rfl⟩ : ∃ i : Nat, a = i := ⟨a.toNat, by omega⟩
  have h3 : i < s.q.length := by omega
  have c0 := h.c0
  have cq := h.cq ha
  rw [Int.toNat_natCast] at cq
  have hq16 := h.ok.qt_le ha
  have H := Lib.hid h
  obtain ⟨D, hmp, hD⟩ := h.mp
  have HMP := Lib.hid hmp
  have HD := Lib.hid hD
  clear hmp hD
  have HA := Lib.hid (asks_yes12 h ha)
  have HC := Lib.hid (check_any hF.ts n c hF.len (by omega))
  rw [checkE_may hm] at HC
  have HF := Lib.hid hF
  have HM := Lib.hid hm
  have HACC := Lib.hid ha
  obtain ⟨q, hq⟩ : ∃ q, s.qt i = q := ⟨_, rfl⟩
  have HQ := Lib.hid hq
  rw [hq] at cq hq16
  clear h hF hm ha hq h1
  go_enter Try.func17, Try.ntmps17
  go_wp2_with (first
    | (go_at_call 50; refine HA.out.mono ?_; rintro e w' ⟨rfl, rfl⟩)
    | (go_at_call 51; refine HC.out.mono ?_; rintro e w1 ⟨rfl, hb⟩; have HB := Lib.hid hb; have c0' := (H.out.step hb).c0; have cq' := (hb.cell (p := ⟨L.qb, i, none⟩) (World.block_lt_of_cell? w _ cq)).trans cq; clear hb))
  go_loopw [30] (fun v W => ∃ k : Nat, v = .int .i64 (k : Int) ∧ k ≤ q ∧ (∀ j, j < k → (s.c i (j : Int)).isSome = true) ∧ Below w.heap.size w W) (fun v _ => q - (intOf v).toNat)
  case atStart => exact ⟨0, rfl, Nat.zero_le _, fun j hj => by omega, HB.out⟩
  case round =>
    obtain ⟨k, rfl, hk, hj, hw⟩ := hrel
    have HJ := Lib.hid hj
    have HW := Lib.hid hw
    clear hj hw
    by_cases hlt : k < q
    · have hlt' : (k : Int) < q := by omega
      cases hc : s.c i (k : Int) with
      | some X =>
        have HP := fun W' (hb : Below wr.heap.size wr W') => (H.out.step HW.out).step hb
        have HS := Lib.hid (show (s.c i (k : Int)).isSome = true by rw [hc]; rfl)
        have hlk := fun o => (HP (wr.alloc o).drew ((Below.refl _ wr).alloc (Nat.le_refl _) _).drew).look_yes (a := i) (n := k) (H.out.dom_wf hc).1 (H.out.dom_wf hc).2 hc
        have hc1 := fun o => (HP (wr.alloc o).drew ((Below.refl _ wr).alloc (Nat.le_refl _) _).drew).c1
        clear HP hc
        generalize L.C i k = cb at *
        go_wp2_with fail
        go_region
        all_goals
          go_wp2_with fail
          go_roundw
          case rel =>
            refine ⟨k + 1, by go_num, hlt, fun j hj => ?_, ((HW.out.alloc HW.out.size _).drew)⟩
            rcases Nat.lt_succ_iff_lt_or_eq.1 hj with hj | rfl
            · exact HJ.out j hj
            · exact HS.out
          case measure => simp [intOf]; omega
      | none =>
        have HP := fun W' (hb : Below wr.heap.size wr W') => (H.out.step HW.out).step hb
        have hwa : wf12 (i : Int) ∧ wf12 (k : Int) := ⟨wf12_of (by have := H.out.ok.q2; omega), wf12_of (by omega)⟩
        have hlk := fun o => (HP (wr.alloc o).drew ((Below.refl _ wr).alloc (Nat.le_refl _) _).drew).look_no (a := i) (n := k) hwa.1 hwa.2 hc
        have hc1 := fun o => (HP (wr.alloc o).drew ((Below.refl _ wr).alloc (Nat.le_refl _) _).drew).c1
        have HFREE := Lib.hid (free_at (s := s) (a := i) (by rw [HQ.out]; exact hlt) HJ.out hc)
        have HCN := Lib.hid hc
        have HWF := Lib.hid hwa
        clear HP hc hwa
        go_wp2_with fail
        go_region
        all_goals
          clear hlk hc1
          have HB2 := Lib.hid (show Below w.heap.size w (wr.alloc (Obj.cells #[Value.int IntKind.i64 ↑i, Value.int IntKind.i64 ↑k] 95)).drew from (HW.out.alloc HW.out.size _).drew)
          have hs0 : (wr.alloc (Obj.cells #[Value.int IntKind.i64 ↑i, Value.int IntKind.i64 ↑k] 95)).drew.cell? ⟨wr.heap.size, 0, none⟩ = some (.int .i64 (i : Int)) := cell_of_row _ _ 0 _ _ _ (heap_alloc_new wr (Obj.cells #[Value.int IntKind.i64 ↑i, Value.int IntKind.i64 ↑k] 95))
          have hs1 : (wr.alloc (Obj.cells #[Value.int IntKind.i64 ↑i, Value.int IntKind.i64 ↑k] 95)).drew.cell? ⟨wr.heap.size, 1, none⟩ = some (.int .i64 (k : Int)) := cell_of_row _ _ 1 _ _ _ (heap_alloc_new wr (Obj.cells #[Value.int IntKind.i64 ↑i, Value.int IntKind.i64 ↑k] 95))
          have HG0 := Lib.hid HW.out.size
          have HSP := Lib.hid (And.intro hs0 hs1)
          clear hs0 hs1 HW
          generalize (wr.alloc (Obj.cells #[Value.int IntKind.i64 ↑i, Value.int IntKind.i64 ↑k] 95)).drew = W2 at *
          generalize wr.heap.size = g0 at *
          have hgl := World.block_lt_of_cell? W2 _ HSP.out.1
          have hpl := H.out.hp
          have HST := Lib.hid (fun W (hb : Below W2.heap.size W2 W) => show W.cell? ⟨p, 1, none⟩ = some (.map (some L.b)) ∧ W.cell? ⟨g0, 0, none⟩ = some (.int .i64 (i : Int)) ∧ W.cell? ⟨g0, 1, none⟩ = some (.int .i64 (k : Int)) from
            ⟨((H.out.step HB2.out).step hb).c1, (hb.cell (p := ⟨g0, 0, none⟩) hgl).trans HSP.out.1, (hb.cell (p := ⟨g0, 1, none⟩) hgl).trans HSP.out.2⟩)
          have HS0 := Lib.hid (HST.out W2.drew (Below.refl _ W2).drew)
          go_wp2_with fail
          go_region_held3 (fun W => W.cell? ⟨p, 1, none⟩ = some (.map (some L.b)) ∧ W.cell? ⟨g0, 0, none⟩ = some (.int .i64 (i : Int)) ∧ W.cell? ⟨g0, 1, none⟩ = some (.int .i64 (k : Int)))
            (first | exact HS0.out | exact HST.out _ HB3.out | exact HST.out _ (HB3.out.alloc HB3.out.size _) | exact HS5.out | go_keep)
            (first
              | (go_at_call 52; refine (tclone_any (HF.out.below ((HB2.out).drew)) (by omega)).mono ?_; rintro e w3 ⟨v, rfl, ho, hb⟩; obtain ⟨A3, c3, rfl, hf3, hd3⟩ := FlIn.of_own ho; have HF3 := Lib.hid hf3; have HD3 := Lib.hid hd3; have HB3 := Lib.hid (show Below W2.heap.size W2 w3 from (Below.refl _ W2).drew.trans hb); clear ho hb hf3 hd3
                 obtain ⟨w5, hrun5, hm5, hg5⟩ := (ownsMap_eq12 (w' := w3.alloc (.cells #[.slice A3 F.length c3, .slice none 0 0, .slice none 0 0, .slice none 0 0, .slice none 0 0, .slice none 0 0, .slice none 0 0, .slice none 0 0, .slice none 0 0, .int .i64 0, .int .i64 0, .int .i64 0] 110)) HMP.out ((HB2.out.trans ((HB3.out.alloc HB3.out.size _).mono HB2.out.size)).block _ (H.out.lo _ H.out.ob))).update Try.kSpot Try.underlying66 (by unfold maxLen; omega) (key_of12 i k HWF.out.1 HWF.out.2) (val := .pointer (some ⟨w3.heap.size, 0, none⟩)) (d := ptD (some w3.heap.size)) (ps := []) rfl
                 have hrun5 : (Instr.mapUpdate 66 (.map (some L.b)) (.agg #[.int .i64 i, .int .i64 k]) (.pointer (some ⟨w3.heap.size, 0, none⟩))).run Try.prog (w3.alloc (.cells #[.slice A3 F.length c3, .slice none 0 0, .slice none 0 0, .slice none 0 0, .slice none 0 0, .slice none 0 0, .slice none 0 0, .slice none 0 0, .slice none 0 0, .int .i64 0, .int .i64 0, .int .i64 0] 110)) = .ok () w5 := hrun5
                 have HMO := Lib.hid (((H.out.step HB2.out).step HB3.out).more HACC.out (by rw [HQ.out]; exact hlt) HCN.out HM.out (fun k hk => H.out.lt hk) (Nat.le_trans HB2.out.size HB3.out.size) rfl HF3.out (HD3.out.mono fun k hk => ⟨Nat.le_trans HB2.out.size hk.1, hk.2⟩) HD.out hm5 (ownsMap_eq12 HMP.out ((HB2.out.trans (HB3.out.mono HB2.out.size)).block _ (H.out.lo _ H.out.ob))) hg5)
                 have HS5 := Lib.hid (show w5.cell? ⟨p, 1, none⟩ = some (.map (some L.b)) ∧ w5.cell? ⟨g0, 0, none⟩ = some (.int .i64 (i : Int)) ∧ w5.cell? ⟨g0, 1, none⟩ = some (.int .i64 (k : Int)) from
                   ⟨HMO.out.1.c1, (World.cell?_of_block (a := ⟨g0, 0, none⟩) (HMO.out.2.block g0 (Nat.lt_of_lt_of_le hgl HB3.out.size) (fun e => by have := H.out.lo _ H.out.ob; have := HG0.out; omega))).trans (HST.out w3 HB3.out).2.1,
                    (World.cell?_of_block (a := ⟨g0, 1, none⟩) (HMO.out.2.block g0 (Nat.lt_of_lt_of_le hgl HB3.out.size) (fun e => by have := H.out.lo _ H.out.ob; have := HG0.out; omega))).trans (HST.out w3 HB3.out).2.2⟩)
                 clear hm5 hg5))
          all_goals
            go_wp2_with fail
            go_ret2
            unfold ClaimOut
            rw [HFREE.out]
            refine ⟨rfl, _, _, _, HMO.out.1, fun b hb => ?_, fun b hb => ?_, (TurnO.of_below (HB2.out.trans (HB3.out.mono HB2.out.size))).trans (HMO.out.2.wide12 (fun b e => e ▸ H.out.ob)) (fun b hb => .inl hb)⟩
            · rcases hb with hb | rfl
              · exact .inl hb
              · exact .inr (Nat.le_trans HB2.out.size HB3.out.size)
            · rcases hb with hb | hb
              · exact .inl hb
              · exact .inr hb.1
    · have hlt' : ¬ (k : Int) < q := by omega
      have hkq : k = q := by omega
      subst hkq
      have hfree : s.free i = none := free_no fun j hj => HJ.out j (by rw [← HQ.out]; exact hj)
      have HFR := Lib.hid hfree
      clear hfree
      go_wp2_with fail
      go_ret2
      unfold ClaimOut
      rw [HFR.out]
      exact ⟨rfl, HW.out⟩
end
end Go.Proofs.Ytakpankipagndaa
