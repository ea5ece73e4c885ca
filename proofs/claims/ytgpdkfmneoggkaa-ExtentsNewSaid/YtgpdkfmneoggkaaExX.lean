/- The document's New. -/
import Derived.Test.YtgpdkfmneoggkaaExW
import Derived.Deep.RegionLaw
namespace Go.Proofs.Ytgpdkfmneoggkaa
open Go.RowKit
attribute [local go_sem] Oper.semAt_some

/-- An append of a slice that the call itself has made, at the step of a region that draws its order. -/
theorem step_append_own {P : Program} {ops : Array Oper} {o : Oper} {a : Act} {w : World} {K : Act → World → Prop} {Q : Exit → Act → World → Prop} {E : Prop}
    (hg : o.guard = none) (s x : Operand) (t : TypeId) (hop : o.op = Op.call { callee := Callee.builtin Builtin.append, args := #[s, x], argTypes := #[t, t] })
    (base : Nat) (e : TypeId) (i : TypeInfo) (z : Value) (size bytes : Nat) (h1 : P.underlying t = some (.slice e)) (h2 : P.info? e = some i) (h3 : i.zero = some z) (h4 : i.size = size) (h5 : i.bytes = bytes) (h6 : z.cells.size = size) (h7 : 0 < size)
    (v : Value) (n : Nat) (xs : List Value) (hs : a.eval s = v) (hown : w.ownsRow base e size v n xs)
    (ad : Addr) (m c : Nat) (news : List Value) (hx : a.eval x = .slice (some ad) m c) (hn : news.length = m * size) (hc : ∀ j u, news[j]? = some u → w.cell? (ad.add j) = some u) (h1c : ∀ u ∈ news, u.oneCell' = true)
    (b1 : n + m ≤ maxLen) (b2 : (n + m) * bytes ≤ 140737488355328) (hbase : base ≤ w.heap.size)
    (hK : ∀ v' w', w'.ownsRow base e size v' (n + m) (xs ++ news) → w.grownBy w' v.ownBlock → K (a.put o.dst v') w') :
    if Region.wanted o (yielded ops a.tmps) = true then Oper.wp P o a w K Q else E := by
  have hw : Region.wanted o (yielded ops a.tmps) = true := by simp [Region.wanted, hg]
  rw [if_pos hw]
  obtain ⟨v', w', hrun, r1, r2, _⟩ := run_append_own (P := P) w base t o.type e i z size bytes h1 h2 h3 h4 h5 h6 h7 v n xs hown ad m c news hn hc h1c b1 b2 hbase
  unfold Oper.wp
  simp [execOp, hop, resolve, invoke, builtin, hs, hx, hrun, Result.andThen]
  exact hK v' w' r1 r2
theorem sl_of {w : World} {B : Nat} {e : TypeId} {m : Nat} {v : Value} {n : Nat} {xs : List Value} (h : w.ownsRow B e m v n xs) : ∃ a n c, v = .slice a n c := by
  rcases owns_sl h with e | ⟨g, n, c, e⟩
  · exact ⟨none, 0, 0, e⟩
  · exact ⟨_, n, c, e⟩
theorem own_ty {w : World} {B : Nat} {e : TypeId} {m : Nat} {v : Value} {n : Nat} {xs : List Value} (h : w.ownsRow B e m v n xs) {g : Nat} (hg : v.ownBlock = some g) : ∃ cur, w.heap[g]? = some (.cells cur e (0, 0)) := by
  obtain ⟨-, h2 | ⟨g', cap, cur, rfl, -, h4, -⟩⟩ := h
  · rw [h2.1] at hg; cases hg
  · cases hg; exact ⟨cur, h4⟩

theorem Try.infoI10 : (Try.prog.info? 3).map (fun i => (i.zero, i.size, i.bytes)) = some (some (.int .i64 0), 1, 8) := by kernel_rfl
theorem Try.infoBs10 : (Try.prog.info? 50).map (fun i => (i.zero, i.size, i.bytes)) = some (some (.slice none 0 0), 1, 24) := by kernel_rfl
theorem Try.infoB10 : (Try.prog.info? 4).map (fun i => (i.zero, i.size, i.bytes)) = some (some (.bool false), 1, 1) := by kernel_rfl
theorem run_bools (n : Nat) (hn : n ≤ 4096) (w : World) : (Instr.makeSlice 50 (.int .i64 (n : Int)) (.int .i64 (n : Int))).run Try.prog w = .ok (.slice (some ⟨w.heap.size, 0, none⟩) n n) (w.alloc (.cells (madeCells #[.bool false] n) 4)) := by
  obtain ⟨i, hi, hz, hs, hb⟩ := info_parts Try.infoB10
  have := run_make (P := Try.prog) w 50 4 i (.bool false) Try.underlying50 hi hz .i64 .i64 n n (by omega) (Int.le_refl _) (by rw [hb]; omega) (by omega)
  rw [hs] at this
  simpa [Value.cells] using this
/-- The extents as they are being made. -/
structure QxMid (W : World) (B dq : Nat) (vQ vH : Value) (mQ mH : Nat) (xQ xH : List Value) : Prop where
  row : W.heap[B]? = some (.cells #[.pointer (some ⟨dq, 0, none⟩), vQ, vH] 54 (0, 0))
  oQ : W.ownsRow (B + 1) 3 1 vQ mQ xQ
  oH : W.ownsRow (B + 1) 50 1 vH mH xH
section
variable {W W' W2 : World} {B dq mQ mH m' : Nat} {vQ vH v' : Value} {xQ xH ys : List Value}
theorem QxMid.apart (h : QxMid W B dq vQ vH mQ mH xQ xH) : ∀ g, vH.ownBlock = some g → some g ≠ vQ.ownBlock := fun g hg e => by
  obtain ⟨c1, h1⟩ := own_ty h.oH hg
  obtain ⟨c2, h2⟩ := own_ty h.oQ e.symm
  rw [h1] at h2
  cases h2
theorem QxMid.quota (h : QxMid W B dq vQ vH mQ mH xQ xH) (hb : Below W.heap.size W W') (hg : W'.grownBy W2 vQ.ownBlock) (ho : W2.ownsRow (B + 1) 3 1 v' m' ys) :
    QxMid (W2.setCell ⟨B, 1, none⟩ v') B dq v' vH m' mH ys xH ∧ (∀ j, j < W.heap.size → j ≠ B → some j ≠ vQ.ownBlock → (W2.setCell ⟨B, 1, none⟩ v').heap[j]? = W.heap[j]?) ∧ (∀ B0, B0 ≤ B → B0 ≤ W.heap.size → Below B0 W (W2.setCell ⟨B, 1, none⟩ v')) := by
  have hlt := (Array.getElem?_eq_some_iff.1 h.row).1
  have hsz := hb.size
  have key : ∀ j, j < W.heap.size → some j ≠ vQ.ownBlock → W2.heap[j]? = W.heap[j]? := fun j hj hne => (hg.block j (by omega) hne).trans (hb.block j hj)
  have hB : some B ≠ vQ.ownBlock := fun e => by have := (h.oQ.lt B e.symm).1; omega
  have hrow := (key B hlt hB).trans h.row
  refine ⟨⟨?_, ?_, ?_⟩, fun j hj hne hn2 => (heap_setCell_other _ _ _ _ hne).trans (key j hj hn2), fun B0 h0 h1 => ?_⟩
  · have := heap_setCell_same W2 B 1 _ _ v' hrow
    simpa using this
  · exact owns_eq ho (fun g e => heap_setCell_other _ _ _ _ (by show g ≠ B; have := (ho.lt g e).1; omega))
  · exact owns_eq h.oH (fun g e => (heap_setCell_other _ _ _ _ (by show g ≠ B; have := (h.oH.lt g e).1; omega)).trans (key g (h.oH.lt g e).2 (h.apart g e)))
  · exact ((hb.mono h1).grown hg (by omega) (fun j e => by have := (h.oQ.lt j e).1; omega)).setCell h0 v'
theorem QxMid.has (h : QxMid W B dq vQ vH mQ mH xQ xH) (hb : Below W.heap.size W W') (hg : W'.grownBy W2 vH.ownBlock) (ho : W2.ownsRow (B + 1) 50 1 v' m' ys) :
    QxMid (W2.setCell ⟨B, 2, none⟩ v') B dq vQ v' mQ m' xQ ys ∧ (∀ j, j < W'.heap.size → W'.heap[j]? = W'.heap[j]? → j ≠ B → some j ≠ vH.ownBlock → (W2.setCell ⟨B, 2, none⟩ v').heap[j]? = W'.heap[j]?) ∧ (∀ B0, B0 ≤ B → B0 ≤ W.heap.size → Below B0 W (W2.setCell ⟨B, 2, none⟩ v')) := by
  have hlt := (Array.getElem?_eq_some_iff.1 h.row).1
  have hsz := hb.size
  have key : ∀ j, j < W.heap.size → some j ≠ vH.ownBlock → W2.heap[j]? = W.heap[j]? := fun j hj hne => (hg.block j (by omega) hne).trans (hb.block j hj)
  have hB : some B ≠ vH.ownBlock := fun e => by have := (h.oH.lt B e.symm).1; omega
  have hrow := (key B hlt hB).trans h.row
  refine ⟨⟨?_, ?_, ?_⟩, fun j hj _ hne hn2 => (heap_setCell_other _ _ _ _ hne).trans (hg.block j hj hn2), fun B0 h0 h1 => ?_⟩
  · have := heap_setCell_same W2 B 2 _ _ v' hrow
    simpa using this
  · exact owns_eq h.oQ (fun g e => (heap_setCell_other _ _ _ _ (by show g ≠ B; have := (h.oQ.lt g e).1; omega)).trans (key g (h.oQ.lt g e).2 (fun e2 => h.apart g e2.symm e.symm)))
  · exact owns_eq ho (fun g e => heap_setCell_other _ _ _ _ (by show g ≠ B; have := (ho.lt g e).1; omega))
  · exact ((hb.mono h1).grown hg (by omega) (fun j e => by have := (h.oH.lt j e).1; omega)).setCell h0 v'
end
theorem QxMid.rowQ {W W' W2 : World} {B dq mQ mH : Nat} {vQ vH : Value} {xQ xH : List Value} (h : QxMid W B dq vQ vH mQ mH xQ xH) (hb : Below W.heap.size W W') (hg : W'.grownBy W2 vQ.ownBlock) : W2.heap[B]? = some (.cells #[.pointer (some ⟨dq, 0, none⟩), vQ, vH] 54 (0, 0)) := by
  have hlt := (Array.getElem?_eq_some_iff.1 h.row).1
  exact ((hg.block B (Nat.lt_of_lt_of_le hlt hb.size) (fun e => by have := (h.oQ.lt B e.symm).1; omega)).trans (hb.block B hlt)).trans h.row
theorem QxMid.rowH {W W' W2 : World} {B dq mQ mH : Nat} {vQ vH : Value} {xQ xH : List Value} (h : QxMid W B dq vQ vH mQ mH xQ xH) (hb : Below W.heap.size W W') (hg : W'.grownBy W2 vH.ownBlock) : W2.heap[B]? = some (.cells #[.pointer (some ⟨dq, 0, none⟩), vQ, vH] 54 (0, 0)) := by
  have hlt := (Array.getElem?_eq_some_iff.1 h.row).1
  exact ((hg.block B (Nat.lt_of_lt_of_le hlt hb.size) (fun e => by have := (h.oH.lt B e.symm).1; omega)).trans (hb.block B hlt)).trans h.row
/-- What stands in the rows. -/
def ctQ (qs : List Int) (a : Nat) : Nat := (qs.getD a 0).toNat
def quL (qs : List Int) (k : Nat) : List Value := (List.range k).map fun a => .int .i64 (ctQ qs a : Int)
def haL (qs : List Int) (bk : Nat → Nat) (k : Nat) : List Value := (List.range k).map fun a => .slice (some ⟨bk a, 0, none⟩) (ctQ qs a) (ctQ qs a)
theorem quL_succ (qs : List Int) (k : Nat) : quL qs (k + 1) = quL qs k ++ [.int .i64 (ctQ qs k : Int)] := by
  unfold quL; rw [List.range_succ, List.map_append]; rfl
theorem haL_succ (qs : List Int) (bk : Nat → Nat) (k g : Nat) : haL qs (fun a => if a = k then g else bk a) (k + 1) = haL qs bk k ++ [.slice (some ⟨g, 0, none⟩) (ctQ qs k) (ctQ qs k)] := by
  unfold haL
  rw [List.range_succ, List.map_append]
  congr 1
  · refine List.map_congr_left (fun i hi => ?_)
    have := List.mem_range.1 hi
    simp only []
    rw [if_neg (by omega)]
  · simp
/-- The rows of bools. -/
def RowsB (B : Nat) (W : World) (qs : List Int) (bk : Nat → Nat) (k : Nat) : Prop := ∀ a, a < k → B ≤ bk a ∧ W.heap[bk a]? = some (.cells (madeCells #[.bool false] (ctQ qs a)) 4 (0, 0))
/-- All of it lies from there on. -/
structure QxLo (B q : Nat) (Y : Lq) (n : Nat) : Prop where
  q : B ≤ q
  bQ : B ≤ Y.bQ
  bH : B ≤ Y.bH
  bk : ∀ a, a < n → B ≤ Y.bk a
theorem QxAt.keepOn {w w' : World} {B q dq : Nat} {Y : Lq} {s : Xt} (h : QxAt w q dq Y s) (l : QxLo B q Y s.n) (he : ∀ b, B ≤ b → b < w.heap.size → w'.heap[b]? = w.heap[b]?) : QxAt w' q dq Y s :=
  have cc : ∀ (p : Addr) v, B ≤ p.block → w.cell? p = some v → w'.cell? p = some v := fun p v hp hc => (World.cell?_of_block (he p.block hp (World.block_lt_of_cell? w _ hc))).trans hc
  ⟨h.n1, h.n8, h.fi, h.tot, cc _ _ l.q h.c0, cc _ _ l.q h.c1, cc _ _ l.q h.c2, fun a ha => cc _ _ l.bQ (h.qu a ha), fun a ha => cc _ _ l.bH (h.ha a ha), fun a ha i hi => cc _ _ (l.bk a ha) (h.ro a ha i hi)⟩
/-- Once more round. -/
structure QxRel (w : World) (B dq z : Nat) (qs : List Int) (k : Nat) (lf : Int) (fb : Bool) (W : World) : Prop where
  bl : Below w.heap.size w W
  pos : ∀ j q, j < k → qs[j]? = some q → 0 ≤ q
  l0 : 0 ≤ lf
  l1 : lf ≤ z
  mid : ∃ m vQ vH xQ xH, m ≤ k ∧ QxMid W B dq vQ vH m m xQ xH ∧ (fb = false → m = k ∧ xQ = quL qs k ∧ ∃ bk, xH = haL qs bk k ∧ RowsB B W qs bk k)
  no : fb = false → lf = (z : Int) - sumQ qs k
  yes : fb = true → z < sumQ qs k
theorem sumC_new (qs : List Int) (n : Nat) (hn : qs.length = n) : ∀ a, a ≤ n → sumC (newXt qs n) a = sumQ qs a
  | 0, _ => rfl
  | a + 1, h => by
    obtain ⟨q, hq⟩ : ∃ q, qs[a]? = some q := ⟨_, List.getElem?_eq_getElem (by omega)⟩
    rw [sumQ_succ hq, sumC, sumC_new qs n hn a (by omega)]
    congr 1
    unfold newXt
    dsimp only
    rw [if_pos (by omega), List.getD_eq_getElem?_getD, hq]
    rfl
theorem qx_made {W : World} {B dq : Nat} {qs : List Int} {n gQ kQ gH kH : Nat} {bk : Nat → Nat} (h : QxMid W B dq (.slice (some ⟨gQ, 0, none⟩) n kQ) (.slice (some ⟨gH, 0, none⟩) n kH) n n (quL qs n) (haL qs bk n)) (hr : RowsB B W qs bk n) (hn : qs.length = n) (h1 : 1 ≤ n) (h8 : n ≤ 8) (hs : sumQ qs n ≤ 4096) :
    QxAt W B dq ⟨gQ, kQ, gH, kH, bk⟩ (newXt qs qs.length) ∧ QxLo B B ⟨gQ, kQ, gH, kH, bk⟩ (newXt qs qs.length).n := by
  rw [hn]
  have hct : ∀ a, a < n → ((newXt qs n).pt a).ct = ctQ qs a := fun a ha => by unfold newXt; dsimp only; rw [if_pos ha]; rfl
  have hN : (newXt qs n).n = n := hn
  refine ⟨?_, ⟨Nat.le_refl _, by have := (h.oQ.lt gQ rfl).1; show B ≤ gQ; omega, by have := (h.oH.lt gH rfl).1; show B ≤ gH; omega, fun a ha => (hr a (by rw [hN] at ha; exact ha)).1⟩⟩
  refine ⟨by rw [hN]; exact h1, by rw [hN]; exact h8, fun a ha => ?_, fun a ha => ?_, cell_of_row _ _ 0 _ _ _ h.row, ?_, ?_, fun a ha => ?_, fun a ha => ?_, fun a ha i hi => ?_⟩
  · rw [hN] at ha
    rw [sumC_new qs n hn a (by omega)]
    unfold newXt; dsimp only; rw [if_pos ha]; rfl
  · rw [hN] at ha
    rw [sumC_new qs n hn a ha]
    exact Nat.le_trans (sumQ_mono ha) hs
  · rw [hN]; exact cell_of_row _ _ 1 _ _ _ h.row
  · rw [hN]; exact cell_of_row _ _ 2 _ _ _ h.row
  · rw [hN] at ha
    rw [hct a ha, h.oQ.cellAt a (by omega)]
    unfold quL
    rw [List.getElem?_map, List.getElem?_range ha]
    rfl
  · rw [hN] at ha
    rw [hct a ha, h.oH.cellAt a (by omega)]
    unfold haL
    rw [List.getElem?_map, List.getElem?_range ha]
    rfl
  · rw [hN] at ha
    rw [hct a ha] at hi
    rw [cell_of_row _ _ i _ _ _ (hr a ha).2, ← Array.getElem?_toList, toList_madeCells_one, List.getElem?_replicate, if_pos hi]
    have : ((newXt qs n).pt a).bit i = false := by unfold newXt; dsimp only; rw [if_pos ha]; exact newP_bit _ _ _
    rw [this]
theorem ty_ne {a b : Array Value} {t u : TypeId} {f g : Nat × Nat} (ht : t ≠ u) (h : some (Obj.cells a t f) = some (Obj.cells b u g)) : False := ht (by injection h with h; injection h)
theorem one_add (w : World) (g : Nat) (a : Value) (t : TypeId) (h : w.heap[g]? = some (.cells #[a] t (0, 0))) : ∀ j u, [a][j]? = some u → w.cell? ((⟨g, 0, none⟩ : Addr).add j) = some u := fun j u hj => by
  rw [Addr.add_mid, Nat.zero_add, cell_of_row _ _ _ _ _ _ h]
  simpa using hj
def NewQOut (w : World) (dq z : Nat) (qs : List Int) (e : Ending) (w' : World) : Prop :=
  ((qs.length < 1 ∨ 8 < qs.length ∨ ∃ q ∈ qs, q < 0) ∧ e = .returned (.tuple #[.pointer none, .int .i64 2]) ∧ Below w.heap.size w w') ∨
  ((1 ≤ qs.length ∧ qs.length ≤ 8 ∧ (∀ q ∈ qs, 0 ≤ q) ∧ z < sumQ qs qs.length) ∧ e = .returned (.tuple #[.pointer none, .int .i64 5]) ∧ Below w.heap.size w w') ∨
  ((1 ≤ qs.length ∧ qs.length ≤ 8 ∧ (∀ q ∈ qs, 0 ≤ q) ∧ sumQ qs qs.length ≤ z) ∧ ∃ q Y, e = .returned (.tuple #[.pointer (some ⟨q, 0, none⟩), .int .i64 0]) ∧ QxAt w' q dq Y (newXt qs qs.length) ∧ QxLo w.heap.size q Y (newXt qs qs.length).n ∧ Below w.heap.size w w')
theorem qxnew_nil (A : Option Addr) (n c : Nat) (w : World) : Calls Try.prog 31 #[.pointer none, .slice A n c] w fun e w' => e = .returned (.tuple #[.pointer none, .int .i64 1]) ∧ w = w' := by
  go_enter Try.func31, Try.ntmps31
  go_wp2
  go_ret2
  exact ⟨rfl, rfl⟩
set_option maxHeartbeats 2000000 in
set_option maxRecDepth 100000 in
theorem qxnew_any {w : World} {dq z g0 cz : Nat} (hd : w.cell? ⟨dq, 0, none⟩ = some (.slice (some ⟨g0, 0, none⟩) z cz)) (hz1 : 1 ≤ z) (hz2 : z ≤ 4096) (A : Option Addr) (qs : List Int) (n c : Nat) (hn : qs.length = n) (hn2 : n ≤ 9223372036854775807) (hq : IntsIn w A qs) :
    Calls Try.prog 31 #[.pointer (some ⟨dq, 0, none⟩), .slice A n c] w (NewQOut w dq z qs) := by
  have HQ := Lib.hid hq
  have HN := Lib.hid hn
  clear hq hn
  by_cases h1 : n < 1
  · obtain rfl : n = 0 := by omega
    go_enter Try.func31, Try.ntmps31
    go_wp2
    go_ret2
    exact .inl ⟨.inl (by rw [HN.out]; omega), rfl, Below.refl _ _⟩
  have h1' : ¬ ((n : Int) = 0) := by omega
  by_cases h2 : 8 < n
  · have h2' : (8 : Int) < n := by omega
    go_enter Try.func31, Try.ntmps31
    go_wp2
    go_ret2
    exact .inl ⟨.inr (.inl (by rw [HN.out]; exact h2)), rfl, Below.refl _ _⟩
  have h2' : ¬ (8 : Int) < n := by omega
  obtain ⟨iI, hiI, hzI, hsI, hbI⟩ := info_parts Try.infoI10
  have hbI : iI.bytes = 8 := hbI
  obtain ⟨iB, hiB, hzB, hsB, hbB⟩ := info_parts Try.infoBs10
  have hbB : iB.bytes = 24 := hbB
  go_enter Try.func31, Try.ntmps31
  go_wp2_with fail
  have H0 : QxRel w w.heap.size dq z qs 0 (z : Int) false (w.alloc (.cells #[.pointer (some ⟨dq, 0, none⟩), .slice none 0 0, .slice none 0 0] 54)) :=
    ⟨(Below.refl _ w).alloc (Nat.le_refl _) _, fun j q h => by omega, by omega, Int.le_refl _, ⟨0, .slice none 0 0, .slice none 0 0, [], [], Nat.le_refl _, ⟨heap_alloc_new w _, World.ownsRow_nil _ _ _ _, World.ownsRow_nil _ _ _ _⟩, fun _ => ⟨rfl, rfl, fun a => a, rfl, fun a ha => by omega⟩⟩, fun _ => by rw [show sumQ qs 0 = 0 from rfl]; simp, fun h => by cases h⟩
  have HH0 := Lib.hid H0
  clear H0 hd
  go_loopg [6, 7, 9] n (fun g l f i W => ∃ (k : Nat) (lf : Int) (fb : Bool), k + g = n ∧ l = .int .i64 lf ∧ f = .bool fb ∧ i = .int .i64 (k : Int) ∧ QxRel w w.heap.size dq z qs k lf fb W)
  case atStart => exact ⟨0, z, false, by omega, rfl, rfl, rfl, HH0.out⟩
  case round =>
    obtain ⟨k, lf, fb, hk, rfl, rfl, rfl, hR⟩ := hrel
    have HR := Lib.hid hR
    clear hR
    by_cases hlt : k < n
    · have hlt' : (k : Int) < (n : Int) := by omega
      obtain ⟨q, hkq⟩ : ∃ q, qs[k]? = some q := ⟨_, List.getElem?_eq_getElem (by rw [HN.out]; exact hlt)⟩
      obtain ⟨ga, oa, rfl, hc, hq1, hq2⟩ := (HQ.out.step HR.out.bl) k q hkq
      have HJ := Lib.hid hkq
      clear hkq
      by_cases hq0 : q < 0
      · have HB := Lib.hid HR.out.bl
        clear HR
        go_wp2
        go_ret2
        exact .inl ⟨.inr (.inr ⟨q, List.mem_of_getElem? HJ.out, hq0⟩), rfl, HB.out⟩
      obtain ⟨qn, rfl⟩ : ∃ qn : Nat, q = qn := ⟨q.toNat, by omega⟩
      have HSS := Lib.hid (show sumQ qs (k + 1) = sumQ qs k + qn by rw [sumQ_succ HJ.out]; rfl)
      have HCT := Lib.hid (show ctQ qs k = qn by unfold ctQ; rw [List.getD_eq_getElem?_getD, HJ.out]; rfl)
      have HPOS := Lib.hid (show ∀ j q, j < k + 1 → qs[j]? = some q → 0 ≤ q from fun j q hj hq => by
        by_cases e : j = k
        · subst e; rw [HJ.out] at hq; cases hq; omega
        · exact HR.out.pos j q (by omega) hq)
      by_cases hbig : lf < (qn : Int)
      · have hR1 : QxRel w w.heap.size dq z qs (k + 1) lf true wr := ⟨HR.out.bl, HPOS.out, HR.out.l0, HR.out.l1, by
          obtain ⟨m, vQ, vH, xQ, xH, hm, hM, -⟩ := HR.out.mid
          exact ⟨m, vQ, vH, xQ, xH, by omega, hM, (fun e => by cases e)⟩, (fun e => by cases e), (fun _ => by
          rw [HSS.out]
          cases fb with
          | true => have := HR.out.yes rfl; omega
          | false => have := HR.out.no rfl; omega)⟩
        have HR1 := Lib.hid hR1
        clear hR1 HR
        go_wp2
        go_roundg (n - (k + 1))
        case measure => omega
        case rel => exact ⟨k + 1, lf, true, by omega, rfl, rfl, by go_num, HR1.out⟩
      · have hl0 := HR.out.l0
        have hl1 := HR.out.l1
        have hw1 : IntKind.i64.wrap (lf - (qn : Int)) = lf - qn := IntWalk.i64_in _ (by omega)
        obtain ⟨m, vQ, vH, xQ, xH, hm, hM, hF⟩ := HR.out.mid
        have hm8 : m ≤ 8 := by omega
        have HMK := Lib.hid hm
        have HM := Lib.hid hM
        have HF := Lib.hid hF
        obtain ⟨aQ, nQ, cQ, rfl⟩ := sl_of hM.oQ
        obtain ⟨aH, nH, cH, rfl⟩ := sl_of hM.oH
        have hBl := (Array.getElem?_eq_some_iff.1 hM.row).1
        have r1 : wr.cell? ⟨w.heap.size, 1, none⟩ = some (.slice aQ nQ cQ) := cell_of_row _ _ 1 _ _ _ hM.row
        have r1' : (wr.alloc (.cells #[.int .i64 (qn : Int)] 3)).cell? ⟨w.heap.size, 1, none⟩ = some (.slice aQ nQ cQ) := (World.cell?_of_block (a := ⟨w.heap.size, 1, none⟩) (Below.heap_alloc _ _ _ hBl)).trans r1
        have hc' : (wr.alloc (.cells #[.int .i64 (qn : Int)] 3)).cell? ⟨ga, oa + k, none⟩ = some (.int .i64 (qn : Int)) := (World.cell?_of_block (a := ⟨ga, oa + k, none⟩) (Below.heap_alloc _ _ _ (World.block_lt_of_cell? wr _ hc))).trans hc
        have nw := heap_alloc_new wr (.cells #[.int .i64 (qn : Int)] 3)
        clear hM hF hm
        go_upto_region 16 with fail
        go_cut [] (fun W => ∃ v', QxMid W w.heap.size dq v' (.slice aH nH cH) (m + 1) m (xQ ++ [.int .i64 (qn : Int)]) xH ∧ Below w.heap.size w W ∧ wr.heap.size ≤ W.heap.size ∧ ∀ (g : Nat) (c : Array Value), wr.heap[g]? = some (Obj.cells c 4 (0, 0)) → W.heap[g]? = some (Obj.cells c 4 (0, 0)))
        case first =>
          go_region_law (refine step_append_own rfl _ _ 22 rfl (w.heap.size + 1) 3 iI (.int .i64 0) 1 8 Try.underlying22 hiI hzI hsI hbI rfl (by decide) _ m xQ rfl ((HM.out.oQ.alloc (.cells #[.int .i64 (qn : Int)] 3))) ⟨wr.heap.size, 0, none⟩ 1 1 [.int .i64 (qn : Int)] rfl rfl (one_add _ _ _ _ nw) (by simp [Value.oneCell']) (by unfold maxLen; omega) (by omega) (by simp; omega) ?_; intro v' w3 hown' hg3; obtain ⟨a3, n3, k3, rfl⟩ := sl_of hown'; have rw3 := HM.out.rowQ (((Below.refl _ wr).alloc (Nat.le_refl _) (Obj.cells #[Value.int .i64 (qn : Int)] 3)).drew) hg3; have c3 := cell_of_row _ _ 1 _ _ _ rw3; have f3 := fun o => frozen_of_row _ _ o _ _ rw3; have HO3 := Lib.hid hown'; have HG3 := Lib.hid hg3; clear hown' hg3 rw3)
          all_goals (
            have hqm := HM.out.quota (((Below.refl _ wr).alloc (Nat.le_refl _) (Obj.cells #[Value.int .i64 (qn : Int)] 3)).drew) HG3.out HO3.out
            have HQM := Lib.hid hqm
            clear hqm
            go_wp2_with fail
            go_meet
            exact ⟨_, HQM.out.1, HR.out.bl.trans (HQM.out.2.2 _ (Nat.le_refl _) HR.out.bl.size), (HQM.out.2.2 0 (Nat.zero_le _) (Nat.zero_le _)).size, fun g c hg => (HQM.out.2.1 g (Array.getElem?_eq_some_iff.1 hg).1 (fun e => by have := HM.out.row; rw [e] at hg; rw [this] at hg; cases hg) (fun e => by obtain ⟨c2, h2⟩ := own_ty HM.out.oQ e.symm; rw [hg] at h2; cases h2)).trans hg⟩)
        case rest =>
          obtain ⟨v1, hM1, hB1, hS1, hK1⟩ := hcut
          obtain ⟨a1, n1, k1, rfl⟩ := sl_of hM1.oQ
          have HM1 := Lib.hid hM1
          have HB1 := Lib.hid hB1
          have HK1 := Lib.hid hK1
          have HS1 := Lib.hid hS1
          obtain ⟨ga', oa', e', hc1, -, -⟩ := (HQ.out.step HB1.out) k (qn : Int) HJ.out
          cases e'
          have hBl1 := (Array.getElem?_eq_some_iff.1 hM1.row).1
          have hmk := fun W => run_bools qn (by omega) W
          have r2 : wc.cell? ⟨w.heap.size, 2, none⟩ = some (.slice aH nH cH) := cell_of_row _ _ 2 _ _ _ hM1.row
          have r2' : (wc.alloc (.cells (madeCells #[.bool false] qn) 4)).cell? ⟨w.heap.size, 2, none⟩ = some (.slice aH nH cH) := (World.cell?_of_block (a := ⟨w.heap.size, 2, none⟩) (Below.heap_alloc _ _ _ hBl1)).trans r2
          have r2'' : ((wc.alloc (.cells (madeCells #[.bool false] qn) 4)).alloc (.cells #[.slice (some ⟨wc.heap.size, 0, none⟩) qn qn] 50)).cell? ⟨w.heap.size, 2, none⟩ = some (.slice aH nH cH) := (World.cell?_of_block (a := ⟨w.heap.size, 2, none⟩) (Below.heap_alloc _ _ _ (by simp; omega))).trans r2'
          have hcl := World.block_lt_of_cell? wc _ hc1
          have hc1' : (wc.alloc (.cells (madeCells #[.bool false] qn) 4)).cell? ⟨ga, oa + k, none⟩ = some (.int .i64 (qn : Int)) := (World.cell?_of_block (a := ⟨ga, oa + k, none⟩) (Below.heap_alloc _ _ _ hcl)).trans hc1
          have nw1 : ((wc.alloc (.cells (madeCells #[.bool false] qn) 4)).alloc (.cells #[.slice (some ⟨wc.heap.size, 0, none⟩) qn qn] 50)).heap[wc.heap.size]? = some (.cells (madeCells #[.bool false] qn) 4 (0, 0)) := (Below.heap_alloc _ _ _ (by simp)).trans (heap_alloc_new wc _)
          have nw2 := heap_alloc_new (wc.alloc (.cells (madeCells #[.bool false] qn) 4)) (.cells #[.slice (some ⟨wc.heap.size, 0, none⟩) qn qn] 50)
          rw [World.size_alloc] at nw2
          have NW1 := Lib.hid nw1
          have BW2 := Lib.hid (show Below wc.heap.size wc (((wc.alloc (.cells (madeCells #[.bool false] qn) 4)).alloc (.cells #[.slice (some ⟨wc.heap.size, 0, none⟩) qn qn] 50)).drew) from (((Below.refl _ wc).alloc (Nat.le_refl _) _).alloc (by simp) _).drew)
          clear hM1 hB1 hS1 hK1 hcl nw1 r1 r1' hc hc' nw hBl
          go_wp2_with fail
          go_region_law (refine step_append_own rfl _ _ 52 rfl (w.heap.size + 1) 50 iB (.slice none 0 0) 1 24 Try.underlying52 hiB hzB hsB hbB rfl (by decide) _ m xH rfl ((HM1.out.oH.alloc (.cells (madeCells #[.bool false] qn) 4)).alloc (.cells #[.slice (some ⟨wc.heap.size, 0, none⟩) qn qn] 50)) ⟨wc.heap.size + 1, 0, none⟩ 1 1 [.slice (some ⟨wc.heap.size, 0, none⟩) qn qn] rfl rfl (one_add _ _ _ _ nw2) (by simp [Value.oneCell']) (by unfold maxLen; omega) (by omega) (by have := HB1.out.size; simp; omega) ?_; intro v' w3 hown' hg3; obtain ⟨a3, n3, k3, rfl⟩ := sl_of hown'; have rw3 := HM1.out.rowH BW2.out hg3; have c3 := cell_of_row _ _ 2 _ _ _ rw3; have f3 := fun o => frozen_of_row _ _ o _ _ rw3; have HO3 := Lib.hid hown'; have HG3 := Lib.hid hg3; clear hown' hg3 rw3)
          all_goals (
            have hqm := HM1.out.has BW2.out HG3.out HO3.out
            have HQM := Lib.hid hqm
            clear hqm
            have hrel : QxRel w w.heap.size dq z qs (k + 1) (lf - qn) fb (w3.setCell ⟨w.heap.size, 2, none⟩ (.slice a3 n3 k3)) := by
              refine ⟨HB1.out.trans (HQM.out.2.2 _ (Nat.le_refl _) HB1.out.size), HPOS.out, by omega, by omega, ?_, fun e => by rw [HSS.out]; have := HR.out.no e; omega, fun e => by rw [HSS.out]; have := HR.out.yes e; omega⟩
              refine ⟨m + 1, _, _, _, _, by have := HMK.out; omega, HQM.out.1, fun e => ?_⟩
              obtain ⟨rfl, e1, bk, e2, hrows⟩ := HF.out e
              refine ⟨rfl, by rw [quL_succ, HCT.out, e1], fun a => if a = m then wc.heap.size else bk a, by rw [haL_succ, HCT.out, e2], fun a ha => ?_⟩
              have hslt : wc.heap.size ≠ w.heap.size := by have := (Array.getElem?_eq_some_iff.1 HM1.out.row).1; omega
              have hne : some wc.heap.size ≠ (Value.slice aH nH cH).ownBlock := fun e => by have := (HM1.out.oH.lt _ e.symm).2; omega
              by_cases ea : a = m
              · subst ea
                refine ⟨by show w.heap.size ≤ (if a = a then wc.heap.size else bk a); rw [if_pos rfl]; have := HB1.out.size; omega, ?_⟩
                show (w3.setCell _ _).heap[if a = a then wc.heap.size else bk a]? = _
                rw [if_pos rfl, HCT.out]
                exact (HQM.out.2.1 _ (by simp; omega) rfl hslt hne).trans NW1.out
              · refine ⟨by show w.heap.size ≤ (if a = m then wc.heap.size else bk a); rw [if_neg ea]; exact (hrows a (by omega)).1, ?_⟩
                show (w3.setCell _ _).heap[if a = m then wc.heap.size else bk a]? = _
                rw [if_neg ea]
                have h0 := HK1.out _ _ (hrows a (by omega)).2
                have h0l := (Array.getElem?_eq_some_iff.1 h0).1
                refine (HQM.out.2.1 (bk a) (by simp; omega) rfl (fun e => by have h9 := HM1.out.row; rw [← e, h0] at h9; exact ty_ne (by decide) h9) (fun e => by obtain ⟨c2, h2⟩ := own_ty HM1.out.oH e.symm; rw [h0] at h2; cases h2)).trans ((BW2.out.block _ h0l).trans h0)
            have HREL := Lib.hid hrel
            clear hrel
            go_wp2_with fail
            go_roundg (n - (k + 1))
            case measure => omega
            case rel => exact ⟨k + 1, lf - qn, fb, by omega, rfl, rfl, by go_num, HREL.out⟩)
    · obtain rfl : k = n := by omega
      have hlt' : ¬ (k : Int) < (k : Int) := by omega
      have HPQ := Lib.hid (show ∀ q ∈ qs, 0 ≤ q from fun q hq => by
        obtain ⟨m, hm, e⟩ := List.getElem_of_mem hq
        exact HR.out.pos m q (by rw [← HN.out]; exact hm) (by rw [List.getElem?_eq_getElem hm, e]))
      cases fb with
      | true =>
        go_wp2
        go_ret2
        exact .inr (.inl ⟨⟨by rw [HN.out]; omega, by rw [HN.out]; omega, HPQ.out, by rw [HN.out]; exact HR.out.yes rfl⟩, rfl, HR.out.bl⟩)
      | false =>
        go_wp2
        go_ret2
        have hno := HR.out.no rfl
        have hl0 := HR.out.l0
        have hs : sumQ qs qs.length ≤ z := by rw [HN.out]; omega
        obtain ⟨m, vQ, vH, xQ, xH, -, hM, hF⟩ := HR.out.mid
        obtain ⟨rfl, rfl, bk, rfl, hrows⟩ := hF rfl
        obtain ⟨gQ, kQ, rfl, -, -⟩ := hM.oQ.form (by omega)
        obtain ⟨gH, kH, rfl, -, -⟩ := hM.oH.form (by omega)
        refine .inr (.inr ⟨⟨by rw [HN.out]; omega, by rw [HN.out]; omega, HPQ.out, hs⟩, w.heap.size, ⟨gQ, kQ, gH, kH, bk⟩, rfl, ?_⟩)
        have hmade := qx_made hM hrows HN.out (by omega) (by omega) (by rw [← HN.out]; omega)
        exact ⟨hmade.1, hmade.2, HR.out.bl⟩
end Go.Proofs.Ytgpdkfmneoggkaa
