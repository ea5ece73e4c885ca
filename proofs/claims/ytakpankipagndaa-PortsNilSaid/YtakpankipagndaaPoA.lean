/- Accounts' ports as the chapter says them: filters, rings, losses; such ports' cells in memory. -/
import Derived.Test.YtakpankipagndaaFiC
import Derived.Test.YtakpankipagndaaFiE
import Derived.WideKeyEntry
import Derived.DeepKeys4
namespace Go.Proofs.Ytakpankipagndaa
open Go.RowKit
open Go.Maps (Keyed)

/-- What an open port has. -/
structure Cl where
  fl : List Ts
  rg : List (List Nat)
  fs : Nat
  lo : Int
structure ClOk (X : Cl) : Prop where
  may : mayF X.fl = true
  rl : X.rg.length ≤ 8
  pl : ∀ P ∈ X.rg, P.length ≤ 64
  fs : X.fs < 8
/-- Quotas; the ports that are open; how often one was opened. -/
structure Ps where
  q : List Nat
  c : Int → Int → Option Cl
  m : Nat
def Ps.acc (s : Ps) (a : Int) : Bool := decide (0 ≤ a) && decide (a < (s.q.length : Int))
def Ps.qt (s : Ps) (a : Int) : Nat := s.q.getD a.toNat 0
structure PsOk (s : Ps) : Prop where
  q1 : 1 ≤ s.q.length
  q2 : s.q.length ≤ 8
  q3 : ∀ x ∈ s.q, x ≤ 16
  dom : ∀ a n X, s.c a n = some X → s.acc a = true ∧ 0 ≤ n ∧ n < (s.qt a : Int)
  cl : ∀ a n X, s.c a n = some X → ClOk X
theorem Ps.acc_of {s : Ps} {a : Int} (h : s.acc a = true) : 0 ≤ a ∧ a < (s.q.length : Int) := by
  unfold Ps.acc at h
  simpa only [Bool.and_eq_true, decide_eq_true_eq] using h
theorem Ps.qt_at {s : Ps} {a : Int} (h : s.acc a = true) : s.q[a.toNat]? = some (s.qt a) := by
  obtain ⟨h1, h2⟩ := Ps.acc_of h
  unfold Ps.qt
  rw [List.getD_eq_getElem?_getD, List.getElem?_eq_getElem (by omega)]
  rfl
theorem PsOk.qt_le {s : Ps} (h : PsOk s) {a : Int} (ha : s.acc a = true) : s.qt a ≤ 16 := h.q3 _ (List.mem_of_getElem? (Ps.qt_at ha))
theorem PsOk.none_acc {s : Ps} (h : PsOk s) {a n : Int} (ha : s.acc a = false) : s.c a n = none := by
  cases hc : s.c a n with
  | none => rfl
  | some X => rw [(h.dom a n X hc).1] at ha; cases ha

/-! ### The keys -/
def keyV12 (f s : Int) : Value := .agg #[.int .i64 f, .int .i64 s]
def keyP (f s : Int) : Lit := .string (keyBytes [.int .i64 f, .int .i64 s])
theorem Try.laidOutB12 : laidOutB Try.prog = true := by kernel_rfl
theorem Try.wideSpot : (match Try.prog.underlying 95 with | some (.array _ _) | some (.struct _) => true | _ => false) = true := by kernel_rfl
set_option maxRecDepth 100000 in
theorem Try.lawSpot : WideMaps.KeyLaw Try.prog 95 := deep_law_laid Try.laidOutB12 (m := 2) (by omega) (of_decide_eq_true (by kernel_rfl)) (by kernel_rfl) Try.wideSpot
theorem Try.kSpot : Keyed Try.prog 95 := Keyed.of_law Try.lawSpot
theorem Try.uSpotX : Try.prog.underlying 95 = some (.struct #[{ name := "account", type := 3, offset := 0, embedded := false, tag := "", pkgPath := "steading/ports", byteOffset := 0 }, { name := "port", type := 3, offset := 1, embedded := false, tag := "", pkgPath := "steading/ports", byteOffset := 8 }]) := by kernel_rfl
theorem Try.cSpot : Try.prog.cellsOf 95 = 2 := by kernel_rfl
theorem Try.cInt12 : Try.prog.cellsOf 3 = 1 := by kernel_rfl
theorem Try.sizeTypes : ∃ D, Try.prog.types.size + 1 = D + 2 := ⟨Try.prog.types.size - 1, by have : (1 : Nat) ≤ Try.prog.types.size := of_decide_eq_true (by kernel_rfl); omega⟩
theorem key_lits12 (D : Nat) (f s : Int) (hf : (Lit.int .i64 f).wf = true) (hs : (Lit.int .i64 s).wf = true) : Try.prog.keyLits (D + 2) 95 [.int .i64 f, .int .i64 s] = some [.int .i64 f, .int .i64 s] := by
  simp [Program.keyLits, Try.uSpotX, Try.cSpot, Try.cInt12, Try.underlying3, hf, hs]
set_option maxRecDepth 100000 in
theorem Try.typeSpot : Try.prog.keyType 95 = true := by kernel_rfl
theorem key_of12 (f s : Int) (hf : (Lit.int .i64 f).wf = true) (hs : (Lit.int .i64 s).wf = true) : keyOf Try.prog 95 (keyV12 f s) = some (keyP f s) := by
  obtain ⟨D, hD⟩ := Try.sizeTypes
  have h1 : (keyV12 f s).formed Try.prog 95 = true := by simp [keyV12, Value.formed, Try.uSpotX, Try.cSpot]
  have h2 : (keyV12 f s).cells.toList = [.int .i64 f, .int .i64 s] := rfl
  unfold keyOf
  rw [Try.uSpotX]
  simp only [Try.typeSpot, h1, Bool.and_self, if_true]
  rw [hD, h2, key_lits12 D f s hf hs]
  rfl
theorem key_inj12 {f f' : Int} {s s' : Int} (hf : (Lit.int .i64 f).wf = true) (hf' : (Lit.int .i64 f').wf = true) (hs : (Lit.int .i64 s).wf = true) (hs' : (Lit.int .i64 s').wf = true) (h : keyP f s = keyP f' s') : f = f' ∧ s = s' := by
  have e := Try.kSpot.inj (key_of12 f s hf hs) (h ▸ key_of12 f' s' hf' hs')
  simpa [keyV12] using e
theorem key_lit12 (f s : Int) (hf : (Lit.int .i64 f).wf = true) (hs : (Lit.int .i64 s).wf = true) : WideAt.IsKeyLit (keyP f s) := Try.kSpot.key (key_of12 f s hf hs)
abbrev wf12 (x : Int) : Prop := (Lit.int .i64 x).wf = true
theorem wf12_of {x : Int} (h : -9223372036854775808 ≤ x ∧ x ≤ 9223372036854775807) : wf12 x := by
  unfold wf12
  rw [Lit.wf]
  simp
  exact ⟨by show (-9223372036854775808 : Int) ≤ _; omega, by show _ ≤ (9223372036854775807 : Int); omega⟩
theorem of_wf12 {x : Int} (h : wf12 x) : -9223372036854775808 ≤ x ∧ x ≤ 9223372036854775807 := by
  unfold wf12 at h
  simp only [Lit.wf, Bool.and_eq_true, decide_eq_true_eq] at h
  exact h

/-- A pointer to a block's head, or none, as a map's element. -/
def ptE : Value → Option (DataW Unit × List MemPlace)
  | .pointer none => some (.nil, [])
  | .pointer (some ⟨g, 0, none⟩) => some (.lit (.int .i64 g), [])
  | _ => none
def ptD (g : Option Nat) : DataW Unit := match g with
  | none => .nil
  | some g => .lit (.int .i64 g)
def ptV (g : Option Nat) : Value := match g with
  | none => .pointer none
  | some g => .pointer (some ⟨g, 0, none⟩)
theorem ptE_mk (g : Option Nat) : ptE (ptV g) = some (ptD g, []) := by cases g <;> rfl
theorem ptE_inv {v : Value} {y : DataW Unit × List MemPlace} (h : ptE v = some y) : ∃ g, v = ptV g ∧ y.1 = ptD g := by
  unfold ptE at h
  split at h
  · exact ⟨none, rfl, by rw [← Option.some.inj h]; rfl⟩
  · exact ⟨some _, rfl, by rw [← Option.some.inj h]; rfl⟩
  · cases h
theorem ptD_inj {g k : Option Nat} (h : ptD g = ptD k) : g = k := by
  cases g <;> cases k <;> simp [ptD] at h ⊢
  omega
theorem ptE_is {v : Value} {g : Option Nat} {ps : List MemPlace} (h : ptE v = some (ptD g, ps)) : v = ptV g := by
  obtain ⟨k, rfl, e⟩ := ptE_inv h
  rw [ptD_inj e]
theorem Try.zPt (w : World) : (zeroValue 96).run Try.prog w = .ok (ptV none) w := by kernel_rfl

/-! ### In memory -/
def Rd (R : Nat → Prop) (A : Option Addr) : Prop := ∀ b o p, A = some ⟨b, o, p⟩ → R b
theorem Rd.mono {R R' : Nat → Prop} {A : Option Addr} (h : Rd R A) (hr : ∀ k, R k → R' k) : Rd R' A := fun b o p e => hr _ (h b o p e)
theorem TsIn.keepR {w w' : World} {A : Option Addr} {L : List Ts} {R : Nat → Prop} (h : TsIn w A L) (hR : Rd R A) (hs : w.heap.size ≤ w'.heap.size) (he : ∀ k, R k → w'.heap[k]? = w.heap[k]?) : TsIn w' A L := fun i t ht => by
  obtain ⟨b, o, e, l, c0, c1, c2⟩ := h i t ht
  have hb := he b (hR b o none e)
  exact ⟨b, o, e, Nat.lt_of_lt_of_le l hs, (World.cell?_of_block (a := ⟨b, _, none⟩) hb).trans c0, (World.cell?_of_block (a := ⟨b, _, none⟩) hb).trans c1, (World.cell?_of_block (a := ⟨b, _, none⟩) hb).trans c2⟩
theorem PkIn.keepR {w w' : World} {A : Option Addr} {P : List Nat} {R : Nat → Prop} (h : PkIn w A P) (hR : Rd R A) (hs : w.heap.size ≤ w'.heap.size) (he : ∀ k, R k → w'.heap[k]? = w.heap[k]?) : PkIn w' A P := fun i x hx => by
  obtain ⟨l8, b, o, e, l, c⟩ := h i x hx
  exact ⟨l8, b, o, e, Nat.lt_of_lt_of_le l hs, (World.cell?_of_block (a := ⟨b, _, none⟩) (he b (hR b o none e))).trans c⟩
theorem FlIn.keepR {w w' : World} {A : Option Addr} {n c : Nat} {L : List Ts} {R : Nat → Prop} (h : FlIn w A n c L) (hR : Rd R A) (hs : w.heap.size ≤ w'.heap.size) (he : ∀ k, R k → w'.heap[k]? = w.heap[k]?) : FlIn w' A n c L := ⟨h.len, h.nil, h.ts.keepR hR hs he⟩
/-- A packet as a slice, nil or not. -/
structure PkF (w : World) (A : Option Addr) (n c : Nat) (P : List Nat) : Prop where
  len : P.length = n
  nil : A = none → n = 0 ∧ c = 0
  pk : PkIn w A P
theorem PkF.below {w w' : World} {A : Option Addr} {n c : Nat} {P : List Nat} (h : PkF w A n c P) (hb : Below w.heap.size w w') : PkF w' A n c P := ⟨h.len, h.nil, h.pk.below hb⟩
theorem PkF.keepR {w w' : World} {A : Option Addr} {n c : Nat} {P : List Nat} {R : Nat → Prop} (h : PkF w A n c P) (hR : Rd R A) (hs : w.heap.size ≤ w'.heap.size) (he : ∀ k, R k → w'.heap[k]? = w.heap[k]?) : PkF w' A n c P := ⟨h.len, h.nil, h.pk.keepR hR hs he⟩
theorem PkF.nil12 (w : World) : PkF w none 0 0 [] := ⟨rfl, fun _ => ⟨rfl, rfl⟩, PkIn.nil w _⟩
/-- A port's cells: its filter, its ring's places, where the ring begins, how many are there, how many were lost. -/
def clA (F : Value) (V : Nat → Value) (f n l : Int) : Array Value := #[F, V 0, V 1, V 2, V 3, V 4, V 5, V 6, V 7, .int .i64 f, .int .i64 n, .int .i64 l]
theorem clA_slot (F : Value) (V : Nat → Value) (f n l : Int) {j : Nat} (hj : j < 8) : (clA F V f n l)[1 + j]? = some (V j) := by
  rcases (show j = 0 ∨ j = 1 ∨ j = 2 ∨ j = 3 ∨ j = 4 ∨ j = 5 ∨ j = 6 ∨ j = 7 by omega) with rfl | rfl | rfl | rfl | rfl | rfl | rfl | rfl <;> rfl
theorem clA_set (F : Value) (V : Nat → Value) (f n l : Int) {j : Nat} (hj : j < 8) (v : Value) : (clA F V f n l).setIfInBounds (1 + j) v = clA F (fun k => if k = j then v else V k) f n l := by
  rcases (show j = 0 ∨ j = 1 ∨ j = 2 ∨ j = 3 ∨ j = 4 ∨ j = 5 ∨ j = 6 ∨ j = 7 by omega) with rfl | rfl | rfl | rfl | rfl | rfl | rfl | rfl <;> rfl
theorem clA_first (F : Value) (V : Nat → Value) (f n l x : Int) : (clA F V f n l).setIfInBounds 9 (.int .i64 x) = clA F V x n l := rfl
theorem clA_count (F : Value) (V : Nat → Value) (f n l x : Int) : (clA F V f n l).setIfInBounds 10 (.int .i64 x) = clA F V f x l := rfl
theorem clA_lost (F : Value) (V : Nat → Value) (f n l x : Int) : (clA F V f n l).setIfInBounds 11 (.int .i64 x) = clA F V f n x := rfl
/-- The ring's places. -/
structure RgAt (w : World) (R : Nat → Prop) (V : Nat → Value) (X : Cl) : Prop where
  pk : ∀ k P, X.rg[k]? = some P → ∃ A n, V ((X.fs + k) % 8) = .slice A P.length n ∧ PkF w A P.length n P ∧ Rd R A
  sl : ∀ k, k < 8 → ∃ A n m, V k = .slice A n m
structure ClAt (w : World) (R : Nat → Prop) (c : Nat) (X : Cl) (FA : Option Addr) (FC : Nat) (V : Nat → Value) : Prop where
  cb : w.heap[c]? = some (.cells (clA (.slice FA X.fl.length FC) V X.fs X.rg.length X.lo) 110 (0, 0))
  fl : FlIn w FA X.fl.length FC X.fl
  fr : Rd R FA
  rg : RgAt w R V X
def ClIs (w : World) (R : Nat → Prop) (c : Nat) (X : Cl) : Prop := ∃ FA FC V, ClAt w R c X FA FC V
theorem RgAt.keep {w w' : World} {R R' : Nat → Prop} {V : Nat → Value} {X : Cl} (h : RgAt w R V X) (hs : w.heap.size ≤ w'.heap.size) (he : ∀ k, R k → w'.heap[k]? = w.heap[k]?) (hr : ∀ k, R k → R' k) : RgAt w' R' V X :=
  ⟨fun k P hk => by obtain ⟨A, n, e, hp, hd⟩ := h.pk k P hk; exact ⟨A, n, e, hp.keepR hd hs he, hd.mono hr⟩, h.sl⟩
theorem ClAt.keep {w w' : World} {R R' : Nat → Prop} {c : Nat} {X : Cl} {FA : Option Addr} {FC : Nat} {V : Nat → Value} (h : ClAt w R c X FA FC V) (hs : w.heap.size ≤ w'.heap.size) (he : ∀ k, R k → w'.heap[k]? = w.heap[k]?) (hc : w'.heap[c]? = w.heap[c]?) (hr : ∀ k, R k → R' k) : ClAt w' R' c X FA FC V :=
  ⟨hc.trans h.cb, h.fl.keepR h.fr hs he, h.fr.mono hr, h.rg.keep hs he hr⟩
theorem ClIs.keep {w w' : World} {R R' : Nat → Prop} {c : Nat} {X : Cl} (h : ClIs w R c X) (hs : w.heap.size ≤ w'.heap.size) (he : ∀ k, R k → w'.heap[k]? = w.heap[k]?) (hc : w'.heap[c]? = w.heap[c]?) (hr : ∀ k, R k → R' k) : ClIs w' R' c X := by
  obtain ⟨FA, FC, V, h⟩ := h
  exact ⟨FA, FC, V, h.keep hs he hc hr⟩

structure Lay12 where
  qb : Nat
  qc : Nat
  b : Nat
  C : Int → Int → Nat
/-- What the map reads as. -/
structure MpIs (D : DataW Unit) (C : Int → Int → Nat) (c : Int → Int → Option Cl) : Prop where
  has : ∀ a n, wf12 a → wf12 n → Maps.has D (keyP a n) = (c a n).isSome
  at_ : ∀ a n, wf12 a → wf12 n → D.atKey (keyP a n) .nil = ptD ((c a n).map fun _ => C a n)
/-- Ports in memory: O their own blocks, R those that they only read. -/
structure PoAt (w : World) (O R : Nat → Prop) (p : Nat) (L : Lay12) (s : Ps) : Prop where
  ok : PsOk s
  pb : w.heap[p]? = some (.cells #[.slice (some ⟨L.qb, 0, none⟩) s.q.length L.qc, .map (some L.b)] 68 (0, 0))
  qs : ∀ (i x : Nat), s.q[i]? = some x → w.cell? ⟨L.qb, i, none⟩ = some (.int .i64 (x : Int))
  mp : ∃ D, w.ownsMap Try.prog 95 ptE L.b s.m D ∧ MpIs D L.C s.c
  cl : ∀ a n X, s.c a n = some X → ClIs w R (L.C a n) X
  ne : ∀ a n a' n' X X', s.c a n = some X → s.c a' n' = some X' → L.C a n = L.C a' n' → a = a' ∧ n = n'
  op : O p
  ob : O L.b
  oc : ∀ a n X, s.c a n = some X → O (L.C a n)
  rq : R L.qb
  lo : ∀ k, O k → k < w.heap.size
  lr : ∀ k, R k → k < w.heap.size
  dis : ∀ k, R k → ¬ O k
theorem ownsMap_eq12 {w w' : World} {b n : Nat} {D : DataW Unit} (h : w.ownsMap Try.prog 95 ptE b n D) (e : w'.heap[b]? = w.heap[b]?) : w'.ownsMap Try.prog 95 ptE b n D := by
  obtain ⟨es, clock, h1, F, hs, hD⟩ := h
  exact ⟨es, clock, e.trans h1, F, hs, hD⟩
section
variable {w w' : World} {O R : Nat → Prop} {p : Nat} {L : Lay12} {s : Ps}
theorem PoAt.keep (h : PoAt w O R p L s) (hs : w.heap.size ≤ w'.heap.size) (he : ∀ k, O k ∨ R k → w'.heap[k]? = w.heap[k]?) : PoAt w' O R p L s := by
  obtain ⟨D, hm, hD⟩ := h.mp
  exact ⟨h.ok, (he _ (.inl h.op)).trans h.pb, fun i x hi => (World.cell?_of_block (a := ⟨_, i, none⟩) (he _ (.inr h.rq))).trans (h.qs i x hi), ⟨D, ownsMap_eq12 hm (he _ (.inl h.ob)), hD⟩,
    fun a n X hX => (h.cl a n X hX).keep hs (fun k hk => he k (.inr hk)) (he _ (.inl (h.oc a n X hX))) (fun _ hk => hk), h.ne, h.op, h.ob, h.oc, h.rq, fun k hk => Nat.lt_of_lt_of_le (h.lo k hk) hs, fun k hk => Nat.lt_of_lt_of_le (h.lr k hk) hs, h.dis⟩
theorem PoAt.lt (h : PoAt w O R p L s) {k : Nat} (hk : O k ∨ R k) : k < w.heap.size := hk.elim (h.lo k) (h.lr k)
theorem PoAt.step (h : PoAt w O R p L s) (hb : Below w.heap.size w w') : PoAt w' O R p L s := h.keep hb.size (fun k hk => hb.block k (h.lt hk))
theorem PoAt.other {O' : Nat → Prop} (h : PoAt w O R p L s) (hb : TurnO O' w w') (hn : ∀ k, O k ∨ R k → ¬ O' k) : PoAt w' O R p L s := h.keep hb.size (fun k hk => hb.block k (h.lt hk) (hn k hk))
theorem PoAt.c0 (h : PoAt w O R p L s) : w.cell? ⟨p, 0, none⟩ = some (.slice (some ⟨L.qb, 0, none⟩) s.q.length L.qc) := by rw [cell_of_row _ _ _ _ _ _ h.pb]; rfl
theorem PoAt.c1 (h : PoAt w O R p L s) : w.cell? ⟨p, 1, none⟩ = some (.map (some L.b)) := by rw [cell_of_row _ _ _ _ _ _ h.pb]; rfl
theorem PoAt.cq (h : PoAt w O R p L s) {a : Int} (ha : s.acc a = true) : w.cell? ⟨L.qb, a.toNat, none⟩ = some (.int .i64 (s.qt a : Int)) := h.qs _ _ (Ps.qt_at ha)
theorem PoAt.hp (h : PoAt w O R p L s) : p < w.heap.size := h.lo p h.op
/-- A port is looked up. -/
theorem PoAt.look (h : PoAt w O R p L s) {a n : Int} (ha : wf12 a) (hn : wf12 n) :
    (Instr.lookup 66 (.map (some L.b)) (.agg #[.int .i64 a, .int .i64 n]) false).run Try.prog w = .ok (ptV ((s.c a n).map fun _ => L.C a n)) w := by
  obtain ⟨D, hm, hD⟩ := h.mp
  obtain ⟨v, ps, hrun, hv⟩ := hm.lookup Try.kSpot Try.underlying66 (Try.zPt w) (zd := .nil) (zp := []) (ptE_mk none) (key_of12 a n ha hn)
  rw [hD.at_ a n ha hn] at hv
  have hrun : (Instr.lookup 66 (.map (some L.b)) (.agg #[.int .i64 a, .int .i64 n]) false).run Try.prog w = .ok v w := hrun
  rw [hrun, ptE_is hv]
theorem PoAt.look_no (h : PoAt w O R p L s) {a n : Int} (ha : wf12 a) (hn : wf12 n) (hc : s.c a n = none) :
    (Instr.lookup 66 (.map (some L.b)) (.agg #[.int .i64 a, .int .i64 n]) false).run Try.prog w = .ok (.pointer none) w := by
  have := h.look ha hn
  rw [hc] at this
  exact this
theorem PoAt.look_yes (h : PoAt w O R p L s) {a n : Int} (ha : wf12 a) (hn : wf12 n) {X : Cl} (hc : s.c a n = some X) :
    (Instr.lookup 66 (.map (some L.b)) (.agg #[.int .i64 a, .int .i64 n]) false).run Try.prog w = .ok (.pointer (some ⟨L.C a n, 0, none⟩)) w := by
  have := h.look ha hn
  rw [hc] at this
  exact this
end
section
variable {w : World} {R : Nat → Prop} {c : Nat} {X : Cl} {FA : Option Addr} {FC : Nat} {V : Nat → Value}
theorem ClAt.c0 (h : ClAt w R c X FA FC V) : w.cell? ⟨c, 0, none⟩ = some (.slice FA X.fl.length FC) := by rw [cell_of_row _ _ _ _ _ _ h.cb]; rfl
theorem ClAt.cs (h : ClAt w R c X FA FC V) {j : Nat} (hj : j < 8) : w.cell? ⟨c, 1 + j, none⟩ = some (V j) := by rw [cell_of_row _ _ _ _ _ _ h.cb]; exact clA_slot _ _ _ _ _ hj
theorem ClAt.c9 (h : ClAt w R c X FA FC V) : w.cell? ⟨c, 9, none⟩ = some (.int .i64 (X.fs : Int)) := by rw [cell_of_row _ _ _ _ _ _ h.cb]; rfl
theorem ClAt.c10 (h : ClAt w R c X FA FC V) : w.cell? ⟨c, 10, none⟩ = some (.int .i64 (X.rg.length : Int)) := by rw [cell_of_row _ _ _ _ _ _ h.cb]; rfl
theorem ClAt.c11 (h : ClAt w R c X FA FC V) : w.cell? ⟨c, 11, none⟩ = some (.int .i64 X.lo) := by rw [cell_of_row _ _ _ _ _ _ h.cb]; rfl
theorem ClAt.fz (h : ClAt w R c X FA FC V) (o : Nat) : w.frozen? ⟨c, o, none⟩ = false := frozen_of_row _ _ _ _ _ h.cb
theorem ClAt.lt (h : ClAt w R c X FA FC V) : c < w.heap.size := (Array.getElem?_eq_some_iff.1 h.cb).1
end
end Go.Proofs.Ytakpankipagndaa
