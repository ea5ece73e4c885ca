/- The walk of FilterPasses. -/
import Derived.Test.YteibholghonajaaFiS3
import Derived.Test.YteibholghonajaaIsaRound
import Derived.Deep.Cut
namespace Go.Proofs.Yteibholghonajaa
open Go.RowKit
attribute [local go_sem] Oper.semAt_some

theorem bdF {B : Nat} {a w : World} (h : Below B a w) (n : Nat) : Below B a (w.drewN n) := h.trans ⟨rfl, rfl, rfl, Nat.le_refl _, fun _ _ => rfl⟩
/-- What the turns look at. -/
structure Ly (W : World) (base h4 h5 h6 h7 bx m d n wc : Nat) (B wa : Option Addr) (lv : Int) (Ps : List Pk) (is : List Nat) (v : Value) (vs : List Value) : Prop where
  ps : PsIn W B Ps
  pass : PassIs W base bx Ps is v vs
  e4 : W.cell? ⟨h4, 0, none⟩ = some (.slice B m d)
  e5 : W.cell? ⟨h5, 0, none⟩ = some (.int .i64 lv)
  e6 : W.heap[h6]? = some (.cells #[.bool false] 4 (0, 0))
  e7 : W.heap[h7]? = some (.cells #[.slice wa n wc] 46 (0, 0))
  iw : W.ownsRow base 3 1 (.slice wa n wc) n (is.map fun (i : Nat) => Value.int .i64 (i : Int))
theorem Ly.step {W W' : World} {base h4 h5 h6 h7 bx m d n wc : Nat} {B wa : Option Addr} {lv : Int} {Ps : List Pk} {is : List Nat} {v : Value} {vs : List Value} (h : Ly W base h4 h5 h6 h7 bx m d n wc B wa lv Ps is v vs) (hb : Below W.heap.size W W') :
    Ly W' base h4 h5 h6 h7 bx m d n wc B wa lv Ps is v vs :=
  ⟨h.ps.below hb, h.pass.below hb, (hb.cell (World.block_lt_of_cell? W _ h.e4)).trans h.e4, (hb.cell (World.block_lt_of_cell? W _ h.e5)).trans h.e5, (hb.block _ (Array.getElem?_eq_some_iff.1 h.e6).1).trans h.e6, (hb.block _ (Array.getElem?_eq_some_iff.1 h.e7).1).trans h.e7, own_stepF h.iw hb⟩
theorem PassIs.base {W : World} {base base' bx : Nat} {Ps : List Pk} {is : List Nat} {v : Value} {vs : List Value} (h : PassIs W base bx Ps is v vs) (hb : base' ≤ base) : PassIs W base' bx Ps is v vs :=
  ⟨h.cell, own_base h.own hb, h.len, fun j i u h1 h2 => by obtain ⟨x, e1, e2, e3⟩ := h.told j i u h1 h2; exact ⟨x, e1, own_base e2 hb, e3⟩⟩
theorem TurnO.setCell (O : Nat → Prop) (w : World) (b o : Nat) (v : Value) (h : O b) : TurnO O w (w.setCell ⟨b, o, none⟩ v) :=
  ⟨rfl, rfl, rfl, by simp [World.setCell], fun k hk hn => heap_setCell_other _ _ _ _ (fun e => hn (e ▸ h))⟩
/-- What a round keeps, and what its break leaves. -/
def GpI (w2 : World) (mn : Nat) (k : Nat) (W : World) : Prop := TurnO (· = mn) w2 W ∧ W.heap[mn]? = some (.cells #[.int .i64 (k : Int)] 3 (0, 0))
def GpX (w2 : World) (lv : Int) (mn N : Nat) (c : Code) (W : World) : Prop := c = .exit 4 ∧ TurnO (· = mn) w2 W ∧ (∃ k : Nat, k ≤ N ∧ lv = (k : Int)) ∧ W.heap[mn]? = some (.cells #[.int .i64 lv] 3 (0, 0))
theorem turnO_own {β : Type} (w0 : World) (O : Nat → Prop) (B : Nat) (hB : w0.heap.size ≤ B) : OwnFrom B (fun (_ : β) W => TurnO O w0 W) := fun _ X Y row hs hg hr =>
  ⟨hg.os.trans hs.os, hg.tape.trans hs.tape, hg.output.trans hs.output, Nat.le_trans hs.size hg.size, fun k hk hn => (hg.block k (Nat.lt_of_lt_of_le hk hs.size) (fun e => by have := (hr k e.symm).1; omega)).trans (hs.block k hk hn)⟩
theorem blk_own {β : Type} (m B : Nat) (hm : m < B) (f : β → Obj) : OwnFrom B (fun s W => W.heap[m]? = some (f s)) := fun s X Y row hs hg hr =>
  (hg.block m (Array.getElem?_eq_some_iff.1 hs).1 (fun e => by have := (hr m e.symm).1; omega)).trans hs
theorem gpI_own (w2 : World) (mn : Nat) (hm : mn < w2.heap.size) : OwnFrom w2.heap.size (GpI w2 mn) := OwnFrom.and (turnO_own w2 _ _ (Nat.le_refl _)) (blk_own _ _ hm _)
theorem gpX_own (w2 : World) (lv : Int) (mn N : Nat) (hm : mn < w2.heap.size) (c : Code) : OwnFrom w2.heap.size (fun (_ : Unit) W => GpX w2 lv mn N c W) := fun u X Y row hs hg hr =>
  ⟨hs.1, turnO_own (β := Unit) w2 _ _ (Nat.le_refl _) u X Y row hs.2.1 hg hr, hs.2.2.1, blk_own (β := Unit) mn _ hm (fun _ => .cells #[.int .i64 lv] 3 (0, 0)) u X Y row hs.2.2.2 hg hr⟩
theorem gave_own (B : Nat) (Ps : List Pk) (is : List Nat) (k : Nat) : OwnFrom B (fun v W => GaveAt B Ps is k v W) := fun u X Y row hs hg hr => by
  obtain ⟨x, h1, h2, h3⟩ := hs
  refine ⟨x, h1, owns_eq h2 fun g hgv => hg.block g (h2.lt g hgv).2 (fun e => ?_), h3⟩
  rcases h2.2 with ⟨rfl, -⟩ | ⟨g', cap, cur, rfl, -, hgc, -⟩
  · simp [Value.ownBlock] at hgv
  · simp only [Value.ownBlock, Option.some.injEq] at hgv
    subst hgv
    obtain ⟨-, o, ho, hc⟩ := hr g' e.symm
    rw [hgc] at ho
    cases ho
    cases hc
/-- What the bytes that were told have become. -/
structure Ninety (W W' : World) (A : Option Addr) (n : Nat) : Prop where
  turn : TurnO (fun b => A = some ⟨b, 0, none⟩) W W'
  row : ∀ g, A = some ⟨g, 0, none⟩ → ∃ cur, W'.heap[g]? = some (.cells cur 5 (0, 0)) ∧ n ≤ cur.size
theorem Ninety.start {W : World} {B n c : Nat} {A : Option Addr} {xs : List Value} (h : W.ownsRow B 5 1 (.slice A n c) n xs) : Ninety W W A n := by
  refine ⟨TurnO.refl _ _, fun g e => ?_⟩
  subst e
  rcases h.2 with ⟨e, -⟩ | ⟨g', cap, cur, e, -, hgc, h1, -, h3, -⟩
  · cases e
  · cases e
    exact ⟨cur, hgc, by omega⟩
theorem Ninety.set {W W' : World} {g n : Nat} (h : Ninety W W' (some ⟨g, 0, none⟩) n) (j : Nat) (v : Value) : Ninety W (W'.setCell ⟨g, j, none⟩ v) (some ⟨g, 0, none⟩) n := by
  refine ⟨h.turn.trans (TurnO.setCell (fun b => (some ⟨g, 0, none⟩ : Option Addr) = some ⟨b, 0, none⟩) W' g j v rfl) (fun b hb => .inl hb), fun g' e => ?_⟩
  cases e
  obtain ⟨cur, h1, h2⟩ := h.row g rfl
  exact ⟨_, heap_setCell_same _ g j _ _ v h1, by simpa using h2⟩
theorem Ninety.drewN {W W' : World} {A : Option Addr} {n : Nat} (h : Ninety W W' A n) (k : Nat) : Ninety W (W'.drewN k) A n :=
  ⟨h.turn.trans (TurnO.of_below (bdF (Below.refl _ W') k) : TurnO (fun b => A = some ⟨b, 0, none⟩) W' _) (fun b hb => .inl hb), h.row⟩
theorem keep_ninety {W Wr : World} {A : Option Addr} {n B mn : Nat} (h : Ninety W Wr A n) (h0 : Ninety W W A n) (hm : mn < B) (v : Value) : KeepsFrom B W (Wr.setCell ⟨mn, 0, none⟩ v) :=
  ⟨by simp; exact h.turn.size, fun k o hk ho hc => by
    have hne : ¬ A = some ⟨k, 0, none⟩ := fun e => by
      obtain ⟨cur, h1, -⟩ := h0.row k e
      rw [ho] at h1
      cases h1
      cases hc
    rw [heap_setCell_other _ _ _ _ (show ¬ k = mn by omega)]
    exact (h.turn.block k (Array.getElem?_eq_some_iff.1 ho).1 hne).trans ho⟩
theorem below_putF {B : Nat} {w : World} {k : Nat} (o : Obj) (h : B ≤ k) : Below B w (w.putObj k o) := ⟨rfl, rfl, rfl, by simp, fun i hi => World.putObj_heap_other (by omega)⟩
theorem zip_set (A : Array Value) (x y : Value) : (((#[58, 59] : Array Tmp).zip #[x, y]).foldl (fun t (p, v) => t.setIfInBounds p v) A) = (A.setIfInBounds 58 x).setIfInBounds 59 y := by simp
/-- A range over what Passing answers, as the law has it. -/
theorem range_p {n : Nat} {P : Program} {g : Operand} {assign body : Code} {Q : Exit → Act → World → Prop} {a : Act} {w : World} {is : List Nat} {gf : Nat} {lb : Array Value} {G : Nat → Value → World → Prop} {I : Nat → World → Prop} {Ix : Code → World → Prop}
    (h1 : 1 ≤ n) (hg : a.eval g = .func (.func gf) #[] lb) (eg : ∀ args w, (callFunc gf args).run P w = .ok (.enter gf args) w)
    (hseq : StepsG Fence.wide (n - 1) P gf lb (encG is) is.length G I) (hI : OwnFrom w.heap.size I) (hG : ∀ k, OwnFrom w.heap.size (fun v W => G k v W)) (hIx : ∀ c, OwnFrom w.heap.size (fun (_ : Unit) W => Ix c W)) (h0 : I 0 w)
    (hassign : ∀ (l k : Nat) (v : Value) (W : World) (K : Act → World → Prop),
      K { tmps := (((a.tmps.setIfInBounds 58 (.int .i64 (is.getD k 0 : Nat))).setIfInBounds 59 v).setIfInBounds 12 (.int .i64 (is.getD k 0 : Nat))).setIfInBounds 13 v, defers := [] } W →
      assign.wpIn (Fence.wide.inRound l) (n - 1 - 1) P (Exit.then K (fun _ _ _ => False)) { tmps := (a.tmps.setIfInBounds 58 (.int .i64 (is.getD k 0 : Nat))).setIfInBounds 59 v, defers := [] } W)
    (hbody : ∀ (l k : Nat) (v : Value) (W : World), k < is.length → G k v W → I k W →
      body.wpIn (Fence.wide.inRound l) (n - 1 - 1) P (RoundG w.heap.size I Ix k W) { tmps := (((a.tmps.setIfInBounds 58 (.int .i64 (is.getD k 0 : Nat))).setIfInBounds 59 v).setIfInBounds 12 (.int .i64 (is.getD k 0 : Nat))).setIfInBounds 13 v, defers := [] } W)
    (hdone : ∀ (D : Nat) (W : World), w.heap.size ≤ D → I is.length W → W.heap[D]? = some (.deferred (some [])) → Q .normal { a with defers := { target := .collected D, args := #[] } :: a.defers } W)
    (hstop : ∀ (D : Nat) (c : Code) (W : World), w.heap.size ≤ D → Ix c W → W.heap[D]? = some (.deferred (some [])) → c.wpIn Fence.wide n P Q { a with defers := { target := .collected D, args := #[] } :: a.defers } W) :
    (Code.rangeFunc g #[58, 59] assign body).wpIn Fence.wide n P Q a w :=
  range_g (N := is.length) (G := G) (encs := encG is) rfl h1 hg trivial eg hseq (fun _ _ => rfl) hI hG hIx h0
    (fun k v => { tmps := (((a.tmps.setIfInBounds 58 (.int .i64 (is.getD k 0 : Nat))).setIfInBounds 59 v).setIfInBounds 12 (.int .i64 (is.getD k 0 : Nat))).setIfInBounds 13 v, defers := [] })
    (fun l k v W K hK => by unfold encG; rw [zip_set]; exact hassign l k v W K hK) hbody hdone hstop
theorem Try.inIntF : (Try.prog.info? 3).map (fun i => (i.zero, i.size, i.bytes)) = some (some (.int .i64 0), 1, 8) := by kernel_rfl
theorem eql_pass (b : Nat) (w : World) : (binOp .eql 48 (.func (.func 35) #[] #[.pointer (some ⟨b, 0, none⟩)]) .nilFunc).run Try.prog w = .ok (.bool false) w := by kernel_rfl
theorem ly_start {w W0 wr w1 : World} {B Au : Option Addr} {m d h4 cu bx : Nat} {lv : Int} {L : List Ts} {Ps : List Pk} {v : Value} {vs : List Value}
    (hR : W0.heap[h4]? = some (Obj.cells #[.slice B m d] 45 (0, 0)) ∧ W0.heap[h4 + 1]? = some (Obj.cells #[.int .i64 lv] 3 (0, 0)) ∧ W0.heap[h4 + 1 + 1]? = some (Obj.cells #[.bool false] 4 (0, 0)) ∧ W0.heap[h4 + 1 + 1 + 1]? = some (Obj.cells #[.slice none 0 0] 46 (0, 0)) ∧ W0.heap.size = h4 + 1 + 1 + 1 + 1)
    (hT : TurnO (· = h4 + 1 + 1 + 1) W0 wr) (hB0 : Below w.heap.size w W0) (hP : PsIn w B Ps) (h7 : wr.heap[h4 + 1 + 1 + 1]? = some (Obj.cells #[.slice Au (hitsP L Ps m).length cu] 46 (0, 0)))
    (how : wr.ownsRow W0.heap.size 3 1 (.slice Au (hitsP L Ps m).length cu) (hitsP L Ps m).length ((hitsP L Ps m).map fun (i : Nat) => Value.int .i64 (i : Int)))
    (hps : PassIs w1 wr.heap.size bx Ps (hitsP L Ps m) v vs) (hb : Below wr.heap.size wr w1) (hh : h4 = w.heap.size) (hW : Below w.heap.size w wr) :
    Ly w1 w.heap.size h4 (h4 + 1) (h4 + 1 + 1) (h4 + 1 + 1 + 1) bx m d (hitsP L Ps m).length cu B Au lv Ps (hitsP L Ps m) v vs := by
  obtain ⟨r4, r5, r6, r7, rs⟩ := hR
  have k4 := (hT.block h4 (by omega) (by omega)).trans r4
  have k5 := (hT.block (h4 + 1) (by omega) (by omega)).trans r5
  have k6 := (hT.block (h4 + 1 + 1) (by omega) (by omega)).trans r6
  have l4 := (Array.getElem?_eq_some_iff.1 k4).1
  have l5 := (Array.getElem?_eq_some_iff.1 k5).1
  have l6 := (Array.getElem?_eq_some_iff.1 k6).1
  have l7 := (Array.getElem?_eq_some_iff.1 h7).1
  exact ⟨hP.below (hW.trans (hb.mono hW.size)), hps.base hW.size, cell_of_row _ _ 0 _ _ _ ((hb.block _ l4).trans k4), cell_of_row _ _ 0 _ _ _ ((hb.block _ l5).trans k5), (hb.block _ l6).trans k6, (hb.block _ l7).trans h7, own_base (own_stepF how hb) hB0.size⟩
set_option maxHeartbeats 16000000 in
set_option maxRecDepth 100000 in
theorem passes_ok {w : World} {A B : Option Addr} {n0 c m d : Nat} {L : List Ts} {Ps : List Pk} (lv : Int) (h : FlIn w A n0 c L) (hn : n0 ≤ 40) (hp : PsIn w B Ps) (hm : Ps.length = m) (hm2 : m ≤ 40) :
    Calls Try.prog 7 #[.slice A n0 c, .slice B m d, .int .i64 lv] w fun e w' => e = .returned (.bool true) ∧ Below w.heap.size w w' := by
  obtain ⟨i0, hi, hz0, hz1, hz2⟩ := info_parts Try.inIntF
  have H := Lib.hid h
  have HP := Lib.hid hp
  have HM := Lib.hid hm
  have hb1 : ¬ (40 : Int) < (n0 : Int) := by omega
  have hb2 : ¬ (40 : Int) < (m : Int) := by omega
  clear h hp hm
  refine (callsIn_wide (n := 5)).1 ?_
  refine callsIn_of_wp_marks Try.func7 rfl trivial ?_ rfl
  simp only [Try.ntmps7, List.size_toArray, List.length_cons, List.length_nil, Nat.reduceAdd, Nat.reduceSub, Array.replicate_succ, Array.replicate_zero, List.push_toArray, List.append_toArray, List.nil_append, List.cons_append]
  refine wpIn_wide.2 ?_
  go_wp2_with fail
  obtain ⟨W0, hW0⟩ : ∃ W, W = (((w.alloc (Obj.cells #[.slice B m d] 45)).alloc (Obj.cells #[.int .i64 lv] 3)).alloc (Obj.cells #[.bool false] 4)).alloc (Obj.cells #[.slice none 0 0] 46) := ⟨_, rfl⟩
  try rw [← hW0]
  have hB0 : Below w.heap.size w W0 := by
    rw [hW0]
    exact ((((Below.refl _ w).alloc (Nat.le_refl _) _).alloc (by simp) _).alloc (by simp; omega) _).alloc (by simp; omega) _
  have hrows : W0.heap[w.heap.size]? = some (Obj.cells #[.slice B m d] 45 (0, 0)) ∧ W0.heap[w.heap.size + 1]? = some (Obj.cells #[.int .i64 lv] 3 (0, 0)) ∧ W0.heap[w.heap.size + 1 + 1]? = some (Obj.cells #[.bool false] 4 (0, 0)) ∧ W0.heap[w.heap.size + 1 + 1 + 1]? = some (Obj.cells #[.slice none 0 0] 46 (0, 0)) ∧ W0.heap.size = w.heap.size + 1 + 1 + 1 + 1 := by
    obtain ⟨V1, hV1⟩ : ∃ V1, V1 = w.alloc (Obj.cells #[.slice B m d] 45) := ⟨_, rfl⟩
    obtain ⟨V2, hV2⟩ : ∃ V2, V2 = V1.alloc (Obj.cells #[.int .i64 lv] 3) := ⟨_, rfl⟩
    obtain ⟨V3, hV3⟩ : ∃ V3, V3 = V2.alloc (Obj.cells #[.bool false] 4) := ⟨_, rfl⟩
    have s1 : V1.heap.size = w.heap.size + 1 := by rw [hV1]; simp
    have s2 : V2.heap.size = w.heap.size + 1 + 1 := by rw [hV2, World.size_alloc, s1]
    have s3 : V3.heap.size = w.heap.size + 1 + 1 + 1 := by rw [hV3, World.size_alloc, s2]
    have a1 : V1.heap[w.heap.size]? = some (Obj.cells #[.slice B m d] 45 (0, 0)) := by rw [hV1]; exact heap_alloc_new w _
    have a2 : V2.heap[w.heap.size + 1]? = some (Obj.cells #[.int .i64 lv] 3 (0, 0)) := by rw [hV2, ← s1]; exact heap_alloc_new V1 _
    have a3 : V3.heap[w.heap.size + 1 + 1]? = some (Obj.cells #[.bool false] 4 (0, 0)) := by rw [hV3, ← s2]; exact heap_alloc_new V2 _
    have a4 : W0.heap[w.heap.size + 1 + 1 + 1]? = some (Obj.cells #[.slice none 0 0] 46 (0, 0)) := by rw [hW0, ← hV1, ← hV2, ← hV3, ← s3]; exact heap_alloc_new V3 _
    have e2 : ∀ k, k < V1.heap.size → V2.heap[k]? = V1.heap[k]? := fun k hk => by rw [hV2]; exact Below.heap_alloc _ _ _ hk
    have e3 : ∀ k, k < V2.heap.size → V3.heap[k]? = V2.heap[k]? := fun k hk => by rw [hV3]; exact Below.heap_alloc _ _ _ hk
    have e4 : ∀ k, k < V3.heap.size → W0.heap[k]? = V3.heap[k]? := fun k hk => by rw [hW0, ← hV1, ← hV2, ← hV3]; exact Below.heap_alloc _ _ _ hk
    exact ⟨((e4 _ (by omega)).trans ((e3 _ (by omega)).trans (e2 _ (by omega)))).trans a1, ((e4 _ (by omega)).trans (e3 _ (by omega))).trans a2, (e4 _ (by omega)).trans a3, a4, by rw [hW0, ← hV1, ← hV2, ← hV3, World.size_alloc, s3]⟩
  obtain ⟨h4, hh4⟩ : ∃ h4, h4 = w.heap.size := ⟨_, rfl⟩
  rw [← hh4] at hrows ⊢
  clear hW0
  have HB0 := Lib.hid hB0
  have HR := Lib.hid hrows
  have HH4 := Lib.hid hh4
  clear hB0 hrows hh4
  go_loopg [8] m (fun g i W => ∃ (k : Nat) (u : Value), k + g = m ∧ i = .int .i64 (k : Int) ∧ TurnO (· = h4 + 1 + 1 + 1) W0 W ∧ W.heap[h4 + 1 + 1 + 1]? = some (Obj.cells #[u] 46 (0, 0)) ∧ W.ownsRow W0.heap.size 3 1 u (hitsP L Ps k).length ((hitsP L Ps k).map fun (i : Nat) => Value.int .i64 (i : Int)))
  case atStart => exact ⟨0, .slice none 0 0, by omega, rfl, TurnO.refl _ _, HR.out.2.2.2.1, World.ownsRow_nil _ _ _ _⟩
  case round =>
    obtain ⟨k, u, hk, rfl, hT, h7, hown⟩ := hrel
    have hB := HB0.out.trans (hT.below HB0.out.size (fun k e => by rw [e]; have := HH4.out; omega))
    have HT := Lib.hid hT
    have HOW := Lib.hid hown
    have H7 := Lib.hid h7
    have HW := Lib.hid hB
    have c4 := cell_of_row _ _ 0 _ _ _ ((hT.block h4 (by have := HR.out.2.2.2.2; omega) (by omega)).trans HR.out.1)
    have c7 := cell_of_row _ _ 0 _ _ _ h7
    have f7 := frozen_of_row _ _ 0 _ _ h7
    have l7 := (Array.getElem?_eq_some_iff.1 h7).1
    have l4 := World.block_lt_of_cell? wr _ c4
    have HLk := Lib.hid (hitsP_len L Ps k)
    obtain ⟨Au, cu, rfl, -, hAu⟩ := own_form hown
    have HAU := Lib.hid hAu
    clear hT hown h7 hB hAu
    by_cases hlt : k < m
    · have hlt2 : (k : Int) < m := by omega
      obtain ⟨x, hx⟩ : ∃ x, Ps[k]? = some x := ⟨_, List.getElem?_eq_getElem (by rw [HM.out]; exact hlt)⟩
      obtain ⟨hok, b, o, rfl, hbl, hc⟩ := (HP.out.below HW.out) k x hx
      have HS := Lib.hid (hitsP_succ L Ps k)
      rw [hitP_at hx] at HS
      have HQM := Lib.hid (qmatch_any (H.out.below HW.out).ts n0 c H.out.len (by omega) hok.pk (pc := x.c) hok.len hok.n63)
      have hx63 := hok.n63
      have HXL := Lib.hid hok.len
      clear hok hx hbl
      by_cases h300 : x.n ≤ 300
      · have h300' : (x.n : Int) ≤ 300 := by omega
        cases hq : matchL L x.P with
        | false =>
          rw [hq] at HQM
          rw [hq, if_neg (by simp), List.append_nil] at HS
          clear hq
          go_wp2_with (go_at_call 12; refine HQM.out.mono ?_; rintro e w1 ⟨rfl, hb⟩)
          go_roundg (m - (k + 1))
          case measure => omega
          case rel => exact ⟨k + 1, _, by omega, by go_num, HT.out.trans (TurnO.of_below hb : TurnO (· = h4 + 1 + 1 + 1) wr w1) (fun b h => .inl h), (hb.block _ (Array.getElem?_eq_some_iff.1 H7.out).1).trans H7.out, by rw [HS.out]; exact own_stepF HOW.out hb⟩
        | true =>
          rw [hq] at HQM
          rw [hq, if_pos rfl] at HS
          clear hq
          go_wp2_with (first
            | (go_at_call 12; refine HQM.out.mono ?_; rintro e w1 ⟨rfl, hb⟩; have HT := Lib.hid (HT.out.trans (TurnO.of_below hb : TurnO (· = h4 + 1 + 1 + 1) wr w1) (fun b h => .inl h)); have HOW := Lib.hid (own_stepF HOW.out hb); have H7 := Lib.hid ((hb.block _ (Array.getElem?_eq_some_iff.1 H7.out).1).trans H7.out); have c7 := cell_of_row _ _ 0 _ _ _ H7.out; have f7 := frozen_of_row _ _ 0 _ _ H7.out; have l7 := (Array.getElem?_eq_some_iff.1 H7.out).1; clear hb)
            | (at_builtin; refine wpList_append_own _ rfl _ _ 46 rfl W0.heap.size 3 i0 (.int .i64 0) 1 8 Try.underlying46 hi hz0 hz1 hz2 rfl (by decide) _ _ _ rfl (HOW.out.alloc _) ⟨w1.heap.size, 0, none⟩ 1 1 [.int .i64 (k : Int)] rfl rfl (cells_new _ _ _) (by simp [Value.oneCell']) (by have := HLk.out; unfold maxLen; omega) (by have := HLk.out; omega) (by have := HT.out.size; simp; omega) ?_; intro v' w3 hown' hg3 hnil3; obtain ⟨Av, cv, ev, -, -⟩ := own_form hown'; subst ev; have h7r : w3.heap[h4 + 1 + 1 + 1]? = some (Obj.cells #[.slice Au (hitsP L Ps k).length cu] 46 (0, 0)) := (hg3.block _ (by simp; omega) (fun e => by have := (HOW.out.lt _ e.symm).1; have := HR.out.2.2.2.2; omega)).trans ((Below.heap_alloc _ _ _ l7).trans H7.out); have H73 := Lib.hid h7r; have c7 := cell_of_row _ _ 0 _ _ _ h7r; have f7 := frozen_of_row _ _ 0 _ _ h7r; have l7 := (Array.getElem?_eq_some_iff.1 h7r).1; have HG3 := Lib.hid hg3; have HO3 := Lib.hid hown'; clear h7r hg3 hown'))
          all_goals
            go_roundg (m - (k + 1))
            case measure => omega
            case rel =>
              refine ⟨k + 1, _, by omega, by go_num, ?_, heap_setCell_same _ _ 0 _ _ _ H73.out, ?_⟩
              · exact ((HT.out.trans (TurnO.of_below ((Below.refl _ w1).alloc (Nat.le_refl _) _) : TurnO (· = h4 + 1 + 1 + 1) w1 _) (fun b h => .inl h)).trans (TurnO.of_grown (O := fun b => W0.heap.size ≤ b) HG3.out (fun j hj => (HOW.out.lt j hj).1)) (fun b h => .inr h)).trans (TurnO.setCell (· = h4 + 1 + 1 + 1) _ _ _ _ rfl) (fun b h => .inl h)
              · rw [HS.out, List.length_append, List.map_append]
                refine owns_eq HO3.out fun g hg => ?_
                exact heap_setCell_other _ _ _ _ (fun e => by have e' : g = h4 + 1 + 1 + 1 := e; have := (HO3.out.lt g hg).1; have := HR.out.2.2.2.2; omega)
      · have h300' : ¬ (x.n : Int) ≤ 300 := by omega
        have hq : matchL L x.P = false := by
          cases hq : matchL L x.P with
          | false => rfl
          | true => have := match_le hq; have := HXL.out; omega
        rw [hq, if_neg (by simp), List.append_nil] at HS
        clear hq
        go_wp2_with fail
        all_goals
          go_roundg (m - (k + 1))
          case measure => omega
          case rel => exact ⟨k + 1, _, by omega, by go_num, HT.out, H7.out, by rw [HS.out]; exact HOW.out⟩
    · obtain rfl : m = k := by omega
      have hlt2 : ¬ (m : Int) < (m : Int) := by omega
      have HNIL := Lib.hid (fun (bx : Nat) (W : World) => eql_pass bx W)
      go_wp2_with (go_at_call 25; refine (passing_any (H.out.below HW.out) (by omega) (HP.out.below HW.out) HM.out (by omega)).mono ?_; rintro e w1 ⟨bx, v, vs, rfl, hps, hbx, hb⟩; have hnil := HNIL.out bx; have HLY := Lib.hid (show Ly w1 w.heap.size h4 (h4 + 1) (h4 + 1 + 1) (h4 + 1 + 1 + 1) bx m d (hitsP L Ps m).length cu B Au lv Ps (hitsP L Ps m) v vs from ly_start HR.out HT.out HB0.out HP.out H7.out HOW.out hps hb HH4.out HW.out); have HW1 := Lib.hid (HW.out.trans (hb.mono HW.out.size)); clear hps hbx hb)
      refine wp_loop_rounds 3 ?_
      rw [rounds_succ]
      go_wp2
      have HWC := Lib.hid (Nat.le_refl w1.heap.size)
      obtain ⟨W2, hW2⟩ : ∃ W, W = (w1.alloc (.cells #[.int .i64 0] 3)).alloc (.cells #[.int .i64 0] 3) := ⟨_, rfl⟩
      have hba : Below w1.heap.size w1 W2 := by rw [hW2]; exact ((Below.refl _ w1).alloc (Nat.le_refl _) _).alloc (by simp) _
      have hrowa : W2.heap[w1.heap.size]? = some (.cells #[.int .i64 0] 3 (0, 0)) ∧ W2.heap[w1.heap.size + 1]? = some (.cells #[.int .i64 0] 3 (0, 0)) ∧ W2.heap.size = w1.heap.size + 1 + 1 := by
        subst hW2
        have e3 := heap_alloc_new (w1.alloc (.cells #[.int .i64 0] 3)) (.cells #[.int .i64 0] 3)
        have e2 := (Below.heap_alloc (w1.alloc (.cells #[.int .i64 0] 3)) (.cells #[.int .i64 0] 3) w1.heap.size (by simp)).trans (heap_alloc_new w1 _)
        simp only [World.size_alloc] at e3
        exact ⟨e2, e3, by simp⟩
      rw [← hW2]
      have HBWa := Lib.hid hba
      have HROWa := Lib.hid hrowa
      clear hW2 hba hrowa
      refine (wpIn_wide (n := 5)).1 ?_
      refine range_p (is := hitsP L Ps m) (G := GaveAt W2.heap.size Ps (hitsP L Ps m)) (I := GpI W2 (w1.heap.size + 1)) (Ix := GpX W2 lv (w1.heap.size + 1) (hitsP L Ps m).length) (by omega) (gf := 35) (lb := #[.pointer (some ⟨bx, 0, none⟩)]) rfl (enters_of Try.func35 (by kernel_rfl) rfl)
        (passing_steps 4 (by omega) W2.heap.size w.heap.size bx Ps (hitsP L Ps m) v vs (by have := hitsP_len L Ps m; omega) _ (fun k W hI => ?firsta)) (gpI_own _ _ (by have := HROWa.out.2.2; omega)) (gave_own _ _ _) (gpX_own _ _ _ _ (by have := HROWa.out.2.2; omega)) ⟨TurnO.refl _ _, HROWa.out.2.1⟩
        ?assigna ?bodya ?donea ?stopa
      case firsta =>
        obtain ⟨htu, -⟩ := hI
        exact ⟨(HLY.out.step (HBWa.out.trans (htu.below (B := w1.heap.size) (by have := HROWa.out.2.2; omega) (fun g hg => by rw [hg]; omega)))).pass, htu.size⟩
      case assigna =>
        intro l k u W K hK
        simp only [List.setIfInBounds_toArray, List.set_cons_zero, List.set_cons_succ] at hK ⊢
        gi_wp2
        exact hK
      case bodya =>
        rintro l k u W hk hg ⟨htu, hcnt⟩
        simp only [List.setIfInBounds_toArray, List.set_cons_zero, List.set_cons_succ]
        have hrs := HROWa.out.2.2
        have hbW : Below w1.heap.size w1 W := HBWa.out.trans (htu.below (B := w1.heap.size) (by omega) (fun g hg => by rw [hg]; omega))
        have hL := HLY.out.step hbW
        have tc := cell_of_row _ _ 0 _ _ _ ((htu.block w1.heap.size (by omega) (by omega)).trans HROWa.out.1)
        have tl : w1.heap.size < W.heap.size := by have := htu.size; omega
        have d0 := cell_of_row _ _ 0 _ _ _ hcnt
        have df := frozen_of_row _ _ 0 _ _ hcnt
        have dl := (Array.getElem?_eq_some_iff.1 hcnt).1
        obtain ⟨i, hi⟩ : ∃ i, (hitsP L Ps m)[k]? = some i := ⟨_, List.getElem?_eq_getElem hk⟩
        have hgd : (hitsP L Ps m).getD k 0 = i := by rw [List.getD_eq_getElem?_getD, hi]; rfl
        obtain ⟨x, hx, hou, hl8, h8, h64⟩ := hg
        rw [hgd] at hx
        obtain ⟨Ap, cp, rfl, hAp, hAp2⟩ := own_form hou
        have cvu := fun nq => conv_pk ((pk_of_own hou hl8 h8 h64).pk.below (bdF (Below.refl _ W) nq)) x.n cp hl8
        have iwk := hL.iw
        obtain ⟨Aw, cw', ew, hw0, hw1⟩ := own_form iwk
        cases ew
        obtain ⟨gw, rfl⟩ : ∃ gw, Au = some ⟨gw, 0, none⟩ := by
          cases Au with
          | none => have := (hw0 rfl).1; omega
          | some ad => obtain ⟨g, rfl, -⟩ := hw1 ad rfl; exact ⟨g, rfl⟩
        have ci : W.cell? ⟨gw, k, none⟩ = some (.int .i64 (i : Int)) := by
          have := iwk.cells (g := gw) rfl k (.int .i64 (i : Int)) (by rw [List.getElem?_map, hi]; rfl)
          rwa [add_plain, Nat.zero_add] at this
        have c7 := cell_of_row _ _ 0 _ _ _ hL.e7
        obtain ⟨hok, b, o, rfl, hbl, hc⟩ := hL.ps i x hx
        have him : i < m := (hitsP_mem (List.mem_of_getElem? hi)).1
        have cvx := fun nq => conv_pk (hok.pk.below (bdF (Below.refl _ W) nq)) x.n x.c hok.len
        have c4 := hL.e4
        have c5 := hL.e5
        have HLW := Lib.hid hL
        have HTU := Lib.hid htu
        have HCN := Lib.hid hcnt
        have HNI := Lib.hid (Ninety.start hou)
        have HAP := Lib.hid (show (∀ g, Ap = some ⟨g, 0, none⟩ → W2.heap.size ≤ g ∧ g < W.heap.size) ∧ (∀ ad, Ap = some ad → ∃ g, ad = ⟨g, 0, none⟩) ∧ (Ap = none → x.n = 0) from
          ⟨fun g e => by obtain ⟨g', e2, h1, h2, -⟩ := hAp2 _ e; cases e2; exact ⟨h1, h2⟩, fun ad e => by obtain ⟨g', e2, -⟩ := hAp2 ad e; exact ⟨g', e2⟩, fun e => (hAp e).1⟩)
        have HKL := Lib.hid (show k < (hitsP L Ps m).length from hk)
        obtain ⟨N, hN⟩ : ∃ N, (hitsP L Ps m).length = N := ⟨_, rfl⟩
        rw [hN] at hk c7
        have hd1 : decide (N ≤ k) = false := by simp; omega
        have hd1' : decide ((N : Int) ≤ (k : Int)) = false := by simp; omega
        have hd2 : ((i : Int) != (i : Int)) = false := by simp
        have hkN : (k : Int) < (N : Int) := by omega
        have hkN' : k < N := hk
        have him' : (i : Int) < (m : Int) := by omega
        have HKN := Lib.hid hk
        have HN40 := Lib.hid (show N ≤ 40 by have := hitsP_len L Ps m; omega)
        rw [hgd] at *
        clear hbW hL htu hcnt hou hl8 h8 hAp hAp2 iwk hw0 hw1 hok hbl hi hx hN hgd hk
        gi_wp2_with fail
        refine region_quiet_round (by rfl) (by kernel_rfl) (by kernel_rfl) (by kernel_rfl) ?_
        repeat (gi_big_quiet_step (fail))
        refine wpQuietIn_nil ?_
        intro _ hw'
        obtain ⟨nq, hw''⟩ := hw'
        subst hw''
        clear cvu cvx ci hc c7 c4 hd1 hd1' hd2
        gi_wp2_with fail
        gi_loopw [14] (fun i wq => ∃ j : Nat, j ≤ x.n ∧ i = .int .i64 (j : Int) ∧ Ninety W wq Ap x.n) (fun i _ => x.n - (intOf i).toNat)
        case atStart => exact ⟨0, Nat.zero_le _, rfl, HNI.out.drewN _⟩
        case round =>
          obtain ⟨j, hj, rfl, hni⟩ := hrel
          have HNJ := Lib.hid hni
          clear hni
          by_cases hjt : j < x.n
          · have hjt' : (j : Int) < (x.n : Int) := by omega
            obtain ⟨gp, rfl⟩ : ∃ gp, Ap = some ⟨gp, 0, none⟩ := by
              cases Ap with
              | none => have := HAP.out.2.2 rfl; omega
              | some ad => obtain ⟨g, rfl⟩ := HAP.out.2.1 ad rfl; exact ⟨g, rfl⟩
            obtain ⟨cur, q1, q2⟩ := HNJ.out.row gp rfl
            have q3 := (cell_of_row _ _ j _ _ _ q1).trans (Array.getElem?_eq_getElem (by omega))
            have q4 := frozen_of_row _ _ j _ _ q1
            have q5 := (Array.getElem?_eq_some_iff.1 q1).1
            have HST := Lib.hid (HNJ.out.set j (.int .u8 99))
            clear q1
            gi_wp2
            go_roundw
            case rel => exact ⟨j + 1, by omega, by go_num, HST.out⟩
            case measure => simp [intOf]; omega
          · obtain rfl : j = x.n := by omega
            have hjt' : ¬ (x.n : Int) < (x.n : Int) := by omega
            have hmn2 : w1.heap.size + 1 < W2.heap.size := by have := HROWa.out.2.2; omega
            have hnp : ∀ q, q < W2.heap.size → ¬ Ap = some ⟨q, 0, none⟩ := fun q hq e => by have := (HAP.out.1 q e).1; omega
            have hsz := HTU.out.size
            have kn := (HNJ.out.turn.block (w1.heap.size + 1) (by omega) (hnp _ hmn2)).trans HCN.out
            have u0 := cell_of_row _ _ 0 _ _ _ kn
            have u1 := frozen_of_row _ _ 0 _ _ kn
            have u2 := (Array.getElem?_eq_some_iff.1 kn).1
            have tc2 := (World.cell?_of_block (a := ⟨w1.heap.size, 0, none⟩) (HNJ.out.turn.block w1.heap.size (by omega) (hnp _ (by omega)))).trans tc
            have l5 : h4 + 1 < w1.heap.size := World.block_lt_of_cell? _ _ HLY.out.e5
            have c52 := (World.cell?_of_block (a := ⟨h4 + 1, 0, none⟩) (HNJ.out.turn.block (h4 + 1) (by omega) (hnp _ (by omega)))).trans c5
            have hne1 : w1.heap.size ≠ w1.heap.size + 1 := by omega
            have hne2 : h4 + 1 ≠ w1.heap.size + 1 := by omega
            have hw := show IntKind.i64.wrap ((k : Int) + 1) = (k : Int) + 1 from IntWalk.i64_in _ (by have := HKN.out; have := HN40.out; omega)
            have lt1 : w1.heap.size < wr.heap.size := by omega
            have lt5 : h4 + 1 < wr.heap.size := by omega
            have KEEP := Lib.hid (keep_ninety HNJ.out HNI.out hmn2 (.int .i64 ((k : Int) + 1)))
            have TEND := Lib.hid (show TurnO (· = w1.heap.size + 1) W2 (wr.setCell ⟨w1.heap.size + 1, 0, none⟩ (.int .i64 ((k : Int) + 1))) from
              (HTU.out.trans HNJ.out.turn (fun b hb => .inr (HAP.out.1 b hb).1)).trans (TurnO.setCell (· = w1.heap.size + 1) _ _ _ _ rfl) (fun b hb => .inl hb))
            have HEND := Lib.hid (show (wr.setCell ⟨w1.heap.size + 1, 0, none⟩ (.int .i64 ((k : Int) + 1))).heap[w1.heap.size + 1]? = some (.cells #[.int .i64 ((k : Int) + 1)] 3 (0, 0)) by
              rw [heap_setCell_same _ _ 0 _ _ _ kn]; rfl)
            clear d0 df dl tc tl kn hnp hsz hrs hmn2
            gi_wp2
            · rename_i hq
              have hq' : (k : Int) + 1 = lv := by simpa using hq
              refine ⟨KEEP.out, rfl, TEND.out, ⟨k + 1, by have := HKL.out; omega, by rw [← hq']; rfl⟩, ?_⟩
              rw [← hq']
              exact HEND.out
            · refine ⟨KEEP.out, TEND.out, ?_⟩
              have := HEND.out
              rwa [show ((k : Int) + 1) = ((k + 1 : Nat) : Int) by omega] at this
      case donea =>
        rintro Da Wa hDa ⟨htu, hcnt⟩ hKa
        have hrs := HROWa.out.2.2
        have hbWa : Below w1.heap.size w1 Wa := HBWa.out.trans (htu.below (B := w1.heap.size) (by omega) (fun g hg => by rw [hg]; omega))
        have HLa := Lib.hid (HLY.out.step hbWa)
        have t10 := cell_of_row _ _ 0 _ _ _ ((htu.block w1.heap.size (by omega) (by omega)).trans HROWa.out.1)
        have t11 := cell_of_row _ _ 0 _ _ _ hcnt
        have t7 := cell_of_row _ _ 0 _ _ _ HLa.out.e7
        have t5 := HLa.out.e5
        have HBA := Lib.hid (HW1.out.trans (hbWa.mono HW1.out.size))
        have HKA := Lib.hid hKa
        have HDA := Lib.hid (show w.heap.size ≤ Da from by have := HW1.out.size; omega)
        have HLC := Lib.hid (show h4 + 1 + 1 + 1 < Wa.heap.size from (Array.getElem?_eq_some_iff.1 HLa.out.e7).1)
        obtain ⟨N9, hN9⟩ : ∃ N9, (hitsP L Ps m).length = N9 := ⟨_, rfl⟩
        have t7' := t7
        have t11' := t11
        rw [hN9] at t7' t11'
        clear t7 t11 hN9 hKa hDa htu hcnt hbWa hrs
        go_wp2
        rw [rounds_succ]
        go_wp2
        have HWAC := Lib.hid (Nat.le_refl Wa.heap.size)
        obtain ⟨W3, hW3⟩ : ∃ W, W = (Wa.alloc (.cells #[.int .i64 1] 3)).alloc (.cells #[.int .i64 0] 3) := ⟨_, rfl⟩
        have hbb : Below Wa.heap.size Wa W3 := by rw [hW3]; exact ((Below.refl _ Wa).alloc (Nat.le_refl _) _).alloc (by simp) _
        have hrowb : W3.heap[Wa.heap.size]? = some (.cells #[.int .i64 1] 3 (0, 0)) ∧ W3.heap[Wa.heap.size + 1]? = some (.cells #[.int .i64 0] 3 (0, 0)) ∧ W3.heap.size = Wa.heap.size + 1 + 1 := by
          subst hW3
          have e3 := heap_alloc_new (Wa.alloc (.cells #[.int .i64 1] 3)) (.cells #[.int .i64 0] 3)
          have e2 := (Below.heap_alloc (Wa.alloc (.cells #[.int .i64 1] 3)) (.cells #[.int .i64 0] 3) Wa.heap.size (by simp)).trans (heap_alloc_new Wa _)
          simp only [World.size_alloc] at e3
          exact ⟨e2, e3, by simp⟩
        rw [← hW3]
        have HBWb := Lib.hid hbb
        have HROWb := Lib.hid hrowb
        clear hW3 hbb hrowb
        refine (wpIn_wide (n := 5)).1 ?_
        refine range_p (is := hitsP L Ps m) (G := GaveAt W3.heap.size Ps (hitsP L Ps m)) (I := GpI W3 (Wa.heap.size + 1)) (Ix := fun _ _ => False) (by omega) (gf := 35) (lb := #[.pointer (some ⟨bx, 0, none⟩)]) rfl (enters_of Try.func35 (by kernel_rfl) rfl)
          (passing_steps 4 (by omega) W3.heap.size w.heap.size bx Ps (hitsP L Ps m) v vs (by have := hitsP_len L Ps m; omega) _ (fun k W hI => ?firstb)) (gpI_own _ _ (by have := HROWb.out.2.2; omega)) (gave_own _ _ _) (fun c => fun _ _ _ _ h _ _ => h.elim) ⟨TurnO.refl _ _, HROWb.out.2.1⟩
          ?assignb ?bodyb ?doneb ?stopb
        case firstb =>
          obtain ⟨htu, -⟩ := hI
          exact ⟨(HLa.out.step (HBWb.out.trans (htu.below (B := Wa.heap.size) (by have := HROWb.out.2.2; omega) (fun g hg => by rw [hg]; omega)))).pass, htu.size⟩
        case assignb =>
          intro l k u W K hK
          simp only [List.setIfInBounds_toArray, List.set_cons_zero, List.set_cons_succ] at hK ⊢
          gi_wp2
          exact hK
        case bodyb =>
          rintro l k u W hk hg ⟨htu, hcnt⟩
          simp only [List.setIfInBounds_toArray, List.set_cons_zero, List.set_cons_succ]
          have hrs := HROWb.out.2.2
          have hbW : Below Wa.heap.size Wa W := HBWb.out.trans (htu.below (B := Wa.heap.size) (by omega) (fun g hg => by rw [hg]; omega))
          have hL := HLa.out.step hbW
          have tc := cell_of_row _ _ 0 _ _ _ ((htu.block Wa.heap.size (by omega) (by omega)).trans HROWb.out.1)
          have tl : Wa.heap.size < W.heap.size := by have := htu.size; omega
          have d0 := cell_of_row _ _ 0 _ _ _ hcnt
          have df := frozen_of_row _ _ 0 _ _ hcnt
          have dl := (Array.getElem?_eq_some_iff.1 hcnt).1
          obtain ⟨i, hi⟩ : ∃ i, (hitsP L Ps m)[k]? = some i := ⟨_, List.getElem?_eq_getElem hk⟩
          have hgd : (hitsP L Ps m).getD k 0 = i := by rw [List.getD_eq_getElem?_getD, hi]; rfl
          obtain ⟨x, hx, hou, hl8, h8, h64⟩ := hg
          rw [hgd] at hx
          obtain ⟨Ap, cp, rfl, hAp, hAp2⟩ := own_form hou
          have cvu := fun nq => conv_pk ((pk_of_own hou hl8 h8 h64).pk.below (bdF (Below.refl _ W) nq)) x.n cp hl8
          have iwk := hL.iw
          obtain ⟨Aw, cw', ew, hw0, hw1⟩ := own_form iwk
          cases ew
          obtain ⟨gw, rfl⟩ : ∃ gw, Au = some ⟨gw, 0, none⟩ := by
            cases Au with
            | none => have := (hw0 rfl).1; omega
            | some ad => obtain ⟨g, rfl, -⟩ := hw1 ad rfl; exact ⟨g, rfl⟩
          have ci : W.cell? ⟨gw, k, none⟩ = some (.int .i64 (i : Int)) := by
            have := iwk.cells (g := gw) rfl k (.int .i64 (i : Int)) (by rw [List.getElem?_map, hi]; rfl)
            rwa [add_plain, Nat.zero_add] at this
          have c7 := cell_of_row _ _ 0 _ _ _ hL.e7
          obtain ⟨hok, b, o, rfl, hbl, hc⟩ := hL.ps i x hx
          have him : i < m := (hitsP_mem (List.mem_of_getElem? hi)).1
          have cvx := fun nq => conv_pk (hok.pk.below (bdF (Below.refl _ W) nq)) x.n x.c hok.len
          have c4 := hL.e4
          have c5 := hL.e5
          have HLW := Lib.hid hL
          have HTU := Lib.hid htu
          have HCN := Lib.hid hcnt
          have HNI := Lib.hid (Ninety.start hou)
          have HAP := Lib.hid (show (∀ g, Ap = some ⟨g, 0, none⟩ → W3.heap.size ≤ g ∧ g < W.heap.size) ∧ (∀ ad, Ap = some ad → ∃ g, ad = ⟨g, 0, none⟩) ∧ (Ap = none → x.n = 0) from
            ⟨fun g e => by obtain ⟨g', e2, h1, h2, -⟩ := hAp2 _ e; cases e2; exact ⟨h1, h2⟩, fun ad e => by obtain ⟨g', e2, -⟩ := hAp2 ad e; exact ⟨g', e2⟩, fun e => (hAp e).1⟩)
          have HKL := Lib.hid (show k < (hitsP L Ps m).length from hk)
          obtain ⟨N, hN⟩ : ∃ N, (hitsP L Ps m).length = N := ⟨_, rfl⟩
          rw [hN] at hk c7
          have hd1 : decide (N ≤ k) = false := by simp; omega
          have hd1' : decide ((N : Int) ≤ (k : Int)) = false := by simp; omega
          have hd2 : ((i : Int) != (i : Int)) = false := by simp
          have hkN : (k : Int) < (N : Int) := by omega
          have hkN' : k < N := hk
          have him' : (i : Int) < (m : Int) := by omega
          have HKN := Lib.hid hk
          have HN40 := Lib.hid (show N ≤ 40 by have := hitsP_len L Ps m; omega)
          rw [hgd] at *
          clear hbW hL htu hcnt hou hl8 h8 hAp hAp2 iwk hw0 hw1 hok hbl hi hx hN hgd hk
          gi_wp2_with fail
          refine region_quiet_round (by rfl) (by kernel_rfl) (by kernel_rfl) (by kernel_rfl) ?_
          repeat (gi_big_quiet_step (fail))
          refine wpQuietIn_nil ?_
          intro _ hw'
          obtain ⟨nq, hw''⟩ := hw'
          subst hw''
          clear cvu cvx ci hc c7 c4 hd1 hd1' hd2
          gi_wp2_with fail
          gi_loopw [14] (fun i wq => ∃ j : Nat, j ≤ x.n ∧ i = .int .i64 (j : Int) ∧ Ninety W wq Ap x.n) (fun i _ => x.n - (intOf i).toNat)
          case atStart => exact ⟨0, Nat.zero_le _, rfl, HNI.out.drewN _⟩
          case round =>
            obtain ⟨j, hj, rfl, hni⟩ := hrel
            have HNJ := Lib.hid hni
            clear hni
            by_cases hjt : j < x.n
            · have hjt' : (j : Int) < (x.n : Int) := by omega
              obtain ⟨gp, rfl⟩ : ∃ gp, Ap = some ⟨gp, 0, none⟩ := by
                cases Ap with
                | none => have := HAP.out.2.2 rfl; omega
                | some ad => obtain ⟨g, rfl⟩ := HAP.out.2.1 ad rfl; exact ⟨g, rfl⟩
              obtain ⟨cur, q1, q2⟩ := HNJ.out.row gp rfl
              have q3 := (cell_of_row _ _ j _ _ _ q1).trans (Array.getElem?_eq_getElem (by omega))
              have q4 := frozen_of_row _ _ j _ _ q1
              have q5 := (Array.getElem?_eq_some_iff.1 q1).1
              have HST := Lib.hid (HNJ.out.set j (.int .u8 99))
              clear q1
              gi_wp2
              go_roundw
              case rel => exact ⟨j + 1, by omega, by go_num, HST.out⟩
              case measure => simp [intOf]; omega
            · obtain rfl : j = x.n := by omega
              have hjt' : ¬ (x.n : Int) < (x.n : Int) := by omega
              have hmn2 : Wa.heap.size + 1 < W3.heap.size := by have := HROWb.out.2.2; omega
              have hnp : ∀ q, q < W3.heap.size → ¬ Ap = some ⟨q, 0, none⟩ := fun q hq e => by have := (HAP.out.1 q e).1; omega
              have hsz := HTU.out.size
              have kn := (HNJ.out.turn.block (Wa.heap.size + 1) (by omega) (hnp _ hmn2)).trans HCN.out
              have u0 := cell_of_row _ _ 0 _ _ _ kn
              have u1 := frozen_of_row _ _ 0 _ _ kn
              have u2 := (Array.getElem?_eq_some_iff.1 kn).1
              have tc2 := (World.cell?_of_block (a := ⟨Wa.heap.size, 0, none⟩) (HNJ.out.turn.block Wa.heap.size (by omega) (hnp _ (by omega)))).trans tc
              have l5 : h4 + 1 < Wa.heap.size := World.block_lt_of_cell? _ _ HLa.out.e5
              have c52 := (World.cell?_of_block (a := ⟨h4 + 1, 0, none⟩) (HNJ.out.turn.block (h4 + 1) (by omega) (hnp _ (by omega)))).trans c5
              have hne1 : Wa.heap.size ≠ Wa.heap.size + 1 := by omega
              have hne2 : h4 + 1 ≠ Wa.heap.size + 1 := by omega
              have hw := show IntKind.i64.wrap ((k : Int) + 1) = (k : Int) + 1 from IntWalk.i64_in _ (by have := HKN.out; have := HN40.out; omega)
              have lt1 : Wa.heap.size < wr.heap.size := by omega
              have lt5 : h4 + 1 < wr.heap.size := by omega
              have KEEP := Lib.hid (keep_ninety HNJ.out HNI.out hmn2 (.int .i64 ((k : Int) + 1)))
              have TEND := Lib.hid (show TurnO (· = Wa.heap.size + 1) W3 (wr.setCell ⟨Wa.heap.size + 1, 0, none⟩ (.int .i64 ((k : Int) + 1))) from
                (HTU.out.trans HNJ.out.turn (fun b hb => .inr (HAP.out.1 b hb).1)).trans (TurnO.setCell (· = Wa.heap.size + 1) _ _ _ _ rfl) (fun b hb => .inl hb))
              have HEND := Lib.hid (show (wr.setCell ⟨Wa.heap.size + 1, 0, none⟩ (.int .i64 ((k : Int) + 1))).heap[Wa.heap.size + 1]? = some (.cells #[.int .i64 ((k : Int) + 1)] 3 (0, 0)) by
                rw [heap_setCell_same _ _ 0 _ _ _ kn]; rfl)
              clear d0 df dl tc tl kn hnp hsz hrs hmn2
              gi_wp2
              refine ⟨KEEP.out, TEND.out, ?_⟩
              have := HEND.out
              rwa [show ((k : Int) + 1) = ((k + 1 : Nat) : Int) by omega] at this
        case doneb =>
          rintro Db Wb hDb ⟨htu, hcnt⟩ hKb
          have hrs := HROWb.out.2.2
          have hbWb : Below Wa.heap.size Wa Wb := HBWb.out.trans (htu.below (B := Wa.heap.size) (by omega) (fun g hg => by rw [hg]; omega))
          have HLb := Lib.hid (HLa.out.step hbWb)
          have t10 := cell_of_row _ _ 0 _ _ _ ((htu.block Wa.heap.size (by omega) (by omega)).trans HROWb.out.1)
          have t11 := cell_of_row _ _ 0 _ _ _ hcnt
          have t7 := cell_of_row _ _ 0 _ _ _ HLb.out.e7
          have HBB := Lib.hid (HBA.out.trans (hbWb.mono HBA.out.size))
          have HKB := Lib.hid hKb
          have HKAB := Lib.hid ((hbWb.block Da (Array.getElem?_eq_some_iff.1 HKA.out).1).trans HKA.out)
          have HDB := Lib.hid (show w.heap.size ≤ Db from by have := HBA.out.size; omega)
          have hDab : Da ≠ Db := fun e => by have := (Array.getElem?_eq_some_iff.1 HKA.out).1; omega
          have HDab := Lib.hid hDab
          have nB : ¬ Db = h4 + 1 + 1 := by have := HLC.out; omega
          have HNB := Lib.hid nB
          have nA : ¬ Da = h4 + 1 + 1 := fun e => by have h' := HLa.out.e6; rw [← e, HKA.out] at h'; cases h'
          have HNA := Lib.hid nA
          clear hKb hDb htu hcnt hbWb hrs hDab nB nA
          obtain ⟨N9, hN9⟩ : ∃ N9, (hitsP L Ps m).length = N9 := ⟨_, rfl⟩
          have t7' := t7
          have t11' := t11
          rw [hN9] at t7' t11'
          clear t7 t11 hN9
          go_wp2
          rw [rounds_succ]
          go_wp2_with (go_at_call 8; refine (known_anyF _).mono ?_; rintro e w9 ⟨rfl, hb9⟩; have hbx9 := ((Below.refl Wb.heap.size Wb).alloc (Nat.le_refl _) (Obj.cells #[.int .i64 2] 3)).trans (hb9.mono (by simp)); have HB9 := Lib.hid hbx9; have r6 := (hbx9.block _ (Array.getElem?_eq_some_iff.1 HLb.out.e6).1).trans HLb.out.e6; have R6 := Lib.hid r6; have t6 := cell_of_row _ _ 0 _ _ _ r6; have f6 := frozen_of_row _ _ 0 _ _ r6; have l6 := (Array.getElem?_eq_some_iff.1 r6).1; clear r6 hbx9 hb9)
          have KB := Lib.hid (show (w9.setCell ⟨h4 + 1 + 1, 0, none⟩ (.bool true)).heap[Db]? = some (.deferred (some [])) from
            (heap_setCell_other _ _ _ _ HNB.out).trans ((HB9.out.block _ (Array.getElem?_eq_some_iff.1 HKB.out).1).trans HKB.out))
          have KA := Lib.hid (show ((w9.setCell ⟨h4 + 1 + 1, 0, none⟩ (.bool true)).putObj Db (.deferred none)).heap[Da]? = some (.deferred (some [])) from
            (World.putObj_heap_other HDab.out).trans ((heap_setCell_other _ _ _ _ HNA.out).trans ((HB9.out.block _ (Array.getElem?_eq_some_iff.1 HKAB.out).1).trans HKAB.out)))
          have hres := Lib.hid (show (((w9.setCell ⟨h4 + 1 + 1, 0, none⟩ (.bool true)).putObj Db (.deferred none)).putObj Da (.deferred none)).cell? ⟨h4 + 1 + 1, 0, none⟩ = some (.bool true) from
            (World.cell?_of_block (a := ⟨h4 + 1 + 1, 0, none⟩) (World.putObj_heap_other (Ne.symm HNA.out))).trans ((World.cell?_of_block (a := ⟨h4 + 1 + 1, 0, none⟩) (World.putObj_heap_other (Ne.symm HNB.out))).trans (cell_of_row _ _ 0 _ _ _ (heap_setCell_same _ _ 0 _ _ _ R6.out))))
          have HFIN := Lib.hid (show Below w.heap.size w (((w9.setCell ⟨h4 + 1 + 1, 0, none⟩ (.bool true)).putObj Db (.deferred none)).putObj Da (.deferred none)) from
            ((((HBB.out.trans (HB9.out.mono HBB.out.size)).setCell (by show w.heap.size ≤ h4 + 1 + 1; have := HH4.out; omega) _).trans (below_putF _ HDB.out)).trans (below_putF _ HDA.out)))
          refine ⟨by simp, .inl ⟨_, _, rfl, run_takeDeferred KB.out, ?_⟩⟩
          refine ⟨by simp, .inl ⟨_, _, rfl, run_takeDeferred KA.out, ?_⟩⟩
          refine ⟨.bool true, ?_, rfl, HFIN.out⟩
          have hc2 := hres.out
          simp [results, Try.f7, go_sem, hc2]
        case stopb => rintro D c W hD h; exact h.elim
      case stopa =>
        rintro Da c Wa hDa ⟨rfl, htu, ⟨kk, hkk, hlv⟩, hcnt⟩ hKa
        by_cases hq : kk = (hitsP L Ps m).length
        · subst hlv
          rw [hq] at hcnt
          have hrs := HROWa.out.2.2
          have hbWa : Below w1.heap.size w1 Wa := HBWa.out.trans (htu.below (B := w1.heap.size) (by omega) (fun g hg => by rw [hg]; omega))
          have HLa := Lib.hid (HLY.out.step hbWa)
          have t10 := cell_of_row _ _ 0 _ _ _ ((htu.block w1.heap.size (by omega) (by omega)).trans HROWa.out.1)
          have t11 := cell_of_row _ _ 0 _ _ _ hcnt
          have t7 := cell_of_row _ _ 0 _ _ _ HLa.out.e7
          have t5 := HLa.out.e5
          have HBA := Lib.hid (HW1.out.trans (hbWa.mono HW1.out.size))
          have HKA := Lib.hid hKa
          have HDA := Lib.hid (show w.heap.size ≤ Da from by have := HW1.out.size; omega)
          have HLC := Lib.hid (show h4 + 1 + 1 + 1 < Wa.heap.size from (Array.getElem?_eq_some_iff.1 HLa.out.e7).1)
          obtain ⟨N9, hN9⟩ : ∃ N9, (hitsP L Ps m).length = N9 := ⟨_, rfl⟩
          rw [hN9] at t7 t11
          clear hN9 hq hkk
          have t7' := t7
          have t11' := t11
          clear t7 t11 hKa hDa htu hcnt hbWa hrs
          gi_wp2
          go_wp2
          rw [rounds_succ]
          go_wp2
          have HWAC := Lib.hid (Nat.le_refl Wa.heap.size)
          obtain ⟨W3, hW3⟩ : ∃ W, W = (Wa.alloc (.cells #[.int .i64 1] 3)).alloc (.cells #[.int .i64 0] 3) := ⟨_, rfl⟩
          have hbb : Below Wa.heap.size Wa W3 := by rw [hW3]; exact ((Below.refl _ Wa).alloc (Nat.le_refl _) _).alloc (by simp) _
          have hrowb : W3.heap[Wa.heap.size]? = some (.cells #[.int .i64 1] 3 (0, 0)) ∧ W3.heap[Wa.heap.size + 1]? = some (.cells #[.int .i64 0] 3 (0, 0)) ∧ W3.heap.size = Wa.heap.size + 1 + 1 := by
            subst hW3
            have e3 := heap_alloc_new (Wa.alloc (.cells #[.int .i64 1] 3)) (.cells #[.int .i64 0] 3)
            have e2 := (Below.heap_alloc (Wa.alloc (.cells #[.int .i64 1] 3)) (.cells #[.int .i64 0] 3) Wa.heap.size (by simp)).trans (heap_alloc_new Wa _)
            simp only [World.size_alloc] at e3
            exact ⟨e2, e3, by simp⟩
          rw [← hW3]
          have HBWb := Lib.hid hbb
          have HROWb := Lib.hid hrowb
          clear hW3 hbb hrowb
          refine (wpIn_wide (n := 5)).1 ?_
          refine range_p (is := hitsP L Ps m) (G := GaveAt W3.heap.size Ps (hitsP L Ps m)) (I := GpI W3 (Wa.heap.size + 1)) (Ix := fun _ _ => False) (by omega) (gf := 35) (lb := #[.pointer (some ⟨bx, 0, none⟩)]) rfl (enters_of Try.func35 (by kernel_rfl) rfl)
            (passing_steps 4 (by omega) W3.heap.size w.heap.size bx Ps (hitsP L Ps m) v vs (by have := hitsP_len L Ps m; omega) _ (fun k W hI => ?firstb)) (gpI_own _ _ (by have := HROWb.out.2.2; omega)) (gave_own _ _ _) (fun c => fun _ _ _ _ h _ _ => h.elim) ⟨TurnO.refl _ _, HROWb.out.2.1⟩
            ?assignb ?bodyb ?doneb ?stopb
          case firstb =>
            obtain ⟨htu, -⟩ := hI
            exact ⟨(HLa.out.step (HBWb.out.trans (htu.below (B := Wa.heap.size) (by have := HROWb.out.2.2; omega) (fun g hg => by rw [hg]; omega)))).pass, htu.size⟩
          case assignb =>
            intro l k u W K hK
            simp only [List.setIfInBounds_toArray, List.set_cons_zero, List.set_cons_succ] at hK ⊢
            gi_wp2
            exact hK
          case bodyb =>
            rintro l k u W hk hg ⟨htu, hcnt⟩
            simp only [List.setIfInBounds_toArray, List.set_cons_zero, List.set_cons_succ]
            have hrs := HROWb.out.2.2
            have hbW : Below Wa.heap.size Wa W := HBWb.out.trans (htu.below (B := Wa.heap.size) (by omega) (fun g hg => by rw [hg]; omega))
            have hL := HLa.out.step hbW
            have tc := cell_of_row _ _ 0 _ _ _ ((htu.block Wa.heap.size (by omega) (by omega)).trans HROWb.out.1)
            have tl : Wa.heap.size < W.heap.size := by have := htu.size; omega
            have d0 := cell_of_row _ _ 0 _ _ _ hcnt
            have df := frozen_of_row _ _ 0 _ _ hcnt
            have dl := (Array.getElem?_eq_some_iff.1 hcnt).1
            obtain ⟨i, hi⟩ : ∃ i, (hitsP L Ps m)[k]? = some i := ⟨_, List.getElem?_eq_getElem hk⟩
            have hgd : (hitsP L Ps m).getD k 0 = i := by rw [List.getD_eq_getElem?_getD, hi]; rfl
            obtain ⟨x, hx, hou, hl8, h8, h64⟩ := hg
            rw [hgd] at hx
            obtain ⟨Ap, cp, rfl, hAp, hAp2⟩ := own_form hou
            have cvu := fun nq => conv_pk ((pk_of_own hou hl8 h8 h64).pk.below (bdF (Below.refl _ W) nq)) x.n cp hl8
            have iwk := hL.iw
            obtain ⟨Aw, cw', ew, hw0, hw1⟩ := own_form iwk
            cases ew
            obtain ⟨gw, rfl⟩ : ∃ gw, Au = some ⟨gw, 0, none⟩ := by
              cases Au with
              | none => have := (hw0 rfl).1; omega
              | some ad => obtain ⟨g, rfl, -⟩ := hw1 ad rfl; exact ⟨g, rfl⟩
            have ci : W.cell? ⟨gw, k, none⟩ = some (.int .i64 (i : Int)) := by
              have := iwk.cells (g := gw) rfl k (.int .i64 (i : Int)) (by rw [List.getElem?_map, hi]; rfl)
              rwa [add_plain, Nat.zero_add] at this
            have c7 := cell_of_row _ _ 0 _ _ _ hL.e7
            obtain ⟨hok, b, o, rfl, hbl, hc⟩ := hL.ps i x hx
            have him : i < m := (hitsP_mem (List.mem_of_getElem? hi)).1
            have cvx := fun nq => conv_pk (hok.pk.below (bdF (Below.refl _ W) nq)) x.n x.c hok.len
            have c4 := hL.e4
            have c5 := hL.e5
            have HLW := Lib.hid hL
            have HTU := Lib.hid htu
            have HCN := Lib.hid hcnt
            have HNI := Lib.hid (Ninety.start hou)
            have HAP := Lib.hid (show (∀ g, Ap = some ⟨g, 0, none⟩ → W3.heap.size ≤ g ∧ g < W.heap.size) ∧ (∀ ad, Ap = some ad → ∃ g, ad = ⟨g, 0, none⟩) ∧ (Ap = none → x.n = 0) from
              ⟨fun g e => by obtain ⟨g', e2, h1, h2, -⟩ := hAp2 _ e; cases e2; exact ⟨h1, h2⟩, fun ad e => by obtain ⟨g', e2, -⟩ := hAp2 ad e; exact ⟨g', e2⟩, fun e => (hAp e).1⟩)
            have HKL := Lib.hid (show k < (hitsP L Ps m).length from hk)
            obtain ⟨N, hN⟩ : ∃ N, (hitsP L Ps m).length = N := ⟨_, rfl⟩
            rw [hN] at hk c7
            have hd1 : decide (N ≤ k) = false := by simp; omega
            have hd1' : decide ((N : Int) ≤ (k : Int)) = false := by simp; omega
            have hd2 : ((i : Int) != (i : Int)) = false := by simp
            have hkN : (k : Int) < (N : Int) := by omega
            have hkN' : k < N := hk
            have him' : (i : Int) < (m : Int) := by omega
            have HKN := Lib.hid hk
            have HN40 := Lib.hid (show N ≤ 40 by have := hitsP_len L Ps m; omega)
            rw [hgd] at *
            clear hbW hL htu hcnt hou hl8 h8 hAp hAp2 iwk hw0 hw1 hok hbl hi hx hN hgd hk
            gi_wp2_with fail
            refine region_quiet_round (by rfl) (by kernel_rfl) (by kernel_rfl) (by kernel_rfl) ?_
            repeat (gi_big_quiet_step (fail))
            refine wpQuietIn_nil ?_
            intro _ hw'
            obtain ⟨nq, hw''⟩ := hw'
            subst hw''
            clear cvu cvx ci hc c7 c4 hd1 hd1' hd2
            gi_wp2_with fail
            gi_loopw [14] (fun i wq => ∃ j : Nat, j ≤ x.n ∧ i = .int .i64 (j : Int) ∧ Ninety W wq Ap x.n) (fun i _ => x.n - (intOf i).toNat)
            case atStart => exact ⟨0, Nat.zero_le _, rfl, HNI.out.drewN _⟩
            case round =>
              obtain ⟨j, hj, rfl, hni⟩ := hrel
              have HNJ := Lib.hid hni
              clear hni
              by_cases hjt : j < x.n
              · have hjt' : (j : Int) < (x.n : Int) := by omega
                obtain ⟨gp, rfl⟩ : ∃ gp, Ap = some ⟨gp, 0, none⟩ := by
                  cases Ap with
                  | none => have := HAP.out.2.2 rfl; omega
                  | some ad => obtain ⟨g, rfl⟩ := HAP.out.2.1 ad rfl; exact ⟨g, rfl⟩
                obtain ⟨cur, q1, q2⟩ := HNJ.out.row gp rfl
                have q3 := (cell_of_row _ _ j _ _ _ q1).trans (Array.getElem?_eq_getElem (by omega))
                have q4 := frozen_of_row _ _ j _ _ q1
                have q5 := (Array.getElem?_eq_some_iff.1 q1).1
                have HST := Lib.hid (HNJ.out.set j (.int .u8 99))
                clear q1
                gi_wp2
                go_roundw
                case rel => exact ⟨j + 1, by omega, by go_num, HST.out⟩
                case measure => simp [intOf]; omega
              · obtain rfl : j = x.n := by omega
                have hjt' : ¬ (x.n : Int) < (x.n : Int) := by omega
                have hmn2 : Wa.heap.size + 1 < W3.heap.size := by have := HROWb.out.2.2; omega
                have hnp : ∀ q, q < W3.heap.size → ¬ Ap = some ⟨q, 0, none⟩ := fun q hq e => by have := (HAP.out.1 q e).1; omega
                have hsz := HTU.out.size
                have kn := (HNJ.out.turn.block (Wa.heap.size + 1) (by omega) (hnp _ hmn2)).trans HCN.out
                have u0 := cell_of_row _ _ 0 _ _ _ kn
                have u1 := frozen_of_row _ _ 0 _ _ kn
                have u2 := (Array.getElem?_eq_some_iff.1 kn).1
                have tc2 := (World.cell?_of_block (a := ⟨Wa.heap.size, 0, none⟩) (HNJ.out.turn.block Wa.heap.size (by omega) (hnp _ (by omega)))).trans tc
                have l5 : h4 + 1 < Wa.heap.size := World.block_lt_of_cell? _ _ HLa.out.e5
                have c52 := (World.cell?_of_block (a := ⟨h4 + 1, 0, none⟩) (HNJ.out.turn.block (h4 + 1) (by omega) (hnp _ (by omega)))).trans c5
                have hne1 : Wa.heap.size ≠ Wa.heap.size + 1 := by omega
                have hne2 : h4 + 1 ≠ Wa.heap.size + 1 := by omega
                have hw := show IntKind.i64.wrap ((k : Int) + 1) = (k : Int) + 1 from IntWalk.i64_in _ (by have := HKN.out; have := HN40.out; omega)
                have lt1 : Wa.heap.size < wr.heap.size := by omega
                have lt5 : h4 + 1 < wr.heap.size := by omega
                have KEEP := Lib.hid (keep_ninety HNJ.out HNI.out hmn2 (.int .i64 ((k : Int) + 1)))
                have TEND := Lib.hid (show TurnO (· = Wa.heap.size + 1) W3 (wr.setCell ⟨Wa.heap.size + 1, 0, none⟩ (.int .i64 ((k : Int) + 1))) from
                  (HTU.out.trans HNJ.out.turn (fun b hb => .inr (HAP.out.1 b hb).1)).trans (TurnO.setCell (· = Wa.heap.size + 1) _ _ _ _ rfl) (fun b hb => .inl hb))
                have HEND := Lib.hid (show (wr.setCell ⟨Wa.heap.size + 1, 0, none⟩ (.int .i64 ((k : Int) + 1))).heap[Wa.heap.size + 1]? = some (.cells #[.int .i64 ((k : Int) + 1)] 3 (0, 0)) by
                  rw [heap_setCell_same _ _ 0 _ _ _ kn]; rfl)
                clear d0 df dl tc tl kn hnp hsz hrs hmn2
                gi_wp2
                refine ⟨KEEP.out, TEND.out, ?_⟩
                have := HEND.out
                rwa [show ((k : Int) + 1) = ((k + 1 : Nat) : Int) by omega] at this
          case doneb =>
            rintro Db Wb hDb ⟨htu, hcnt⟩ hKb
            have hrs := HROWb.out.2.2
            have hbWb : Below Wa.heap.size Wa Wb := HBWb.out.trans (htu.below (B := Wa.heap.size) (by omega) (fun g hg => by rw [hg]; omega))
            have HLb := Lib.hid (HLa.out.step hbWb)
            have t10 := cell_of_row _ _ 0 _ _ _ ((htu.block Wa.heap.size (by omega) (by omega)).trans HROWb.out.1)
            have t11 := cell_of_row _ _ 0 _ _ _ hcnt
            have t7 := cell_of_row _ _ 0 _ _ _ HLb.out.e7
            have HBB := Lib.hid (HBA.out.trans (hbWb.mono HBA.out.size))
            have HKB := Lib.hid hKb
            have HKAB := Lib.hid ((hbWb.block Da (Array.getElem?_eq_some_iff.1 HKA.out).1).trans HKA.out)
            have HDB := Lib.hid (show w.heap.size ≤ Db from by have := HBA.out.size; omega)
            have hDab : Da ≠ Db := fun e => by have := (Array.getElem?_eq_some_iff.1 HKA.out).1; omega
            have HDab := Lib.hid hDab
            have nB : ¬ Db = h4 + 1 + 1 := by have := HLC.out; omega
            have HNB := Lib.hid nB
            have nA : ¬ Da = h4 + 1 + 1 := fun e => by have h' := HLa.out.e6; rw [← e, HKA.out] at h'; cases h'
            have HNA := Lib.hid nA
            clear hKb hDb htu hcnt hbWb hrs hDab nB nA
            obtain ⟨N9, hN9⟩ : ∃ N9, (hitsP L Ps m).length = N9 := ⟨_, rfl⟩
            have t7' := t7
            have t11' := t11
            rw [hN9] at t7' t11'
            clear t7 t11 hN9
            go_wp2
            rw [rounds_succ]
            go_wp2_with (go_at_call 8; refine (known_anyF _).mono ?_; rintro e w9 ⟨rfl, hb9⟩; have hbx9 := ((Below.refl Wb.heap.size Wb).alloc (Nat.le_refl _) (Obj.cells #[.int .i64 2] 3)).trans (hb9.mono (by simp)); have HB9 := Lib.hid hbx9; have r6 := (hbx9.block _ (Array.getElem?_eq_some_iff.1 HLb.out.e6).1).trans HLb.out.e6; have R6 := Lib.hid r6; have t6 := cell_of_row _ _ 0 _ _ _ r6; have f6 := frozen_of_row _ _ 0 _ _ r6; have l6 := (Array.getElem?_eq_some_iff.1 r6).1; clear r6 hbx9 hb9)
            have KB := Lib.hid (show (w9.setCell ⟨h4 + 1 + 1, 0, none⟩ (.bool true)).heap[Db]? = some (.deferred (some [])) from
              (heap_setCell_other _ _ _ _ HNB.out).trans ((HB9.out.block _ (Array.getElem?_eq_some_iff.1 HKB.out).1).trans HKB.out))
            have KA := Lib.hid (show ((w9.setCell ⟨h4 + 1 + 1, 0, none⟩ (.bool true)).putObj Db (.deferred none)).heap[Da]? = some (.deferred (some [])) from
              (World.putObj_heap_other HDab.out).trans ((heap_setCell_other _ _ _ _ HNA.out).trans ((HB9.out.block _ (Array.getElem?_eq_some_iff.1 HKAB.out).1).trans HKAB.out)))
            have hres := Lib.hid (show (((w9.setCell ⟨h4 + 1 + 1, 0, none⟩ (.bool true)).putObj Db (.deferred none)).putObj Da (.deferred none)).cell? ⟨h4 + 1 + 1, 0, none⟩ = some (.bool true) from
              (World.cell?_of_block (a := ⟨h4 + 1 + 1, 0, none⟩) (World.putObj_heap_other (Ne.symm HNA.out))).trans ((World.cell?_of_block (a := ⟨h4 + 1 + 1, 0, none⟩) (World.putObj_heap_other (Ne.symm HNB.out))).trans (cell_of_row _ _ 0 _ _ _ (heap_setCell_same _ _ 0 _ _ _ R6.out))))
            have HFIN := Lib.hid (show Below w.heap.size w (((w9.setCell ⟨h4 + 1 + 1, 0, none⟩ (.bool true)).putObj Db (.deferred none)).putObj Da (.deferred none)) from
              ((((HBB.out.trans (HB9.out.mono HBB.out.size)).setCell (by show w.heap.size ≤ h4 + 1 + 1; have := HH4.out; omega) _).trans (below_putF _ HDB.out)).trans (below_putF _ HDA.out)))
            refine ⟨by simp, .inl ⟨_, _, rfl, run_takeDeferred KB.out, ?_⟩⟩
            refine ⟨by simp, .inl ⟨_, _, rfl, run_takeDeferred KA.out, ?_⟩⟩
            refine ⟨.bool true, ?_, rfl, HFIN.out⟩
            have hc2 := hres.out
            simp [results, Try.f7, go_sem, hc2]
          case stopb => rintro D c W hD h; exact h.elim
        · subst hlv
          have hrs := HROWa.out.2.2
          have hbWa : Below w1.heap.size w1 Wa := HBWa.out.trans (htu.below (B := w1.heap.size) (by omega) (fun g hg => by rw [hg]; omega))
          have HLa := Lib.hid (HLY.out.step hbWa)
          have t10 := cell_of_row _ _ 0 _ _ _ ((htu.block w1.heap.size (by omega) (by omega)).trans HROWa.out.1)
          have t11 := cell_of_row _ _ 0 _ _ _ hcnt
          have t7 := cell_of_row _ _ 0 _ _ _ HLa.out.e7
          have t5 := HLa.out.e5
          have HBA := Lib.hid (HW1.out.trans (hbWa.mono HW1.out.size))
          have HKA := Lib.hid hKa
          have HDA := Lib.hid (show w.heap.size ≤ Da from by have := HW1.out.size; omega)
          have HLC := Lib.hid (show h4 + 1 + 1 + 1 < Wa.heap.size from (Array.getElem?_eq_some_iff.1 HLa.out.e7).1)
          obtain ⟨N9, hN9⟩ : ∃ N9, (hitsP L Ps m).length = N9 := ⟨_, rfl⟩
          rw [hN9] at t7 hq hkk
          have hq1 : ((kk : Int) != (N9 : Int)) = true := by rw [bne_iff_ne]; omega
          have hq2 : ((kk : Int) != (kk : Int)) = false := by simp
          clear hN9 hq hkk
          have t7' := t7
          have t11' := t11
          clear t7 t11 hKa hDa htu hcnt hbWa hrs
          gi_wp2
          go_wp2
          rw [rounds_succ]
          go_wp2
          have HWAC := Lib.hid (Nat.le_refl Wa.heap.size)
          obtain ⟨W3, hW3⟩ : ∃ W, W = (Wa.alloc (.cells #[.int .i64 1] 3)).alloc (.cells #[.int .i64 0] 3) := ⟨_, rfl⟩
          have hbb : Below Wa.heap.size Wa W3 := by rw [hW3]; exact ((Below.refl _ Wa).alloc (Nat.le_refl _) _).alloc (by simp) _
          have hrowb : W3.heap[Wa.heap.size]? = some (.cells #[.int .i64 1] 3 (0, 0)) ∧ W3.heap[Wa.heap.size + 1]? = some (.cells #[.int .i64 0] 3 (0, 0)) ∧ W3.heap.size = Wa.heap.size + 1 + 1 := by
            subst hW3
            have e3 := heap_alloc_new (Wa.alloc (.cells #[.int .i64 1] 3)) (.cells #[.int .i64 0] 3)
            have e2 := (Below.heap_alloc (Wa.alloc (.cells #[.int .i64 1] 3)) (.cells #[.int .i64 0] 3) Wa.heap.size (by simp)).trans (heap_alloc_new Wa _)
            simp only [World.size_alloc] at e3
            exact ⟨e2, e3, by simp⟩
          rw [← hW3]
          have HBWb := Lib.hid hbb
          have HROWb := Lib.hid hrowb
          clear hW3 hbb hrowb
          refine (wpIn_wide (n := 5)).1 ?_
          refine range_p (is := hitsP L Ps m) (G := GaveAt W3.heap.size Ps (hitsP L Ps m)) (I := GpI W3 (Wa.heap.size + 1)) (Ix := fun _ _ => False) (by omega) (gf := 35) (lb := #[.pointer (some ⟨bx, 0, none⟩)]) rfl (enters_of Try.func35 (by kernel_rfl) rfl)
            (passing_steps 4 (by omega) W3.heap.size w.heap.size bx Ps (hitsP L Ps m) v vs (by have := hitsP_len L Ps m; omega) _ (fun k W hI => ?firstb)) (gpI_own _ _ (by have := HROWb.out.2.2; omega)) (gave_own _ _ _) (fun c => fun _ _ _ _ h _ _ => h.elim) ⟨TurnO.refl _ _, HROWb.out.2.1⟩
            ?assignb ?bodyb ?doneb ?stopb
          case firstb =>
            obtain ⟨htu, -⟩ := hI
            exact ⟨(HLa.out.step (HBWb.out.trans (htu.below (B := Wa.heap.size) (by have := HROWb.out.2.2; omega) (fun g hg => by rw [hg]; omega)))).pass, htu.size⟩
          case assignb =>
            intro l k u W K hK
            simp only [List.setIfInBounds_toArray, List.set_cons_zero, List.set_cons_succ] at hK ⊢
            gi_wp2
            exact hK
          case bodyb =>
            rintro l k u W hk hg ⟨htu, hcnt⟩
            simp only [List.setIfInBounds_toArray, List.set_cons_zero, List.set_cons_succ]
            have hrs := HROWb.out.2.2
            have hbW : Below Wa.heap.size Wa W := HBWb.out.trans (htu.below (B := Wa.heap.size) (by omega) (fun g hg => by rw [hg]; omega))
            have hL := HLa.out.step hbW
            have tc := cell_of_row _ _ 0 _ _ _ ((htu.block Wa.heap.size (by omega) (by omega)).trans HROWb.out.1)
            have tl : Wa.heap.size < W.heap.size := by have := htu.size; omega
            have d0 := cell_of_row _ _ 0 _ _ _ hcnt
            have df := frozen_of_row _ _ 0 _ _ hcnt
            have dl := (Array.getElem?_eq_some_iff.1 hcnt).1
            obtain ⟨i, hi⟩ : ∃ i, (hitsP L Ps m)[k]? = some i := ⟨_, List.getElem?_eq_getElem hk⟩
            have hgd : (hitsP L Ps m).getD k 0 = i := by rw [List.getD_eq_getElem?_getD, hi]; rfl
            obtain ⟨x, hx, hou, hl8, h8, h64⟩ := hg
            rw [hgd] at hx
            obtain ⟨Ap, cp, rfl, hAp, hAp2⟩ := own_form hou
            have cvu := fun nq => conv_pk ((pk_of_own hou hl8 h8 h64).pk.below (bdF (Below.refl _ W) nq)) x.n cp hl8
            have iwk := hL.iw
            obtain ⟨Aw, cw', ew, hw0, hw1⟩ := own_form iwk
            cases ew
            obtain ⟨gw, rfl⟩ : ∃ gw, Au = some ⟨gw, 0, none⟩ := by
              cases Au with
              | none => have := (hw0 rfl).1; omega
              | some ad => obtain ⟨g, rfl, -⟩ := hw1 ad rfl; exact ⟨g, rfl⟩
            have ci : W.cell? ⟨gw, k, none⟩ = some (.int .i64 (i : Int)) := by
              have := iwk.cells (g := gw) rfl k (.int .i64 (i : Int)) (by rw [List.getElem?_map, hi]; rfl)
              rwa [add_plain, Nat.zero_add] at this
            have c7 := cell_of_row _ _ 0 _ _ _ hL.e7
            obtain ⟨hok, b, o, rfl, hbl, hc⟩ := hL.ps i x hx
            have him : i < m := (hitsP_mem (List.mem_of_getElem? hi)).1
            have cvx := fun nq => conv_pk (hok.pk.below (bdF (Below.refl _ W) nq)) x.n x.c hok.len
            have c4 := hL.e4
            have c5 := hL.e5
            have HLW := Lib.hid hL
            have HTU := Lib.hid htu
            have HCN := Lib.hid hcnt
            have HNI := Lib.hid (Ninety.start hou)
            have HAP := Lib.hid (show (∀ g, Ap = some ⟨g, 0, none⟩ → W3.heap.size ≤ g ∧ g < W.heap.size) ∧ (∀ ad, Ap = some ad → ∃ g, ad = ⟨g, 0, none⟩) ∧ (Ap = none → x.n = 0) from
              ⟨fun g e => by obtain ⟨g', e2, h1, h2, -⟩ := hAp2 _ e; cases e2; exact ⟨h1, h2⟩, fun ad e => by obtain ⟨g', e2, -⟩ := hAp2 ad e; exact ⟨g', e2⟩, fun e => (hAp e).1⟩)
            have HKL := Lib.hid (show k < (hitsP L Ps m).length from hk)
            obtain ⟨N, hN⟩ : ∃ N, (hitsP L Ps m).length = N := ⟨_, rfl⟩
            rw [hN] at hk c7
            have hd1 : decide (N ≤ k) = false := by simp; omega
            have hd1' : decide ((N : Int) ≤ (k : Int)) = false := by simp; omega
            have hd2 : ((i : Int) != (i : Int)) = false := by simp
            have hkN : (k : Int) < (N : Int) := by omega
            have hkN' : k < N := hk
            have him' : (i : Int) < (m : Int) := by omega
            have HKN := Lib.hid hk
            have HN40 := Lib.hid (show N ≤ 40 by have := hitsP_len L Ps m; omega)
            rw [hgd] at *
            clear hbW hL htu hcnt hou hl8 h8 hAp hAp2 iwk hw0 hw1 hok hbl hi hx hN hgd hk
            gi_wp2_with fail
            refine region_quiet_round (by rfl) (by kernel_rfl) (by kernel_rfl) (by kernel_rfl) ?_
            repeat (gi_big_quiet_step (fail))
            refine wpQuietIn_nil ?_
            intro _ hw'
            obtain ⟨nq, hw''⟩ := hw'
            subst hw''
            clear cvu cvx ci hc c7 c4 hd1 hd1' hd2
            gi_wp2_with fail
            gi_loopw [14] (fun i wq => ∃ j : Nat, j ≤ x.n ∧ i = .int .i64 (j : Int) ∧ Ninety W wq Ap x.n) (fun i _ => x.n - (intOf i).toNat)
            case atStart => exact ⟨0, Nat.zero_le _, rfl, HNI.out.drewN _⟩
            case round =>
              obtain ⟨j, hj, rfl, hni⟩ := hrel
              have HNJ := Lib.hid hni
              clear hni
              by_cases hjt : j < x.n
              · have hjt' : (j : Int) < (x.n : Int) := by omega
                obtain ⟨gp, rfl⟩ : ∃ gp, Ap = some ⟨gp, 0, none⟩ := by
                  cases Ap with
                  | none => have := HAP.out.2.2 rfl; omega
                  | some ad => obtain ⟨g, rfl⟩ := HAP.out.2.1 ad rfl; exact ⟨g, rfl⟩
                obtain ⟨cur, q1, q2⟩ := HNJ.out.row gp rfl
                have q3 := (cell_of_row _ _ j _ _ _ q1).trans (Array.getElem?_eq_getElem (by omega))
                have q4 := frozen_of_row _ _ j _ _ q1
                have q5 := (Array.getElem?_eq_some_iff.1 q1).1
                have HST := Lib.hid (HNJ.out.set j (.int .u8 99))
                clear q1
                gi_wp2
                go_roundw
                case rel => exact ⟨j + 1, by omega, by go_num, HST.out⟩
                case measure => simp [intOf]; omega
              · obtain rfl : j = x.n := by omega
                have hjt' : ¬ (x.n : Int) < (x.n : Int) := by omega
                have hmn2 : Wa.heap.size + 1 < W3.heap.size := by have := HROWb.out.2.2; omega
                have hnp : ∀ q, q < W3.heap.size → ¬ Ap = some ⟨q, 0, none⟩ := fun q hq e => by have := (HAP.out.1 q e).1; omega
                have hsz := HTU.out.size
                have kn := (HNJ.out.turn.block (Wa.heap.size + 1) (by omega) (hnp _ hmn2)).trans HCN.out
                have u0 := cell_of_row _ _ 0 _ _ _ kn
                have u1 := frozen_of_row _ _ 0 _ _ kn
                have u2 := (Array.getElem?_eq_some_iff.1 kn).1
                have tc2 := (World.cell?_of_block (a := ⟨Wa.heap.size, 0, none⟩) (HNJ.out.turn.block Wa.heap.size (by omega) (hnp _ (by omega)))).trans tc
                have l5 : h4 + 1 < Wa.heap.size := World.block_lt_of_cell? _ _ HLa.out.e5
                have c52 := (World.cell?_of_block (a := ⟨h4 + 1, 0, none⟩) (HNJ.out.turn.block (h4 + 1) (by omega) (hnp _ (by omega)))).trans c5
                have hne1 : Wa.heap.size ≠ Wa.heap.size + 1 := by omega
                have hne2 : h4 + 1 ≠ Wa.heap.size + 1 := by omega
                have hw := show IntKind.i64.wrap ((k : Int) + 1) = (k : Int) + 1 from IntWalk.i64_in _ (by have := HKN.out; have := HN40.out; omega)
                have lt1 : Wa.heap.size < wr.heap.size := by omega
                have lt5 : h4 + 1 < wr.heap.size := by omega
                have KEEP := Lib.hid (keep_ninety HNJ.out HNI.out hmn2 (.int .i64 ((k : Int) + 1)))
                have TEND := Lib.hid (show TurnO (· = Wa.heap.size + 1) W3 (wr.setCell ⟨Wa.heap.size + 1, 0, none⟩ (.int .i64 ((k : Int) + 1))) from
                  (HTU.out.trans HNJ.out.turn (fun b hb => .inr (HAP.out.1 b hb).1)).trans (TurnO.setCell (· = Wa.heap.size + 1) _ _ _ _ rfl) (fun b hb => .inl hb))
                have HEND := Lib.hid (show (wr.setCell ⟨Wa.heap.size + 1, 0, none⟩ (.int .i64 ((k : Int) + 1))).heap[Wa.heap.size + 1]? = some (.cells #[.int .i64 ((k : Int) + 1)] 3 (0, 0)) by
                  rw [heap_setCell_same _ _ 0 _ _ _ kn]; rfl)
                clear d0 df dl tc tl kn hnp hsz hrs hmn2
                gi_wp2
                refine ⟨KEEP.out, TEND.out, ?_⟩
                have := HEND.out
                rwa [show ((k : Int) + 1) = ((k + 1 : Nat) : Int) by omega] at this
          case doneb =>
            rintro Db Wb hDb ⟨htu, hcnt⟩ hKb
            have hrs := HROWb.out.2.2
            have hbWb : Below Wa.heap.size Wa Wb := HBWb.out.trans (htu.below (B := Wa.heap.size) (by omega) (fun g hg => by rw [hg]; omega))
            have HLb := Lib.hid (HLa.out.step hbWb)
            have t10 := cell_of_row _ _ 0 _ _ _ ((htu.block Wa.heap.size (by omega) (by omega)).trans HROWb.out.1)
            have t11 := cell_of_row _ _ 0 _ _ _ hcnt
            have t7 := cell_of_row _ _ 0 _ _ _ HLb.out.e7
            have HBB := Lib.hid (HBA.out.trans (hbWb.mono HBA.out.size))
            have HKB := Lib.hid hKb
            have HKAB := Lib.hid ((hbWb.block Da (Array.getElem?_eq_some_iff.1 HKA.out).1).trans HKA.out)
            have HDB := Lib.hid (show w.heap.size ≤ Db from by have := HBA.out.size; omega)
            have hDab : Da ≠ Db := fun e => by have := (Array.getElem?_eq_some_iff.1 HKA.out).1; omega
            have HDab := Lib.hid hDab
            have nB : ¬ Db = h4 + 1 + 1 := by have := HLC.out; omega
            have HNB := Lib.hid nB
            have nA : ¬ Da = h4 + 1 + 1 := fun e => by have h' := HLa.out.e6; rw [← e, HKA.out] at h'; cases h'
            have HNA := Lib.hid nA
            clear hKb hDb htu hcnt hbWb hrs hDab nB nA
            obtain ⟨N9, hN9⟩ : ∃ N9, (hitsP L Ps m).length = N9 := ⟨_, rfl⟩
            have t7' := t7
            have t11' := t11
            rw [hN9] at t7' t11'
            clear t7 t11 hN9
            go_wp2
            rw [rounds_succ]
            go_wp2_with (go_at_call 8; refine (known_anyF _).mono ?_; rintro e w9 ⟨rfl, hb9⟩; have hbx9 := ((Below.refl Wb.heap.size Wb).alloc (Nat.le_refl _) (Obj.cells #[.int .i64 2] 3)).trans (hb9.mono (by simp)); have HB9 := Lib.hid hbx9; have r6 := (hbx9.block _ (Array.getElem?_eq_some_iff.1 HLb.out.e6).1).trans HLb.out.e6; have R6 := Lib.hid r6; have t6 := cell_of_row _ _ 0 _ _ _ r6; have f6 := frozen_of_row _ _ 0 _ _ r6; have l6 := (Array.getElem?_eq_some_iff.1 r6).1; clear r6 hbx9 hb9)
            have KB := Lib.hid (show (w9.setCell ⟨h4 + 1 + 1, 0, none⟩ (.bool true)).heap[Db]? = some (.deferred (some [])) from
              (heap_setCell_other _ _ _ _ HNB.out).trans ((HB9.out.block _ (Array.getElem?_eq_some_iff.1 HKB.out).1).trans HKB.out))
            have KA := Lib.hid (show ((w9.setCell ⟨h4 + 1 + 1, 0, none⟩ (.bool true)).putObj Db (.deferred none)).heap[Da]? = some (.deferred (some [])) from
              (World.putObj_heap_other HDab.out).trans ((heap_setCell_other _ _ _ _ HNA.out).trans ((HB9.out.block _ (Array.getElem?_eq_some_iff.1 HKAB.out).1).trans HKAB.out)))
            have hres := Lib.hid (show (((w9.setCell ⟨h4 + 1 + 1, 0, none⟩ (.bool true)).putObj Db (.deferred none)).putObj Da (.deferred none)).cell? ⟨h4 + 1 + 1, 0, none⟩ = some (.bool true) from
              (World.cell?_of_block (a := ⟨h4 + 1 + 1, 0, none⟩) (World.putObj_heap_other (Ne.symm HNA.out))).trans ((World.cell?_of_block (a := ⟨h4 + 1 + 1, 0, none⟩) (World.putObj_heap_other (Ne.symm HNB.out))).trans (cell_of_row _ _ 0 _ _ _ (heap_setCell_same _ _ 0 _ _ _ R6.out))))
            have HFIN := Lib.hid (show Below w.heap.size w (((w9.setCell ⟨h4 + 1 + 1, 0, none⟩ (.bool true)).putObj Db (.deferred none)).putObj Da (.deferred none)) from
              ((((HBB.out.trans (HB9.out.mono HBB.out.size)).setCell (by show w.heap.size ≤ h4 + 1 + 1; have := HH4.out; omega) _).trans (below_putF _ HDB.out)).trans (below_putF _ HDA.out)))
            refine ⟨by simp, .inl ⟨_, _, rfl, run_takeDeferred KB.out, ?_⟩⟩
            refine ⟨by simp, .inl ⟨_, _, rfl, run_takeDeferred KA.out, ?_⟩⟩
            refine ⟨.bool true, ?_, rfl, HFIN.out⟩
            have hc2 := hres.out
            simp [results, Try.f7, go_sem, hc2]
          case stopb => rintro D c W hD h; exact h.elim

end Go.Proofs.Yteibholghonajaa
