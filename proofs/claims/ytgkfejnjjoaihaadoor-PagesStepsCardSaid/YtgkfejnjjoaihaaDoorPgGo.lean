/- goes: a space gone over, on both sides. -/
import Derived.Test.YtgkfejnjjoaihaaDoorPgNk
namespace Go.Proofs.YtgkfejnjjoaihaaDoor
open Go.RowKit
attribute [local go_sem] Oper.semAt_some

theorem ints_set {W : World} {v u : Value} {xs : List Int} {bw : Nat} {va : Option Addr} {n vc : Nat} (h : IntsAt W v xs) (hc : W.cell? ⟨bw, 0, none⟩ = some (.slice va n vc)) : IntsAt (W.setCell ⟨bw, 0, none⟩ u) v xs := by
  obtain ⟨a, c, rfl, h2⟩ := h
  refine ⟨a, c, rfl, fun hn => ?_⟩
  obtain ⟨g, e, hg, hi⟩ := h2 hn
  refine ⟨g, e, by simpa using hg, fun i x hx => ?_⟩
  have hne : g ≠ bw := by
    rintro rfl
    obtain ⟨y, ys, rfl⟩ : ∃ y ys, xs = y :: ys := by
      cases xs with
      | nil => exact absurd rfl hn
      | cons y ys => exact ⟨y, ys, rfl⟩
    have h0 := hi 0 y rfl
    rw [hc] at h0
    cases h0
  exact (World.cell?_of_block (a := ⟨g, i, none⟩) (heap_setCell_other _ _ _ _ hne)).trans (hi i x hx)
/-- What goes looks at, where there is a table. -/
structure Gy (W : World) (t b N q : Nat) (T : Tb) (s : Int) (h0 h1 h5 h6 bx by' bw : Nat) (lv : Int) (va : Option Addr) (vc : Nat) : Prop where
  pt : PT W t b N T
  qt : QT W q T
  e0 : W.cell? ⟨h0, 0, none⟩ = some (.pointer (some ⟨q, 0, none⟩))
  e1 : W.cell? ⟨h1, 0, none⟩ = some (.int .i64 s)
  e5 : W.cell? ⟨h5, 0, none⟩ = some (.int .i64 lv)
  e6 : W.cell? ⟨h6, 0, none⟩ = some (.bool false)
  f6 : W.frozen? ⟨h6, 0, none⟩ = false
  cx : W.cell? ⟨bx, 0, none⟩ = some (.pointer (some ⟨t, 0, none⟩))
  cy : W.cell? ⟨by', 0, none⟩ = some (.int .i64 s)
  cw : W.cell? ⟨bw, 0, none⟩ = some (.slice va (pagesL T s).length vc)
  iv : IntsAt W (.slice va (pagesL T s).length vc) (pagesL T s)
theorem Gy.step {W W' : World} {t b N q : Nat} {T : Tb} {s : Int} {h0 h1 h5 h6 bx by' bw : Nat} {lv : Int} {va : Option Addr} {vc : Nat} (h : Gy W t b N q T s h0 h1 h5 h6 bx by' bw lv va vc) (hb : Below W.heap.size W W') : Gy W' t b N q T s h0 h1 h5 h6 bx by' bw lv va vc :=
  ⟨h.pt.step hb, h.qt.step hb, cell_step7 h.e0 hb, cell_step7 h.e1 hb, cell_step7 h.e5 hb, cell_step7 h.e6 hb, (World.frozen?_of_block (a := ⟨h6, 0, none⟩) (hb.block _ (World.block_lt_of_cell? W _ h.e6))).trans h.f6, cell_step7 h.cx hb, cell_step7 h.cy hb, cell_step7 h.cw hb, h.iv.below hb (Nat.le_refl _)⟩
theorem pagesL_is (T : Tb) (s : Int) : pagesL T s = picked (hitS T s) (fun p => p) 32 := by
  unfold pagesL
  cases hs : spaceB s with
  | false =>
    rw [if_neg (by decide)]
    unfold picked
    rw [List.filter_eq_nil_iff.2 (fun a _ => by unfold hitS; rw [hs]; simp)]
    rfl
  | true =>
    rw [if_pos rfl]
    congr 1
    funext p
    unfold hitS
    rw [hs]; rfl
/-- How many are told below k. -/
def nK (T : Tb) (s : Int) (k : Nat) : Nat := (picked (hitS T s) (fun p => p) k).length
theorem nK_zero (T : Tb) (s : Int) : nK T s 0 = 0 := rfl
theorem nK_all (T : Tb) (s : Int) : nK T s 32 = (pagesL T s).length := by rw [pagesL_is]; rfl
theorem nK_yes {T : Tb} {s : Int} {k : Nat} (h : hitS T s k = true) : nK T s (k + 1) = nK T s k + 1 := by unfold nK; rw [picked_succ, if_pos h, List.length_append]; rfl
theorem nK_no {T : Tb} {s : Int} {k : Nat} (h : hitS T s k = false) : nK T s (k + 1) = nK T s k := by unfold nK; rw [picked_succ, h, if_neg (by decide), List.append_nil]
theorem picked_at {p : Nat → Bool} {f : Nat → Int} {k : Nat} (h : p k = true) (m : Nat) : (picked p f (k + 1 + m))[(picked p f k).length]? = some (f k) := by
  induction m with
  | zero => rw [Nat.add_zero, picked_succ, if_pos h, List.getElem?_append_right (Nat.le_refl _)]; simp
  | succ m ih =>
    rw [← Nat.add_assoc, picked_succ, List.getElem?_append_left (List.getElem?_eq_some_iff.1 ih).1]
    exact ih
theorem nK_at {T : Tb} {s : Int} {k : Nat} (hk : k < 32) (h : hitS T s k = true) : (pagesL T s)[nK T s k]? = some (k : Int) := by
  obtain ⟨m, hm⟩ : ∃ m, 32 = k + 1 + m := ⟨32 - (k + 1), by omega⟩
  rw [pagesL_is, hm]
  exact picked_at (f := fun p => (p : Int)) h m
theorem getO_hit {T : Tb} {s : Int} {k : Nat} (hk : k < 32) (h : hitS T s k = true) : getO T s k = atT T s k := by
  have h' : spaceB s = true ∧ (atT T s k).is = true := by unfold hitS at h; simpa using h
  have h1 := (spaceB_iff s).1 h'.1
  unfold getO
  rw [if_pos]
  unfold takE
  rw [if_pos ((inB_iff _ _).2 ⟨h1, by omega, by omega⟩)]
  exact if_pos h'.2
theorem zip_set7 (A : Array Value) (x y : Value) : (((#[30, 31] : Array Tmp).zip #[x, y]).foldl (fun t (p, v) => t.setIfInBounds p v) A) = (A.setIfInBounds 30 x).setIfInBounds 31 y := by simp
/-- A range over a space's iterator, as goes has it. -/
theorem range_t7 {n : Nat} {P : Program} {g : Operand} {assign body : Code} {Q : Exit → Act → World → Prop} {a : Act} {w : World} {tb : Tb} {s : Int} {gf : Nat} {lb : Array Value} {I : Nat → World → Prop} {Ix : Code → World → Prop}
    (h1 : 1 ≤ n) (hg : a.eval g = .func (.func gf) #[] lb) (eg : ∀ args w, (callFunc gf args).run P w = .ok (.enter gf args) w)
    (hseq : StepsB Fence.wide (n - 1) P gf lb (encS tb s) 32 (hitS tb s) I) (hI : OwnFrom w.heap.size I) (hId : ∀ k W, I k W → I k W.drew) (hIx : ∀ c, OwnFrom w.heap.size (fun (_ : Unit) W => Ix c W)) (h0 : I 0 w)
    (hskip : ∀ k W, k < 32 → hitS tb s k = false → I k W → I (k + 1) W)
    (hassign : ∀ (l k : Nat) (W : World) (K : Act → World → Prop),
      K { tmps := (((a.tmps.setIfInBounds 30 (.int .i64 k)).setIfInBounds 31 (entV (atT tb s k))).setIfInBounds 13 (.int .i64 k)).setIfInBounds 14 (.pointer (some ⟨W.heap.size, 0, none⟩)), defers := [] } (W.alloc (.cells #[.int .i64 (atT tb s k).fr, .int .i64 (atT tb s k).ri, .bool (atT tb s k).tc, .bool (atT tb s k).wr] 38)) →
      assign.wpIn (Fence.wide.inRound l) (n - 1 - 1) P (Exit.then K (fun _ _ _ => False)) { tmps := (a.tmps.setIfInBounds 30 (.int .i64 k)).setIfInBounds 31 (entV (atT tb s k)), defers := [] } W)
    (hbody : ∀ (l k B : Nat) (W : World), k < 32 → hitS tb s k = true → w.heap.size ≤ B → W.heap[B]? = some (.cells #[.int .i64 (atT tb s k).fr, .int .i64 (atT tb s k).ri, .bool (atT tb s k).tc, .bool (atT tb s k).wr] 38 (0, 0)) → I k W →
      body.wpIn (Fence.wide.inRound l) (n - 1 - 1) P (RoundB w.heap.size I Ix k W) { tmps := (((a.tmps.setIfInBounds 30 (.int .i64 k)).setIfInBounds 31 (entV (atT tb s k))).setIfInBounds 13 (.int .i64 k)).setIfInBounds 14 (.pointer (some ⟨B, 0, none⟩)), defers := [] } W)
    (hdone : ∀ (D : Nat) (W : World), w.heap.size ≤ D → I 32 W → W.heap[D]? = some (.deferred (some [])) → Q .normal { a with defers := { target := .collected D, args := #[] } :: a.defers } W)
    (hstop : ∀ (D : Nat) (c : Code) (W : World), w.heap.size ≤ D → Ix c W → W.heap[D]? = some (.deferred (some [])) → c.wpIn Fence.wide n P Q { a with defers := { target := .collected D, args := #[] } :: a.defers } W) :
    (Code.rangeFunc g #[30, 31] assign body).wpIn Fence.wide n P Q a w :=
  range_b (N := 32) (hit := hitS tb s) (encs := encS tb s) rfl h1 hg trivial eg hseq (fun _ => rfl) hI hId hIx h0 hskip
    (fun k => some (.cells #[.int .i64 (atT tb s k).fr, .int .i64 (atT tb s k).ri, .bool (atT tb s k).tc, .bool (atT tb s k).wr] 38))
    (fun k B => { tmps := (((a.tmps.setIfInBounds 30 (.int .i64 k)).setIfInBounds 31 (entV (atT tb s k))).setIfInBounds 13 (.int .i64 k)).setIfInBounds 14 (.pointer (some ⟨B, 0, none⟩)), defers := [] })
    (fun l k W K hK => by unfold encS; rw [zip_set7]; exact hassign l k W K hK) (fun l k B W hk hh hB hbx hI' => hbody l k B W hk hh hB (hbx _ rfl) hI') hdone hstop
/-- What a round of goes keeps, and what its break leaves. -/
def GoI (w1 : World) (T : Tb) (s : Int) (m : Nat) (k : Nat) (W : World) : Prop := Turned w1 W [m] ∧ W.heap[m]? = some (.cells #[.int .i64 (nK T s k : Nat)] 3 (0, 0))
def GoX (w1 : World) (lv : Int) (m : Nat) (c : Code) (W : World) : Prop := c = .exit 2 ∧ Turned w1 W [m] ∧ W.heap[m]? = some (.cells #[.int .i64 lv] 3 (0, 0))
theorem goI_own (w1 : World) (T : Tb) (s : Int) (m : Nat) (hm : m < w1.heap.size) : OwnFrom w1.heap.size (GoI w1 T s m) := OwnFrom.and (turned_own w1 _ _ (Nat.le_refl _)) (block_own _ _ hm _)
theorem goX_own (w1 : World) (lv : Int) (m : Nat) (hm : m < w1.heap.size) (c : Code) : OwnFrom w1.heap.size (fun (_ : Unit) W => GoX w1 lv m c W) := fun u X Y row hs hg hr =>
  ⟨hs.1, turned_own (β := Unit) w1 [m] _ (Nat.le_refl _) u X Y row hs.2.1 hg hr, block_own (β := Unit) m _ hm (fun _ => .cells #[.int .i64 lv] 3 (0, 0)) u X Y row hs.2.2 hg hr⟩
set_option maxHeartbeats 4000000 in
set_option maxRecDepth 100000 in
theorem goes_any {w : World} {t b N q : Nat} {T : Tb} (h : PT w t b N T) (hq : QT w q T) (s lv : Int) :
    Calls Tryd.prog 27 #[.pointer (some ⟨t, 0, none⟩), .pointer (some ⟨q, 0, none⟩), .int .i64 s, .int .i64 lv] w fun e w' => e = .returned (.bool true) ∧ Below w.heap.size w w' := by
  have HX := Lib.hid h
  have HY := Lib.hid hq
  clear h hq
  refine (callsIn_wide (n := 5)).1 ?_
  refine callsIn_of_wp_marks Tryd.func27 rfl trivial ?_ rfl
  simp only [Tryd.ntmps27, List.size_toArray, List.length_cons, List.length_nil, Nat.reduceAdd, Nat.reduceSub, Array.replicate_succ, Array.replicate_zero, List.push_toArray, List.append_toArray, List.nil_append, List.cons_append]
  refine wpIn_wide.2 ?_
  go_upto_region 1 with fail
  obtain ⟨W0, hW0⟩ : ∃ W, W = (((w.alloc (Obj.cells #[.pointer (some ⟨q, 0, none⟩)] 25)).alloc (Obj.cells #[.int .i64 s] 3)).alloc (Obj.cells #[.int .i64 lv] 3)).alloc (Obj.cells #[.bool false] 4) := ⟨_, rfl⟩
  try rw [← hW0]
  have hB0 : Below w.heap.size w W0 := by
    rw [hW0]
    exact ((((Below.refl _ w).alloc (Nat.le_refl _) _).alloc (by simp) _).alloc (by simp; omega) _).alloc (by simp; omega) _
  have hrows : W0.heap[w.heap.size]? = some (Obj.cells #[.pointer (some ⟨q, 0, none⟩)] 25 (0, 0)) ∧ W0.heap[w.heap.size + 1]? = some (Obj.cells #[.int .i64 s] 3 (0, 0)) ∧ W0.heap[w.heap.size + 1 + 1]? = some (Obj.cells #[.int .i64 lv] 3 (0, 0)) ∧ W0.heap[w.heap.size + 1 + 1 + 1]? = some (Obj.cells #[.bool false] 4 (0, 0)) := by
    obtain ⟨V1, hV1⟩ : ∃ V1, V1 = w.alloc (Obj.cells #[.pointer (some ⟨q, 0, none⟩)] 25) := ⟨_, rfl⟩
    obtain ⟨V2, hV2⟩ : ∃ V2, V2 = V1.alloc (Obj.cells #[.int .i64 s] 3) := ⟨_, rfl⟩
    obtain ⟨V3, hV3⟩ : ∃ V3, V3 = V2.alloc (Obj.cells #[.int .i64 lv] 3) := ⟨_, rfl⟩
    have s1 : V1.heap.size = w.heap.size + 1 := by rw [hV1]; simp
    have s2 : V2.heap.size = w.heap.size + 1 + 1 := by rw [hV2, World.size_alloc, s1]
    have s3 : V3.heap.size = w.heap.size + 1 + 1 + 1 := by rw [hV3, World.size_alloc, s2]
    have a1 : V1.heap[w.heap.size]? = some (Obj.cells #[.pointer (some ⟨q, 0, none⟩)] 25 (0, 0)) := by rw [hV1]; exact heap_alloc_new w _
    have a2 : V2.heap[w.heap.size + 1]? = some (Obj.cells #[.int .i64 s] 3 (0, 0)) := by rw [hV2, ← s1]; exact heap_alloc_new V1 _
    have a3 : V3.heap[w.heap.size + 1 + 1]? = some (Obj.cells #[.int .i64 lv] 3 (0, 0)) := by rw [hV3, ← s2]; exact heap_alloc_new V2 _
    have a4 : W0.heap[w.heap.size + 1 + 1 + 1]? = some (Obj.cells #[.bool false] 4 (0, 0)) := by rw [hW0, ← hV1, ← hV2, ← hV3, ← s3]; exact heap_alloc_new V3 _
    have e2 : ∀ k, k < V1.heap.size → V2.heap[k]? = V1.heap[k]? := fun k hk => by rw [hV2]; exact Below.heap_alloc _ _ _ hk
    have e3 : ∀ k, k < V2.heap.size → V3.heap[k]? = V2.heap[k]? := fun k hk => by rw [hV3]; exact Below.heap_alloc _ _ _ hk
    have e4 : ∀ k, k < V3.heap.size → W0.heap[k]? = V3.heap[k]? := fun k hk => by rw [hW0, ← hV1, ← hV2, ← hV3]; exact Below.heap_alloc _ _ _ hk
    exact ⟨((e4 _ (by omega)).trans ((e3 _ (by omega)).trans (e2 _ (by omega)))).trans a1, ((e4 _ (by omega)).trans (e3 _ (by omega))).trans a2, (e4 _ (by omega)).trans a3, a4⟩
  have HB0 := Lib.hid hB0
  have HR := Lib.hid hrows
  have HX0 := Lib.hid (HX.out.step hB0)
  have HQ0 := Lib.hid (HY.out.step hB0)
  have HSK : ∀ W : World, Below W0.heap.size W0 W → W.cell? ⟨w.heap.size, 0, none⟩ = some (.pointer (some ⟨q, 0, none⟩)) ∧ W.cell? ⟨w.heap.size + 1, 0, none⟩ = some (.int .i64 s) := fun W hb =>
    ⟨cell_step7 (cell_of_row _ _ 0 _ _ _ HR.out.1) hb, cell_step7 (cell_of_row _ _ 0 _ _ _ HR.out.2.1) hb⟩
  have GW := fun (W : World) (bx by' bw : Nat) (va : Option Addr) (vc : Nat) (hb : Below W0.heap.size W0 W) (h1 : W.cell? ⟨bx, 0, none⟩ = some (.pointer (some ⟨t, 0, none⟩))) (h2 : W.cell? ⟨by', 0, none⟩ = some (.int .i64 s)) (h3 : W.cell? ⟨bw, 0, none⟩ = some (.slice va (pagesL T s).length vc)) (h4 : IntsAt W (.slice va (pagesL T s).length vc) (pagesL T s)) =>
    (⟨HX0.out.step hb, HQ0.out.step hb, cell_step7 (cell_of_row _ _ 0 _ _ _ HR.out.1) hb, cell_step7 (cell_of_row _ _ 0 _ _ _ HR.out.2.1) hb, cell_step7 (cell_of_row _ _ 0 _ _ _ HR.out.2.2.1) hb, cell_step7 (cell_of_row _ _ 0 _ _ _ HR.out.2.2.2) hb, (World.frozen?_of_block (a := ⟨w.heap.size + 1 + 1 + 1, 0, none⟩) (hb.block _ (Array.getElem?_eq_some_iff.1 HR.out.2.2.2).1)).trans (frozen_of_row _ _ 0 _ _ HR.out.2.2.2), h1, h2, h3, h4⟩ :
      Gy W t b N q T s w.heap.size (w.heap.size + 1) (w.heap.size + 1 + 1) (w.heap.size + 1 + 1 + 1) bx by' bw lv va vc)
  clear hW0 hB0 hrows HX HY
  go_cut [9, 10] from 17 to 87 (fun f p W => ∃ (bx by' bw : Nat) (va : Option Addr) (vc : Nat), f = .func (.func 61) #[] #[.pointer (some ⟨bx, 0, none⟩), .pointer (some ⟨by', 0, none⟩)] ∧ p = .pointer (some ⟨bw, 0, none⟩) ∧ Gy W t b N q T s w.heap.size (w.heap.size + 1) (w.heap.size + 1 + 1) (w.heap.size + 1 + 1 + 1) bx by' bw lv va vc ∧ Below w.heap.size w W)
  case first =>
    -- REGION1
    have BD := Lib.hid ((Below.refl W0.heap.size W0).drew)
    refine wp_region_noPanic ?_
    refine wp_region_held_drew (S := fun W => W.cell? ⟨w.heap.size, 0, none⟩ = some (.pointer (some ⟨q, 0, none⟩)) ∧ W.cell? ⟨w.heap.size + 1, 0, none⟩ = some (.int .i64 s)) (by kernel_rfl) ?_ (fun hHeld => ?_)
    · exact HSK _ (Below.refl _ W0).drew
    refine wpAnyH_take (i := 0) (v := ?_) rfl (by kernel_rfl) (by kernel_rfl) (by kernel_rfl) (fun _ _ _ h => h) (Or.inl ⟨by rfl, ?_⟩) (by assumption) ?_
    rotate_left
    · (intro w hSw; obtain ⟨hS1, hS2⟩ := hSw; (try simp only [List.getElem_toArray, List.getElem_cons_zero]); go_simp; try (with_reducible rfl))
    try simp only [Act.put, List.getElem_toArray, List.getElem_cons_zero, List.setIfInBounds_toArray, List.set_cons_zero, List.set_cons_succ]
    refine wpAnyH_take (i := 1) (v := ?_) rfl (by kernel_rfl) (by kernel_rfl) (by kernel_rfl) (fun _ _ _ h => h) (Or.inl ⟨by rfl, ?_⟩) (by assumption) ?_
    rotate_left
    · (intro w hSw; obtain ⟨hS1, hS2⟩ := hSw; (try simp only [List.getElem_toArray, List.getElem_cons_zero, List.getElem_cons_succ]); go_simp; try (with_reducible rfl))
    try simp only [Act.put, List.getElem_toArray, List.getElem_cons_zero, List.getElem_cons_succ, List.setIfInBounds_toArray, List.set_cons_zero, List.set_cons_succ]
    refine wpAnyH_take (i := 3) (v := ?_) rfl (by kernel_rfl) (by kernel_rfl) (by kernel_rfl) (fun _ _ _ h => h) (Or.inl ⟨by rfl, ?_⟩) (by assumption) ?_
    rotate_left
    · (intro w hSw; obtain ⟨hS1, hS2⟩ := hSw; (try simp only [List.getElem_toArray, List.getElem_cons_zero, List.getElem_cons_succ]); go_simp; try (with_reducible rfl))
    try simp only [Act.put, List.getElem_toArray, List.getElem_cons_zero, List.getElem_cons_succ, List.setIfInBounds_toArray, List.set_cons_zero, List.set_cons_succ]
    refine wpAnyH_take (i := 4) (v := ?_) rfl (by kernel_rfl) (by kernel_rfl) (by kernel_rfl) (fun _ _ _ h => h) (Or.inl ⟨by rfl, ?_⟩) (by assumption) ?_
    rotate_left
    · (intro w hSw; obtain ⟨hS1, hS2⟩ := hSw; (try simp only [List.getElem_toArray, List.getElem_cons_zero, List.getElem_cons_succ]); go_simp; try (with_reducible rfl))
    try simp only [Act.put, List.getElem_toArray, List.getElem_cons_zero, List.getElem_cons_succ, List.setIfInBounds_toArray, List.set_cons_zero, List.set_cons_succ]
    obtain ⟨WD, hWD⟩ : ∃ WD, W0.drew = WD := ⟨_, rfl⟩
    rw [hWD] at BD ⊢
    clear hWD
    refine wpAnyH_ready (rs := [2, 6]) (by kernel_rfl) (by simp) ?_
    refine (AllReadyH.cons rfl (fun K hK => ?_) (AllReadyH.cons rfl (fun K hK => ?_) AllReadyH.nil))
    · (try simp only [List.getElem_toArray, List.getElem_cons_zero, List.getElem_cons_succ]); go_simp
      go_at_call 54
      refine Calls.mono (space_cells (some ⟨t, 0, none⟩) s _) ?_
      rintro e w1 ⟨bx, by', rfl, cx, cy, hbw1⟩
      have Bw1 := Lib.hid (BD.out.trans (hbw1.mono BD.out.size))
      clear hbw1
      try (go_wp2_with fail)
      refine hK.out _ _ (HSK _ Bw1.out) (fun hHeld => ?_)
      clear hK K
      try simp only [Act.put, List.getElem_toArray, List.getElem_cons_zero, List.getElem_cons_succ, List.setIfInBounds_toArray, List.set_cons_zero, List.set_cons_succ]
      refine wpAnyH_ready (rs := [5, 6]) (by kernel_rfl) (by simp) ?_
      refine (AllReadyH.cons rfl (fun K hK => ?_) (AllReadyH.cons rfl (fun K hK => ?_) AllReadyH.nil))
      · (try simp only [List.getElem_toArray, List.getElem_cons_zero, List.getElem_cons_succ]); go_simp
        go_at_call 56
        refine Calls.mono (q_pages (HQ0.out.step Bw1.out) s) ?_
        rintro e w2 ⟨v, rfl, hv, hbw2⟩
        have hi := ints_of_owns hv
        have hi0 := hi
        obtain ⟨va, vc, rfl, -⟩ := hi0
        clear hv
        have Bw2 := Lib.hid (Bw1.out.trans (hbw2.mono Bw1.out.size))
        have cxw2 := cell_step7 cx hbw2
        have cyw2 := cell_step7 cy hbw2
        clear hbw2
        try (go_wp2_with fail)
        refine hK.out _ _ (HSK _ Bw2.out) (fun hHeld => ?_)
        clear hK K
        try simp only [Act.put, List.getElem_toArray, List.getElem_cons_zero, List.getElem_cons_succ, List.setIfInBounds_toArray, List.set_cons_zero, List.set_cons_succ]
        refine wpAnyH_ready (rs := [6]) (by kernel_rfl) (by simp) ?_
        refine (AllReadyH.cons rfl (fun K hK => ?_) AllReadyH.nil)
        (try simp only [List.getElem_toArray, List.getElem_cons_zero, List.getElem_cons_succ]); go_simp
        have hbw3 : Below w2.heap.size w2 (w2.alloc (Obj.cells #[Value.slice none 0 0] 73)) := (Below.refl _ _).alloc (Nat.le_refl _) _
        have nww3 := heap_alloc_new w2 (Obj.cells #[Value.slice none 0 0] 73)
        have cww3 := cell_of_row _ _ 0 _ _ _ nww3
        have fww3 := frozen_of_row _ _ 0 _ _ nww3
        have Bw3 := Lib.hid (Bw2.out.trans (hbw3.mono Bw2.out.size))
        have cxw3 := cell_step7 cxw2 hbw3
        have cyw3 := cell_step7 cyw2 hbw3
        have hiw3 := IntsAt.below hi hbw3 (Nat.le_refl _)
        clear nww3 hbw3
        refine hK.out _ _ (HSK _ Bw3.out) (fun hHeld => ?_)
        clear hK K
        try simp only [Act.put, List.getElem_toArray, List.getElem_cons_zero, List.getElem_cons_succ, List.setIfInBounds_toArray, List.set_cons_zero, List.set_cons_succ]
        have hlbw := Bw2.out.size
        obtain ⟨bw, hbw⟩ : ∃ bw, w2.heap.size = bw := ⟨_, rfl⟩
        rw [hbw] at hlbw cww3 fww3 ⊢
        clear hbw
        generalize w2.alloc (Obj.cells #[Value.slice none 0 0] 73) = w3 at *
        have LBW := Lib.hid (show W0.heap.size ≤ bw from hlbw)
        clear hlbw
        refine wpAnyH_take (i := 7) (v := ?_) rfl (by kernel_rfl) (by kernel_rfl) (by kernel_rfl) (fun _ _ _ h => h) (Or.inl ⟨by rfl, ?_⟩) (by assumption) ?_
        rotate_left
        · (intro w hSw; obtain ⟨hS1, hS2⟩ := hSw; (try simp only [List.getElem_toArray, List.getElem_cons_zero, List.getElem_cons_succ]); go_simp; try (with_reducible rfl))
        try simp only [Act.put, List.getElem_toArray, List.getElem_cons_zero, List.getElem_cons_succ, List.setIfInBounds_toArray, List.set_cons_zero, List.set_cons_succ]
        refine wpAnyH_ready (rs := [8]) (by kernel_rfl) (by simp) ?_
        refine (AllReadyH.cons rfl (fun K hK => ?_) AllReadyH.nil)
        (try simp only [List.getElem_toArray, List.getElem_cons_zero, List.getElem_cons_succ]); go_simp
        have hbx : bx ≠ bw := fun e => by have h9 := cxw3; rw [e, cww3] at h9; cases h9
        have hby : by' ≠ bw := fun e => by have h9 := cyw3; rw [e, cww3] at h9; cases h9
        have BF := Lib.hid (show Below W0.heap.size W0 (w3.setCell ⟨bw, 0, none⟩ (.slice va (pagesL T s).length vc)) from Bw3.out.setCell LBW.out _)
        have cxf : (w3.setCell ⟨bw, 0, none⟩ (.slice va (pagesL T s).length vc)).cell? ⟨bx, 0, none⟩ = some (.pointer (some ⟨t, 0, none⟩)) := (World.cell?_of_block (a := ⟨bx, 0, none⟩) (heap_setCell_other _ _ _ _ hbx)).trans cxw3
        have cyf : (w3.setCell ⟨bw, 0, none⟩ (.slice va (pagesL T s).length vc)).cell? ⟨by', 0, none⟩ = some (.int .i64 s) := (World.cell?_of_block (a := ⟨by', 0, none⟩) (heap_setCell_other _ _ _ _ hby)).trans cyw3
        have cwf : (w3.setCell ⟨bw, 0, none⟩ (.slice va (pagesL T s).length vc)).cell? ⟨bw, 0, none⟩ = some (.slice va (pagesL T s).length vc) := World.cell?_setCell_same' _ _ _ (by rw [cww3]; rfl)
        have hif : IntsAt (w3.setCell ⟨bw, 0, none⟩ (.slice va (pagesL T s).length vc)) (.slice va (pagesL T s).length vc) (pagesL T s) := ints_set hiw3 cww3
        refine hK.out _ _ (HSK _ BF.out) (fun hHeld => ?_)
        clear hK K
        try simp only [Act.put, List.getElem_toArray, List.getElem_cons_zero, List.getElem_cons_succ, List.setIfInBounds_toArray, List.set_cons_zero, List.set_cons_succ]
        refine wpAnyH_done (by kernel_rfl) ?_ _
        refine NoPanic.normal ?_
        have CXF := Lib.hid cxf
        have CYF := Lib.hid cyf
        have CWF := Lib.hid cwf
        have IVF := Lib.hid hif
        clear cxf cyf cwf hif
        generalize (w3.setCell ⟨bw, 0, none⟩ (.slice va (pagesL T s).length vc)) = WF at *
        go_wp2_with fail
        go_meet
        exact ⟨bx, by', bw, va, vc, rfl, rfl, GW WF bx by' bw va vc BF.out CXF.out CYF.out CWF.out IVF.out, HB0.out.trans (BF.out.mono HB0.out.size)⟩
      · (try simp only [List.getElem_toArray, List.getElem_cons_zero, List.getElem_cons_succ]); go_simp
        have hbw2 : Below w1.heap.size w1 (w1.alloc (Obj.cells #[Value.slice none 0 0] 73)) := (Below.refl _ _).alloc (Nat.le_refl _) _
        have nww2 := heap_alloc_new w1 (Obj.cells #[Value.slice none 0 0] 73)
        have cww2 := cell_of_row _ _ 0 _ _ _ nww2
        have fww2 := frozen_of_row _ _ 0 _ _ nww2
        have Bw2 := Lib.hid (Bw1.out.trans (hbw2.mono Bw1.out.size))
        have cxw2 := cell_step7 cx hbw2
        have cyw2 := cell_step7 cy hbw2
        clear nww2 hbw2
        refine hK.out _ _ (HSK _ Bw2.out) (fun hHeld => ?_)
        clear hK K
        try simp only [Act.put, List.getElem_toArray, List.getElem_cons_zero, List.getElem_cons_succ, List.setIfInBounds_toArray, List.set_cons_zero, List.set_cons_succ]
        have hlbw := Bw1.out.size
        obtain ⟨bw, hbw⟩ : ∃ bw, w1.heap.size = bw := ⟨_, rfl⟩
        rw [hbw] at hlbw cww2 fww2 ⊢
        clear hbw
        generalize w1.alloc (Obj.cells #[Value.slice none 0 0] 73) = w2 at *
        have LBW := Lib.hid (show W0.heap.size ≤ bw from hlbw)
        clear hlbw
        refine wpAnyH_ready (rs := [5]) (by kernel_rfl) (by simp) ?_
        refine (AllReadyH.cons rfl (fun K hK => ?_) AllReadyH.nil)
        (try simp only [List.getElem_toArray, List.getElem_cons_zero, List.getElem_cons_succ]); go_simp
        go_at_call 56
        refine Calls.mono (q_pages (HQ0.out.step Bw2.out) s) ?_
        rintro e w3 ⟨v, rfl, hv, hbw3⟩
        have hi := ints_of_owns hv
        have hi0 := hi
        obtain ⟨va, vc, rfl, -⟩ := hi0
        clear hv
        have Bw3 := Lib.hid (Bw2.out.trans (hbw3.mono Bw2.out.size))
        have cww3 := cell_step7 cww2 hbw3
        have fww3 : w3.frozen? ⟨bw, 0, none⟩ = false := (World.frozen?_of_block (a := ⟨bw, 0, none⟩) (hbw3.block _ (World.block_lt_of_cell? _ _ cww2))).trans fww2
        have cxw3 := cell_step7 cxw2 hbw3
        have cyw3 := cell_step7 cyw2 hbw3
        clear hbw3
        try (go_wp2_with fail)
        refine hK.out _ _ (HSK _ Bw3.out) (fun hHeld => ?_)
        clear hK K
        try simp only [Act.put, List.getElem_toArray, List.getElem_cons_zero, List.getElem_cons_succ, List.setIfInBounds_toArray, List.set_cons_zero, List.set_cons_succ]
        refine wpAnyH_take (i := 7) (v := ?_) rfl (by kernel_rfl) (by kernel_rfl) (by kernel_rfl) (fun _ _ _ h => h) (Or.inl ⟨by rfl, ?_⟩) (by assumption) ?_
        rotate_left
        · (intro w hSw; obtain ⟨hS1, hS2⟩ := hSw; (try simp only [List.getElem_toArray, List.getElem_cons_zero, List.getElem_cons_succ]); go_simp; try (with_reducible rfl))
        try simp only [Act.put, List.getElem_toArray, List.getElem_cons_zero, List.getElem_cons_succ, List.setIfInBounds_toArray, List.set_cons_zero, List.set_cons_succ]
        refine wpAnyH_ready (rs := [8]) (by kernel_rfl) (by simp) ?_
        refine (AllReadyH.cons rfl (fun K hK => ?_) AllReadyH.nil)
        (try simp only [List.getElem_toArray, List.getElem_cons_zero, List.getElem_cons_succ]); go_simp
        have hbx : bx ≠ bw := fun e => by have h9 := cxw3; rw [e, cww3] at h9; cases h9
        have hby : by' ≠ bw := fun e => by have h9 := cyw3; rw [e, cww3] at h9; cases h9
        have BF := Lib.hid (show Below W0.heap.size W0 (w3.setCell ⟨bw, 0, none⟩ (.slice va (pagesL T s).length vc)) from Bw3.out.setCell LBW.out _)
        have cxf : (w3.setCell ⟨bw, 0, none⟩ (.slice va (pagesL T s).length vc)).cell? ⟨bx, 0, none⟩ = some (.pointer (some ⟨t, 0, none⟩)) := (World.cell?_of_block (a := ⟨bx, 0, none⟩) (heap_setCell_other _ _ _ _ hbx)).trans cxw3
        have cyf : (w3.setCell ⟨bw, 0, none⟩ (.slice va (pagesL T s).length vc)).cell? ⟨by', 0, none⟩ = some (.int .i64 s) := (World.cell?_of_block (a := ⟨by', 0, none⟩) (heap_setCell_other _ _ _ _ hby)).trans cyw3
        have cwf : (w3.setCell ⟨bw, 0, none⟩ (.slice va (pagesL T s).length vc)).cell? ⟨bw, 0, none⟩ = some (.slice va (pagesL T s).length vc) := World.cell?_setCell_same' _ _ _ (by rw [cww3]; rfl)
        have hif : IntsAt (w3.setCell ⟨bw, 0, none⟩ (.slice va (pagesL T s).length vc)) (.slice va (pagesL T s).length vc) (pagesL T s) := ints_set hi cww3
        refine hK.out _ _ (HSK _ BF.out) (fun hHeld => ?_)
        clear hK K
        try simp only [Act.put, List.getElem_toArray, List.getElem_cons_zero, List.getElem_cons_succ, List.setIfInBounds_toArray, List.set_cons_zero, List.set_cons_succ]
        refine wpAnyH_done (by kernel_rfl) ?_ _
        refine NoPanic.normal ?_
        have CXF := Lib.hid cxf
        have CYF := Lib.hid cyf
        have CWF := Lib.hid cwf
        have IVF := Lib.hid hif
        clear cxf cyf cwf hif
        generalize (w3.setCell ⟨bw, 0, none⟩ (.slice va (pagesL T s).length vc)) = WF at *
        go_wp2_with fail
        go_meet
        exact ⟨bx, by', bw, va, vc, rfl, rfl, GW WF bx by' bw va vc BF.out CXF.out CYF.out CWF.out IVF.out, HB0.out.trans (BF.out.mono HB0.out.size)⟩
    · (try simp only [List.getElem_toArray, List.getElem_cons_zero, List.getElem_cons_succ]); go_simp
      have hbw1 : Below WD.heap.size WD (WD.alloc (Obj.cells #[Value.slice none 0 0] 73)) := (Below.refl _ _).alloc (Nat.le_refl _) _
      have nww1 := heap_alloc_new WD (Obj.cells #[Value.slice none 0 0] 73)
      have cww1 := cell_of_row _ _ 0 _ _ _ nww1
      have fww1 := frozen_of_row _ _ 0 _ _ nww1
      have Bw1 := Lib.hid (BD.out.trans (hbw1.mono BD.out.size))
      clear nww1 hbw1
      refine hK.out _ _ (HSK _ Bw1.out) (fun hHeld => ?_)
      clear hK K
      try simp only [Act.put, List.getElem_toArray, List.getElem_cons_zero, List.getElem_cons_succ, List.setIfInBounds_toArray, List.set_cons_zero, List.set_cons_succ]
      have hlbw := BD.out.size
      obtain ⟨bw, hbw⟩ : ∃ bw, WD.heap.size = bw := ⟨_, rfl⟩
      rw [hbw] at hlbw cww1 fww1 ⊢
      clear hbw
      generalize WD.alloc (Obj.cells #[Value.slice none 0 0] 73) = w1 at *
      have LBW := Lib.hid (show W0.heap.size ≤ bw from hlbw)
      clear hlbw
      refine wpAnyH_ready (rs := [2]) (by kernel_rfl) (by simp) ?_
      refine (AllReadyH.cons rfl (fun K hK => ?_) AllReadyH.nil)
      (try simp only [List.getElem_toArray, List.getElem_cons_zero, List.getElem_cons_succ]); go_simp
      go_at_call 54
      refine Calls.mono (space_cells (some ⟨t, 0, none⟩) s _) ?_
      rintro e w2 ⟨bx, by', rfl, cx, cy, hbw2⟩
      have Bw2 := Lib.hid (Bw1.out.trans (hbw2.mono Bw1.out.size))
      have cww2 := cell_step7 cww1 hbw2
      have fww2 : w2.frozen? ⟨bw, 0, none⟩ = false := (World.frozen?_of_block (a := ⟨bw, 0, none⟩) (hbw2.block _ (World.block_lt_of_cell? _ _ cww1))).trans fww1
      clear hbw2
      try (go_wp2_with fail)
      refine hK.out _ _ (HSK _ Bw2.out) (fun hHeld => ?_)
      clear hK K
      try simp only [Act.put, List.getElem_toArray, List.getElem_cons_zero, List.getElem_cons_succ, List.setIfInBounds_toArray, List.set_cons_zero, List.set_cons_succ]
      refine wpAnyH_ready (rs := [5]) (by kernel_rfl) (by simp) ?_
      refine (AllReadyH.cons rfl (fun K hK => ?_) AllReadyH.nil)
      (try simp only [List.getElem_toArray, List.getElem_cons_zero, List.getElem_cons_succ]); go_simp
      go_at_call 56
      refine Calls.mono (q_pages (HQ0.out.step Bw2.out) s) ?_
      rintro e w3 ⟨v, rfl, hv, hbw3⟩
      have hi := ints_of_owns hv
      have hi0 := hi
      obtain ⟨va, vc, rfl, -⟩ := hi0
      clear hv
      have Bw3 := Lib.hid (Bw2.out.trans (hbw3.mono Bw2.out.size))
      have cww3 := cell_step7 cww2 hbw3
      have fww3 : w3.frozen? ⟨bw, 0, none⟩ = false := (World.frozen?_of_block (a := ⟨bw, 0, none⟩) (hbw3.block _ (World.block_lt_of_cell? _ _ cww2))).trans fww2
      have cxw3 := cell_step7 cx hbw3
      have cyw3 := cell_step7 cy hbw3
      clear hbw3
      try (go_wp2_with fail)
      refine hK.out _ _ (HSK _ Bw3.out) (fun hHeld => ?_)
      clear hK K
      try simp only [Act.put, List.getElem_toArray, List.getElem_cons_zero, List.getElem_cons_succ, List.setIfInBounds_toArray, List.set_cons_zero, List.set_cons_succ]
      refine wpAnyH_take (i := 7) (v := ?_) rfl (by kernel_rfl) (by kernel_rfl) (by kernel_rfl) (fun _ _ _ h => h) (Or.inl ⟨by rfl, ?_⟩) (by assumption) ?_
      rotate_left
      · (intro w hSw; obtain ⟨hS1, hS2⟩ := hSw; (try simp only [List.getElem_toArray, List.getElem_cons_zero, List.getElem_cons_succ]); go_simp; try (with_reducible rfl))
      try simp only [Act.put, List.getElem_toArray, List.getElem_cons_zero, List.getElem_cons_succ, List.setIfInBounds_toArray, List.set_cons_zero, List.set_cons_succ]
      refine wpAnyH_ready (rs := [8]) (by kernel_rfl) (by simp) ?_
      refine (AllReadyH.cons rfl (fun K hK => ?_) AllReadyH.nil)
      (try simp only [List.getElem_toArray, List.getElem_cons_zero, List.getElem_cons_succ]); go_simp
      have hbx : bx ≠ bw := fun e => by have h9 := cxw3; rw [e, cww3] at h9; cases h9
      have hby : by' ≠ bw := fun e => by have h9 := cyw3; rw [e, cww3] at h9; cases h9
      have BF := Lib.hid (show Below W0.heap.size W0 (w3.setCell ⟨bw, 0, none⟩ (.slice va (pagesL T s).length vc)) from Bw3.out.setCell LBW.out _)
      have cxf : (w3.setCell ⟨bw, 0, none⟩ (.slice va (pagesL T s).length vc)).cell? ⟨bx, 0, none⟩ = some (.pointer (some ⟨t, 0, none⟩)) := (World.cell?_of_block (a := ⟨bx, 0, none⟩) (heap_setCell_other _ _ _ _ hbx)).trans cxw3
      have cyf : (w3.setCell ⟨bw, 0, none⟩ (.slice va (pagesL T s).length vc)).cell? ⟨by', 0, none⟩ = some (.int .i64 s) := (World.cell?_of_block (a := ⟨by', 0, none⟩) (heap_setCell_other _ _ _ _ hby)).trans cyw3
      have cwf : (w3.setCell ⟨bw, 0, none⟩ (.slice va (pagesL T s).length vc)).cell? ⟨bw, 0, none⟩ = some (.slice va (pagesL T s).length vc) := World.cell?_setCell_same' _ _ _ (by rw [cww3]; rfl)
      have hif : IntsAt (w3.setCell ⟨bw, 0, none⟩ (.slice va (pagesL T s).length vc)) (.slice va (pagesL T s).length vc) (pagesL T s) := ints_set hi cww3
      refine hK.out _ _ (HSK _ BF.out) (fun hHeld => ?_)
      clear hK K
      try simp only [Act.put, List.getElem_toArray, List.getElem_cons_zero, List.getElem_cons_succ, List.setIfInBounds_toArray, List.set_cons_zero, List.set_cons_succ]
      refine wpAnyH_done (by kernel_rfl) ?_ _
      refine NoPanic.normal ?_
      have CXF := Lib.hid cxf
      have CYF := Lib.hid cyf
      have CWF := Lib.hid cwf
      have IVF := Lib.hid hif
      clear cxf cyf cwf hif
      generalize (w3.setCell ⟨bw, 0, none⟩ (.slice va (pagesL T s).length vc)) = WF at *
      go_wp2_with fail
      go_meet
      exact ⟨bx, by', bw, va, vc, rfl, rfl, GW WF bx by' bw va vc BF.out CXF.out CYF.out CWF.out IVF.out, HB0.out.trans (BF.out.mono HB0.out.size)⟩
    -- END1
  case rest =>
    obtain ⟨bx, by', bw, va, vc, rfl, rfl, hG, hB⟩ := hcut
    have HGc := Lib.hid hG
    have HBc := Lib.hid hB
    have q9 := eql_seqS7
    have HA := Lib.hid (show w.heap.size + 1 + 1 + 1 < wc.heap.size from World.block_lt_of_cell? wc _ hG.e6)
    clear hG hB HR HX0 HQ0 HSK GW HB0
    go_wp2_with fail
    refine wp_loop_rounds 3 ?_
    rw [rounds_succ]
    go_wp2
    have HWC := Lib.hid (Nat.le_refl wc.heap.size)
    obtain ⟨W1, hW1⟩ : ∃ W, W = (wc.alloc (.cells #[.int .i64 0] 3)).alloc (.cells #[.int .i64 0] 3) := ⟨_, rfl⟩
    have hba : Below wc.heap.size wc W1 := by rw [hW1]; exact ((Below.refl _ wc).alloc (Nat.le_refl _) _).alloc (by simp) _
    have hrowa : W1.heap[wc.heap.size]? = some (.cells #[.int .i64 0] 3 (0, 0)) ∧ W1.heap[wc.heap.size + 1]? = some (.cells #[.int .i64 0] 3 (0, 0)) ∧ W1.heap.size = wc.heap.size + 1 + 1 := by
      subst hW1
      have e3 := heap_alloc_new (wc.alloc (.cells #[.int .i64 0] 3)) (.cells #[.int .i64 0] 3)
      have e2 := (Below.heap_alloc (wc.alloc (.cells #[.int .i64 0] 3)) (.cells #[.int .i64 0] 3) wc.heap.size (by simp)).trans (heap_alloc_new wc _)
      simp only [World.size_alloc] at e3
      exact ⟨e2, e3, by simp⟩
    rw [← hW1]
    have HBWa := Lib.hid hba
    have HROWa := Lib.hid hrowa
    have HGa := Lib.hid (HGc.out.step hba)
    clear hW1 hba hrowa
    refine (wpIn_wide (n := 5)).1 ?_
    refine range_t7 (tb := T) (s := s) (I := GoI W1 T s (wc.heap.size + 1)) (Ix := GoX W1 lv (wc.heap.size + 1)) (by omega) (gf := 61) (lb := #[.pointer (some ⟨bx, 0, none⟩), .pointer (some ⟨by', 0, none⟩)]) rfl (enters_of Tryd.func61 (by kernel_rfl) rfl) (space_steps 4 (by omega) _ _ t b N T s _ (fun W hI => ?firsta))
        (goI_own _ _ _ _ (by have := HROWa.out.2.2; omega)) (fun k W h => ⟨h.1.trans (Turned.of_below _ ((Below.refl _ W).drew)), h.2⟩) (goX_own _ _ _ (by have := HROWa.out.2.2; omega)) ⟨Turned.refl _ _, HROWa.out.2.1⟩ (fun k W _ hh h => ⟨h.1, by rw [nK_no hh]; exact h.2⟩) ?assigna ?bodya ?donea ?stopa
    case firsta =>
      obtain ⟨htu, -⟩ := hI
      have hG := HGc.out.step ((HBWa.out).trans (htu.below (B := wc.heap.size) (by have := HROWa.out.2.2; omega) (fun g hg => by simp at hg; omega)))
      exact ⟨⟨hG.cx, hG.cy⟩, hG.pt⟩
    case assigna =>
      intro l k W K hK
      simp only [List.setIfInBounds_toArray, List.set_cons_zero, List.set_cons_succ] at hK ⊢
      unfold entV at hK ⊢
      gi_wp2
      exact hK
    case bodya =>
      rintro l k B W hk hh hB hbx ⟨htu, hcnt⟩
      simp only [List.setIfInBounds_toArray, List.set_cons_zero, List.set_cons_succ]
      have hrs := HROWa.out.2.2
      have hbW : Below wc.heap.size wc W := (HBWa.out).trans (htu.below (B := wc.heap.size) (by omega) (fun g hg => by simp at hg; omega))
      have hG := HGc.out.step hbW
      have tc := cell_of_row _ _ 0 _ _ _ ((htu.block wc.heap.size (by omega) (by simp)).trans HROWa.out.1)
      have tl : wc.heap.size < W.heap.size := by have := htu.size; omega
      obtain ⟨d0, df, dl⟩ := one_of hcnt
      obtain ⟨⟨e0, e1, e2, e3⟩, -, el⟩ := four_of hbx
      have hat := nK_at hk hh
      have hgo := getO_hit hk hh
      have hlt := (List.getElem?_eq_some_iff.1 hat).1
      have hny := nK_yes hh
      obtain ⟨va', vc', hv', h2'⟩ := hG.iv
      cases hv'
      obtain ⟨g, rfl, hg, hci⟩ := h2' (fun e => by rw [e] at hat; cases hat)
      have ci := hci _ _ hat
      have cw := hG.cw
      have ce0 := hG.e0
      have ce1 := hG.e1
      have ce5 := hG.e5
      have HQ := Lib.hid hG.qt
      have HGI := Lib.hid hgo
      have HNY := Lib.hid hny
      have HCN := Lib.hid hcnt
      have HBX := Lib.hid hbx
      have HTU := Lib.hid htu
      have HGW := Lib.hid hG
      have HBO := Lib.hid hB
      obtain ⟨m, hm⟩ : ∃ m, nK T s k = m := ⟨_, rfl⟩
      rw [hm] at ci d0 hlt HCN HNY
      obtain ⟨n9, hn9⟩ : ∃ n9, (pagesL T s).length = n9 := ⟨_, rfl⟩
      rw [hn9] at cw hlt
      obtain ⟨E, hE⟩ : ∃ E, atT T s k = E := ⟨_, rfl⟩
      rw [hE] at e0 e1 e2 e3 HGI HBX ⊢
      have HM32 := Lib.hid (show m ≤ 31 by have := picked_len (hitS T s) (fun p => (p : Int)) k; unfold nK at hm; omega)
      clear hbW hG htu hcnt hbx hat hgo hny h2' hci hm hn9 hE hB hh hk
      have hlt' : ¬ ((n9 : Int) ≤ (m : Int)) := by omega
      have hlt2 : (m : Int) < (n9 : Int) := by omega
      gi_wp2_with fail
      refine ⟨trivial, ?_⟩
      gi_at_call 26
      refine (CallsIn.inRound l (callsIn_wide.2 (q_get HQ.out s k))).mono ?_
      rintro e w2 ⟨rfl, hb2⟩
      rw [HGI.out]
      have HB2 := Lib.hid hb2
      have hc2 := (hb2.block _ dl).trans HCN.out
      have HC2 := Lib.hid hc2
      obtain ⟨c0, cf, cl⟩ := one_of hc2
      obtain ⟨⟨x0, x1, x2, x3⟩, -, xl⟩ := four_of ((hb2.block _ el).trans HBX.out)
      have tc2 := (hb2.cell (p := ⟨wc.heap.size, 0, none⟩) tl).trans tc
      have tl2 := Nat.lt_of_lt_of_le tl hb2.size
      have l5 := Nat.lt_of_lt_of_le (World.block_lt_of_cell? W _ ce5) hb2.size
      have ce52 := cell_step7 ce5 hb2
      have hne1 : wc.heap.size ≠ wc.heap.size + 1 := by omega
      have hne2 : w.heap.size + 1 + 1 ≠ wc.heap.size + 1 := by have := HA.out; have := HWC.out; omega
      have hw : wrap64 ((m : Int) + 1) = (m : Int) + 1 := by have := HM32.out; unfold wrap64; omega
      have hht : Turned W ((w2.setCell ⟨wc.heap.size + 1, 0, none⟩ (.int .i64 ((m : Int) + 1))).alloc (.cells #[.int .i64 E.fr, .int .i64 E.ri, .bool E.tc, .bool E.wr] 38)) [wc.heap.size + 1] := ((Turned.of_below _ hb2).trans (Turned.of_set (by simp) _)).trans (Turned.of_below _ ((Below.refl _ _).alloc (Nat.le_refl _) _))
      have hend : ((w2.setCell ⟨wc.heap.size + 1, 0, none⟩ (.int .i64 ((m : Int) + 1))).alloc (.cells #[.int .i64 E.fr, .int .i64 E.ri, .bool E.tc, .bool E.wr] 38)).heap[wc.heap.size + 1]? = some (.cells #[.int .i64 ((m : Int) + 1)] 3 (0, 0)) := by
        refine (Below.heap_alloc _ _ _ (by simp; omega)).trans ?_
        rw [heap_setCell_same w2 (wc.heap.size + 1) 0 _ _ (.int .i64 ((m : Int) + 1)) hc2]
        simp
      have HHT := Lib.hid hht
      have HEND := Lib.hid hend
      have HDL := Lib.hid dl
      clear d0 df dl e0 e1 e2 e3 el tc tl ce0 ce1 ce5 cw ci hb2 hc2 hht hend
      unfold entV
      gi_wp2
      · rename_i hq
        have hq' : (m : Int) + 1 = lv := by simpa using hq
        refine ⟨keeps_turned HHT.out (by simp; omega), rfl, HTU.out.trans HHT.out, ?_⟩
        rw [← hq']
        exact HEND.out
      · refine ⟨keeps_turned HHT.out (by simp; omega), HTU.out.trans HHT.out, ?_⟩
        rw [HNY.out]
        exact HEND.out
    case donea =>
      rintro Da Wa hDa ⟨htu, hcnt⟩ hKa
      rw [nK_all] at hcnt
      have hrs := HROWa.out.2.2
      have hbWa : Below wc.heap.size wc Wa := (HBWa.out).trans (htu.below (B := wc.heap.size) (by omega) (fun g hg => by simp at hg; omega))
      have HGA := Lib.hid (HGc.out.step hbWa)
      have t16 := cell_of_row _ _ 0 _ _ _ ((htu.block wc.heap.size (by omega) (by simp)).trans HROWa.out.1)
      obtain ⟨t17, -, -⟩ := one_of hcnt
      have t7 := HGA.out.cw
      have t5 := HGA.out.e5
      have HBA := Lib.hid (HBc.out.trans (hbWa.mono HBc.out.size))
      have HKA := Lib.hid hKa
      have HDA := Lib.hid (show w.heap.size ≤ Da from by have := HBc.out.size; omega)
      have HWC := Lib.hid (show wc.heap.size ≤ Wa.heap.size from hbWa.size)
      obtain ⟨n9, hn9⟩ : ∃ n9, (pagesL T s).length = n9 := ⟨_, rfl⟩
      have t7' := t7
      have t17' := t17
      clear t7 t17
      rw [hn9] at t7'
      rw [hn9] at t17'
      clear hn9 hKa hDa htu hcnt hbWa hrs
      go_wp2
      rw [rounds_succ]
      go_wp2
      obtain ⟨W2, hW2⟩ : ∃ W, W = (Wa.alloc (.cells #[.int .i64 1] 3)).alloc (.cells #[.int .i64 0] 3) := ⟨_, rfl⟩
      have hbb : Below Wa.heap.size Wa W2 := by rw [hW2]; exact ((Below.refl _ Wa).alloc (Nat.le_refl _) _).alloc (by simp) _
      have hrowb : W2.heap[Wa.heap.size]? = some (.cells #[.int .i64 1] 3 (0, 0)) ∧ W2.heap[Wa.heap.size + 1]? = some (.cells #[.int .i64 0] 3 (0, 0)) ∧ W2.heap.size = Wa.heap.size + 1 + 1 := by
        subst hW2
        have e3 := heap_alloc_new (Wa.alloc (.cells #[.int .i64 1] 3)) (.cells #[.int .i64 0] 3)
        have e2 := (Below.heap_alloc (Wa.alloc (.cells #[.int .i64 1] 3)) (.cells #[.int .i64 0] 3) Wa.heap.size (by simp)).trans (heap_alloc_new Wa _)
        simp only [World.size_alloc] at e3
        exact ⟨e2, e3, by simp⟩
      rw [← hW2]
      have HBWb := Lib.hid hbb
      have HROWb := Lib.hid hrowb
      have HGb := Lib.hid (HGA.out.step hbb)
      clear hW2 hbb hrowb
      refine (wpIn_wide (n := 5)).1 ?_
      refine range_t7 (tb := T) (s := s) (I := GoI W2 T s (Wa.heap.size + 1)) (Ix := fun _ _ => False) (by omega) (gf := 61) (lb := #[.pointer (some ⟨bx, 0, none⟩), .pointer (some ⟨by', 0, none⟩)]) rfl (enters_of Tryd.func61 (by kernel_rfl) rfl) (space_steps 4 (by omega) _ _ t b N T s _ (fun W hI => ?firstb))
          (goI_own _ _ _ _ (by have := HROWb.out.2.2; omega)) (fun k W h => ⟨h.1.trans (Turned.of_below _ ((Below.refl _ W).drew)), h.2⟩) (fun c => fun _ _ _ _ h _ _ => h.elim) ⟨Turned.refl _ _, HROWb.out.2.1⟩ (fun k W _ hh h => ⟨h.1, by rw [nK_no hh]; exact h.2⟩) ?assignb ?bodyb ?doneb ?stopb
      case firstb =>
        obtain ⟨htu, -⟩ := hI
        have hG := HGA.out.step ((HBWb.out).trans (htu.below (B := Wa.heap.size) (by have := HROWb.out.2.2; omega) (fun g hg => by simp at hg; omega)))
        exact ⟨⟨hG.cx, hG.cy⟩, hG.pt⟩
      case assignb =>
        intro l k W K hK
        simp only [List.setIfInBounds_toArray, List.set_cons_zero, List.set_cons_succ] at hK ⊢
        unfold entV at hK ⊢
        gi_wp2
        exact hK
      case bodyb =>
        rintro l k B W hk hh hB hbx ⟨htu, hcnt⟩
        simp only [List.setIfInBounds_toArray, List.set_cons_zero, List.set_cons_succ]
        have hrs := HROWb.out.2.2
        have hbW : Below Wa.heap.size Wa W := (HBWb.out).trans (htu.below (B := Wa.heap.size) (by omega) (fun g hg => by simp at hg; omega))
        have hG := HGA.out.step hbW
        have tc := cell_of_row _ _ 0 _ _ _ ((htu.block Wa.heap.size (by omega) (by simp)).trans HROWb.out.1)
        have tl : Wa.heap.size < W.heap.size := by have := htu.size; omega
        obtain ⟨d0, df, dl⟩ := one_of hcnt
        obtain ⟨⟨e0, e1, e2, e3⟩, -, el⟩ := four_of hbx
        have hat := nK_at hk hh
        have hgo := getO_hit hk hh
        have hlt := (List.getElem?_eq_some_iff.1 hat).1
        have hny := nK_yes hh
        obtain ⟨va', vc', hv', h2'⟩ := hG.iv
        cases hv'
        obtain ⟨g, rfl, hg, hci⟩ := h2' (fun e => by rw [e] at hat; cases hat)
        have ci := hci _ _ hat
        have cw := hG.cw
        have ce0 := hG.e0
        have ce1 := hG.e1
        have ce5 := hG.e5
        have HQ := Lib.hid hG.qt
        have HGI := Lib.hid hgo
        have HNY := Lib.hid hny
        have HCN := Lib.hid hcnt
        have HBX := Lib.hid hbx
        have HTU := Lib.hid htu
        have HGW := Lib.hid hG
        have HBO := Lib.hid hB
        obtain ⟨m, hm⟩ : ∃ m, nK T s k = m := ⟨_, rfl⟩
        rw [hm] at ci d0 hlt HCN HNY
        obtain ⟨n9, hn9⟩ : ∃ n9, (pagesL T s).length = n9 := ⟨_, rfl⟩
        rw [hn9] at cw hlt
        obtain ⟨E, hE⟩ : ∃ E, atT T s k = E := ⟨_, rfl⟩
        rw [hE] at e0 e1 e2 e3 HGI HBX ⊢
        have HM32 := Lib.hid (show m ≤ 31 by have := picked_len (hitS T s) (fun p => (p : Int)) k; unfold nK at hm; omega)
        clear hbW hG htu hcnt hbx hat hgo hny h2' hci hm hn9 hE hB hh hk
        have hlt' : ¬ ((n9 : Int) ≤ (m : Int)) := by omega
        have hlt2 : (m : Int) < (n9 : Int) := by omega
        gi_wp2_with fail
        refine ⟨trivial, ?_⟩
        gi_at_call 26
        refine (CallsIn.inRound l (callsIn_wide.2 (q_get HQ.out s k))).mono ?_
        rintro e w2 ⟨rfl, hb2⟩
        rw [HGI.out]
        have HB2 := Lib.hid hb2
        have hc2 := (hb2.block _ dl).trans HCN.out
        have HC2 := Lib.hid hc2
        obtain ⟨c0, cf, cl⟩ := one_of hc2
        obtain ⟨⟨x0, x1, x2, x3⟩, -, xl⟩ := four_of ((hb2.block _ el).trans HBX.out)
        have tc2 := (hb2.cell (p := ⟨Wa.heap.size, 0, none⟩) tl).trans tc
        have tl2 := Nat.lt_of_lt_of_le tl hb2.size
        have l5 := Nat.lt_of_lt_of_le (World.block_lt_of_cell? W _ ce5) hb2.size
        have ce52 := cell_step7 ce5 hb2
        have hne1 : Wa.heap.size ≠ Wa.heap.size + 1 := by omega
        have hne2 : w.heap.size + 1 + 1 ≠ Wa.heap.size + 1 := by have := HA.out; have := HWC.out; omega
        have hw : wrap64 ((m : Int) + 1) = (m : Int) + 1 := by have := HM32.out; unfold wrap64; omega
        have hht : Turned W ((w2.setCell ⟨Wa.heap.size + 1, 0, none⟩ (.int .i64 ((m : Int) + 1))).alloc (.cells #[.int .i64 E.fr, .int .i64 E.ri, .bool E.tc, .bool E.wr] 38)) [Wa.heap.size + 1] := ((Turned.of_below _ hb2).trans (Turned.of_set (by simp) _)).trans (Turned.of_below _ ((Below.refl _ _).alloc (Nat.le_refl _) _))
        have hend : ((w2.setCell ⟨Wa.heap.size + 1, 0, none⟩ (.int .i64 ((m : Int) + 1))).alloc (.cells #[.int .i64 E.fr, .int .i64 E.ri, .bool E.tc, .bool E.wr] 38)).heap[Wa.heap.size + 1]? = some (.cells #[.int .i64 ((m : Int) + 1)] 3 (0, 0)) := by
          refine (Below.heap_alloc _ _ _ (by simp; omega)).trans ?_
          rw [heap_setCell_same w2 (Wa.heap.size + 1) 0 _ _ (.int .i64 ((m : Int) + 1)) hc2]
          simp
        have HHT := Lib.hid hht
        have HEND := Lib.hid hend
        have HDL := Lib.hid dl
        clear d0 df dl e0 e1 e2 e3 el tc tl ce0 ce1 ce5 cw ci hb2 hc2 hht hend
        unfold entV
        gi_wp2
        refine ⟨keeps_turned HHT.out (by simp; omega), HTU.out.trans HHT.out, ?_⟩
        rw [HNY.out]
        exact HEND.out
      case doneb =>
        rintro Db Wb hDb ⟨htu, hcnt⟩ hKb
        rw [nK_all] at hcnt
        have hrs := HROWb.out.2.2
        have hbWb : Below Wa.heap.size Wa Wb := (HBWb.out).trans (htu.below (B := Wa.heap.size) (by omega) (fun g hg => by simp at hg; omega))
        have hGb := HGA.out.step hbWb
        have t16 := cell_of_row _ _ 0 _ _ _ ((htu.block Wa.heap.size (by omega) (by simp)).trans HROWb.out.1)
        obtain ⟨t17, -, -⟩ := one_of hcnt
        have t7 := hGb.cw
        have t6 := hGb.e6
        have f6 := hGb.f6
        have l6 := World.block_lt_of_cell? Wb _ t6
        have HBB := Lib.hid (HBA.out.trans (hbWb.mono HBA.out.size))
        have HKB := Lib.hid hKb
        have HKAB := Lib.hid ((hbWb.block Da (Array.getElem?_eq_some_iff.1 HKA.out).1).trans HKA.out)
        have HDB := Lib.hid (show w.heap.size ≤ Db from by have := HBA.out.size; omega)
        have hDab : Da ≠ Db := fun e => by have := (Array.getElem?_eq_some_iff.1 HKA.out).1; omega
        obtain ⟨n9, hn9⟩ : ∃ n9, (pagesL T s).length = n9 := ⟨_, rfl⟩
        rw [hn9] at t7 t17
        clear hn9
        have t6a : ∀ o, (Wb.alloc o).cell? ⟨w.heap.size + 1 + 1 + 1, 0, none⟩ = some (.bool false) := fun o => (World.cell?_of_block (a := ⟨w.heap.size + 1 + 1 + 1, 0, none⟩) (Below.heap_alloc _ _ _ l6)).trans t6
        have f6a : ∀ o, (Wb.alloc o).frozen? ⟨w.heap.size + 1 + 1 + 1, 0, none⟩ = false := fun o => (World.frozen?_of_block (a := ⟨w.heap.size + 1 + 1 + 1, 0, none⟩) (Below.heap_alloc _ _ _ l6)).trans f6
        have nB : Db ≠ w.heap.size + 1 + 1 + 1 := fun e => by have h' := t6; rw [← e] at h'; simp [World.cell?, HKB.out] at h'
        have nA : Da ≠ w.heap.size + 1 + 1 + 1 := fun e => by have h' := t6; rw [← e] at h'; simp [World.cell?, HKAB.out] at h'
        have KB := Lib.hid (show ((Wb.setCell ⟨w.heap.size + 1 + 1 + 1, 0, none⟩ (.bool true)).alloc (.cells #[.int .i64 2] 3)).heap[Db]? = some (.deferred (some [])) from
          (Below.heap_alloc _ _ _ (by rw [show (Wb.setCell ⟨w.heap.size + 1 + 1 + 1, 0, none⟩ (.bool true)).heap.size = Wb.heap.size by simp]; exact (Array.getElem?_eq_some_iff.1 HKB.out).1)).trans ((heap_setCell_other _ _ _ _ nB).trans HKB.out))
        have KA := Lib.hid (show (((Wb.setCell ⟨w.heap.size + 1 + 1 + 1, 0, none⟩ (.bool true)).alloc (.cells #[.int .i64 2] 3)).putObj Db (.deferred none)).heap[Da]? = some (.deferred (some [])) from
          (World.putObj_heap_other hDab).trans ((Below.heap_alloc _ _ _ (by rw [show (Wb.setCell ⟨w.heap.size + 1 + 1 + 1, 0, none⟩ (.bool true)).heap.size = Wb.heap.size by simp]; exact (Array.getElem?_eq_some_iff.1 HKAB.out).1)).trans ((heap_setCell_other _ _ _ _ nA).trans HKAB.out)))
        have hres := Lib.hid (show ((((Wb.setCell ⟨w.heap.size + 1 + 1 + 1, 0, none⟩ (.bool true)).alloc (.cells #[.int .i64 2] 3)).putObj Db (.deferred none)).putObj Da (.deferred none)).cell? ⟨w.heap.size + 1 + 1 + 1, 0, none⟩ = some (.bool true) from
          (World.cell?_of_block (a := ⟨w.heap.size + 1 + 1 + 1, 0, none⟩) (World.putObj_heap_other (Ne.symm nA))).trans ((World.cell?_of_block (a := ⟨w.heap.size + 1 + 1 + 1, 0, none⟩) (World.putObj_heap_other (Ne.symm nB))).trans ((World.cell?_of_block (a := ⟨w.heap.size + 1 + 1 + 1, 0, none⟩) (Below.heap_alloc _ _ _ (by rw [show (Wb.setCell ⟨w.heap.size + 1 + 1 + 1, 0, none⟩ (.bool true)).heap.size = Wb.heap.size by simp]; exact l6))).trans (World.cell?_setCell_same' _ _ _ (by rw [t6]; rfl)))))
        have HFIN := Lib.hid (show Below w.heap.size w ((((Wb.setCell ⟨w.heap.size + 1 + 1 + 1, 0, none⟩ (.bool true)).alloc (.cells #[.int .i64 2] 3)).putObj Db (.deferred none)).putObj Da (.deferred none)) from
          (((HBB.out.setCell (by show w.heap.size ≤ w.heap.size + 1 + 1 + 1; omega) _).alloc (by simp; exact HBB.out.size) _).trans (below_putObj9 _ HDB.out)).trans (below_putObj9 _ HDA.out))
        clear hKb hDb htu hcnt hbWb hGb hrs
        go_wp2
        rw [rounds_succ]
        go_wp2
        refine ⟨by simp, .inl ⟨_, _, rfl, run_takeDeferred KB.out, ?_⟩⟩
        refine ⟨by simp, .inl ⟨_, _, rfl, run_takeDeferred KA.out, ?_⟩⟩
        refine ⟨.bool true, ?_, rfl, HFIN.out⟩
        have hc2 := hres.out
        simp [results, Tryd.f27, go_sem, hc2]
      case stopb => rintro D c W hD h; exact h.elim
    case stopa =>
      rintro Da c Wa hDa ⟨rfl, htu, hcnt⟩ hKa
      by_cases hq : lv = ((pagesL T s).length : Int)
      · have hrs := HROWa.out.2.2
        have hbWa : Below wc.heap.size wc Wa := (HBWa.out).trans (htu.below (B := wc.heap.size) (by omega) (fun g hg => by simp at hg; omega))
        have HGA := Lib.hid (HGc.out.step hbWa)
        have t16 := cell_of_row _ _ 0 _ _ _ ((htu.block wc.heap.size (by omega) (by simp)).trans HROWa.out.1)
        obtain ⟨t17, -, -⟩ := one_of hcnt
        have t7 := HGA.out.cw
        have t5 := HGA.out.e5
        have HBA := Lib.hid (HBc.out.trans (hbWa.mono HBc.out.size))
        have HKA := Lib.hid hKa
        have HDA := Lib.hid (show w.heap.size ≤ Da from by have := HBc.out.size; omega)
        have HWC := Lib.hid (show wc.heap.size ≤ Wa.heap.size from hbWa.size)
        rw [hq] at t17
        obtain ⟨n9, hn9⟩ : ∃ n9, (pagesL T s).length = n9 := ⟨_, rfl⟩
        have t7' := t7
        have t17' := t17
        clear t7 t17
        rw [hn9] at t7'
        rw [hn9] at t17'
        clear hn9 hKa hDa htu hcnt hbWa hrs
        gi_wp2
        go_wp2
        rw [rounds_succ]
        go_wp2
        obtain ⟨W2, hW2⟩ : ∃ W, W = (Wa.alloc (.cells #[.int .i64 1] 3)).alloc (.cells #[.int .i64 0] 3) := ⟨_, rfl⟩
        have hbb : Below Wa.heap.size Wa W2 := by rw [hW2]; exact ((Below.refl _ Wa).alloc (Nat.le_refl _) _).alloc (by simp) _
        have hrowb : W2.heap[Wa.heap.size]? = some (.cells #[.int .i64 1] 3 (0, 0)) ∧ W2.heap[Wa.heap.size + 1]? = some (.cells #[.int .i64 0] 3 (0, 0)) ∧ W2.heap.size = Wa.heap.size + 1 + 1 := by
          subst hW2
          have e3 := heap_alloc_new (Wa.alloc (.cells #[.int .i64 1] 3)) (.cells #[.int .i64 0] 3)
          have e2 := (Below.heap_alloc (Wa.alloc (.cells #[.int .i64 1] 3)) (.cells #[.int .i64 0] 3) Wa.heap.size (by simp)).trans (heap_alloc_new Wa _)
          simp only [World.size_alloc] at e3
          exact ⟨e2, e3, by simp⟩
        rw [← hW2]
        have HBWb := Lib.hid hbb
        have HROWb := Lib.hid hrowb
        have HGb := Lib.hid (HGA.out.step hbb)
        clear hW2 hbb hrowb
        refine (wpIn_wide (n := 5)).1 ?_
        refine range_t7 (tb := T) (s := s) (I := GoI W2 T s (Wa.heap.size + 1)) (Ix := fun _ _ => False) (by omega) (gf := 61) (lb := #[.pointer (some ⟨bx, 0, none⟩), .pointer (some ⟨by', 0, none⟩)]) rfl (enters_of Tryd.func61 (by kernel_rfl) rfl) (space_steps 4 (by omega) _ _ t b N T s _ (fun W hI => ?firstb))
            (goI_own _ _ _ _ (by have := HROWb.out.2.2; omega)) (fun k W h => ⟨h.1.trans (Turned.of_below _ ((Below.refl _ W).drew)), h.2⟩) (fun c => fun _ _ _ _ h _ _ => h.elim) ⟨Turned.refl _ _, HROWb.out.2.1⟩ (fun k W _ hh h => ⟨h.1, by rw [nK_no hh]; exact h.2⟩) ?assignb ?bodyb ?doneb ?stopb
        case firstb =>
          obtain ⟨htu, -⟩ := hI
          have hG := HGA.out.step ((HBWb.out).trans (htu.below (B := Wa.heap.size) (by have := HROWb.out.2.2; omega) (fun g hg => by simp at hg; omega)))
          exact ⟨⟨hG.cx, hG.cy⟩, hG.pt⟩
        case assignb =>
          intro l k W K hK
          simp only [List.setIfInBounds_toArray, List.set_cons_zero, List.set_cons_succ] at hK ⊢
          unfold entV at hK ⊢
          gi_wp2
          exact hK
        case bodyb =>
          rintro l k B W hk hh hB hbx ⟨htu, hcnt⟩
          simp only [List.setIfInBounds_toArray, List.set_cons_zero, List.set_cons_succ]
          have hrs := HROWb.out.2.2
          have hbW : Below Wa.heap.size Wa W := (HBWb.out).trans (htu.below (B := Wa.heap.size) (by omega) (fun g hg => by simp at hg; omega))
          have hG := HGA.out.step hbW
          have tc := cell_of_row _ _ 0 _ _ _ ((htu.block Wa.heap.size (by omega) (by simp)).trans HROWb.out.1)
          have tl : Wa.heap.size < W.heap.size := by have := htu.size; omega
          obtain ⟨d0, df, dl⟩ := one_of hcnt
          obtain ⟨⟨e0, e1, e2, e3⟩, -, el⟩ := four_of hbx
          have hat := nK_at hk hh
          have hgo := getO_hit hk hh
          have hlt := (List.getElem?_eq_some_iff.1 hat).1
          have hny := nK_yes hh
          obtain ⟨va', vc', hv', h2'⟩ := hG.iv
          cases hv'
          obtain ⟨g, rfl, hg, hci⟩ := h2' (fun e => by rw [e] at hat; cases hat)
          have ci := hci _ _ hat
          have cw := hG.cw
          have ce0 := hG.e0
          have ce1 := hG.e1
          have ce5 := hG.e5
          have HQ := Lib.hid hG.qt
          have HGI := Lib.hid hgo
          have HNY := Lib.hid hny
          have HCN := Lib.hid hcnt
          have HBX := Lib.hid hbx
          have HTU := Lib.hid htu
          have HGW := Lib.hid hG
          have HBO := Lib.hid hB
          obtain ⟨m, hm⟩ : ∃ m, nK T s k = m := ⟨_, rfl⟩
          rw [hm] at ci d0 hlt HCN HNY
          obtain ⟨n9, hn9⟩ : ∃ n9, (pagesL T s).length = n9 := ⟨_, rfl⟩
          rw [hn9] at cw hlt
          obtain ⟨E, hE⟩ : ∃ E, atT T s k = E := ⟨_, rfl⟩
          rw [hE] at e0 e1 e2 e3 HGI HBX ⊢
          have HM32 := Lib.hid (show m ≤ 31 by have := picked_len (hitS T s) (fun p => (p : Int)) k; unfold nK at hm; omega)
          clear hbW hG htu hcnt hbx hat hgo hny h2' hci hm hn9 hE hB hh hk
          have hlt' : ¬ ((n9 : Int) ≤ (m : Int)) := by omega
          have hlt2 : (m : Int) < (n9 : Int) := by omega
          gi_wp2_with fail
          refine ⟨trivial, ?_⟩
          gi_at_call 26
          refine (CallsIn.inRound l (callsIn_wide.2 (q_get HQ.out s k))).mono ?_
          rintro e w2 ⟨rfl, hb2⟩
          rw [HGI.out]
          have HB2 := Lib.hid hb2
          have hc2 := (hb2.block _ dl).trans HCN.out
          have HC2 := Lib.hid hc2
          obtain ⟨c0, cf, cl⟩ := one_of hc2
          obtain ⟨⟨x0, x1, x2, x3⟩, -, xl⟩ := four_of ((hb2.block _ el).trans HBX.out)
          have tc2 := (hb2.cell (p := ⟨Wa.heap.size, 0, none⟩) tl).trans tc
          have tl2 := Nat.lt_of_lt_of_le tl hb2.size
          have l5 := Nat.lt_of_lt_of_le (World.block_lt_of_cell? W _ ce5) hb2.size
          have ce52 := cell_step7 ce5 hb2
          have hne1 : Wa.heap.size ≠ Wa.heap.size + 1 := by omega
          have hne2 : w.heap.size + 1 + 1 ≠ Wa.heap.size + 1 := by have := HA.out; have := HWC.out; omega
          have hw : wrap64 ((m : Int) + 1) = (m : Int) + 1 := by have := HM32.out; unfold wrap64; omega
          have hht : Turned W ((w2.setCell ⟨Wa.heap.size + 1, 0, none⟩ (.int .i64 ((m : Int) + 1))).alloc (.cells #[.int .i64 E.fr, .int .i64 E.ri, .bool E.tc, .bool E.wr] 38)) [Wa.heap.size + 1] := ((Turned.of_below _ hb2).trans (Turned.of_set (by simp) _)).trans (Turned.of_below _ ((Below.refl _ _).alloc (Nat.le_refl _) _))
          have hend : ((w2.setCell ⟨Wa.heap.size + 1, 0, none⟩ (.int .i64 ((m : Int) + 1))).alloc (.cells #[.int .i64 E.fr, .int .i64 E.ri, .bool E.tc, .bool E.wr] 38)).heap[Wa.heap.size + 1]? = some (.cells #[.int .i64 ((m : Int) + 1)] 3 (0, 0)) := by
            refine (Below.heap_alloc _ _ _ (by simp; omega)).trans ?_
            rw [heap_setCell_same w2 (Wa.heap.size + 1) 0 _ _ (.int .i64 ((m : Int) + 1)) hc2]
            simp
          have HHT := Lib.hid hht
          have HEND := Lib.hid hend
          have HDL := Lib.hid dl
          clear d0 df dl e0 e1 e2 e3 el tc tl ce0 ce1 ce5 cw ci hb2 hc2 hht hend
          unfold entV
          gi_wp2
          refine ⟨keeps_turned HHT.out (by simp; omega), HTU.out.trans HHT.out, ?_⟩
          rw [HNY.out]
          exact HEND.out
        case doneb =>
          rintro Db Wb hDb ⟨htu, hcnt⟩ hKb
          rw [nK_all] at hcnt
          have hrs := HROWb.out.2.2
          have hbWb : Below Wa.heap.size Wa Wb := (HBWb.out).trans (htu.below (B := Wa.heap.size) (by omega) (fun g hg => by simp at hg; omega))
          have hGb := HGA.out.step hbWb
          have t16 := cell_of_row _ _ 0 _ _ _ ((htu.block Wa.heap.size (by omega) (by simp)).trans HROWb.out.1)
          obtain ⟨t17, -, -⟩ := one_of hcnt
          have t7 := hGb.cw
          have t6 := hGb.e6
          have f6 := hGb.f6
          have l6 := World.block_lt_of_cell? Wb _ t6
          have HBB := Lib.hid (HBA.out.trans (hbWb.mono HBA.out.size))
          have HKB := Lib.hid hKb
          have HKAB := Lib.hid ((hbWb.block Da (Array.getElem?_eq_some_iff.1 HKA.out).1).trans HKA.out)
          have HDB := Lib.hid (show w.heap.size ≤ Db from by have := HBA.out.size; omega)
          have hDab : Da ≠ Db := fun e => by have := (Array.getElem?_eq_some_iff.1 HKA.out).1; omega
          obtain ⟨n9, hn9⟩ : ∃ n9, (pagesL T s).length = n9 := ⟨_, rfl⟩
          rw [hn9] at t7 t17
          clear hn9
          have t6a : ∀ o, (Wb.alloc o).cell? ⟨w.heap.size + 1 + 1 + 1, 0, none⟩ = some (.bool false) := fun o => (World.cell?_of_block (a := ⟨w.heap.size + 1 + 1 + 1, 0, none⟩) (Below.heap_alloc _ _ _ l6)).trans t6
          have f6a : ∀ o, (Wb.alloc o).frozen? ⟨w.heap.size + 1 + 1 + 1, 0, none⟩ = false := fun o => (World.frozen?_of_block (a := ⟨w.heap.size + 1 + 1 + 1, 0, none⟩) (Below.heap_alloc _ _ _ l6)).trans f6
          have nB : Db ≠ w.heap.size + 1 + 1 + 1 := fun e => by have h' := t6; rw [← e] at h'; simp [World.cell?, HKB.out] at h'
          have nA : Da ≠ w.heap.size + 1 + 1 + 1 := fun e => by have h' := t6; rw [← e] at h'; simp [World.cell?, HKAB.out] at h'
          have KB := Lib.hid (show ((Wb.setCell ⟨w.heap.size + 1 + 1 + 1, 0, none⟩ (.bool true)).alloc (.cells #[.int .i64 2] 3)).heap[Db]? = some (.deferred (some [])) from
            (Below.heap_alloc _ _ _ (by rw [show (Wb.setCell ⟨w.heap.size + 1 + 1 + 1, 0, none⟩ (.bool true)).heap.size = Wb.heap.size by simp]; exact (Array.getElem?_eq_some_iff.1 HKB.out).1)).trans ((heap_setCell_other _ _ _ _ nB).trans HKB.out))
          have KA := Lib.hid (show (((Wb.setCell ⟨w.heap.size + 1 + 1 + 1, 0, none⟩ (.bool true)).alloc (.cells #[.int .i64 2] 3)).putObj Db (.deferred none)).heap[Da]? = some (.deferred (some [])) from
            (World.putObj_heap_other hDab).trans ((Below.heap_alloc _ _ _ (by rw [show (Wb.setCell ⟨w.heap.size + 1 + 1 + 1, 0, none⟩ (.bool true)).heap.size = Wb.heap.size by simp]; exact (Array.getElem?_eq_some_iff.1 HKAB.out).1)).trans ((heap_setCell_other _ _ _ _ nA).trans HKAB.out)))
          have hres := Lib.hid (show ((((Wb.setCell ⟨w.heap.size + 1 + 1 + 1, 0, none⟩ (.bool true)).alloc (.cells #[.int .i64 2] 3)).putObj Db (.deferred none)).putObj Da (.deferred none)).cell? ⟨w.heap.size + 1 + 1 + 1, 0, none⟩ = some (.bool true) from
            (World.cell?_of_block (a := ⟨w.heap.size + 1 + 1 + 1, 0, none⟩) (World.putObj_heap_other (Ne.symm nA))).trans ((World.cell?_of_block (a := ⟨w.heap.size + 1 + 1 + 1, 0, none⟩) (World.putObj_heap_other (Ne.symm nB))).trans ((World.cell?_of_block (a := ⟨w.heap.size + 1 + 1 + 1, 0, none⟩) (Below.heap_alloc _ _ _ (by rw [show (Wb.setCell ⟨w.heap.size + 1 + 1 + 1, 0, none⟩ (.bool true)).heap.size = Wb.heap.size by simp]; exact l6))).trans (World.cell?_setCell_same' _ _ _ (by rw [t6]; rfl)))))
          have HFIN := Lib.hid (show Below w.heap.size w ((((Wb.setCell ⟨w.heap.size + 1 + 1 + 1, 0, none⟩ (.bool true)).alloc (.cells #[.int .i64 2] 3)).putObj Db (.deferred none)).putObj Da (.deferred none)) from
            (((HBB.out.setCell (by show w.heap.size ≤ w.heap.size + 1 + 1 + 1; omega) _).alloc (by simp; exact HBB.out.size) _).trans (below_putObj9 _ HDB.out)).trans (below_putObj9 _ HDA.out))
          clear hKb hDb htu hcnt hbWb hGb hrs
          go_wp2
          rw [rounds_succ]
          go_wp2
          refine ⟨by simp, .inl ⟨_, _, rfl, run_takeDeferred KB.out, ?_⟩⟩
          refine ⟨by simp, .inl ⟨_, _, rfl, run_takeDeferred KA.out, ?_⟩⟩
          refine ⟨.bool true, ?_, rfl, HFIN.out⟩
          have hc2 := hres.out
          simp [results, Tryd.f27, go_sem, hc2]
        case stopb => rintro D c W hD h; exact h.elim
      · have hrs := HROWa.out.2.2
        have hbWa : Below wc.heap.size wc Wa := (HBWa.out).trans (htu.below (B := wc.heap.size) (by omega) (fun g hg => by simp at hg; omega))
        have HGA := Lib.hid (HGc.out.step hbWa)
        have t16 := cell_of_row _ _ 0 _ _ _ ((htu.block wc.heap.size (by omega) (by simp)).trans HROWa.out.1)
        obtain ⟨t17, -, -⟩ := one_of hcnt
        have t7 := HGA.out.cw
        have t5 := HGA.out.e5
        have HBA := Lib.hid (HBc.out.trans (hbWa.mono HBc.out.size))
        have HKA := Lib.hid hKa
        have HDA := Lib.hid (show w.heap.size ≤ Da from by have := HBc.out.size; omega)
        have HWC := Lib.hid (show wc.heap.size ≤ Wa.heap.size from hbWa.size)
        obtain ⟨n9, hn9⟩ : ∃ n9, (pagesL T s).length = n9 := ⟨_, rfl⟩
        have t7' := t7
        have t17' := t17
        clear t7 t17
        rw [hn9] at t7'
        rw [hn9] at hq
        have hq1 : (lv != (n9 : Int)) = true := by simpa using hq
        have hq2 : (lv != lv) = false := by simp
        clear hn9 hKa hDa htu hcnt hbWa hrs
        gi_wp2
        go_wp2
        rw [rounds_succ]
        go_wp2
        obtain ⟨W2, hW2⟩ : ∃ W, W = (Wa.alloc (.cells #[.int .i64 1] 3)).alloc (.cells #[.int .i64 0] 3) := ⟨_, rfl⟩
        have hbb : Below Wa.heap.size Wa W2 := by rw [hW2]; exact ((Below.refl _ Wa).alloc (Nat.le_refl _) _).alloc (by simp) _
        have hrowb : W2.heap[Wa.heap.size]? = some (.cells #[.int .i64 1] 3 (0, 0)) ∧ W2.heap[Wa.heap.size + 1]? = some (.cells #[.int .i64 0] 3 (0, 0)) ∧ W2.heap.size = Wa.heap.size + 1 + 1 := by
          subst hW2
          have e3 := heap_alloc_new (Wa.alloc (.cells #[.int .i64 1] 3)) (.cells #[.int .i64 0] 3)
          have e2 := (Below.heap_alloc (Wa.alloc (.cells #[.int .i64 1] 3)) (.cells #[.int .i64 0] 3) Wa.heap.size (by simp)).trans (heap_alloc_new Wa _)
          simp only [World.size_alloc] at e3
          exact ⟨e2, e3, by simp⟩
        rw [← hW2]
        have HBWb := Lib.hid hbb
        have HROWb := Lib.hid hrowb
        have HGb := Lib.hid (HGA.out.step hbb)
        clear hW2 hbb hrowb
        refine (wpIn_wide (n := 5)).1 ?_
        refine range_t7 (tb := T) (s := s) (I := GoI W2 T s (Wa.heap.size + 1)) (Ix := fun _ _ => False) (by omega) (gf := 61) (lb := #[.pointer (some ⟨bx, 0, none⟩), .pointer (some ⟨by', 0, none⟩)]) rfl (enters_of Tryd.func61 (by kernel_rfl) rfl) (space_steps 4 (by omega) _ _ t b N T s _ (fun W hI => ?firstb))
            (goI_own _ _ _ _ (by have := HROWb.out.2.2; omega)) (fun k W h => ⟨h.1.trans (Turned.of_below _ ((Below.refl _ W).drew)), h.2⟩) (fun c => fun _ _ _ _ h _ _ => h.elim) ⟨Turned.refl _ _, HROWb.out.2.1⟩ (fun k W _ hh h => ⟨h.1, by rw [nK_no hh]; exact h.2⟩) ?assignb ?bodyb ?doneb ?stopb
        case firstb =>
          obtain ⟨htu, -⟩ := hI
          have hG := HGA.out.step ((HBWb.out).trans (htu.below (B := Wa.heap.size) (by have := HROWb.out.2.2; omega) (fun g hg => by simp at hg; omega)))
          exact ⟨⟨hG.cx, hG.cy⟩, hG.pt⟩
        case assignb =>
          intro l k W K hK
          simp only [List.setIfInBounds_toArray, List.set_cons_zero, List.set_cons_succ] at hK ⊢
          unfold entV at hK ⊢
          gi_wp2
          exact hK
        case bodyb =>
          rintro l k B W hk hh hB hbx ⟨htu, hcnt⟩
          simp only [List.setIfInBounds_toArray, List.set_cons_zero, List.set_cons_succ]
          have hrs := HROWb.out.2.2
          have hbW : Below Wa.heap.size Wa W := (HBWb.out).trans (htu.below (B := Wa.heap.size) (by omega) (fun g hg => by simp at hg; omega))
          have hG := HGA.out.step hbW
          have tc := cell_of_row _ _ 0 _ _ _ ((htu.block Wa.heap.size (by omega) (by simp)).trans HROWb.out.1)
          have tl : Wa.heap.size < W.heap.size := by have := htu.size; omega
          obtain ⟨d0, df, dl⟩ := one_of hcnt
          obtain ⟨⟨e0, e1, e2, e3⟩, -, el⟩ := four_of hbx
          have hat := nK_at hk hh
          have hgo := getO_hit hk hh
          have hlt := (List.getElem?_eq_some_iff.1 hat).1
          have hny := nK_yes hh
          obtain ⟨va', vc', hv', h2'⟩ := hG.iv
          cases hv'
          obtain ⟨g, rfl, hg, hci⟩ := h2' (fun e => by rw [e] at hat; cases hat)
          have ci := hci _ _ hat
          have cw := hG.cw
          have ce0 := hG.e0
          have ce1 := hG.e1
          have ce5 := hG.e5
          have HQ := Lib.hid hG.qt
          have HGI := Lib.hid hgo
          have HNY := Lib.hid hny
          have HCN := Lib.hid hcnt
          have HBX := Lib.hid hbx
          have HTU := Lib.hid htu
          have HGW := Lib.hid hG
          have HBO := Lib.hid hB
          obtain ⟨m, hm⟩ : ∃ m, nK T s k = m := ⟨_, rfl⟩
          rw [hm] at ci d0 hlt HCN HNY
          obtain ⟨n9, hn9⟩ : ∃ n9, (pagesL T s).length = n9 := ⟨_, rfl⟩
          rw [hn9] at cw hlt
          obtain ⟨E, hE⟩ : ∃ E, atT T s k = E := ⟨_, rfl⟩
          rw [hE] at e0 e1 e2 e3 HGI HBX ⊢
          have HM32 := Lib.hid (show m ≤ 31 by have := picked_len (hitS T s) (fun p => (p : Int)) k; unfold nK at hm; omega)
          clear hbW hG htu hcnt hbx hat hgo hny h2' hci hm hn9 hE hB hh hk
          have hlt' : ¬ ((n9 : Int) ≤ (m : Int)) := by omega
          have hlt2 : (m : Int) < (n9 : Int) := by omega
          gi_wp2_with fail
          refine ⟨trivial, ?_⟩
          gi_at_call 26
          refine (CallsIn.inRound l (callsIn_wide.2 (q_get HQ.out s k))).mono ?_
          rintro e w2 ⟨rfl, hb2⟩
          rw [HGI.out]
          have HB2 := Lib.hid hb2
          have hc2 := (hb2.block _ dl).trans HCN.out
          have HC2 := Lib.hid hc2
          obtain ⟨c0, cf, cl⟩ := one_of hc2
          obtain ⟨⟨x0, x1, x2, x3⟩, -, xl⟩ := four_of ((hb2.block _ el).trans HBX.out)
          have tc2 := (hb2.cell (p := ⟨Wa.heap.size, 0, none⟩) tl).trans tc
          have tl2 := Nat.lt_of_lt_of_le tl hb2.size
          have l5 := Nat.lt_of_lt_of_le (World.block_lt_of_cell? W _ ce5) hb2.size
          have ce52 := cell_step7 ce5 hb2
          have hne1 : Wa.heap.size ≠ Wa.heap.size + 1 := by omega
          have hne2 : w.heap.size + 1 + 1 ≠ Wa.heap.size + 1 := by have := HA.out; have := HWC.out; omega
          have hw : wrap64 ((m : Int) + 1) = (m : Int) + 1 := by have := HM32.out; unfold wrap64; omega
          have hht : Turned W ((w2.setCell ⟨Wa.heap.size + 1, 0, none⟩ (.int .i64 ((m : Int) + 1))).alloc (.cells #[.int .i64 E.fr, .int .i64 E.ri, .bool E.tc, .bool E.wr] 38)) [Wa.heap.size + 1] := ((Turned.of_below _ hb2).trans (Turned.of_set (by simp) _)).trans (Turned.of_below _ ((Below.refl _ _).alloc (Nat.le_refl _) _))
          have hend : ((w2.setCell ⟨Wa.heap.size + 1, 0, none⟩ (.int .i64 ((m : Int) + 1))).alloc (.cells #[.int .i64 E.fr, .int .i64 E.ri, .bool E.tc, .bool E.wr] 38)).heap[Wa.heap.size + 1]? = some (.cells #[.int .i64 ((m : Int) + 1)] 3 (0, 0)) := by
            refine (Below.heap_alloc _ _ _ (by simp; omega)).trans ?_
            rw [heap_setCell_same w2 (Wa.heap.size + 1) 0 _ _ (.int .i64 ((m : Int) + 1)) hc2]
            simp
          have HHT := Lib.hid hht
          have HEND := Lib.hid hend
          have HDL := Lib.hid dl
          clear d0 df dl e0 e1 e2 e3 el tc tl ce0 ce1 ce5 cw ci hb2 hc2 hht hend
          unfold entV
          gi_wp2
          refine ⟨keeps_turned HHT.out (by simp; omega), HTU.out.trans HHT.out, ?_⟩
          rw [HNY.out]
          exact HEND.out
        case doneb =>
          rintro Db Wb hDb ⟨htu, hcnt⟩ hKb
          rw [nK_all] at hcnt
          have hrs := HROWb.out.2.2
          have hbWb : Below Wa.heap.size Wa Wb := (HBWb.out).trans (htu.below (B := Wa.heap.size) (by omega) (fun g hg => by simp at hg; omega))
          have hGb := HGA.out.step hbWb
          have t16 := cell_of_row _ _ 0 _ _ _ ((htu.block Wa.heap.size (by omega) (by simp)).trans HROWb.out.1)
          obtain ⟨t17, -, -⟩ := one_of hcnt
          have t7 := hGb.cw
          have t6 := hGb.e6
          have f6 := hGb.f6
          have l6 := World.block_lt_of_cell? Wb _ t6
          have HBB := Lib.hid (HBA.out.trans (hbWb.mono HBA.out.size))
          have HKB := Lib.hid hKb
          have HKAB := Lib.hid ((hbWb.block Da (Array.getElem?_eq_some_iff.1 HKA.out).1).trans HKA.out)
          have HDB := Lib.hid (show w.heap.size ≤ Db from by have := HBA.out.size; omega)
          have hDab : Da ≠ Db := fun e => by have := (Array.getElem?_eq_some_iff.1 HKA.out).1; omega
          obtain ⟨n9, hn9⟩ : ∃ n9, (pagesL T s).length = n9 := ⟨_, rfl⟩
          rw [hn9] at t7 t17
          clear hn9
          have t6a : ∀ o, (Wb.alloc o).cell? ⟨w.heap.size + 1 + 1 + 1, 0, none⟩ = some (.bool false) := fun o => (World.cell?_of_block (a := ⟨w.heap.size + 1 + 1 + 1, 0, none⟩) (Below.heap_alloc _ _ _ l6)).trans t6
          have f6a : ∀ o, (Wb.alloc o).frozen? ⟨w.heap.size + 1 + 1 + 1, 0, none⟩ = false := fun o => (World.frozen?_of_block (a := ⟨w.heap.size + 1 + 1 + 1, 0, none⟩) (Below.heap_alloc _ _ _ l6)).trans f6
          have nB : Db ≠ w.heap.size + 1 + 1 + 1 := fun e => by have h' := t6; rw [← e] at h'; simp [World.cell?, HKB.out] at h'
          have nA : Da ≠ w.heap.size + 1 + 1 + 1 := fun e => by have h' := t6; rw [← e] at h'; simp [World.cell?, HKAB.out] at h'
          have KB := Lib.hid (show ((Wb.setCell ⟨w.heap.size + 1 + 1 + 1, 0, none⟩ (.bool true)).alloc (.cells #[.int .i64 2] 3)).heap[Db]? = some (.deferred (some [])) from
            (Below.heap_alloc _ _ _ (by rw [show (Wb.setCell ⟨w.heap.size + 1 + 1 + 1, 0, none⟩ (.bool true)).heap.size = Wb.heap.size by simp]; exact (Array.getElem?_eq_some_iff.1 HKB.out).1)).trans ((heap_setCell_other _ _ _ _ nB).trans HKB.out))
          have KA := Lib.hid (show (((Wb.setCell ⟨w.heap.size + 1 + 1 + 1, 0, none⟩ (.bool true)).alloc (.cells #[.int .i64 2] 3)).putObj Db (.deferred none)).heap[Da]? = some (.deferred (some [])) from
            (World.putObj_heap_other hDab).trans ((Below.heap_alloc _ _ _ (by rw [show (Wb.setCell ⟨w.heap.size + 1 + 1 + 1, 0, none⟩ (.bool true)).heap.size = Wb.heap.size by simp]; exact (Array.getElem?_eq_some_iff.1 HKAB.out).1)).trans ((heap_setCell_other _ _ _ _ nA).trans HKAB.out)))
          have hres := Lib.hid (show ((((Wb.setCell ⟨w.heap.size + 1 + 1 + 1, 0, none⟩ (.bool true)).alloc (.cells #[.int .i64 2] 3)).putObj Db (.deferred none)).putObj Da (.deferred none)).cell? ⟨w.heap.size + 1 + 1 + 1, 0, none⟩ = some (.bool true) from
            (World.cell?_of_block (a := ⟨w.heap.size + 1 + 1 + 1, 0, none⟩) (World.putObj_heap_other (Ne.symm nA))).trans ((World.cell?_of_block (a := ⟨w.heap.size + 1 + 1 + 1, 0, none⟩) (World.putObj_heap_other (Ne.symm nB))).trans ((World.cell?_of_block (a := ⟨w.heap.size + 1 + 1 + 1, 0, none⟩) (Below.heap_alloc _ _ _ (by rw [show (Wb.setCell ⟨w.heap.size + 1 + 1 + 1, 0, none⟩ (.bool true)).heap.size = Wb.heap.size by simp]; exact l6))).trans (World.cell?_setCell_same' _ _ _ (by rw [t6]; rfl)))))
          have HFIN := Lib.hid (show Below w.heap.size w ((((Wb.setCell ⟨w.heap.size + 1 + 1 + 1, 0, none⟩ (.bool true)).alloc (.cells #[.int .i64 2] 3)).putObj Db (.deferred none)).putObj Da (.deferred none)) from
            (((HBB.out.setCell (by show w.heap.size ≤ w.heap.size + 1 + 1 + 1; omega) _).alloc (by simp; exact HBB.out.size) _).trans (below_putObj9 _ HDB.out)).trans (below_putObj9 _ HDA.out))
          clear hKb hDb htu hcnt hbWb hGb hrs
          go_wp2
          rw [rounds_succ]
          go_wp2
          refine ⟨by simp, .inl ⟨_, _, rfl, run_takeDeferred KB.out, ?_⟩⟩
          refine ⟨by simp, .inl ⟨_, _, rfl, run_takeDeferred KA.out, ?_⟩⟩
          refine ⟨.bool true, ?_, rfl, HFIN.out⟩
          have hc2 := hres.out
          simp [results, Tryd.f27, go_sem, hc2]
        case stopb => rintro D c W hD h; exact h.elim
end Go.Proofs.YtgkfejnjjoaihaaDoor
