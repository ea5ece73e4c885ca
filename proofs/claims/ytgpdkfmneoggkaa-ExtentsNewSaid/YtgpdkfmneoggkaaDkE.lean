/- Write, the walk. (tools/gen_dke.py) -/
import Derived.Test.YtgpdkfmneoggkaaDkD
import Derived.Laws.Cover3
namespace Go.Proofs.Ytgpdkfmneoggkaa
open Go.RowKit
open Go.Maps (Keyed)
attribute [local go_sem] Oper.semAt_some

theorem Try.uContA : Try.prog.underlying 108 = some (.array 128 5) := by kernel_rfl
theorem run_at128 (a : Option Addr) (cap : Nat) (w : World) : (Instr.arrayAt 108 (.slice a 128 cap)).run Try.prog w = .ok (.pointer a) w := run_arrayAt w 108 5 128 a 128 cap Try.uContA (Nat.le_refl _)
/-- A look-up, at the step of a region that draws its order. -/
theorem step_lookup9 {P : Program} {ops : Array Oper} {o : Oper} {a : Act} {w : World} {K : Act → World → Prop} {Q : Exit → Act → World → Prop} {E : Prop}
    (hg : o.guard = none) (t : TypeId) (m x : Operand) (hop : o.op = Op.lookup t m x false) (mv kv v : Value) (hm : a.eval m = mv) (hx : a.eval x = kv)
    (hrun : (Instr.lookup t mv kv false).run P w = .ok v w) (hK : K (a.put o.dst v) w) : if Region.wanted o (yielded ops a.tmps) = true then Oper.wp P o a w K Q else E := by
  have hw : Region.wanted o (yielded ops a.tmps) = true := by simp [Region.wanted, hg]
  rw [if_pos hw]
  unfold Oper.wp
  simp [execOp, hop, hm, hx, hrun, Result.andThen]
  exact hK
theorem disk_cell2 {w : World} {d : Nat} {a b c : Value} {t : TypeId} (h : w.heap[d]? = some (.cells #[a, b, c] t (0, 0))) : w.cell? ⟨d, 2, none⟩ = some c ∧ w.frozen? ⟨d, 2, none⟩ = false :=
  ⟨by rw [cell_of_row _ _ _ _ _ _ h]; rfl, frozen_of_row _ _ _ _ _ h⟩
set_option maxHeartbeats 4000000 in
set_option maxRecDepth 100000 in
theorem write_yes9 {w : World} {O : Nat → Prop} {d : Nat} {L : Lay9} {s : Dk} (h : DkAt w O d L s) (i : Nat) (hi : i < s.fl.length) (bg bo cap : Nat) (c : Sec) (hc : SecOk c) (hsrc : w.rangeAt bg bo (secL c)) (hbo : ¬ O bg) (hw : s.wr < 1000000) :
    Calls Try.prog 66 #[.pointer (some ⟨d, 0, none⟩), .int .i64 i, .slice (some ⟨bg, bo, none⟩) 128 cap] w fun e w' => e = .returned (.int .i64 0) ∧
      ∃ O' L', DkAt w' O' d L' (s.push i c) ∧ (∀ k, O' k → O k ∨ w.heap.size ≤ k) ∧ TurnO O w w' := by
  suffices hh : Calls Try.prog 66 #[.pointer (some ⟨d, 0, none⟩), .int .i64 i, .slice (some ⟨bg, bo, none⟩) 128 cap] w fun e w' => e = .returned (.int .i64 0) ∧
      ∃ (w3 : World) (L' : Lay9), DkAt w' (fun k => O k ∨ (w.heap.size ≤ k ∧ k < w3.heap.size)) d L' (s.push i c) ∧ TurnO O w w' by
    refine hh.mono ?_
    rintro e w' ⟨rfl, w3, L', h1, h2⟩
    exact ⟨rfl, _, L', h1, fun k hk => hk.imp id And.left, h2⟩
  obtain ⟨i0, hi0, hz0, hz1, hz2⟩ := info_parts Try.zCont
  have hz2 : i0.bytes = 128 := hz2
  obtain ⟨D, m, p⟩ := h.pend
  have hask : s.has i = true := by unfold Dk.has; simp; omega
  have HA := Lib.hid (ask_any9 h i)
  rw [hask, if_pos rfl] at HA
  have hn2 := h.ok.n2
  have hpl := h.ok.pl i
  have hmm := p.mm
  obtain ⟨n, hn⟩ : ∃ n, (s.pd i).length = n := ⟨_, rfl⟩
  have hpc : 0 < (secL c).length := by rw [secL_len hc]; omega
  have hbl : bg < w.heap.size := by
    have := hsrc 0 _ (List.getElem?_eq_getElem hpc)
    exact World.block_lt_of_cell? w _ this
  have keepS : ∀ W : World, (∀ k, k < w.heap.size → (k = d ∨ ¬ O k) → W.heap[k]? = w.heap[k]?) → W.cell? ⟨d, 1, none⟩ = some (.map (some L.b)) ∧ W.rangeAt bg bo (secL c) := fun W hW =>
    ⟨(World.cell?_of_block (a := ⟨d, 1, none⟩) (hW d h.hd (.inl rfl))).trans h.c1, fun j v hj => (World.cell?_of_block (a := ⟨bg, bo + j, none⟩) (hW bg hbl (.inr hbo))).trans (hsrc j v hj)⟩
  have HS0 := Lib.hid (keepS w.drew (fun k _ _ => rfl))
  have HK1 := Lib.hid (keepS (w.drew.alloc (.cells (secA c) 108)) (fun k hk _ => Below.heap_alloc w.drew _ k hk))
  have hblk2 : ∀ w2 : World, (w.drew.alloc (.cells (secA c) 108)).grownBy w2 (L.V i).ownBlock → ∀ k, k < w.heap.size → (L.V i).ownBlock ≠ some k → w2.heap[k]? = w.heap[k]? := fun w2 hg k hk hne =>
    (hg.block k (by simp; omega) (fun e => hne e.symm)).trans (Below.heap_alloc w.drew _ k hk)
  have hok : ∀ k, (k = d ∨ ¬ O k) → (L.V i).ownBlock ≠ some k ∧ k ≠ L.b := fun k hk => by
    rcases hk with rfl | hk
    · exact ⟨fun e => (h.Vd e).1 rfl, h.db⟩
    · exact ⟨fun e => hk (h.oV i k e), fun e => hk (e ▸ h.ob)⟩
  have HK2 : ∀ w2 : World, (w.drew.alloc (.cells (secA c) 108)).grownBy w2 (L.V i).ownBlock → w2.cell? ⟨d, 1, none⟩ = some (.map (some L.b)) ∧ w2.rangeAt bg bo (secL c) := fun w2 hg => keepS w2 (fun k hk ho => hblk2 w2 hg k hk (hok k ho).1)
  have hblk3 : ∀ w2 w3 : World, (w.drew.alloc (.cells (secA c) 108)).grownBy w2 (L.V i).ownBlock → w2.grownBy w3 (some L.b) → ∀ k, k < w.heap.size → (L.V i).ownBlock ≠ some k → k ≠ L.b → w3.heap[k]? = w.heap[k]? := fun w2 w3 hg hg3 k hk hne hb =>
    (hg3.block k (by have := hg.size; simp at this; omega) (fun e => hb (Option.some.inj e))).trans (hblk2 w2 hg k hk hne)
  have HK3 : ∀ w2 w3 : World, (w.drew.alloc (.cells (secA c) 108)).grownBy w2 (L.V i).ownBlock → w2.grownBy w3 (some L.b) → w3.cell? ⟨d, 1, none⟩ = some (.map (some L.b)) ∧ w3.rangeAt bg bo (secL c) := fun w2 w3 hg hg3 => keepS w3 (fun k hk ho => hblk3 w2 w3 hg hg3 k hk (hok k ho).1 (hok k ho).2)
  have HD3 : ∀ w2 w3 : World, (w.drew.alloc (.cells (secA c) 108)).grownBy w2 (L.V i).ownBlock → w2.grownBy w3 (some L.b) → Hid (w3.cell? ⟨d, 2, none⟩ = some (.int .i64 (s.wr : Int)) ∧ w3.frozen? ⟨d, 2, none⟩ = false) := fun w2 w3 hg hg3 =>
    Lib.hid (disk_cell2 ((hblk3 w2 w3 hg hg3 d h.hd (hok d (.inl rfl)).1 (hok d (.inl rfl)).2).trans h.disk))
  have HM2 : ∀ w2 : World, (w.drew.alloc (.cells (secA c) 108)).grownBy w2 (L.V i).ownBlock → Hid (w2.ownsMap Try.prog 3 slE L.b m D) := fun w2 hg => Lib.hid (ownsMap_eq9 p.own (hblk2 w2 hg L.b (h.lt _ h.ob) (fun e => (h.Vd e).2 rfl)))
  have HL0 := Lib.hid ((h.step (w' := w.drew) ((Below.refl _ w).drew)).look i (wf_sec (show i < 4096 by omega)))
  have HL1 := Lib.hid ((h.step (w' := w.drew.alloc (.cells (secA c) 108)) (((Below.refl _ w).drew).alloc (Nat.le_refl _) _)).look i (wf_sec (show i < 4096 by omega)))
  have HR1 := Lib.hid ((h.step (w' := w.drew.alloc (.cells (secA c) 108)) (((Below.refl _ w).drew).alloc (Nat.le_refl _) _)).rows i)
  have HNN := Lib.hid (World.news_of_block (heap_alloc_new w.drew (.cells (secA c) 108)))
  have HWI := Lib.hid (wf_sec (show i < 4096 by omega))
  have H := Lib.hid h
  have P := Lib.hid p
  have HI := Lib.hid hi
  have HC := Lib.hid hc
  have HWR := Lib.hid hw
  have HN0 := Lib.hid hn
  rw [hn] at hpl HR1
  have hinc : IntKind.i64.wrap ((s.wr : Int) + 1) = (s.wr : Int) + 1 := IntWalk.i64_in _ (by omega)
  have hat := run_at128
  clear h p hask hi hc hn hpc hsrc hbo keepS hblk2 hblk3 hok
  go_enter Try.func66, Try.ntmps66
  go_wp2_with (go_at_call 75; refine HA.out.mono ?_; rintro e w' ⟨rfl, rfl⟩)
  refine wp_region_noPanic ?_
  refine wp_region_held_drew (S := fun W => W.cell? ⟨d, 1, none⟩ = some (.map (some L.b)) ∧ W.rangeAt bg bo (secL c)) (by kernel_rfl) ?_ (fun hHeld => ?_)
  · exact HS0.out
  refine wpAnyH_take (i := 0) (v := ?_) rfl (by kernel_rfl) (by kernel_rfl) (by kernel_rfl) (fun _ _ _ h => h) (Or.inl ⟨by rfl, ?_⟩) (by assumption) ?_
  rotate_left
  · (intro w hSw; obtain ⟨hSc, -⟩ := hSw; (try simp only [List.getElem_toArray, List.getElem_cons_zero]); go_simp; try (with_reducible rfl))
  try simp only [Act.put, List.getElem_toArray, List.getElem_cons_zero, List.setIfInBounds_toArray, List.set_cons_zero, List.set_cons_succ]
  refine wpAnyH_take (i := 1) (v := ?_) rfl (by kernel_rfl) (by kernel_rfl) (by kernel_rfl) (fun _ _ _ h => h) (Or.inl ⟨by rfl, ?_⟩) (by assumption) ?_
  rotate_left
  · (intro w hSw; obtain ⟨hSc, -⟩ := hSw; (try simp only [List.getElem_toArray, List.getElem_cons_zero, List.getElem_cons_succ]); go_simp; try (with_reducible rfl))
  try simp only [Act.put, List.getElem_toArray, List.getElem_cons_zero, List.getElem_cons_succ, List.setIfInBounds_toArray, List.set_cons_zero, List.set_cons_succ]
  refine wpAnyH_take (i := 2) (v := ?_) rfl (by kernel_rfl) (by kernel_rfl) (by kernel_rfl) (fun _ _ _ h => h) (Or.inl ⟨by rfl, ?_⟩) (by assumption) ?_
  rotate_left
  · (intro w hSw; obtain ⟨hSc, -⟩ := hSw; (try simp only [List.getElem_toArray, List.getElem_cons_zero, List.getElem_cons_succ]); go_simp; try (with_reducible rfl))
  try simp only [Act.put, List.getElem_toArray, List.getElem_cons_zero, List.getElem_cons_succ, List.setIfInBounds_toArray, List.set_cons_zero, List.set_cons_succ]
  refine wpAnyH_take (i := 3) (v := ?_) rfl (by kernel_rfl) (by kernel_rfl) (by kernel_rfl) (fun _ _ _ h => h) (Or.inl ⟨by rfl, ?_⟩) (by assumption) ?_
  rotate_left
  · (intro w hSw; obtain ⟨hSc, -⟩ := hSw; (try simp only [List.getElem_toArray, List.getElem_cons_zero, List.getElem_cons_succ]); go_simp; try (with_reducible rfl))
  try simp only [Act.put, List.getElem_toArray, List.getElem_cons_zero, List.getElem_cons_succ, List.setIfInBounds_toArray, List.set_cons_zero, List.set_cons_succ]
  refine wpAnyH_take (i := 4) (v := ?_) rfl (by kernel_rfl) (by kernel_rfl) (by kernel_rfl) (fun _ _ _ h => h) (Or.inl ⟨by rfl, ?_⟩) (by assumption) ?_
  rotate_left
  · (intro w hSw; obtain ⟨hSc, -⟩ := hSw; (try simp only [List.getElem_toArray, List.getElem_cons_zero, List.getElem_cons_succ]); go_simp; try (with_reducible rfl))
  try simp only [Act.put, List.getElem_toArray, List.getElem_cons_zero, List.getElem_cons_succ, List.setIfInBounds_toArray, List.set_cons_zero, List.set_cons_succ]
  refine wpAnyH_take (i := 5) (v := ?_) rfl (by kernel_rfl) (by kernel_rfl) (by kernel_rfl) (fun _ _ _ h => h) (Or.inl ⟨by rfl, ?_⟩) (by assumption) ?_
  rotate_left
  · (intro w hSw; obtain ⟨hSc, -⟩ := hSw; (try simp only [List.getElem_toArray, List.getElem_cons_zero, List.getElem_cons_succ]); go_simp; try (with_reducible rfl))
  try simp only [Act.put, List.getElem_toArray, List.getElem_cons_zero, List.getElem_cons_succ, List.setIfInBounds_toArray, List.set_cons_zero, List.set_cons_succ]
  refine wpAnyH_take (i := 6) (v := ?_) rfl (by kernel_rfl) (by kernel_rfl) (by kernel_rfl) (fun _ _ _ h => h) (Or.inl ⟨by rfl, ?_⟩) (by assumption) ?_
  rotate_left
  · (intro w hSw; obtain ⟨hSc, -⟩ := hSw; (try simp only [List.getElem_toArray, List.getElem_cons_zero, List.getElem_cons_succ]); go_simp; try (with_reducible rfl))
  try simp only [Act.put, List.getElem_toArray, List.getElem_cons_zero, List.getElem_cons_succ, List.setIfInBounds_toArray, List.set_cons_zero, List.set_cons_succ]
  refine wpAnyH_take (i := 7) (v := ?_) rfl (by kernel_rfl) (by kernel_rfl) (by kernel_rfl) (fun _ _ _ h => h) (Or.inl ⟨by rfl, ?_⟩) (by assumption) ?_
  rotate_left
  · (intro w hSw; obtain ⟨hSc, -⟩ := hSw; (try simp only [List.getElem_toArray, List.getElem_cons_zero, List.getElem_cons_succ]); go_simp; try (with_reducible rfl))
  try simp only [Act.put, List.getElem_toArray, List.getElem_cons_zero, List.getElem_cons_succ, List.setIfInBounds_toArray, List.set_cons_zero, List.set_cons_succ]
  refine wpAnyH_take (i := 8) (v := ?_) rfl (by kernel_rfl) (by kernel_rfl) (by kernel_rfl) (fun _ _ _ h => h) (Or.inl ⟨by rfl, ?_⟩) (by assumption) ?_
  rotate_left
  · (intro w hSw; obtain ⟨hSc, -⟩ := hSw; (try simp only [List.getElem_toArray, List.getElem_cons_zero, List.getElem_cons_succ]); go_simp; try (with_reducible rfl))
  try simp only [Act.put, List.getElem_toArray, List.getElem_cons_zero, List.getElem_cons_succ, List.setIfInBounds_toArray, List.set_cons_zero, List.set_cons_succ]
  refine wpAnyH_take (i := 9) (v := ?_) rfl (by kernel_rfl) (by kernel_rfl) (by kernel_rfl) (fun _ _ _ h => h) (Or.inl ⟨by rfl, ?_⟩) (by assumption) ?_
  rotate_left
  · (intro w hSw; obtain ⟨hSc, -⟩ := hSw; (try simp only [List.getElem_toArray, List.getElem_cons_zero, List.getElem_cons_succ]); go_simp; try (with_reducible rfl))
  try simp only [Act.put, List.getElem_toArray, List.getElem_cons_zero, List.getElem_cons_succ, List.setIfInBounds_toArray, List.set_cons_zero, List.set_cons_succ]
  refine wpAnyH_take (i := 11) (v := ?_) rfl (by kernel_rfl) (by kernel_rfl) (by kernel_rfl) (fun _ _ _ h => h) (Or.inl ⟨by rfl, ?_⟩) (by assumption) ?_
  rotate_left
  · (intro w hSw; obtain ⟨hSc, -⟩ := hSw; (try simp only [List.getElem_toArray, List.getElem_cons_zero, List.getElem_cons_succ]); go_simp; try (with_reducible rfl))
  try simp only [Act.put, List.getElem_toArray, List.getElem_cons_zero, List.getElem_cons_succ, List.setIfInBounds_toArray, List.set_cons_zero, List.set_cons_succ]
  refine wpAnyH_take (i := 12) (v := ?_) rfl (by kernel_rfl) (by kernel_rfl) (by kernel_rfl) (fun _ _ _ h => h) (Or.inl ⟨by rfl, ?_⟩) (by assumption) ?_
  rotate_left
  · (intro w hSw; obtain ⟨hSc, -⟩ := hSw; (try simp only [List.getElem_toArray, List.getElem_cons_zero, List.getElem_cons_succ]); go_simp; try (with_reducible rfl))
  try simp only [Act.put, List.getElem_toArray, List.getElem_cons_zero, List.getElem_cons_succ, List.setIfInBounds_toArray, List.set_cons_zero, List.set_cons_succ]
  obtain ⟨TD, hTD1, hTD2⟩ := uCont_d
  refine wpAnyH_take (i := 13) (v := .agg (secA c)) rfl (by kernel_rfl) (by kernel_rfl) (by kernel_rfl) (fun _ _ _ h => h) (yieldsIf_load_mid (by rfl) 108 _ rfl bg bo rfl (secL c) TD (fun w h => h.2) hTD1 hTD2 (sContL c HC.out)) (by assumption) ?_
  try simp only [Act.put, List.getElem_toArray, List.getElem_cons_zero, List.getElem_cons_succ, List.setIfInBounds_toArray, List.set_cons_zero, List.set_cons_succ]
  refine wpAnyH_ready (rs := [10, 14]) (by kernel_rfl) (by simp) ?_
  refine (AllReadyH.cons rfl (fun K hK => ?_) (AllReadyH.cons rfl (fun K hK => ?_) AllReadyH.nil))
  · refine step_lookup9 rfl 103 _ _ rfl (.map (some L.b)) (.int .i64 (i : Int)) (L.V i) rfl rfl HL0.out ?_
    refine hK.out _ _ hHeld (fun hHeld => ?_)
    clear hK K
    try simp only [Act.put, List.getElem_toArray, List.getElem_cons_zero, List.getElem_cons_succ, List.setIfInBounds_toArray, List.set_cons_zero, List.set_cons_succ]
    refine wpAnyH_ready (rs := [14]) (by kernel_rfl) (by simp) ?_
    refine AllReadyH.cons rfl (fun K hK => ?_) AllReadyH.nil
    refine step_buildSec rfl _ rfl c HC.out rfl ?_
    refine hK.out _ _ (HK1.out) (fun hHeld => ?_)
    clear hK K
    try simp only [Act.put, List.getElem_toArray, List.getElem_cons_zero, List.getElem_cons_succ, List.setIfInBounds_toArray, List.set_cons_zero, List.set_cons_succ]
    refine wpAnyH_ready (rs := [15]) (by kernel_rfl) (by simp) ?_
    refine AllReadyH.cons rfl (fun K hK => ?_) AllReadyH.nil
    refine step_append_lies _ rfl _ _ 102 rfl 0 108 i0 (.agg (secA zeroS)) 128 128 Try.underlying102 hi0 hz0 hz1 hz2 rfl (by decide) (L.V i) n (rowV (s.pd i)) rfl HR1.out ⟨w.heap.size, 0, none⟩ 1 1 (secL c) rfl (by rw [secL_len HC.out]) HNN.out secL_one (by decide) (by unfold maxLen; omega) (by omega) (Nat.zero_le _) (w.heap.size + 1) (by simp) ?_
    intro g k1 w2 ho2 hg2 hl2 hlt2
    have HO2 := Lib.hid ho2
    have HG2 := Lib.hid hg2
    have HLY := Lib.hid hl2
    have HT2 := Lib.hid hlt2
    clear ho2 hg2 hl2 hlt2
    refine hK.out _ _ (HK2 _ HG2.out) (fun hHeld => ?_)
    clear hK K
    try simp only [Act.put, List.getElem_toArray, List.getElem_cons_zero, List.getElem_cons_succ, List.setIfInBounds_toArray, List.set_cons_zero, List.set_cons_succ]
    refine wpAnyH_ready (rs := [16]) (by kernel_rfl) (by simp) ?_
    refine AllReadyH.cons rfl (fun K hK => ?_) AllReadyH.nil
    refine step_mapUpdate9 rfl _ _ _ 103 rfl 3 102 Try.kint Try.underlying103 slE L.b m D rfl (HM2 _ HG2.out).out (by unfold maxLen; omega) _ _ (.int .i64 (i : Int)) rfl rfl (Maps.keyOf_int_mk Try.underlying3 HWI.out) (slD (.slice (some ⟨g, 0, none⟩) (n + 1) k1)) [] (slE_mk (.inr ⟨_, _, _, rfl⟩)) ?_
    intro w3 hm3 hg3
    have HM3 := Lib.hid hm3
    have HG3 := Lib.hid hg3
    clear hm3 hg3
    refine hK.out _ _ (HK3 _ _ HG2.out HG3.out) (fun hHeld => ?_)
    clear hK K
    try simp only [Act.put, List.getElem_toArray, List.getElem_cons_zero, List.getElem_cons_succ, List.setIfInBounds_toArray, List.set_cons_zero, List.set_cons_succ]
    refine wpAnyH_done (by kernel_rfl) ?_ _
    refine NoPanic.normal ?_
    have hd3 := (HD3 _ _ HG2.out HG3.out).out
    obtain ⟨q0, q1⟩ := hd3
    go_wp2_with fail
    go_ret
    exact ⟨rfl, _, _, push_at H.out P.out i HI.out c HC.out HWR.out (HN0.out ▸ HO2.out) HG2.out HLY.out HT2.out (HN0.out ▸ HM3.out) HG3.out⟩
  · refine step_buildSec rfl _ rfl c HC.out rfl ?_
    refine hK.out _ _ (HK1.out) (fun hHeld => ?_)
    clear hK K
    try simp only [Act.put, List.getElem_toArray, List.getElem_cons_zero, List.getElem_cons_succ, List.setIfInBounds_toArray, List.set_cons_zero, List.set_cons_succ]
    refine wpAnyH_ready (rs := [10]) (by kernel_rfl) (by simp) ?_
    refine AllReadyH.cons rfl (fun K hK => ?_) AllReadyH.nil
    refine step_lookup9 rfl 103 _ _ rfl (.map (some L.b)) (.int .i64 (i : Int)) (L.V i) rfl rfl HL1.out ?_
    refine hK.out _ _ hHeld (fun hHeld => ?_)
    clear hK K
    try simp only [Act.put, List.getElem_toArray, List.getElem_cons_zero, List.getElem_cons_succ, List.setIfInBounds_toArray, List.set_cons_zero, List.set_cons_succ]
    refine wpAnyH_ready (rs := [15]) (by kernel_rfl) (by simp) ?_
    refine AllReadyH.cons rfl (fun K hK => ?_) AllReadyH.nil
    refine step_append_lies _ rfl _ _ 102 rfl 0 108 i0 (.agg (secA zeroS)) 128 128 Try.underlying102 hi0 hz0 hz1 hz2 rfl (by decide) (L.V i) n (rowV (s.pd i)) rfl HR1.out ⟨w.heap.size, 0, none⟩ 1 1 (secL c) rfl (by rw [secL_len HC.out]) HNN.out secL_one (by decide) (by unfold maxLen; omega) (by omega) (Nat.zero_le _) (w.heap.size + 1) (by simp) ?_
    intro g k1 w2 ho2 hg2 hl2 hlt2
    have HO2 := Lib.hid ho2
    have HG2 := Lib.hid hg2
    have HLY := Lib.hid hl2
    have HT2 := Lib.hid hlt2
    clear ho2 hg2 hl2 hlt2
    refine hK.out _ _ (HK2 _ HG2.out) (fun hHeld => ?_)
    clear hK K
    try simp only [Act.put, List.getElem_toArray, List.getElem_cons_zero, List.getElem_cons_succ, List.setIfInBounds_toArray, List.set_cons_zero, List.set_cons_succ]
    refine wpAnyH_ready (rs := [16]) (by kernel_rfl) (by simp) ?_
    refine AllReadyH.cons rfl (fun K hK => ?_) AllReadyH.nil
    refine step_mapUpdate9 rfl _ _ _ 103 rfl 3 102 Try.kint Try.underlying103 slE L.b m D rfl (HM2 _ HG2.out).out (by unfold maxLen; omega) _ _ (.int .i64 (i : Int)) rfl rfl (Maps.keyOf_int_mk Try.underlying3 HWI.out) (slD (.slice (some ⟨g, 0, none⟩) (n + 1) k1)) [] (slE_mk (.inr ⟨_, _, _, rfl⟩)) ?_
    intro w3 hm3 hg3
    have HM3 := Lib.hid hm3
    have HG3 := Lib.hid hg3
    clear hm3 hg3
    refine hK.out _ _ (HK3 _ _ HG2.out HG3.out) (fun hHeld => ?_)
    clear hK K
    try simp only [Act.put, List.getElem_toArray, List.getElem_cons_zero, List.getElem_cons_succ, List.setIfInBounds_toArray, List.set_cons_zero, List.set_cons_succ]
    refine wpAnyH_done (by kernel_rfl) ?_ _
    refine NoPanic.normal ?_
    have hd3 := (HD3 _ _ HG2.out HG3.out).out
    obtain ⟨q0, q1⟩ := hd3
    go_wp2_with fail
    go_ret
    exact ⟨rfl, _, _, push_at H.out P.out i HI.out c HC.out HWR.out (HN0.out ▸ HO2.out) HG2.out HLY.out HT2.out (HN0.out ▸ HM3.out) HG3.out⟩
end Go.Proofs.Ytgpdkfmneoggkaa
