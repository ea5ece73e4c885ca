/- Copy goes through the ports that are open. -/
import Derived.Test.YtakpankipagndaaPoY2
namespace Go.Proofs.Ytakpankipagndaa
open Go.RowKit (wrap64)
open Go.RowKit
open Go.Maps (Keyed)
attribute [local go_sem] Oper.semAt_some

theorem size_le12 {W : World} {b r n : Nat} {D : DataW Unit} {left : Lit → Bool} {cnt : Nat} (h : W.ranges Try.prog 95 ptE b r n D left cnt) : cnt ≤ n := by
  obtain ⟨es, clock, since, seen, c0, hb, F, hs, hD, hr, h1, h2, rest⟩ := h
  rw [← h2]
  unfold leftOf
  exact Nat.le_trans Array.size_filter_le hs
/-- What stands in the loop of Copy. -/
structure CpI (w W0 : World) (R : Nat → Prop) (b' q' g r : Nat) (L : Lay12) (s : Ps) (D : DataW Unit) (W : World) (left : Lit → Bool) (cnt n' : Nat) (C' : Int → Int → Nat) (D' : DataW Unit) : Prop where
  rg : W.ranges Try.prog 95 ptE L.b r s.m D left cnt
  cp : CpAt W0.heap.size W R b' n' left s C' D'
  le : n' + cnt ≤ s.m
  bw : Below w.heap.size w W
  hq : W.heap[q']? = W0.heap[q']?
  hg : W.heap[g]? = W0.heap[g]?
  hs : W0.heap.size ≤ W.heap.size
set_option maxHeartbeats 4000000 in
set_option maxRecDepth 100000 in
theorem copy_any12 {w : World} {O R : Nat → Prop} {p : Nat} {L : Lay12} {s : Ps} (h : PoAt w O R p L s) (hms : s.m < 1000000) : Calls Try.prog 25 #[.pointer (some ⟨p, 0, none⟩)] w (CopyOut12 w R s) := by
  have hmm := @run_makeMap Try.prog
  have H := Lib.hid h
  have HMS := Lib.hid hms
  have c0 := h.c0
  obtain ⟨D, hmp, hD⟩ := h.mp
  have HMP := Lib.hid hmp
  have HD := Lib.hid hD
  clear hmp hD
  have HT := Lib.hid (there_yes12 h)
  have HCL := Lib.hid (clints_any12 (w := w) (A := some ⟨L.qb, 0, none⟩) (qs := List.map (fun (x : Nat) => (x : Int)) s.q) (fun i x hx => by
    rw [List.getElem?_map] at hx
    obtain ⟨y, hy, rfl⟩ := Option.map_eq_some_iff.1 hx
    exact ⟨L.qb, 0, rfl, h.lr _ h.rq, by rw [Nat.zero_add]; exact h.qs i y hy⟩) (by rw [List.length_map]; exact h.ok.q1) (by rw [List.length_map]; have := h.ok.q2; omega) L.qc)
  rw [List.length_map] at HCL
  clear h hms
  go_enter Try.func25, Try.ntmps25
  go_wp2_with (first
    | (go_at_call 45; refine HT.out.mono ?_; rintro e w' ⟨rfl, rfl⟩)
    | (go_at_call 57; refine HCL.out.mono ?_; rintro e w1 ⟨g, cc, rfl, hg1, hg2, hcs, hb⟩; have HG := Lib.hid (And.intro hg1 hg2); have HCS := Lib.hid hcs; have HB := Lib.hid hb; have c1' := ((H.out.step hb).step (((Below.refl _ w1).alloc (o := .map #[] 0) (Nat.le_refl _)).alloc (o := .cells #[.slice (some ⟨g, 0, none⟩) s.q.length cc, .map (some w1.heap.size)] 68 (0, 0)) (by rw [World.size_alloc]; omega))).c1; clear hg1 hg2 hcs hb)
    | (at_range; refine wpList_range_own _ rfl _ 66 rfl 95 96 Try.kSpot Try.underlying66 ptE L.b s.m D rfl (ownsMap_eq12 HMP.out (((HB.out).trans ((((Below.refl _ w1).alloc (o := .map #[] 0) (Nat.le_refl _)).alloc (o := .cells #[.slice (some ⟨g, 0, none⟩) s.q.length cc, .map (some w1.heap.size)] 68 (0, 0)) (by rw [World.size_alloc]; omega)).mono HB.out.size)).block _ (H.out.lo _ H.out.ob))) ?_; intro w0 hrg0 hg0 hs0))
  go_frame
  clear hmm
  have hbn : Below w1.heap.size w1 ((w1.alloc (.map #[] 0)).alloc (.cells #[.slice (some ⟨g, 0, none⟩) s.q.length cc, .map (some w1.heap.size)] 68 (0, 0))) := ((Below.refl _ w1).alloc (Nat.le_refl _) _).alloc (by rw [World.size_alloc]; omega) _
  have hd := heap_alloc_new (w1.alloc (.map #[] 0)) (.cells #[.slice (some ⟨g, 0, none⟩) s.q.length cc, .map (some w1.heap.size)] 68 (0, 0))
  rw [World.size_alloc] at hd
  have hm0 : ((w1.alloc (.map #[] 0)).alloc (.cells #[.slice (some ⟨g, 0, none⟩) s.q.length cc, .map (some w1.heap.size)] 68 (0, 0))).ownsMap Try.prog 95 ptE w1.heap.size 0 (.map []) := ownsMap_eq12 (World.ownsMap_made w1 _ _ _) (Below.heap_alloc _ _ _ (by rw [World.size_alloc]; exact Nat.lt_succ_self _))
  have hsz : ((w1.alloc (.map #[] 0)).alloc (.cells #[.slice (some ⟨g, 0, none⟩) s.q.length cc, .map (some w1.heap.size)] 68 (0, 0))).heap.size = w1.heap.size + 2 := by simp only [World.size_alloc]
  have HQ0 := Lib.hid hd
  have HM0 := Lib.hid hm0
  have HSZ := Lib.hid hsz
  have HBN := Lib.hid hbn
  have HG0 := Lib.hid hg0
  have HS0 := Lib.hid hs0
  have HRG0 := Lib.hid hrg0
  clear hd hm0 hsz hbn hg0 hs0 hrg0 c0 c1'
  generalize ((w1.alloc (.map #[] 0)).alloc (.cells #[.slice (some ⟨g, 0, none⟩) s.q.length cc, .map (some w1.heap.size)] 68 (0, 0))) = W0 at *
  generalize hb1 : w1.heap.size = b1 at *
  go_loopw [23] (fun _ wr => ∃ (left : Lit → Bool) (cnt n' : Nat) (C' : Int → Int → Nat) (D' : DataW Unit), CpI w W0 R b1 (b1 + 1) g W0.heap.size L s D wr left cnt n' C' D')
    (fun _ wr => wr.rangeLeft L.b W0.heap.size)
  case atStart =>
    have hown : w0.ownsMap Try.prog 95 ptE b1 0 (.map []) := ownsMap_eq12 HM0.out (HG0.out.block _ (by have := HSZ.out; omega) (by simp))
    refine ⟨_, _, 0, fun _ _ => 0, .map [], HRG0.out, ⟨hown, fun a n ha hn => ?_, fun a n ha hn => ?_, fun a n X hX hl => ?_, fun a n a' n' X X' hX hX' hl => ?_⟩, by rw [Nat.zero_add]; exact size_le12 HRG0.out, ?_, HG0.out.block _ (by have := HSZ.out; omega) (by simp), HG0.out.block _ (by have := HSZ.out; have := HG.out.2; omega) (by simp), by have := HS0.out; omega⟩
    · rw [HD.out.has a n ha hn]; cases s.c a n <;> rfl
    · rw [HD.out.has a n ha hn]; cases s.c a n <;> rfl
    · rw [HD.out.has a n (H.out.dom_wf hX).1 (H.out.dom_wf hX).2, hX] at hl; cases hl
    · rw [HD.out.has a n (H.out.dom_wf hX).1 (H.out.dom_wf hX).2, hX] at hl; cases hl
    · exact (HB.out.trans (HBN.out.mono (by have := HB.out.size; omega))).grown HG0.out (by have := HSZ.out; have := HB.out.size; omega) (by simp)
  case round =>
    obtain ⟨left, cnt, n1, C1, D1, hi⟩ := hrel
    have HI := Lib.hid hi
    have HRG := Lib.hid hi.rg
    clear hi
    go_wp2_with (first
      | (at_next; refine wpList_next_spots _ rfl _ rfl L.b W0.heap.size s.m D L.C s.c left cnt rfl HRG.out HD.out ?_ ?_)
      | go_in)
    · intro hl0
      go_wp2_with fail
      go_ret
      have hbw0 : w.heap.size ≤ W0.heap.size := by have := HSZ.out; have := HB.out.size; omega
      have hgw : g < wr.heap.size := by have := HG.out.2; have := HI.out.hs; have := HSZ.out; omega
      exact copy_done H.out hl0 hbw0 HI.out.cp (Nat.le_trans (Nat.le_add_right _ _) HI.out.le) HI.out.bw (HI.out.hq.trans HQ0.out) (by have := HB.out.size; omega) (by have := HB.out.size; omega) HG.out.1 hgw (by have := HG.out.2; have := HSZ.out; omega) (by have := HG.out.2; omega) (by have := HG.out.2; omega)
        (fun i x hx => by
          have := HCS.out i x (by rw [List.getElem?_map, hx]; rfl)
          rw [← this]
          exact (World.cell?_of_block (a := ⟨g, i, none⟩) (HI.out.hg.trans (HBN.out.block _ HG.out.2))))
    · intro x y X w2 cnt1 hX hlx hwx hwy hrg1 hlt hg1 hs1 hen
      have hbw0 : w.heap.size ≤ W0.heap.size := by have := HSZ.out; have := HB.out.size; omega
      have HBW0 := Lib.hid hbw0
      have hbw2 : Below w.heap.size w w2 := HI.out.bw.grown hg1 HI.out.bw.size (by rintro k hk; cases hk; exact hbw0)
      have HBW2 := Lib.hid hbw2
      have HCP := Lib.hid (HI.out.cp.iter hg1 (iter_at HRG.out) (fun k hk => ⟨Nat.lt_of_lt_of_le (H.out.lr k hk) HI.out.bw.size, by have := H.out.lr k hk; omega⟩))
      have HQ2 := Lib.hid ((hg1.block _ (by have := HI.out.hs; have := HSZ.out; omega) (fun e => by have := HSZ.out; have := Option.some.inj e; omega)).trans HI.out.hq)
      have HGG := Lib.hid ((hg1.block g (by have := HI.out.hs; have := HSZ.out; have := HG.out.2; omega) (fun e => by have := HSZ.out; have := HG.out.2; have := Option.some.inj e; omega)).trans HI.out.hg)
      have HS2 := Lib.hid (show W0.heap.size ≤ w2.heap.size by rw [hs1]; exact HI.out.hs)
      have HLE := Lib.hid (show n1 + 1 + cnt1 ≤ s.m by have := HI.out.le; omega)
      have HRG1 := Lib.hid hrg1
      have HLT := Lib.hid hlt
      have HX := Lib.hid hX
      have HWF := Lib.hid (And.intro hwx hwy)
      obtain ⟨FA, FC, V, hcl⟩ := H.out.cl x y X hX
      have hcl2 := hcl.keep (w' := w2) (R' := R) hbw2.size (fun k hk => hbw2.block k (H.out.lr k hk)) (hbw2.block _ (H.out.lo _ (H.out.oc x y X hX))) (fun _ hk => hk)
      have HCL2 := Lib.hid hcl2
      obtain ⟨A0, n0, m0, v0⟩ := hcl2.rg.sl 0 (by omega)
      obtain ⟨A1, l1, m1, v1⟩ := hcl2.rg.sl 1 (by omega)
      obtain ⟨A2, l2, m2, v2⟩ := hcl2.rg.sl 2 (by omega)
      obtain ⟨A3, l3, m3, v3⟩ := hcl2.rg.sl 3 (by omega)
      obtain ⟨A4, l4, m4, v4⟩ := hcl2.rg.sl 4 (by omega)
      obtain ⟨A5, l5, m5, v5⟩ := hcl2.rg.sl 5 (by omega)
      obtain ⟨A6, l6, m6, v6⟩ := hcl2.rg.sl 6 (by omega)
      obtain ⟨A7, l7, m7, v7⟩ := hcl2.rg.sl 7 (by omega)
      have hcb := (Below.heap_alloc w2 (Obj.cells #[Value.int IntKind.i64 x, Value.int IntKind.i64 y] 95) (L.C x y) hcl2.lt).trans hcl2.cb
      unfold clA at hcb
      rw [v0, v1, v2, v3, v4, v5, v6, v7] at hcb
      have k0 := cell_of_row _ _ 0 _ _ _ hcb
      have k1 := cell_of_row _ _ 1 _ _ _ hcb
      have k2 := cell_of_row _ _ 2 _ _ _ hcb
      have k3 := cell_of_row _ _ 3 _ _ _ hcb
      have k4 := cell_of_row _ _ 4 _ _ _ hcb
      have k5 := cell_of_row _ _ 5 _ _ _ hcb
      have k6 := cell_of_row _ _ 6 _ _ _ hcb
      have k7 := cell_of_row _ _ 7 _ _ _ hcb
      have k8 := cell_of_row _ _ 8 _ _ _ hcb
      have k9 := cell_of_row _ _ 9 _ _ _ hcb
      have k10 := cell_of_row _ _ 10 _ _ _ hcb
      have k11 := cell_of_row _ _ 11 _ _ _ hcb
      simp only [List.getElem?_toArray, List.getElem?_cons_zero, List.getElem?_cons_succ] at k0 k1 k2 k3 k4 k5 k6 k7 k8 k9 k10 k11
      clear hcl2 hcb hcl hX hlx hwx hwy hrg1 hlt hg1 hs1 hbw0 hbw2
      have HV := Lib.hid (show clA (.slice FA X.fl.length FC) V X.fs X.rg.length X.lo = #[.slice FA X.fl.length FC, .slice A0 n0 m0, .slice A1 l1 m1, .slice A2 l2 m2, .slice A3 l3 m3, .slice A4 l4 m4, .slice A5 l5 m5, .slice A6 l6 m6, .slice A7 l7 m7, .int .i64 (X.fs : Int), .int .i64 (X.rg.length : Int), .int .i64 X.lo] by unfold clA; rw [v0, v1, v2, v3, v4, v5, v6, v7])
      clear v0 v1 v2 v3 v4 v5 v6 v7
      go_wp2_with fail
      clear k0 k1 k2 k3 k4 k5 k6 k7 k8 k9 k10 k11 hen
      have HB4 := Lib.hid (show Below w2.heap.size w2 ((w2.alloc (Obj.cells #[.int .i64 x, .int .i64 y] 95)).alloc (Obj.cells #[.slice FA X.fl.length FC, .slice A0 n0 m0, .slice A1 l1 m1, .slice A2 l2 m2, .slice A3 l3 m3, .slice A4 l4 m4, .slice A5 l5 m5, .slice A6 l6 m6, .slice A7 l7 m7, .int .i64 (X.fs : Int), .int .i64 (X.rg.length : Int), .int .i64 X.lo] 110)) from ((Below.refl _ w2).alloc (Nat.le_refl _) _).alloc (by rw [World.size_alloc]; omega) _)
      have HB3 := Lib.hid (show Below w2.heap.size w2 (w2.alloc (Obj.cells #[.int .i64 x, .int .i64 y] 95)) from (Below.refl _ w2).alloc (Nat.le_refl _) _)
      have HZ2 := Lib.hid (World.size_alloc w2 (Obj.cells #[.int .i64 x, .int .i64 y] 95))
      have HZ3 := Lib.hid (World.size_alloc (w2.alloc (Obj.cells #[.int .i64 x, .int .i64 y] 95)) (Obj.cells #[.slice FA X.fl.length FC, .slice A0 n0 m0, .slice A1 l1 m1, .slice A2 l2 m2, .slice A3 l3 m3, .slice A4 l4 m4, .slice A5 l5 m5, .slice A6 l6 m6, .slice A7 l7 m7, .int .i64 (X.fs : Int), .int .i64 (X.rg.length : Int), .int .i64 X.lo] 110))
      have HK := Lib.hid (fun k (hk : k < (w2.alloc (Obj.cells #[.int .i64 x, .int .i64 y] 95)).heap.size) => Below.heap_alloc (w2.alloc (Obj.cells #[.int .i64 x, .int .i64 y] 95)) (Obj.cells #[.slice FA X.fl.length FC, .slice A0 n0 m0, .slice A1 l1 m1, .slice A2 l2 m2, .slice A3 l3 m3, .slice A4 l4 m4, .slice A5 l5 m5, .slice A6 l6 m6, .slice A7 l7 m7, .int .i64 (X.fs : Int), .int .i64 (X.rg.length : Int), .int .i64 X.lo] 110) k hk)
      have HN := Lib.hid (heap_alloc_new (w2.alloc (Obj.cells #[.int .i64 x, .int .i64 y] 95)) (Obj.cells #[.slice FA X.fl.length FC, .slice A0 n0 m0, .slice A1 l1 m1, .slice A2 l2 m2, .slice A3 l3 m3, .slice A4 l4 m4, .slice A5 l5 m5, .slice A6 l6 m6, .slice A7 l7 m7, .int .i64 (X.fs : Int), .int .i64 (X.rg.length : Int), .int .i64 X.lo] 110))
      have HSP := Lib.hid (heap_alloc_new w2 (Obj.cells #[.int .i64 x, .int .i64 y] 95))
      have HGB := Lib.hid ((World.grownBy_alloc w2 (Obj.cells #[.int .i64 x, .int .i64 y] 95) none).trans (World.grownBy_alloc (w2.alloc (Obj.cells #[.int .i64 x, .int .i64 y] 95)) (Obj.cells #[.slice FA X.fl.length FC, .slice A0 n0 m0, .slice A1 l1 m1, .slice A2 l2 m2, .slice A3 l3 m3, .slice A4 l4 m4, .slice A5 l5 m5, .slice A6 l6 m6, .slice A7 l7 m7, .int .i64 (X.fs : Int), .int .i64 (X.rg.length : Int), .int .i64 X.lo] 110) none))
      generalize (w2.alloc (Obj.cells #[.int .i64 x, .int .i64 y] 95)) = W2 at *
      generalize W2.alloc (Obj.cells #[.slice FA X.fl.length FC, .slice A0 n0 m0, .slice A1 l1 m1, .slice A2 l2 m2, .slice A3 l3 m3, .slice A4 l4 m4, .slice A5 l5 m5, .slice A6 l6 m6, .slice A7 l7 m7, .int .i64 (X.fs : Int), .int .i64 (X.rg.length : Int), .int .i64 X.lo] 110) = W3 at *
      have hsp := (HK.out w2.heap.size (by have := HZ2.out; omega)).trans HSP.out
      have hs0 : W3.drew.cell? ⟨w2.heap.size, 0, none⟩ = some (.int .i64 x) := cell_of_row _ _ 0 _ _ _ hsp
      have hs1 : W3.drew.cell? ⟨w2.heap.size, 1, none⟩ = some (.int .i64 y) := cell_of_row _ _ 1 _ _ _ hsp
      have hq1 : W3.drew.cell? ⟨b1 + 1, 1, none⟩ = some (.map (some b1)) := cell_of_row _ _ 1 _ _ _ ((HB4.out.block _ (by have := HS2.out; have := HSZ.out; omega)).trans (HQ2.out.trans HQ0.out))
      obtain ⟨w5, hrun5, hm5, hg5⟩ := (ownsMap_eq12 (w' := W3.drew) HCP.out.own (HB4.out.block _ (by have := HS2.out; have := HSZ.out; omega))).update Try.kSpot Try.underlying66 (by have := HLE.out; have := HMS.out; unfold maxLen; omega) (key_of12 x y HWF.out.1 HWF.out.2) (val := .pointer (some ⟨w2.heap.size + 1, 0, none⟩)) (d := ptD (some (w2.heap.size + 1))) (ps := []) rfl
      have hrun5 : (Instr.mapUpdate 66 (.map (some b1)) (.agg #[.int .i64 x, .int .i64 y]) (.pointer (some ⟨w2.heap.size + 1, 0, none⟩))).run Try.prog W3.drew = .ok () w5 := hrun5
      have HM5 := Lib.hid hm5
      have HG5 := Lib.hid hg5
      clear hm5 hg5 hsp
      have HRG5 := Lib.hid ((show W3.drew.ranges Try.prog 95 ptE L.b W0.heap.size s.m D (fun z => left z && !z.sameKey (keyP x y)) cnt1 from HRG1.out.kept (w' := W3) (row := none) HGB.out (by simp) (by simp)).kept HG5.out (fun e => by have := H.out.lo _ H.out.ob; have := HB.out.size; have := Option.some.inj e; omega) (fun e => by have := HSZ.out; have := Option.some.inj e; omega))
      have HSZ5 := Lib.hid (show w2.heap.size + 2 ≤ w5.heap.size from by have h1 := HG5.out.size; have h2 := HZ3.out; have h3 := HZ2.out; have h4 : W3.drew.heap.size = W3.heap.size := rfl; omega)
      have HBL := Lib.hid (show ∀ k, k < W2.heap.size → k ≠ b1 → w5.heap[k]? = W2.heap[k]? from fun k hk hne => (HG5.out.block k (by have h2 := HZ3.out; have h4 : W3.drew.heap.size = W3.heap.size := rfl; omega) (fun e => hne (Option.some.inj e))).trans (HK.out k hk))
      have HCL5 := Lib.hid (show ClAt w5 R (w2.heap.size + 1) X FA FC V from by
        have hR : ∀ k, R k → w5.heap[k]? = w2.heap[k]? := fun k hk => by
          have h1 := H.out.lr k hk
          have h2 := HB.out.size
          have h3 := HS2.out
          have h4 := HSZ.out
          exact (HBL.out k (by rw [HZ2.out]; omega) (by omega)).trans (HB3.out.block k (by omega))
        refine ⟨?_, HCL2.out.fl.keepR HCL2.out.fr (by have := HSZ5.out; omega) hR, HCL2.out.fr, HCL2.out.rg.keep (by have := HSZ5.out; omega) hR (fun _ hk => hk)⟩
        rw [HV.out]
        have hn := HN.out
        rw [HZ2.out] at hn
        exact (HG5.out.block _ (by have h2 := HZ3.out; have h3 := HZ2.out; have h4 : W3.drew.heap.size = W3.heap.size := rfl; omega) (fun e => by have := HSZ.out; have := HS2.out; have := Option.some.inj e; omega)).trans hn)
      go_region
      all_goals
        go_roundw
        case rel =>
          have e1 := HSZ.out
          have e0 := HBW0.out
          have e8 : W3.drew.heap.size = W3.heap.size := rfl
          have e9 := HZ3.out
          have e2 := HS2.out
          have e3 := HB.out.size
          have e4 := HZ2.out
          have e5 := HSZ5.out
          have e6 := HG.out.2
          refine ⟨_, _, _, _, _, _, _, _, _, _, _, _, _, _, _, _, ⟨_, cnt1, n1 + 1, _, _, HRG5.out, (HCP.out.below HB3.out (fun k hk => by have := H.out.lr k hk; omega)).more HX.out HWF.out.1 HWF.out.2 (fun a n X hX => H.out.dom_wf hX) (g := w2.heap.size + 1) (by omega) (by omega) HCL5.out HM5.out (by omega) HBL.out (fun k hk => by have := H.out.lr k hk; omega), HLE.out, ?_, ?_, ?_, by omega⟩, rfl⟩
          · exact (HBW2.out.trans (HB4.out.drew.mono HBW2.out.size)).grown HG5.out (by omega) (by rintro k hk; cases hk; omega)
          · exact (HBL.out _ (by omega) (by omega)).trans ((HB3.out.block _ (by omega)).trans HQ2.out)
          · exact (HBL.out _ (by omega) (by omega)).trans ((HB3.out.block _ (by omega)).trans HGG.out)
        case measure => rw [HRG5.out.left_eq, HRG.out.left_eq]; exact HLT.out
end Go.Proofs.Ytakpankipagndaa
