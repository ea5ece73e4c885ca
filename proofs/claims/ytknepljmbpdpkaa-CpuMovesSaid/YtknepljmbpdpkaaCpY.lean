/- The law's known: the chapter's rows hold. -/
import Derived.Test.YtknepljmbpdpkaaCpX
namespace Go.Proofs.Ytknepljmbpdpkaa
open Go.RowKit

theorem wpList_store_keep {P : Program} {ops : Array Oper} {rest : List Oper} {o : Oper} {a : Act} {w : World} {Q : Exit → Act → World → Prop} (hgd : o.guard = none) (ty : TypeId) (x y : Operand) (ho : o.op = .store ty x y)
    (hd : o.dst = none) (g : Nat) (cells : Array Value) (hx : a.eval x = .pointer (some ⟨g, 0, none⟩)) (hy : a.eval y = .agg cells)
    (t : TypeId) (old : Array Value) (hg : w.heap[g]? = some (.cells old t (0, 0))) (hi : (P.info? ty).map (·.size) = some cells.size)
    (hold : old.size = cells.size) (h1 : cells.all (·.oneCell') = true)
    (h : ∀ w', Hid (w'.heap[g]? = some (.cells cells t (0, 0))) → Hid (Turned w w' [g]) → wpList P ops Q rest a w') : wpList P ops Q (o :: rest) a w :=
  wpList_store_rowTo hgd ty x y ho hd g cells hx hy t old hg hi hold h1 (h _ (show _ = _ from setRow_heap _ _ _ _ _ _ hg) ⟨rfl, rfl, rfl, by simp [World.setRow], fun k _ hn => setRow_other w g k _ (by simpa using hn)⟩)
theorem RunOut.mk1 {F B : Nat} {ra : Option Addr} {rc bc : Nat} {r : St8 × Mem8 × Stop8} {w : World} {e : Ending} {w' : World} (h : RunOut F B ra rc bc r w e w') {k c x n u : Int} (hs : r.2.2 = ⟨k, c, x, n, u⟩) :
    e = .returned (.tuple #[.agg (stA r.1), stp8 k c x n u, .int .i64 0]) ∧ FlatAt w' F B ra rc bc r.2.1 ∧ St8Ok r.1 ∧ Turned w w' [B] := by
  obtain ⟨h1, h2, h3, h4⟩ := h
  rw [hs] at h1
  exact ⟨h1, h2, h3, h4⟩
theorem new_ok {w : World} {Ab Ar : Option Addr} {l : List Int} (hl : SrcBytes w Ab l) (hl01 : ∀ v ∈ l, 0 ≤ v ∧ v < 256) (h : IntsIn w Ar 1 (fun _ => 7)) (cb cr : Nat) (h1 : l.length ≤ 256) :
    Calls Try.prog 17 #[.slice Ab l.length cb, .slice Ar 1 cr] w (NewOut l 1 (fun _ => 7) w) := new_yes8 hl hl01 h cb cr (by omega) (by omega) rfl (by omega)
theorem src_of_own {w w' : World} {B : Nat} {a : Option Addr} {n c : Nat} {l : List Int} (h : w.ownsRow B 5 1 (.slice a n c) l.length (l.map (Value.int .u8))) (hb : Below w.heap.size w w') : SrcBytes w' a l := fun hp => by
  obtain ⟨g, cap, e, -, hg⟩ := h.form hp
  injection e with e1 e2 e3
  subst e1
  refine ⟨g, 0, rfl, Nat.lt_of_lt_of_le hg hb.size, fun j v hj => ?_⟩
  rw [hb.cell (p := ⟨g, 0 + j, none⟩) hg]
  have := h.cells (g := g) rfl j (.int .u8 v) (by rw [List.getElem?_map, hj]; rfl)
  rw [Addr.add_lit] at this
  exact this
theorem ints_one {w : World} (x : Int) (t : TypeId) : IntsIn (w.alloc (.cells #[.int .i64 x] t)) (some ⟨w.heap.size, 0, none⟩) 1 (fun _ => x) := fun _ => by
  refine ⟨w.heap.size, 0, rfl, by simp, fun j hj => ?_⟩
  obtain rfl : j = 0 := by omega
  rw [cell_of_row _ _ _ _ _ _ (heap_alloc_new w _)]; rfl
theorem st0_ok : St8Ok st0 := ⟨fun _ => Int.le_refl _, fun _ => by show (0 : Int) < 4294967296; decide, by decide, by decide⟩
theorem stA_3 (s : St8) : (stA s)[3]? = some (.int .u32 (s.R 3)) := rfl
theorem own_len {w : World} {B k : Nat} {e : TypeId} {v : Value} {n : Nat} {xs : List Value} (h : w.ownsRow B e k v n xs) : ∃ a c, v = .slice a n c := own_sl8 h
theorem ins_1 (w : World) (t : TypeId) : InsIn (w.alloc (.cells #[.int .i64 5, .int .i64 1, .int .i64 0, .int .i64 0, .int .i64 5, .int .i64 5, .int .i64 2, .int .i64 0, .int .i64 0, .int .i64 7, .int .i64 8, .int .i64 3, .int .i64 1, .int .i64 2, .int .i64 0, .int .i64 3, .int .i64 0, .int .i64 0, .int .i64 0, .int .i64 9] t)) (some ⟨w.heap.size, 0, none⟩) 4 (nth [5, 5, 8, 3]) (nth [1, 2, 3, 0]) (nth [0, 0, 1, 0]) (nth [0, 0, 2, 0]) (nth [5, 7, 0, 9]) := fun _ => by
  refine ⟨w.heap.size, 0, rfl, by simp, fun j hj => ?_⟩
  have hc : ∀ i, (w.alloc (.cells #[.int .i64 5, .int .i64 1, .int .i64 0, .int .i64 0, .int .i64 5, .int .i64 5, .int .i64 2, .int .i64 0, .int .i64 0, .int .i64 7, .int .i64 8, .int .i64 3, .int .i64 1, .int .i64 2, .int .i64 0, .int .i64 3, .int .i64 0, .int .i64 0, .int .i64 0, .int .i64 9] t)).cell? ⟨w.heap.size, i, none⟩ = (#[.int .i64 5, .int .i64 1, .int .i64 0, .int .i64 0, .int .i64 5, .int .i64 5, .int .i64 2, .int .i64 0, .int .i64 0, .int .i64 7, .int .i64 8, .int .i64 3, .int .i64 1, .int .i64 2, .int .i64 0, .int .i64 3, .int .i64 0, .int .i64 0, .int .i64 0, .int .i64 9] : Array Value)[i]? := fun i => cell_of_row _ _ _ _ _ _ (heap_alloc_new w _)
  rcases (show j = 0 ∨ j = 1 ∨ j = 2 ∨ j = 3 by omega) with rfl | rfl | rfl | rfl <;> exact ⟨hc _, hc _, hc _, hc _, hc _⟩
theorem ins_2 (w : World) (t : TypeId) : InsIn (w.alloc (.cells #[.int .i64 5, .int .i64 1, .int .i64 0, .int .i64 0, .int .i64 (-1), .int .i64 19, .int .i64 2, .int .i64 1, .int .i64 0, .int .i64 0] t)) (some ⟨w.heap.size, 0, none⟩) 2 (nth [5, 19]) (nth [1, 2]) (nth [0, 1]) (nth [0, 0]) (nth [-1, 0]) := fun _ => by
  refine ⟨w.heap.size, 0, rfl, by simp, fun j hj => ?_⟩
  have hc : ∀ i, (w.alloc (.cells #[.int .i64 5, .int .i64 1, .int .i64 0, .int .i64 0, .int .i64 (-1), .int .i64 19, .int .i64 2, .int .i64 1, .int .i64 0, .int .i64 0] t)).cell? ⟨w.heap.size, i, none⟩ = (#[.int .i64 5, .int .i64 1, .int .i64 0, .int .i64 0, .int .i64 (-1), .int .i64 19, .int .i64 2, .int .i64 1, .int .i64 0, .int .i64 0] : Array Value)[i]? := fun i => cell_of_row _ _ _ _ _ _ (heap_alloc_new w _)
  rcases (show j = 0 ∨ j = 1 by omega) with rfl | rfl <;> exact ⟨hc _, hc _, hc _, hc _, hc _⟩
theorem ins_3 (w : World) (t : TypeId) : InsIn (w.alloc (.cells #[.int .i64 11, .int .i64 1, .int .i64 1, .int .i64 2, .int .i64 0] t)) (some ⟨w.heap.size, 0, none⟩) 1 (nth [11]) (nth [1]) (nth [1]) (nth [2]) (nth [0]) := fun _ => by
  refine ⟨w.heap.size, 0, rfl, by simp, fun j hj => ?_⟩
  have hc : ∀ i, (w.alloc (.cells #[.int .i64 11, .int .i64 1, .int .i64 1, .int .i64 2, .int .i64 0] t)).cell? ⟨w.heap.size, i, none⟩ = (#[.int .i64 11, .int .i64 1, .int .i64 1, .int .i64 2, .int .i64 0] : Array Value)[i]? := fun i => cell_of_row _ _ _ _ _ _ (heap_alloc_new w _)
  rcases (show j = 0 by omega) with rfl <;> exact ⟨hc _, hc _, hc _, hc _, hc _⟩

/-- Rows of cells. -/
def Rows8 (w : World) (L : List (Nat × Array Value × TypeId)) : Prop := ∀ x ∈ L, w.heap[x.1]? = some (.cells x.2.1 x.2.2 (0, 0))
theorem Rows8.turned {w w' : World} {L : List (Nat × Array Value × TypeId)} {gs : List Nat} (h : Rows8 w L) (ht : Turned w w' gs) (hn : ∀ x ∈ L, x.1 ∉ gs) : Rows8 w' L :=
  fun x hx => (ht.block x.1 (Array.getElem?_eq_some_iff.1 (h x hx)).1 (hn x hx)).trans (h x hx)
theorem Rows8.below {w w' : World} {L : List (Nat × Array Value × TypeId)} (h : Rows8 w L) (hb : Below w.heap.size w w') : Rows8 w' L :=
  fun x hx => (hb.block x.1 (Array.getElem?_eq_some_iff.1 (h x hx)).1).trans (h x hx)
theorem Rows8.cons {w : World} {L : List (Nat × Array Value × TypeId)} (h : Rows8 w L) {g : Nat} {A : Array Value} {t : TypeId} (hg : w.heap[g]? = some (.cells A t (0, 0))) : Rows8 w ((g, A, t) :: L) := fun x hx => by
  rcases List.mem_cons.1 hx with rfl | hx
  · exact hg
  · exact h x hx
theorem Rows8.nil (w : World) : Rows8 w [] := fun _ h => by cases h
theorem seg_below {wa wb wc : World} {o1 o2 : Obj} (hb : Turned ((wa.alloc o1).alloc o2) wb [wa.heap.size]) (hc : Turned wb wc [wa.heap.size + 1]) : Below wa.heap.size wa wc := by
  have h := ((Turned.of_below [wa.heap.size, wa.heap.size + 1] (Bl.alloc (Bl.alloc (Below.refl wa.heap.size wa) o1) o2)).trans (hb.mono (by simp))).trans (hc.mono (by simp))
  exact h.below (Nat.le_refl _) (by simp)
theorem Try.eqS (k c x n u : Int) : True := trivial

set_option maxHeartbeats 8000000 in
set_option maxRecDepth 100000 in
theorem kn8_any (w : World) : Calls Try.prog 10 #[] w fun e w' => e = .returned (.bool true) ∧ Below w.heap.size w w' := by
  have HB := Lib.hid (Below.refl w.heap.size w)
  go_enter Try.func10, Try.ntmps10
  go_wp2_with fail
  refine (code_any (ins_1 w 52) 4 (by omega)).mono ?_
  rintro e wk1 ⟨v1, rfl, ho, hb⟩
  change wk1.ownsRow _ _ _ _ code1.length (code1.map (Value.int .u8)) at ho
  obtain ⟨a1, c1, rfl⟩ := own_sl8 ho
  have hzk1 : w.heap.size ≤ wk1.heap.size := by have := hb.size; simp at this; omega
  have HO := Lib.hid ho
  have hbk := (Bl.alloc (Below.refl _ w) _).trans (hb.mono (by simp))
  have HB := Lib.hid (show Below w.heap.size w wk1 from HB.out.trans (hbk.mono (by have := HB.out.size; omega)))
  clear ho hb hbk
  go_wp2_with fail
  refine (new_ok (l := code1) (src_of_own HO.out (Bl.alloc (Below.refl _ _) _)) (codeL_01 _ _ _ _ _ _) (ints_one 7 _) c1 1 (by have := k123; omega)).mono ?_
  rintro e wn1 ⟨F1, B1, ra1, rc1, rfl, hf, gF, gB, gR, hb⟩
  have hbn := (Bl.alloc (Below.refl _ wk1) _).trans (hb.mono (by simp))
  have hbk1 := HB.out.size
  have hF1 : wk1.heap.size + 1 ≤ F1 := by simpa using gF
  have hB1 : wk1.heap.size + 1 ≤ B1 := by simpa using gB
  have hB1l := hf.bl
  have HF := Lib.hid hf
  have HG := Lib.hid gR
  have HB := Lib.hid (show Below w.heap.size w wn1 from HB.out.trans (hbn.mono hbk1))
  clear hf gF gB gR hb hbn
  go_wp2_with fail
  have hsz1 : wn1.heap.size ≤ wn1.heap.size := by omega
  refine (run_any HF.out (fun b o e => by have := (HG.out b o e).2; omega) st0 st0_ok 10 (by omega)).mono ?_
  intro e wa1 hout
  obtain ⟨rfl, hf, -, ht⟩ := RunOut.mk1 (show RunOut _ _ _ _ _ (runT 10 0 st0 (memK code1)) _ _ _ from hout) k1s
  clear hout
  have hza1 := ht.size
  rw [k1m] at hf
  have HB := Lib.hid (show Below w.heap.size w wa1 from HB.out.trans (ht.below HB.out.size (by intro g hg; simp at hg; omega)))
  obtain ⟨q1, hq1⟩ : ∃ q, (runT 10 0 st0 (memK code1)).1 = q := ⟨_, rfl⟩
  have HQ1 := Lib.hid hq1
  rw [hq1]
  clear ht hq1
  go_wp2_with (first
    | (refine wpList_store_keep rfl 28 _ _ rfl rfl wa1.heap.size _ rfl rfl 28 _ ((Below.heap_alloc _ _ _ (by simp)).trans (heap_alloc_new wa1 _)) Try.stSize rfl (stA_one _) ?_; intro wb1 HRb HTb)
    | (refine wpList_store_keep rfl 38 _ _ rfl rfl (wa1.heap.size + 1) _ rfl rfl 38 _ ((HTb.out.block (wa1.heap.size + 1) (by simp) (by simp)).trans (heap_alloc_new1 wa1 _ _)) Try.stopSize rfl (by simp [Value.oneCell']) ?_; intro wc1 HRc HTc))
  have hsg := seg_below HTb.out HTc.out
  have hzc1 : wa1.heap.size + 2 ≤ wc1.heap.size := by have h1 := HTb.out.size; have h2 := HTc.out.size; simp at h1; omega
  have HF := Lib.hid (hf.below hsg)
  have HB := Lib.hid (show Below w.heap.size w wc1 from HB.out.trans (hsg.mono HB.out.size))
  have HR := Lib.hid ((((Rows8.nil wa1).below hsg).cons ((HTc.out.block wa1.heap.size (Nat.lt_of_lt_of_le (by simp; omega) HTb.out.size) (by simp)).trans HRb.out)).cons HRc.out)
  clear hf hsg HRb HTb HRc HTc
  go_wp2_with fail
  have hsz2 : wn1.heap.size ≤ wc1.heap.size := by omega
  refine (run_any HF.out (fun b o e => by have := (HG.out b o e).2; omega) st0 st0_ok 2 (by omega)).mono ?_
  intro e wa2 hout
  obtain ⟨rfl, hf, -, ht⟩ := RunOut.mk1 (show RunOut _ _ _ _ _ (runT 2 0 st0 (memK code1)) _ _ _ from hout) k2s
  clear hout
  have hza2 := ht.size
  have HB := Lib.hid (show Below w.heap.size w wa2 from HB.out.trans (ht.below HB.out.size (by intro g hg; simp at hg; omega)))
  have HR := Lib.hid (HR.out.turned ht (by simp; omega))
  obtain ⟨q2, hq2⟩ : ∃ q, (runT 2 0 st0 (memK code1)).1 = q := ⟨_, rfl⟩
  have HQ2 := Lib.hid hq2
  rw [hq2]
  clear ht hq2
  go_wp2_with (first
    | (refine wpList_store_keep rfl 28 _ _ rfl rfl wa2.heap.size _ rfl rfl 28 _ ((Below.heap_alloc _ _ _ (by simp)).trans (heap_alloc_new wa2 _)) Try.stSize rfl (stA_one _) ?_; intro wb2 HRb HTb)
    | (refine wpList_store_keep rfl 38 _ _ rfl rfl (wa2.heap.size + 1) _ rfl rfl 38 _ ((HTb.out.block (wa2.heap.size + 1) (by simp) (by simp)).trans (heap_alloc_new1 wa2 _ _)) Try.stopSize rfl (by simp [Value.oneCell']) ?_; intro wc2 HRc HTc))
  have hsg := seg_below HTb.out HTc.out
  have hzc2 : wa2.heap.size + 2 ≤ wc2.heap.size := by have h1 := HTb.out.size; have h2 := HTc.out.size; simp at h1; omega
  have HF := Lib.hid (hf.below hsg)
  have HB := Lib.hid (show Below w.heap.size w wc2 from HB.out.trans (hsg.mono HB.out.size))
  have HR := Lib.hid (((HR.out.below hsg).cons ((HTc.out.block wa2.heap.size (Nat.lt_of_lt_of_le (by simp; omega) HTb.out.size) (by simp)).trans HRb.out)).cons HRc.out)
  clear hf hsg HRb HTb HRc HTc
  go_wp2_with fail
  refine (code_any (ins_2 wc2 52) 2 (by omega)).mono ?_
  rintro e wk2 ⟨v2, rfl, ho, hb⟩
  change wk2.ownsRow _ _ _ _ code2.length (code2.map (Value.int .u8)) at ho
  obtain ⟨a2, c2, rfl⟩ := own_sl8 ho
  have hzk2 : wc2.heap.size ≤ wk2.heap.size := by have := hb.size; simp at this; omega
  have HO := Lib.hid ho
  have hbk := (Bl.alloc (Below.refl _ wc2) _).trans (hb.mono (by simp))
  have HB := Lib.hid (show Below w.heap.size w wk2 from HB.out.trans (hbk.mono (by have := HB.out.size; omega)))
  have HR := Lib.hid (HR.out.below hbk)
  clear ho hb hbk
  go_wp2_with fail
  refine (new_ok (l := code2) (src_of_own HO.out (Bl.alloc (Below.refl _ _) _)) (codeL_01 _ _ _ _ _ _) (ints_one 7 _) c2 1 (by have := k123; omega)).mono ?_
  rintro e wn2 ⟨F2, B2, ra2, rc2, rfl, hf, gF, gB, gR, hb⟩
  have hbn := (Bl.alloc (Below.refl _ wk2) _).trans (hb.mono (by simp))
  have hbk2 := HB.out.size
  have hF2 : wk2.heap.size + 1 ≤ F2 := by simpa using gF
  have hB2 : wk2.heap.size + 1 ≤ B2 := by simpa using gB
  have hB2l := hf.bl
  have HF := Lib.hid hf
  have HG := Lib.hid gR
  have HB := Lib.hid (show Below w.heap.size w wn2 from HB.out.trans (hbn.mono hbk2))
  have HR := Lib.hid (HR.out.below hbn)
  clear hf gF gB gR hb hbn
  go_wp2_with fail
  have hsz3 : wn2.heap.size ≤ wn2.heap.size := by omega
  refine (run_any HF.out (fun b o e => by have := (HG.out b o e).2; omega) st0 st0_ok 9 (by omega)).mono ?_
  intro e wa3 hout
  obtain ⟨rfl, hf, -, ht⟩ := RunOut.mk1 (show RunOut _ _ _ _ _ (runT 9 0 st0 (memK code2)) _ _ _ from hout) k3s
  clear hout
  have hza3 := ht.size
  have HB := Lib.hid (show Below w.heap.size w wa3 from HB.out.trans (ht.below HB.out.size (by intro g hg; simp at hg; omega)))
  have HR := Lib.hid (HR.out.turned ht (by simp; omega))
  obtain ⟨q3, hq3⟩ : ∃ q, (runT 9 0 st0 (memK code2)).1 = q := ⟨_, rfl⟩
  have HQ3 := Lib.hid hq3
  rw [hq3]
  clear ht hq3
  go_wp2_with (first
    | (refine wpList_store_keep rfl 28 _ _ rfl rfl wa3.heap.size _ rfl rfl 28 _ ((Below.heap_alloc _ _ _ (by simp)).trans (heap_alloc_new wa3 _)) Try.stSize rfl (stA_one _) ?_; intro wb3 HRb HTb)
    | (refine wpList_store_keep rfl 38 _ _ rfl rfl (wa3.heap.size + 1) _ rfl rfl 38 _ ((HTb.out.block (wa3.heap.size + 1) (by simp) (by simp)).trans (heap_alloc_new1 wa3 _ _)) Try.stopSize rfl (by simp [Value.oneCell']) ?_; intro wc3 HRc HTc))
  have hsg := seg_below HTb.out HTc.out
  have hzc3 : wa3.heap.size + 2 ≤ wc3.heap.size := by have h1 := HTb.out.size; have h2 := HTc.out.size; simp at h1; omega
  have HF := Lib.hid (hf.below hsg)
  have HB := Lib.hid (show Below w.heap.size w wc3 from HB.out.trans (hsg.mono HB.out.size))
  have HR := Lib.hid (((HR.out.below hsg).cons ((HTc.out.block wa3.heap.size (Nat.lt_of_lt_of_le (by simp; omega) HTb.out.size) (by simp)).trans HRb.out)).cons HRc.out)
  clear hf hsg HRb HTb HRc HTc
  go_wp2_with fail
  refine (code_any (ins_3 wc3 52) 1 (by omega)).mono ?_
  rintro e wk3 ⟨v3, rfl, ho, hb⟩
  change wk3.ownsRow _ _ _ _ code3.length (code3.map (Value.int .u8)) at ho
  obtain ⟨a3, c3, rfl⟩ := own_sl8 ho
  have hzk3 : wc3.heap.size ≤ wk3.heap.size := by have := hb.size; simp at this; omega
  have HO := Lib.hid ho
  have hbk := (Bl.alloc (Below.refl _ wc3) _).trans (hb.mono (by simp))
  have HB := Lib.hid (show Below w.heap.size w wk3 from HB.out.trans (hbk.mono (by have := HB.out.size; omega)))
  have HR := Lib.hid (HR.out.below hbk)
  clear ho hb hbk
  go_wp2_with fail
  refine (new_ok (l := code3) (src_of_own HO.out (Bl.alloc (Below.refl _ _) _)) (codeL_01 _ _ _ _ _ _) (ints_one 7 _) c3 1 (by have := k123; omega)).mono ?_
  rintro e wn3 ⟨F3, B3, ra3, rc3, rfl, hf, gF, gB, gR, hb⟩
  have hbn := (Bl.alloc (Below.refl _ wk3) _).trans (hb.mono (by simp))
  have hbk3 := HB.out.size
  have hF3 : wk3.heap.size + 1 ≤ F3 := by simpa using gF
  have hB3 : wk3.heap.size + 1 ≤ B3 := by simpa using gB
  have hB3l := hf.bl
  have HF := Lib.hid hf
  have HG := Lib.hid gR
  have HB := Lib.hid (show Below w.heap.size w wn3 from HB.out.trans (hbn.mono hbk3))
  have HR := Lib.hid (HR.out.below hbn)
  clear hf gF gB gR hb hbn
  go_wp2_with fail
  have hsz4 : wn3.heap.size ≤ wn3.heap.size := by omega
  refine (run_any HF.out (fun b o e => by have := (HG.out b o e).2; omega) st0 st0_ok 9 (by omega)).mono ?_
  intro e wa4 hout
  obtain ⟨rfl, hf, -, ht⟩ := RunOut.mk1 (show RunOut _ _ _ _ _ (runT 9 0 st0 (memK code3)) _ _ _ from hout) k4s
  clear hout
  have hza4 := ht.size
  have HB := Lib.hid (show Below w.heap.size w wa4 from HB.out.trans (ht.below HB.out.size (by intro g hg; simp at hg; omega)))
  have HR := Lib.hid (HR.out.turned ht (by simp; omega))
  obtain ⟨q4, hq4⟩ : ∃ q, (runT 9 0 st0 (memK code3)).1 = q := ⟨_, rfl⟩
  have HQ4 := Lib.hid hq4
  rw [hq4]
  clear ht hq4
  go_wp2_with (first
    | (refine wpList_store_keep rfl 28 _ _ rfl rfl wa4.heap.size _ rfl rfl 28 _ ((Below.heap_alloc _ _ _ (by simp)).trans (heap_alloc_new wa4 _)) Try.stSize rfl (stA_one _) ?_; intro wb4 HRb HTb)
    | (refine wpList_store_keep rfl 38 _ _ rfl rfl (wa4.heap.size + 1) _ rfl rfl 38 _ ((HTb.out.block (wa4.heap.size + 1) (by simp) (by simp)).trans (heap_alloc_new1 wa4 _ _)) Try.stopSize rfl (by simp [Value.oneCell']) ?_; intro wc4 HRc HTc
       have hsg := seg_below HTb.out HTc.out
       have hzc4 : wa4.heap.size + 2 ≤ wc4.heap.size := by have h1 := HTb.out.size; have h2 := HTc.out.size; simp at h1; omega
       have HF := Lib.hid (hf.below hsg)
       have HB := Lib.hid (show Below w.heap.size w wc4 from HB.out.trans (hsg.mono HB.out.size))
       have HR := Lib.hid (((HR.out.below hsg).cons ((HTc.out.block wa4.heap.size (Nat.lt_of_lt_of_le (by simp; omega) HTb.out.size) (by simp)).trans HRb.out)).cons HRc.out)
       clear hf hsg HRb HTb HRc HTc
       have hr := HR.out
       obtain ⟨x10, x11, x12, x13, x14, -, -⟩ := five_of (hr (wa1.heap.size + 1, #[.int .i64 2, .int .i64 9, .int .u32 0, .int .i64 0, .int .i64 3], 38) (by simp))
       obtain ⟨x20, x21, x22, x23, x24, -, -⟩ := five_of (hr (wa2.heap.size + 1, #[.int .i64 1, .int .i64 0, .int .u32 0, .int .i64 0, .int .i64 2], 38) (by simp))
       obtain ⟨x30, x31, x32, x33, x34, -, -⟩ := five_of (hr (wa3.heap.size + 1, #[.int .i64 5, .int .i64 0, .int .u32 4294967295, .int .i64 1, .int .i64 1], 38) (by simp))
       obtain ⟨x40, x41, x42, x43, x44, -, -⟩ := five_of (hr (wa4.heap.size + 1, #[.int .i64 7, .int .i64 0, .int .u32 0, .int .i64 0, .int .i64 0], 38) (by simp))
       have y13 : wc4.cell? ⟨wa1.heap.size, 3, none⟩ = some (.int .u32 12) := by
         rw [cell_of_row _ _ _ _ _ _ (hr (wa1.heap.size, stA q1, 28) (by simp)), ← HQ1.out]
         exact congrArg (fun z => some (Value.int .u32 z)) k1r
       have y116 : wc4.cell? ⟨wa1.heap.size, 16, none⟩ = some (.int .u32 12) := by
         rw [cell_of_row _ _ _ _ _ _ (hr (wa1.heap.size, stA q1, 28) (by simp)), ← HQ1.out]
         exact congrArg (fun z => some (Value.int .u32 z)) k1p
       have y216 : wc4.cell? ⟨wa2.heap.size, 16, none⟩ = some (.int .u32 8) := by
         rw [cell_of_row _ _ _ _ _ _ (hr (wa2.heap.size, stA q2, 28) (by simp)), ← HQ2.out]
         exact congrArg (fun z => some (Value.int .u32 z)) k2p
       have y316 : wc4.cell? ⟨wa3.heap.size, 16, none⟩ = some (.int .u32 4) := by
         rw [cell_of_row _ _ _ _ _ _ (hr (wa3.heap.size, stA q3, 28) (by simp)), ← HQ3.out]
         exact congrArg (fun z => some (Value.int .u32 z)) k3p
       have e1 : ∀ w, (binOp .eql 38 (.agg #[.int .i64 2, .int .i64 9, .int .u32 0, .int .i64 0, .int .i64 3]) (.agg #[.int .i64 2, .int .i64 9, .int .u32 0, .int .i64 0, .int .i64 3])).run Try.prog w = .ok (.bool true) w := fun _ => by kernel_rfl
       have e2 : ∀ w, (binOp .eql 38 (.agg #[.int .i64 1, .int .i64 0, .int .u32 0, .int .i64 0, .int .i64 2]) (.agg #[.int .i64 1, .int .i64 0, .int .u32 0, .int .i64 0, .int .i64 2])).run Try.prog w = .ok (.bool true) w := fun _ => by kernel_rfl
       have e3 : ∀ w, (binOp .eql 38 (.agg #[.int .i64 5, .int .i64 0, .int .u32 4294967295, .int .i64 1, .int .i64 1]) (.agg #[.int .i64 5, .int .i64 0, .int .u32 4294967295, .int .i64 1, .int .i64 1])).run Try.prog w = .ok (.bool true) w := fun _ => by kernel_rfl
       clear hr))
  go_ret
  exact ⟨rfl, HB.out⟩
end Go.Proofs.Ytknepljmbpdpkaa
