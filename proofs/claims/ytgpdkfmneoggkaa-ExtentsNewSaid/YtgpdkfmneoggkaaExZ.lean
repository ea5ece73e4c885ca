/- Runs where nothing is taken; goes. -/
import Derived.Test.YtgpdkfmneoggkaaExYc
import Derived.Test.YtgpdkfmneoggkaaExL
namespace Go.Proofs.Ytgpdkfmneoggkaa
open Go.RowKit
attribute [local go_sem] Oper.semAt_some

theorem Try.uPart : ∃ D, Try.prog.underlying 67 = some D ∧ D.isRow = true := ⟨_, Try.underlying67, rfl⟩
theorem Try.sPart2 : (Try.prog.info? 67).map (·.size) = some (Try.zeroCells67).size := by kernel_rfl
theorem zp_size : (Try.zeroCells67).size = 66 := by kernel_rfl
theorem range_step10 {w w' : World} {b o : Nat} {cs : List Value} (h : w.rangeAt b o cs) (hb : Below w.heap.size w w') : w'.rangeAt b o cs := fun j v hv => (hb.cell (p := ⟨b, o + j, none⟩) (World.block_lt_of_cell? w _ (h j v hv))).trans (h j v hv)
set_option maxHeartbeats 2000000 in
set_option maxRecDepth 100000 in
theorem runs1_none {w : World} {x d : Nat} {s : Xt} (h : ExIs w x d s) (hb : ∀ a i, (s.pt a).bit i = false) (F : Value) (a : Int) (bx by' : Nat) (h1 : w.cell? ⟨bx, 0, none⟩ = some (.pointer (some ⟨x, 0, none⟩))) (h2 : w.cell? ⟨by', 0, none⟩ = some (.int .i64 a)) :
    Calls Try.prog 77 #[F, .pointer (some ⟨bx, 0, none⟩), .pointer (some ⟨by', 0, none⟩)] w fun e w' => (∃ v, e = .returned v) ∧ Below w.heap.size w w' := by
  have H := Lib.hid h
  have HZ := Lib.hid hb
  by_cases ha : a < 0 ∨ (s.n : Int) ≤ a
  · clear h hb
    go_enter Try.func77, Try.ntmps77
    go_wp2_with (go_at_call 51; refine (of_out H.out a ha).mono ?_; rintro e w' ⟨rfl, rfl⟩)
    (try simp only [Exit.inBlock, Exit.then]); refine bodyPost_ret (results_none rfl _ _ _) rfl ?_
    exact ⟨⟨_, rfl⟩, Below.refl _ _⟩
  · obtain ⟨b, rfl⟩ : ∃ b : Nat, a = b := ⟨a.toNat, by omega⟩
    have hn8 := h.n8
    have hbn : b < s.n := by omega
    obtain ⟨D, hD1, hD2⟩ := Try.uPart
    have HD1 := Lib.hid hD1
    have HD2 := Lib.hid hD2
    have HPT := Lib.hid (h.part (a := b) (by omega))
    have HOK := Lib.hid (h.ok b)
    have hct := (h.ok b).c1
    have HZB := Lib.hid (hb b)
    obtain ⟨p, hp⟩ : ∃ p, s.pt b = p := ⟨_, rfl⟩
    rw [hp] at HPT HOK hct HZB
    have hst : (storeCells ⟨w.heap.size, 0, none⟩ (ptL p)).run Try.prog (w.alloc (Obj.cells Try.zeroCells67 67)) = .ok () ((w.alloc (Obj.cells Try.zeroCells67 67)).setRow w.heap.size (ptL p).toArray) := by
      have h9 := run_storeCells_atF Try.prog w.heap.size 0 67 (0, 0) (ptL p) 0 Try.zeroCells67 (w.alloc (Obj.cells Try.zeroCells67 67)) (heap_alloc_new w _) (by simp) (by rw [ptL_len, zp_size]; omega) (fun v hv => by obtain ⟨k, -, rfl⟩ := List.mem_map.1 hv; exact pcell_one p k)
      have e9 : (Try.zeroCells67).toList.take (0 + 0) ++ ptL p ++ (Try.zeroCells67).toList.drop (0 + 0 + (ptL p).length) = ptL p := by
        rw [ptL_len, List.drop_eq_nil_of_le (by rw [Array.length_toList, zp_size]; omega)]
        simp
      rw [e9] at h9
      exact h9
    have hpl := ptL_len p
    clear h hb hD1 hD2 ha hp HZ
    go_enter Try.func77, Try.ntmps77
    go_wp2_with (first
      | (go_at_call 51; refine (of_yes H.out b hbn).mono ?_; rintro e w' ⟨rfl, rfl⟩)
      | (refine wpList_load_mid rfl 67 _ rfl x (2 + b * 66) rfl (ptL p) D HPT.out HD1.out HD2.out (by rw [ptL_len]; exact Try.sPart) ?_))
    clear hst hpl
    have HR := Lib.hid (show ((w.alloc (Obj.cells Try.zeroCells67 67)).setRow w.heap.size (ptL p).toArray).heap[w.heap.size]? = some (Obj.cells (ptL p).toArray 67 (0, 0)) from setRow_heap _ _ _ _ _ _ (heap_alloc_new w (Obj.cells Try.zeroCells67 67)))
    have HB := Lib.hid (below_setRow ((Below.refl _ w).alloc (Nat.le_refl _) (Obj.cells Try.zeroCells67 67)) (Nat.le_refl _) (ptL p).toArray)
    generalize (w.alloc (Obj.cells Try.zeroCells67 67)).setRow w.heap.size (ptL p).toArray = w2 at HR HB ⊢
    have hrg : w2.rangeAt w.heap.size 0 (ptL p) := fun j v hj => by
      rw [Nat.zero_add, cell_of_row _ _ _ _ _ _ HR.out]
      simpa using hj
    have HRG := Lib.hid hrg
    have c1 := pt_c1 hrg
    rw [Nat.zero_add] at c1
    clear hrg
    refine wp_loop_rounds 2 ?_
    rw [rounds_succ]
    by_cases h0 : p.ct = 0
    · have h0' : ¬ (0 : Int) < (p.ct : Int) := by omega
      go_wp2
      (try simp only [Exit.inBlock, Exit.then]); (try go_end0)
      exact ⟨⟨_, rfl⟩, HB.out⟩
    · have h0' : (0 : Int) < (p.ct : Int) := by omega
      have hh := p.has_in (i := 0) (by omega)
      rw [HZB.out] at hh
      have HH := Lib.hid hh
      clear hh
      go_wp2_with fail
      go_at_call 63
      refine Calls.mono (pend_any HRG.out HOK.out 0 (Nat.zero_le _)) ?_
      rintro e w3 ⟨k, hk, rfl, rfl⟩
      obtain rfl : k = p.ct := by
        rcases hk.stop with e | e
        · exact e
        · rw [HZB.out, HZB.out] at e; exact absurd rfl e
      clear hk
      go_wp2_with (go_at_call 62; refine Calls.mono (phas_any HRG.out HOK.out 0) ?_; rintro e w' ⟨rfl, rfl⟩; rw [show p.has 0 = false from HH.out])
      rw [rounds_succ]
      have h9 : ¬ (p.ct : Int) < (p.ct : Int) := by omega
      go_wp2
      (try simp only [Exit.inBlock, Exit.then]); (try go_end0)
      exact ⟨⟨_, rfl⟩, HB.out⟩
end Go.Proofs.Ytgpdkfmneoggkaa
