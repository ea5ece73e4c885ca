/- The law CpuNil. -/
import Derived.Test.YtknepljmbpdpkaaCpaC
namespace Go.Proofs.Ytknepljmbpdpkaa
open Go.RowKit

theorem st4_ok : St8Ok ⟨fun _ => 0, 4294967292⟩ := ⟨fun _ => Int.le_refl _, fun _ => by show (0 : Int) < 4294967296; decide, by decide, by decide⟩
theorem new_none (w : World) (Ar : Option Addr) (h : IntsIn w Ar 1 (fun _ => 7)) (cr : Nat) : Calls Try.prog 17 #[.slice none 0 0, .slice Ar 1 cr] w (NewOut [] 1 (fun _ => 7) w) :=
  new_ok (l := []) (fun h => by simp at h) (by simp) h 0 cr (by simp)
set_option maxHeartbeats 8000000 in
set_option maxRecDepth 100000 in
theorem nil8_law (w : World) : Calls Try.prog 8 #[] w fun e w' => e = .returned (.bool true) ∧ Below w.heap.size w w' := by
  have HB := Lib.hid (Below.refl w.heap.size w)
  go_enter Try.func8, Try.ntmps8
  go_wp2_with fail
  refine (run_nil ⟨fun _ => 0, 4⟩ 1 w).mono ?_
  rintro e wa1 ⟨rfl, hb⟩
  have hza1 := hb.size
  have HB := Lib.hid (show Below w.heap.size w wa1 from HB.out.trans hb)
  clear hb
  go_wp2_with (first
    | (refine wpList_store_keep rfl 28 _ _ rfl rfl wa1.heap.size _ rfl rfl 28 _ ((Below.heap_alloc _ _ _ (by simp)).trans (heap_alloc_new wa1 _)) Try.stSize rfl (stA_one _) ?_; intro wb1 HRb HTb)
    | (refine wpList_store_keep rfl 38 _ _ rfl rfl (wa1.heap.size + 1) _ rfl rfl 38 _ ((HTb.out.block (wa1.heap.size + 1) (by simp) (by simp)).trans (heap_alloc_new1 wa1 _ _)) Try.stopSize rfl (by simp [Value.oneCell']) ?_; intro wc1 HRc HTc
       have hsg := seg_below HTb.out HTc.out
       have hzc1 : wa1.heap.size + 2 ≤ wc1.heap.size := by have h1 := HTb.out.size; have h2 := HTc.out.size; simp at h1; omega
       have HB := Lib.hid (show Below w.heap.size w wc1 from HB.out.trans (hsg.mono HB.out.size))
       have HR := Lib.hid ((((Rows8.nil wa1).below hsg).cons ((HTc.out.block wa1.heap.size (Nat.lt_of_lt_of_le (by simp; omega) HTb.out.size) (by simp)).trans HRb.out)).cons HRc.out)
       clear hsg HRb HTb HRc HTc
       have hw1 := Nat.le_refl wc1.heap.size)
    | (go_at_call 18; refine (load_nil _ _ _ _).mono ?_; rintro e w' ⟨rfl, rfl⟩)
    | (go_at_call 20; refine (store_nil _ _ _ _ _).mono ?_; rintro e w' ⟨rfl, rfl⟩))
  refine (new_none _ _ (ints_one 7 _) 1).mono ?_
  rintro e wn1 ⟨F1, B1, ra1, rc1, rfl, hf, gF, gB, gR, hb⟩
  have hbn := (Bl.alloc (Below.refl _ wc1) _).trans (hb.mono (by simp))
  have HR := Lib.hid (HR.out.below hbn)
  have hzn1 := hbn.size
  have HB := Lib.hid (show Below w.heap.size w wn1 from HB.out.trans (hbn.mono HB.out.size))
  clear hf gF gB gR hb hbn
  go_wp2_with fail
  refine (run_bad st0 F1 (-1) (Or.inl rfl) wn1).mono ?_
  rintro e wa2 ⟨rfl, hb⟩
  have hza2 := hb.size
  have HR := Lib.hid (HR.out.below hb)
  have HB := Lib.hid (show Below w.heap.size w wa2 from HB.out.trans (hb.mono HB.out.size))
  clear hb
  go_wp2_with (first
    | (refine wpList_store_keep rfl 28 _ _ rfl rfl wa2.heap.size _ rfl rfl 28 _ ((Below.heap_alloc _ _ _ (by simp)).trans (heap_alloc_new wa2 _)) Try.stSize rfl (stA_one _) ?_; intro wb2 HRb HTb)
    | (refine wpList_store_keep rfl 38 _ _ rfl rfl (wa2.heap.size + 1) _ rfl rfl 38 _ ((HTb.out.block (wa2.heap.size + 1) (by simp) (by simp)).trans (heap_alloc_new1 wa2 _ _)) Try.stopSize rfl (by simp [Value.oneCell']) ?_; intro wc2 HRc HTc
       have hsg := seg_below HTb.out HTc.out
       have hzc2 : wa2.heap.size + 2 ≤ wc2.heap.size := by have h1 := HTb.out.size; have h2 := HTc.out.size; simp at h1; omega
       have HB := Lib.hid (show Below w.heap.size w wc2 from HB.out.trans (hsg.mono HB.out.size))
       have HR := Lib.hid (HR.out.below hsg)
       clear hsg HRb HTb HRc HTc
       have hw2 := Nat.le_refl wc2.heap.size))
  refine (run_bad st0 F1 65537 (Or.inr rfl) wc2).mono ?_
  rintro e wa3 ⟨rfl, hb⟩
  have hza3 := hb.size
  have HR := Lib.hid (HR.out.below hb)
  have HB := Lib.hid (show Below w.heap.size w wa3 from HB.out.trans (hb.mono HB.out.size))
  clear hb
  go_wp2_with (first
    | (refine wpList_store_keep rfl 28 _ _ rfl rfl wa3.heap.size _ rfl rfl 28 _ ((Below.heap_alloc _ _ _ (by simp)).trans (heap_alloc_new wa3 _)) Try.stSize rfl (stA_one _) ?_; intro wb3 HRb HTb)
    | (refine wpList_store_keep rfl 38 _ _ rfl rfl (wa3.heap.size + 1) _ rfl rfl 38 _ ((HTb.out.block (wa3.heap.size + 1) (by simp) (by simp)).trans (heap_alloc_new1 wa3 _ _)) Try.stopSize rfl (by simp [Value.oneCell']) ?_; intro wc3 HRc HTc
       have hsg := seg_below HTb.out HTc.out
       have hzc3 : wa3.heap.size + 2 ≤ wc3.heap.size := by have h1 := HTb.out.size; have h2 := HTc.out.size; simp at h1; omega
       have HB := Lib.hid (show Below w.heap.size w wc3 from HB.out.trans (hsg.mono HB.out.size))
       have HR := Lib.hid (HR.out.below hsg)
       clear hsg HRb HTb HRc HTc
       have hw3 := Nat.le_refl wc3.heap.size)
    | (go_at_call 23; refine (fset_nil _ _ _).mono ?_; rintro e w' ⟨rfl, rfl⟩))
  refine (next8 ⟨fun _ => 0, 4294967292⟩ st4_ok wc3).mono ?_
  rintro e wx ⟨rfl, hb⟩
  have hzx := hb.size
  have HR := Lib.hid (HR.out.below hb)
  have HB := Lib.hid (show Below w.heap.size w wx from HB.out.trans (hb.mono HB.out.size))
  clear hb
  go_wp2_with (refine wpList_store_keep rfl 28 _ _ rfl rfl wx.heap.size _ rfl rfl 28 _ (heap_alloc_new wx _) Try.stSize rfl (stA_one _) ?_; intro wy HRb HTb
               have hsg := seg1_below HTb.out
               have hzy : wx.heap.size + 1 ≤ wy.heap.size := by have h1 := HTb.out.size; simp at h1; omega
               have HR := Lib.hid ((HR.out.below hsg).cons HRb.out)
               have HB := Lib.hid (show Below w.heap.size w wy from HB.out.trans (hsg.mono HB.out.size))
               clear hsg HRb HTb)
  refine (code_any (ins_4 wy 52) 1 (by omega)).mono ?_
  rintro e wk ⟨v1, rfl, ho, hb⟩
  change wk.ownsRow _ _ _ _ code4.length (code4.map (Value.int .u8)) at ho
  obtain ⟨a1, c1, rfl⟩ := own_sl8 ho
  have hzk : wy.heap.size ≤ wk.heap.size := by have := hb.size; simp at this; omega
  have HO := Lib.hid ho
  have hbk := (Bl.alloc (Below.refl _ wy) _).trans (hb.mono (by simp))
  have HR := Lib.hid (HR.out.below hbk)
  have HB := Lib.hid (show Below w.heap.size w wk from HB.out.trans (hbk.mono HB.out.size))
  clear ho hb hbk
  go_wp2_with fail
  refine (new_ok (l := code4) (src_of_own HO.out (Bl.alloc (Below.refl _ _) _)) (codeL_01 _ _ _ _ _ _) (ints_one 7 _) c1 1 (by have := k4l; omega)).mono ?_
  rintro e wn4 ⟨F4, B4, ra4, rc4, rfl, hf, gF, gB, gR, hb⟩
  have hbn := (Bl.alloc (Below.refl _ wk) _).trans (hb.mono (by simp))
  have hF4 : wk.heap.size + 1 ≤ F4 := by simpa using gF
  have hB4 : wk.heap.size + 1 ≤ B4 := by simpa using gB
  have hB4l := hf.bl
  have hzn4 := hbn.size
  have HF := Lib.hid hf
  have HG := Lib.hid gR
  have HR := Lib.hid (HR.out.below hbn)
  have hbk4 := HB.out.size
  have HB := Lib.hid (show Below w.heap.size w wn4 from HB.out.trans (hbn.mono hbk4))
  clear hf gF gB gR hb hbn
  go_wp2_with fail
  have hsz4 : wn4.heap.size ≤ wn4.heap.size := by omega
  refine (run_any HF.out (fun b o e => by have := (HG.out b o e).2; omega) stU stU_ok 1 (by omega)).mono ?_
  intro e wa4 hout
  obtain ⟨rfl, hf, -, ht⟩ := RunOut.mk1 (show RunOut _ _ _ _ _ (runT 1 0 stU (memK code4)) _ _ _ from hout) u1s
  clear hout
  have hza4 := ht.size
  rw [u1m] at hf
  have HB := Lib.hid (show Below w.heap.size w wa4 from HB.out.trans (ht.below HB.out.size (by intro g hg; simp at hg; omega)))
  have HR := Lib.hid (HR.out.turned ht (by simp; omega))
  obtain ⟨q4, hq4⟩ : ∃ q, (runT 1 0 stU (memK code4)).1 = q := ⟨_, rfl⟩
  have HQ4 := Lib.hid hq4
  rw [hq4]
  clear ht hq4
  go_wp2_with (first
    | (refine wpList_store_keep rfl 28 _ _ rfl rfl wa4.heap.size _ rfl rfl 28 _ ((Below.heap_alloc _ _ _ (by simp)).trans (heap_alloc_new wa4 _)) Try.stSize rfl (stA_one _) ?_; intro wb4 HRb HTb)
    | (refine wpList_store_keep rfl 38 _ _ rfl rfl (wa4.heap.size + 1) _ rfl rfl 38 _ ((HTb.out.block (wa4.heap.size + 1) (by simp) (by simp)).trans (heap_alloc_new1 wa4 _ _)) Try.stopSize rfl (by simp [Value.oneCell']) ?_; intro wc4 HRc HTc
       have hsg := seg_below HTb.out HTc.out
       have hzc4 : wa4.heap.size + 2 ≤ wc4.heap.size := by have h1 := HTb.out.size; have h2 := HTc.out.size; simp at h1; omega
       have HF := Lib.hid (hf.below hsg)
       have HB := Lib.hid (show Below w.heap.size w wc4 from HB.out.trans (hsg.mono HB.out.size))
       have HR := Lib.hid ((HR.out.below hsg).cons ((HTc.out.block wa4.heap.size (Nat.lt_of_lt_of_le (by simp; omega) HTb.out.size) (by simp)).trans HRb.out))
       clear hsg HRb HTb HRc HTc hf
       have hw4 := Nat.le_refl wc4.heap.size))
  have hsz5 : wn4.heap.size ≤ wc4.heap.size := by omega
  refine (run_any HF.out (fun b o e => by have := (HG.out b o e).2; omega) stW stW_ok 1 (by omega)).mono ?_
  intro e wa5 hout
  obtain ⟨rfl, hf, -, ht⟩ := RunOut.mk1 (show RunOut _ _ _ _ _ (runT 1 0 stW (memK code4)) _ _ _ from hout) w1s
  clear hout
  have hza5 := ht.size
  have HB := Lib.hid (show Below w.heap.size w wa5 from HB.out.trans (ht.below HB.out.size (by intro g hg; simp at hg; omega)))
  have HR := Lib.hid (HR.out.turned ht (by simp; omega))
  obtain ⟨q5, hq5⟩ : ∃ q, (runT 1 0 stW (memK code4)).1 = q := ⟨_, rfl⟩
  have HQ5 := Lib.hid hq5
  rw [hq5]
  clear ht hq5
  go_wp2_with (first
    | (refine wpList_store_keep rfl 28 _ _ rfl rfl wa5.heap.size _ rfl rfl 28 _ ((Below.heap_alloc _ _ _ (by simp)).trans (heap_alloc_new wa5 _)) Try.stSize rfl (stA_one _) ?_; intro wb5 HRb HTb)
    | (refine wpList_store_keep rfl 38 _ _ rfl rfl (wa5.heap.size + 1) _ rfl rfl 38 _ ((HTb.out.block (wa5.heap.size + 1) (by simp) (by simp)).trans (heap_alloc_new1 wa5 _ _)) Try.stopSize rfl (by simp [Value.oneCell']) ?_; intro wc5 HRc HTc
       have hsg := seg_below HTb.out HTc.out
       have hzc5 : wa5.heap.size + 2 ≤ wc5.heap.size := by have h1 := HTb.out.size; have h2 := HTc.out.size; simp at h1; omega
       have HF := Lib.hid (hf.below hsg)
       have HB := Lib.hid (show Below w.heap.size w wc5 from HB.out.trans (hsg.mono HB.out.size))
       have HR := Lib.hid ((HR.out.below hsg).cons ((HTc.out.block wa5.heap.size (Nat.lt_of_lt_of_le (by simp; omega) HTb.out.size) (by simp)).trans HRb.out))
       clear hsg HRb HTb HRc HTc hf
       have hr := HR.out
       obtain ⟨x10, x11, x12, x13, x14, -, -⟩ := five_of (hr (wa1.heap.size + 1, #[.int .i64 0, .int .i64 0, .int .u32 0, .int .i64 0, .int .i64 0], 38) (by simp))
       have rs0 := hr (wa1.heap.size, stA st0, 28) (by simp)
       have z0 : wc5.cell? ⟨wa1.heap.size, 0, none⟩ = some (.int .u32 0) := cell_of_row _ _ _ _ _ _ rs0
       have z1 : wc5.cell? ⟨wa1.heap.size, 1, none⟩ = some (.int .u32 0) := cell_of_row _ _ _ _ _ _ rs0
       have z2 : wc5.cell? ⟨wa1.heap.size, 2, none⟩ = some (.int .u32 0) := cell_of_row _ _ _ _ _ _ rs0
       have z3 : wc5.cell? ⟨wa1.heap.size, 3, none⟩ = some (.int .u32 0) := cell_of_row _ _ _ _ _ _ rs0
       have z4 : wc5.cell? ⟨wa1.heap.size, 4, none⟩ = some (.int .u32 0) := cell_of_row _ _ _ _ _ _ rs0
       have z5 : wc5.cell? ⟨wa1.heap.size, 5, none⟩ = some (.int .u32 0) := cell_of_row _ _ _ _ _ _ rs0
       have z6 : wc5.cell? ⟨wa1.heap.size, 6, none⟩ = some (.int .u32 0) := cell_of_row _ _ _ _ _ _ rs0
       have z7 : wc5.cell? ⟨wa1.heap.size, 7, none⟩ = some (.int .u32 0) := cell_of_row _ _ _ _ _ _ rs0
       have z8 : wc5.cell? ⟨wa1.heap.size, 8, none⟩ = some (.int .u32 0) := cell_of_row _ _ _ _ _ _ rs0
       have z9 : wc5.cell? ⟨wa1.heap.size, 9, none⟩ = some (.int .u32 0) := cell_of_row _ _ _ _ _ _ rs0
       have z10 : wc5.cell? ⟨wa1.heap.size, 10, none⟩ = some (.int .u32 0) := cell_of_row _ _ _ _ _ _ rs0
       have z11 : wc5.cell? ⟨wa1.heap.size, 11, none⟩ = some (.int .u32 0) := cell_of_row _ _ _ _ _ _ rs0
       have z12 : wc5.cell? ⟨wa1.heap.size, 12, none⟩ = some (.int .u32 0) := cell_of_row _ _ _ _ _ _ rs0
       have z13 : wc5.cell? ⟨wa1.heap.size, 13, none⟩ = some (.int .u32 0) := cell_of_row _ _ _ _ _ _ rs0
       have z14 : wc5.cell? ⟨wa1.heap.size, 14, none⟩ = some (.int .u32 0) := cell_of_row _ _ _ _ _ _ rs0
       have z15 : wc5.cell? ⟨wa1.heap.size, 15, none⟩ = some (.int .u32 0) := cell_of_row _ _ _ _ _ _ rs0
       have z16 : wc5.cell? ⟨wa1.heap.size, 16, none⟩ = some (.int .u32 0) := cell_of_row _ _ _ _ _ _ rs0
       clear rs0
       have y416 : wc5.cell? ⟨wa4.heap.size, 16, none⟩ = some (.int .u32 4) := by
         rw [cell_of_row _ _ _ _ _ _ (hr (wa4.heap.size, stA q4, 28) (by simp)), ← HQ4.out]
         exact congrArg (fun z => some (Value.int .u32 z)) u1p
       have y516 : wc5.cell? ⟨wa5.heap.size, 16, none⟩ = some (.int .u32 12) := by
         rw [cell_of_row _ _ _ _ _ _ (hr (wa5.heap.size, stA q5, 28) (by simp)), ← HQ5.out]
         exact congrArg (fun z => some (Value.int .u32 z)) w1p
       have yx16 : wc5.cell? ⟨wx.heap.size, 16, none⟩ = some (.int .u32 0) := by
         rw [cell_of_row _ _ _ _ _ _ (hr (wx.heap.size, _, 28) (List.mem_cons_of_mem _ (List.mem_cons_of_mem _ (List.mem_cons_self ..))))]
         exact congrArg (fun z => some (Value.int .u32 z)) (by decide : m32 (4294967292 + 4) = 0)
       have e1 : ∀ w, (binOp .eql 38 (.agg #[.int .i64 0, .int .i64 0, .int .u32 0, .int .i64 0, .int .i64 0]) (.agg #[.int .i64 0, .int .i64 0, .int .u32 0, .int .i64 0, .int .i64 0])).run Try.prog w = .ok (.bool true) w := fun _ => by kernel_rfl
       have e2 : ∀ w, (binOp .eql 28 (.agg #[.int .u32 0, .int .u32 0, .int .u32 0, .int .u32 0, .int .u32 0, .int .u32 0, .int .u32 0, .int .u32 0, .int .u32 0, .int .u32 0, .int .u32 0, .int .u32 0, .int .u32 0, .int .u32 0, .int .u32 0, .int .u32 0, .int .u32 0]) (.agg #[.int .u32 0, .int .u32 0, .int .u32 0, .int .u32 0, .int .u32 0, .int .u32 0, .int .u32 0, .int .u32 0, .int .u32 0, .int .u32 0, .int .u32 0, .int .u32 0, .int .u32 0, .int .u32 0, .int .u32 0, .int .u32 0, .int .u32 0])).run Try.prog w = .ok (.bool true) w := fun _ => by kernel_rfl
       clear hr)
    | (go_at_call 21; refine (fmay_nil _ _ _).mono ?_; rintro e w' ⟨rfl, rfl⟩)
    | (go_at_call 24; refine (fget_nil _ _).mono ?_; rintro e w' ⟨rfl, rfl⟩)
    | (go_at_call 14; refine (fbytes_nil _).mono ?_; rintro e w' ⟨rfl, rfl⟩)
    | (go_at_call 15; refine (fclone_nil _).mono ?_; rintro e w' ⟨rfl, rfl⟩)
    | (go_at_call 10; refine (kn8_at HB.out).mono ?_; rintro e w' ⟨rfl, hb⟩))
  go_ret
  exact ⟨rfl, hb⟩
end Go.Proofs.Ytknepljmbpdpkaa
