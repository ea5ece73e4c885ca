/- stands, where nothing is taken and nothing was written. -/
import Derived.Test.YtgpdkfmneoggkaaExZb
import Derived.LaidEqlPtr
namespace Go.Proofs.Ytgpdkfmneoggkaa
open Go.RowKit
attribute [local go_sem] Oper.semAt_some

theorem conv_flat10 {w : World} {B : Nat} {v : Value} {l : List Sec} {n : Nat} (h : w.ownsRow B 5 1 v n (rowV l)) (hn : 0 < n) :
    (convert 34 9 v).run Try.prog w = .ok (.string (strOfNums (flat l))) w := by
  obtain ⟨g, cap, rfl, -⟩ := h.form hn
  have hl : (flat l).length = n := by have := h.1; rw [← flat_map, List.length_map] at this; omega
  exact run_convert_bytes_arg w 34 5 Try.underlying34 Try.underlying5 g 0 n cap (flat l) hl (fun j hj => by
    have := h.cells (g := g) rfl j (.int .u8 ((flat l)[j]'(by omega))) (by rw [← flat_map, List.getElem?_map, List.getElem?_eq_getElem (by omega)]; rfl)
    rw [Addr.add_lit] at this
    rw [List.getD_eq_getElem?_getD, List.getElem?_eq_getElem (by omega)]
    exact this) 9 Try.underlying9
theorem taken_none {p : Pt} (h : PtOk p) (hb : ∀ i, p.bit i = false) : ∀ n, takenN p n = 0
  | 0 => rfl
  | n + 1 => by
    have hw : p.wd n = 0 := by
      apply Nat.eq_of_testBit_eq
      intro j
      rw [Nat.zero_testBit]
      by_cases hj : j < 64
      · have := hb (n * 64 + j)
        unfold Pt.bit at this
        rwa [show (n * 64 + j) / 64 = n by omega, show (n * 64 + j) % 64 = j by omega] at this
      · exact Nat.testBit_lt_two_pow (Nat.lt_of_lt_of_le (h.w1 n) (Nat.pow_le_pow_right (by decide) (by omega)))
    rw [takenN, taken_none h hb n, hw]
    decide +kernel
/-- What stands looks at. -/
structure Sn (W : World) (O : Nat → Prop) (x d : Nat) (L : Lay9) (s : Xt) (k : Dk) (q dq : Nat) (Y : Lq) (B sz h : Nat) : Prop where
  ed : ExDk W O x d L s k
  qx : QxAt W q dq Y s
  qd : QdAt B sz sz (fun _ => zeroS) W
  b0 : W.cell? ⟨h, 0, none⟩ = some (.pointer (some ⟨x, 0, none⟩))
  b1 : W.cell? ⟨h, 1, none⟩ = some (.pointer (some ⟨d, 0, none⟩))
  b2 : W.cell? ⟨h, 2, none⟩ = some (.pointer (some ⟨q, 0, none⟩))
theorem Sn.step {W W' : World} {O : Nat → Prop} {x d : Nat} {L : Lay9} {s : Xt} {k : Dk} {q dq : Nat} {Y : Lq} {B sz h : Nat} (hh : Sn W O x d L s k q dq Y B sz h) (hb : Below W.heap.size W W') : Sn W' O x d L s k q dq Y B sz h :=
  ⟨hh.ed.step hb, hh.qx.step hb, by obtain ⟨v, b, h1⟩ := hh.qd; exact ⟨v, b, h1.keep hb⟩, cell_step hh.b0 hb, cell_step hh.b1 hb, cell_step hh.b2 hb⟩
theorem part_both {x d q dq : Nat} {Y : Lq} {s : Xt} (a : Int) : ∃ (fv mv : Int) (ok : Bool), ∀ W, ExIs W x d s → QxAt W q dq Y s →
    Calls Try.prog 13 #[.pointer (some ⟨x, 0, none⟩), .int .i64 a] W (fun e w' => e = .returned (.tuple #[.int .i64 fv, .int .i64 mv, .bool ok]) ∧ Below W.heap.size W w') ∧
    Calls Try.prog 43 #[.pointer (some ⟨q, 0, none⟩), .int .i64 a] W (fun e w' => e = .returned (.tuple #[.int .i64 fv, .int .i64 mv, .bool ok]) ∧ Below W.heap.size W w') ∧
    Calls Try.prog 44 #[.pointer (some ⟨x, 0, none⟩), .int .i64 a] W (fun e w' => e = .returned (.int .i64 mv) ∧ Below W.heap.size W w') := by
  by_cases ha : a < 0 ∨ (s.n : Int) ≤ a
  · refine ⟨0, 0, false, fun W h1 h2 => ⟨(xpart_out h1 a ha).mono fun e w' hh => ?_, (qpart_out h2 a ha).mono fun e w' hh => ?_, (xquota_out h1 a ha).mono fun e w' hh => ?_⟩⟩
    all_goals
      obtain ⟨rfl, rfl⟩ := hh
      exact ⟨rfl, Below.refl _ _⟩
  · obtain ⟨b, rfl⟩ : ∃ b : Nat, a = b := ⟨a.toNat, by omega⟩
    have hb : b < s.n := by omega
    exact ⟨_, _, true, fun W h1 h2 => ⟨xpart_yes h1 b hb, qpart_yes h2 b hb, xquota_yes h1 b hb⟩⟩
theorem taken_both {x d : Nat} {s : Xt} (hb : ∀ a i, (s.pt a).bit i = false) (a : Int) (W : World) (h : ExIs W x d s) : Calls Try.prog 18 #[.pointer (some ⟨x, 0, none⟩), .int .i64 a] W (fun e w' => e = .returned (.int .i64 0) ∧ Below W.heap.size W w') := by
  by_cases ha : a < 0 ∨ (s.n : Int) ≤ a
  · refine (xtaken_out h a ha).mono fun e w' hh => ?_
    obtain ⟨rfl, rfl⟩ := hh
    exact ⟨rfl, Below.refl _ _⟩
  · obtain ⟨b, rfl⟩ : ∃ b : Nat, a = b := ⟨a.toNat, by omega⟩
    refine (xtaken_yes h b (by omega)).mono fun e w' hh => ?_
    obtain ⟨rfl, rfl⟩ := hh
    exact ⟨by rw [taken_none (h.ok b) (hb b)], Below.refl _ _⟩
set_option maxHeartbeats 8000000 in
set_option maxRecDepth 100000 in
theorem stands10_none {w : World} {O : Nat → Prop} {x d : Nat} {L : Lay9} {s : Xt} {k : Dk} {q dq : Nat} {Y : Lq} {B sz : Nat} (hE : ExDk w O x d L s k) (hX : QxAt w q dq Y s) (hQ : QdAt B sz sz (fun _ => zeroS) w) (hdq : dq = B + 1) (hs1 : 1 ≤ sz) (hs2 : sz ≤ 4096)
    (hb : ∀ a i, (s.pt a).bit i = false) (hk : k.fl = rowC (fun _ => zeroS) sz) :
    Calls Try.prog 12 #[.agg #[.pointer (some ⟨x, 0, none⟩), .pointer (some ⟨d, 0, none⟩), .pointer (some ⟨q, 0, none⟩)], .int .i64 0] w fun e w' => e = .returned (.bool true) ∧ Below w.heap.size w w' := by
  have HZ := Lib.hid hb
  have HFL := Lib.hid hk
  have HDQ := Lib.hid hdq.symm
  have hkk : 0 < sz * 128 := by omega
  obtain ⟨FB, hFB⟩ : ∃ FB, strOfNums (flat (rowC (fun _ => zeroS) sz)) = FB := ⟨_, rfl⟩
  have HFB := Lib.hid hFB
  have b0 := (Below.refl _ w).alloc (Nat.le_refl _) (Obj.cells #[.pointer (some ⟨x, 0, none⟩), .pointer (some ⟨d, 0, none⟩), .pointer (some ⟨q, 0, none⟩)] 30)
  have r0 := heap_alloc_new w (Obj.cells #[.pointer (some ⟨x, 0, none⟩), .pointer (some ⟨d, 0, none⟩), .pointer (some ⟨q, 0, none⟩)] 30)
  have S0 := Lib.hid (show Sn (w.alloc (Obj.cells #[.pointer (some ⟨x, 0, none⟩), .pointer (some ⟨d, 0, none⟩), .pointer (some ⟨q, 0, none⟩)] 30)) O x d L s k q dq Y B sz w.heap.size from
    ⟨hE.step b0, hX.step b0, by obtain ⟨v, b, h1⟩ := hQ; exact ⟨v, b, h1.keep b0⟩, cell_of_row _ _ 0 _ _ _ r0, cell_of_row _ _ 1 _ _ _ r0, cell_of_row _ _ 2 _ _ _ r0⟩)
  have B0 := Lib.hid b0
  have SK : ∀ {W : World}, Sn W O x d L s k q dq Y B sz w.heap.size → W.cell? ⟨w.heap.size, 0, none⟩ = some (.pointer (some ⟨x, 0, none⟩)) ∧ W.cell? ⟨w.heap.size, 1, none⟩ = some (.pointer (some ⟨d, 0, none⟩)) ∧ W.cell? ⟨w.heap.size, 2, none⟩ = some (.pointer (some ⟨q, 0, none⟩)) ∧ W.cell? ⟨q, 0, none⟩ = some (.pointer (some ⟨dq, 0, none⟩)) := fun h => ⟨h.b0, h.b1, h.b2, h.qx.c0⟩
  clear hb hk hdq hFB b0 r0 hE hX hQ
  go_enter Try.func12, Try.ntmps12
  go_wp2_with fail
  go_loopg [5, 6, 7, 8, 9, 10, 11] 11 (fun g i i6 i7 i8 i9 i10 i11 W => ∃ j : Int, j + g = 10 ∧ -1 ≤ j ∧ i = .int .i64 j ∧ Sn W O x d L s k q dq Y B sz w.heap.size ∧ Below w.heap.size w W)
  case atStart => exact ⟨-1, by omega, by omega, rfl, S0.out, B0.out⟩
  case round =>
    obtain ⟨j, hj, hj1, rfl, hS, hB⟩ := hrel
    have Swr := Lib.hid hS
    have Bwr := Lib.hid hB
    have c0 := hS.b0
    have c1 := hS.b1
    have c2 := hS.b2
    clear hS hB
    by_cases hlt : j ≤ 9
    · have hlt' : j ≤ (9 : Int) := hlt
      obtain ⟨fv, mv, ok, hP⟩ := part_both (x := x) (d := d) (q := q) (dq := dq) (Y := Y) (s := s) j
      have HP1 := Lib.hid (fun W (h : Sn W O x d L s k q dq Y B sz w.heap.size) => (hP W h.ed.ex h.qx).1)
      have HP2 := Lib.hid (fun W (h : Sn W O x d L s k q dq Y B sz w.heap.size) => (hP W h.ed.ex h.qx).2.1)
      have HP3 := Lib.hid (fun W (h : Sn W O x d L s k q dq Y B sz w.heap.size) => (hP W h.ed.ex h.qx).2.2)
      have HP4 := Lib.hid (fun W (h : Sn W O x d L s k q dq Y B sz w.heap.size) => taken_both HZ.out j W h.ed.ex)
      have HP5 := Lib.hid (fun W (h : Sn W O x d L s k q dq Y B sz w.heap.size) => (qtaken_none h.qx HZ.out j).mono (fun e w' hh => (⟨hh.1, hh.2 ▸ Below.refl _ _⟩ : e = .returned (.int .i64 0) ∧ Below W.heap.size W w')))
      have HP6 := Lib.hid (fun W (h : Sn W O x d L s k q dq Y B sz w.heap.size) => goes_none h.ed.ex h.qx HZ.out (.pointer (some ⟨d, 0, none⟩)) rfl j 0)
      clear hP
      go_wp2_with fail
      go_at_call 13
      refine Calls.mono (HP1.out _ Swr.out) ?_
      rintro e wp ⟨rfl, hb1⟩
      have Swp := Lib.hid (Swr.out.step hb1)
      have Bwp := Lib.hid (Bwr.out.trans (hb1.mono Bwr.out.size))
      have d2 := Swp.out.b2
      clear hb1 c0 c1 c2
      go_wp2_with fail
      go_at_call 43
      refine Calls.mono (HP2.out _ Swp.out) ?_
      rintro e wq ⟨rfl, hb1⟩
      have Swq := Lib.hid (Swp.out.step hb1)
      have Bwq := Lib.hid (Bwp.out.trans (hb1.mono Bwp.out.size))
      clear hb1 d2
      go_wp2_with fail
      have Sv0 := Lib.hid (Swq.out.step (Below.refl _ wq).drew)
      have Bv0 := Lib.hid (Bwq.out.drew)
      refine wp_region_noPanic ?_
      refine wp_region_held_drew (S := fun W => W.cell? ⟨w.heap.size, 0, none⟩ = some (.pointer (some ⟨x, 0, none⟩)) ∧ W.cell? ⟨w.heap.size, 1, none⟩ = some (.pointer (some ⟨d, 0, none⟩)) ∧ W.cell? ⟨w.heap.size, 2, none⟩ = some (.pointer (some ⟨q, 0, none⟩)) ∧ W.cell? ⟨q, 0, none⟩ = some (.pointer (some ⟨dq, 0, none⟩))) (by kernel_rfl) ?_ (fun hHeld => ?_)
      · exact SK Sv0.out
      refine wpAnyH_take (i := 0) (v := ?_) rfl (by kernel_rfl) (by kernel_rfl) (by kernel_rfl) (fun _ _ _ h => h) (Or.inl ⟨by rfl, ?_⟩) (by assumption) ?_
      rotate_left
      · (intro w hSw; obtain ⟨hS1, hS2, hS3, hS4⟩ := hSw; (try simp only [List.getElem_toArray, List.getElem_cons_zero]); go_simp; try (with_reducible rfl))
      try simp only [Act.put, List.getElem_toArray, List.getElem_cons_zero, List.setIfInBounds_toArray, List.set_cons_zero, List.set_cons_succ]
      refine wpAnyH_take (i := 1) (v := ?_) rfl (by kernel_rfl) (by kernel_rfl) (by kernel_rfl) (fun _ _ _ h => h) (Or.inl ⟨by rfl, ?_⟩) (by assumption) ?_
      rotate_left
      · (intro w hSw; obtain ⟨hS1, hS2, hS3, hS4⟩ := hSw; (try simp only [List.getElem_toArray, List.getElem_cons_zero, List.getElem_cons_succ]); go_simp; try (with_reducible rfl))
      try simp only [Act.put, List.getElem_toArray, List.getElem_cons_zero, List.getElem_cons_succ, List.setIfInBounds_toArray, List.set_cons_zero, List.set_cons_succ]
      refine wpAnyH_take (i := 2) (v := ?_) rfl (by kernel_rfl) (by kernel_rfl) (by kernel_rfl) (fun _ _ _ h => h) (Or.inl ⟨by rfl, ?_⟩) (by assumption) ?_
      rotate_left
      · (intro w hSw; obtain ⟨hS1, hS2, hS3, hS4⟩ := hSw; (try simp only [List.getElem_toArray, List.getElem_cons_zero, List.getElem_cons_succ]); go_simp; try (with_reducible rfl))
      try simp only [Act.put, List.getElem_toArray, List.getElem_cons_zero, List.getElem_cons_succ, List.setIfInBounds_toArray, List.set_cons_zero, List.set_cons_succ]
      refine wpAnyH_take (i := 3) (v := ?_) rfl (by kernel_rfl) (by kernel_rfl) (by kernel_rfl) (fun _ _ _ h => h) (Or.inl ⟨by rfl, ?_⟩) (by assumption) ?_
      rotate_left
      · (intro w hSw; obtain ⟨hS1, hS2, hS3, hS4⟩ := hSw; (try simp only [List.getElem_toArray, List.getElem_cons_zero, List.getElem_cons_succ]); go_simp; try (with_reducible rfl))
      try simp only [Act.put, List.getElem_toArray, List.getElem_cons_zero, List.getElem_cons_succ, List.setIfInBounds_toArray, List.set_cons_zero, List.set_cons_succ]
      refine wpAnyH_take (i := 4) (v := ?_) rfl (by kernel_rfl) (by kernel_rfl) (by kernel_rfl) (fun _ _ _ h => h) (Or.inl ⟨by rfl, ?_⟩) (by assumption) ?_
      rotate_left
      · (intro w hSw; obtain ⟨hS1, hS2, hS3, hS4⟩ := hSw; (try simp only [List.getElem_toArray, List.getElem_cons_zero, List.getElem_cons_succ]); go_simp; try (with_reducible rfl))
      try simp only [Act.put, List.getElem_toArray, List.getElem_cons_zero, List.getElem_cons_succ, List.setIfInBounds_toArray, List.set_cons_zero, List.set_cons_succ]
      refine wpAnyH_take (i := 5) (v := ?_) rfl (by kernel_rfl) (by kernel_rfl) (by kernel_rfl) (fun _ _ _ h => h) (Or.inl ⟨by rfl, ?_⟩) (by assumption) ?_
      rotate_left
      · (intro w hSw; obtain ⟨hS1, hS2, hS3, hS4⟩ := hSw; (try simp only [List.getElem_toArray, List.getElem_cons_zero, List.getElem_cons_succ]); go_simp; try (with_reducible rfl))
      try simp only [Act.put, List.getElem_toArray, List.getElem_cons_zero, List.getElem_cons_succ, List.setIfInBounds_toArray, List.set_cons_zero, List.set_cons_succ]
      refine wpAnyH_take (i := 6) (v := ?_) rfl (by kernel_rfl) (by kernel_rfl) (by kernel_rfl) (fun _ _ _ h => h) (Or.inl ⟨by rfl, ?_⟩) (by assumption) ?_
      rotate_left
      · (intro w hSw; obtain ⟨hS1, hS2, hS3, hS4⟩ := hSw; (try simp only [List.getElem_toArray, List.getElem_cons_zero, List.getElem_cons_succ]); go_simp; try (with_reducible rfl))
      try simp only [Act.put, List.getElem_toArray, List.getElem_cons_zero, List.getElem_cons_succ, List.setIfInBounds_toArray, List.set_cons_zero, List.set_cons_succ]
      refine wpAnyH_take (i := 7) (v := ?_) rfl (by kernel_rfl) (by kernel_rfl) (by kernel_rfl) (fun _ _ _ h => h) (Or.inl ⟨by rfl, ?_⟩) (by assumption) ?_
      rotate_left
      · (intro w hSw; obtain ⟨hS1, hS2, hS3, hS4⟩ := hSw; (try simp only [List.getElem_toArray, List.getElem_cons_zero, List.getElem_cons_succ]); go_simp; try (with_reducible rfl))
      try simp only [Act.put, List.getElem_toArray, List.getElem_cons_zero, List.getElem_cons_succ, List.setIfInBounds_toArray, List.set_cons_zero, List.set_cons_succ]
      refine wpAnyH_take (i := 8) (v := ?_) rfl (by kernel_rfl) (by kernel_rfl) (by kernel_rfl) (fun _ _ _ h => h) (Or.inl ⟨by rfl, ?_⟩) (by assumption) ?_
      rotate_left
      · (intro w hSw; obtain ⟨hS1, hS2, hS3, hS4⟩ := hSw; (try simp only [List.getElem_toArray, List.getElem_cons_zero, List.getElem_cons_succ]); go_simp; try (with_reducible rfl))
      try simp only [Act.put, List.getElem_toArray, List.getElem_cons_zero, List.getElem_cons_succ, List.setIfInBounds_toArray, List.set_cons_zero, List.set_cons_succ]
      refine wpAnyH_take (i := 9) (v := ?_) rfl (by kernel_rfl) (by kernel_rfl) (by kernel_rfl) (fun _ _ _ h => h) (Or.inl ⟨by rfl, ?_⟩) (by assumption) ?_
      rotate_left
      · (intro w hSw; obtain ⟨hS1, hS2, hS3, hS4⟩ := hSw; (try simp only [List.getElem_toArray, List.getElem_cons_zero, List.getElem_cons_succ]); go_simp; try (with_reducible rfl))
      try simp only [Act.put, List.getElem_toArray, List.getElem_cons_zero, List.getElem_cons_succ, List.setIfInBounds_toArray, List.set_cons_zero, List.set_cons_succ]
      refine wpAnyH_take (i := 10) (v := ?_) rfl (by kernel_rfl) (by kernel_rfl) (by kernel_rfl) (fun _ _ _ h => h) (Or.inl ⟨by rfl, ?_⟩) (by assumption) ?_
      rotate_left
      · (intro w hSw; obtain ⟨hS1, hS2, hS3, hS4⟩ := hSw; (try simp only [List.getElem_toArray, List.getElem_cons_zero, List.getElem_cons_succ]); go_simp; try (with_reducible rfl))
      try simp only [Act.put, List.getElem_toArray, List.getElem_cons_zero, List.getElem_cons_succ, List.setIfInBounds_toArray, List.set_cons_zero, List.set_cons_succ]
      refine wpAnyH_take (i := 11) (v := ?_) rfl (by kernel_rfl) (by kernel_rfl) (by kernel_rfl) (fun _ _ _ h => h) (Or.inl ⟨by rfl, ?_⟩) (by assumption) ?_
      rotate_left
      · (intro w hSw; obtain ⟨hS1, hS2, hS3, hS4⟩ := hSw; (try simp only [List.getElem_toArray, List.getElem_cons_zero, List.getElem_cons_succ]); go_simp; try (with_reducible rfl))
      try simp only [Act.put, List.getElem_toArray, List.getElem_cons_zero, List.getElem_cons_succ, List.setIfInBounds_toArray, List.set_cons_zero, List.set_cons_succ]
      refine wpAnyH_take (i := 12) (v := ?_) rfl (by kernel_rfl) (by kernel_rfl) (by kernel_rfl) (fun _ _ _ h => h) (Or.inl ⟨by rfl, ?_⟩) (by assumption) ?_
      rotate_left
      · (intro w hSw; obtain ⟨hS1, hS2, hS3, hS4⟩ := hSw; (try simp only [List.getElem_toArray, List.getElem_cons_zero, List.getElem_cons_succ]); go_simp; try (with_reducible rfl))
      try simp only [Act.put, List.getElem_toArray, List.getElem_cons_zero, List.getElem_cons_succ, List.setIfInBounds_toArray, List.set_cons_zero, List.set_cons_succ]
      refine wpAnyH_take (i := 13) (v := ?_) rfl (by kernel_rfl) (by kernel_rfl) (by kernel_rfl) (fun _ _ _ h => h) (Or.inl ⟨by rfl, ?_⟩) (by assumption) ?_
      rotate_left
      · (intro w hSw; obtain ⟨hS1, hS2, hS3, hS4⟩ := hSw; (try simp only [List.getElem_toArray, List.getElem_cons_zero, List.getElem_cons_succ]); go_simp; try (with_reducible rfl))
      try simp only [Act.put, List.getElem_toArray, List.getElem_cons_zero, List.getElem_cons_succ, List.setIfInBounds_toArray, List.set_cons_zero, List.set_cons_succ]
      refine wpAnyH_take (i := 14) (v := ?_) rfl (by kernel_rfl) (by kernel_rfl) (by kernel_rfl) (fun _ _ _ h => h) (Or.inl ⟨by rfl, ?_⟩) (by assumption) ?_
      rotate_left
      · (intro w hSw; obtain ⟨hS1, hS2, hS3, hS4⟩ := hSw; (try simp only [List.getElem_toArray, List.getElem_cons_zero, List.getElem_cons_succ]); go_simp; try (with_reducible rfl))
      try simp only [Act.put, List.getElem_toArray, List.getElem_cons_zero, List.getElem_cons_succ, List.setIfInBounds_toArray, List.set_cons_zero, List.set_cons_succ]
      refine wpAnyH_take (i := 15) (v := ?_) rfl (by kernel_rfl) (by kernel_rfl) (by kernel_rfl) (fun _ _ _ h => h) (Or.inl ⟨by rfl, ?_⟩) (by assumption) ?_
      rotate_left
      · (intro w hSw; obtain ⟨hS1, hS2, hS3, hS4⟩ := hSw; (try simp only [List.getElem_toArray, List.getElem_cons_zero, List.getElem_cons_succ]); go_simp; try (with_reducible rfl))
      try simp only [Act.put, List.getElem_toArray, List.getElem_cons_zero, List.getElem_cons_succ, List.setIfInBounds_toArray, List.set_cons_zero, List.set_cons_succ]
      refine wpAnyH_take (i := 16) (v := ?_) rfl (by kernel_rfl) (by kernel_rfl) (by kernel_rfl) (fun _ _ _ h => h) (Or.inl ⟨by rfl, ?_⟩) (by assumption) ?_
      rotate_left
      · (intro w hSw; obtain ⟨hS1, hS2, hS3, hS4⟩ := hSw; (try simp only [List.getElem_toArray, List.getElem_cons_zero, List.getElem_cons_succ]); go_simp; try (with_reducible rfl))
      try simp only [Act.put, List.getElem_toArray, List.getElem_cons_zero, List.getElem_cons_succ, List.setIfInBounds_toArray, List.set_cons_zero, List.set_cons_succ]
      refine wpAnyH_take (i := 18) (v := ?_) rfl (by kernel_rfl) (by kernel_rfl) (by kernel_rfl) (fun _ _ _ h => h) (Or.inl ⟨by rfl, ?_⟩) (by assumption) ?_
      rotate_left
      · (intro w hSw; obtain ⟨hS1, hS2, hS3, hS4⟩ := hSw; (try simp only [List.getElem_toArray, List.getElem_cons_zero, List.getElem_cons_succ]); go_simp; try (with_reducible rfl))
      try simp only [Act.put, List.getElem_toArray, List.getElem_cons_zero, List.getElem_cons_succ, List.setIfInBounds_toArray, List.set_cons_zero, List.set_cons_succ]
      obtain ⟨v0, hv0⟩ : ∃ v0, wq.drew = v0 := ⟨_, rfl⟩
      rw [hv0] at Sv0 Bv0 ⊢
      clear hv0 hHeld
      refine wpAnyH_ready (rs := [17]) (by kernel_rfl) (by simp) ?_
      refine (AllReadyH.cons rfl (fun K hK => ?_) AllReadyH.nil)
      (try simp only [List.getElem_toArray, List.getElem_cons_zero, List.getElem_cons_succ]); go_simp
      go_at_call 44
      refine Calls.mono (HP3.out _ Sv0.out) ?_
      rintro e v1 ⟨rfl, hbv1⟩
      have Sv1 := Lib.hid (Sv0.out.step hbv1)
      have Bv1 := Lib.hid (Bv0.out.trans (hbv1.mono Bv0.out.size))
      clear hbv1
      try (go_wp2_with fail)
      refine hK.out _ _ (SK Sv1.out) (fun hHeld => ?_)
      clear hK K
      try simp only [Act.put, List.getElem_toArray, List.getElem_cons_zero, List.getElem_cons_succ, List.setIfInBounds_toArray, List.set_cons_zero, List.set_cons_succ]
      refine wpAnyH_take (i := 19) (v := ?_) rfl (by kernel_rfl) (by kernel_rfl) (by kernel_rfl) (fun _ _ _ h => h) (Or.inl ⟨by rfl, ?_⟩) (by assumption) ?_
      rotate_left
      · (intro w hSw; obtain ⟨hS1, hS2, hS3, hS4⟩ := hSw; (try simp only [List.getElem_toArray, List.getElem_cons_zero, List.getElem_cons_succ]); go_simp; try (with_reducible rfl))
      try simp only [Act.put, List.getElem_toArray, List.getElem_cons_zero, List.getElem_cons_succ, List.setIfInBounds_toArray, List.set_cons_zero, List.set_cons_succ]
      refine wpAnyH_take (i := 20) (v := ?_) rfl (by kernel_rfl) (by kernel_rfl) (by kernel_rfl) (fun _ _ _ h => h) (Or.inl ⟨by rfl, ?_⟩) (by assumption) ?_
      rotate_left
      · (intro w hSw; obtain ⟨hS1, hS2, hS3, hS4⟩ := hSw; (try simp only [List.getElem_toArray, List.getElem_cons_zero, List.getElem_cons_succ]); go_simp; try (with_reducible rfl))
      try simp only [Act.put, List.getElem_toArray, List.getElem_cons_zero, List.getElem_cons_succ, List.setIfInBounds_toArray, List.set_cons_zero, List.set_cons_succ]
      refine wpAnyH_take (i := 21) (v := ?_) rfl (by kernel_rfl) (by kernel_rfl) (by kernel_rfl) (fun _ _ _ h => h) (Or.inl ⟨by rfl, ?_⟩) (by assumption) ?_
      rotate_left
      · (intro w hSw; obtain ⟨hS1, hS2, hS3, hS4⟩ := hSw; (try simp only [List.getElem_toArray, List.getElem_cons_zero, List.getElem_cons_succ]); go_simp; try (with_reducible rfl))
      try simp only [Act.put, List.getElem_toArray, List.getElem_cons_zero, List.getElem_cons_succ, List.setIfInBounds_toArray, List.set_cons_zero, List.set_cons_succ]
      refine wpAnyH_take (i := 22) (v := ?_) rfl (by kernel_rfl) (by kernel_rfl) (by kernel_rfl) (fun _ _ _ h => h) (Or.inl ⟨by rfl, ?_⟩) (by assumption) ?_
      rotate_left
      · (intro w hSw; obtain ⟨hS1, hS2, hS3, hS4⟩ := hSw; (try simp only [List.getElem_toArray, List.getElem_cons_zero, List.getElem_cons_succ]); go_simp; try (with_reducible rfl))
      try simp only [Act.put, List.getElem_toArray, List.getElem_cons_zero, List.getElem_cons_succ, List.setIfInBounds_toArray, List.set_cons_zero, List.set_cons_succ]
      refine wpAnyH_take (i := 23) (v := ?_) rfl (by kernel_rfl) (by kernel_rfl) (by kernel_rfl) (fun _ _ _ h => h) (Or.inl ⟨by rfl, ?_⟩) (by assumption) ?_
      rotate_left
      · (intro w hSw; obtain ⟨hS1, hS2, hS3, hS4⟩ := hSw; (try simp only [List.getElem_toArray, List.getElem_cons_zero, List.getElem_cons_succ]); go_simp; try (with_reducible rfl))
      try simp only [Act.put, List.getElem_toArray, List.getElem_cons_zero, List.getElem_cons_succ, List.setIfInBounds_toArray, List.set_cons_zero, List.set_cons_succ]
      refine wpAnyH_take (i := 24) (v := ?_) rfl (by kernel_rfl) (by kernel_rfl) (by kernel_rfl) (fun _ _ _ h => h) (Or.inl ⟨by rfl, ?_⟩) (by assumption) ?_
      rotate_left
      · (intro w hSw; obtain ⟨hS1, hS2, hS3, hS4⟩ := hSw; (try simp only [List.getElem_toArray, List.getElem_cons_zero, List.getElem_cons_succ]); go_simp; try (with_reducible rfl))
      try simp only [Act.put, List.getElem_toArray, List.getElem_cons_zero, List.getElem_cons_succ, List.setIfInBounds_toArray, List.set_cons_zero, List.set_cons_succ]
      refine wpAnyH_take (i := 26) (v := ?_) rfl (by kernel_rfl) (by kernel_rfl) (by kernel_rfl) (fun _ _ _ h => h) (Or.inl ⟨by rfl, ?_⟩) (by assumption) ?_
      rotate_left
      · (intro w hSw; obtain ⟨hS1, hS2, hS3, hS4⟩ := hSw; (try simp only [List.getElem_toArray, List.getElem_cons_zero, List.getElem_cons_succ]); go_simp; try (with_reducible rfl))
      try simp only [Act.put, List.getElem_toArray, List.getElem_cons_zero, List.getElem_cons_succ, List.setIfInBounds_toArray, List.set_cons_zero, List.set_cons_succ]
      refine wpAnyH_take (i := 27) (v := ?_) rfl (by kernel_rfl) (by kernel_rfl) (by kernel_rfl) (fun _ _ _ h => h) (Or.inl ⟨by rfl, ?_⟩) (by assumption) ?_
      rotate_left
      · (intro w hSw; obtain ⟨hS1, hS2, hS3, hS4⟩ := hSw; (try simp only [List.getElem_toArray, List.getElem_cons_zero, List.getElem_cons_succ]); go_simp; try (with_reducible rfl))
      try simp only [Act.put, List.getElem_toArray, List.getElem_cons_zero, List.getElem_cons_succ, List.setIfInBounds_toArray, List.set_cons_zero, List.set_cons_succ]
      refine wpAnyH_take (i := 28) (v := ?_) rfl (by kernel_rfl) (by kernel_rfl) (by kernel_rfl) (fun _ _ _ h => h) (Or.inl ⟨by rfl, ?_⟩) (by assumption) ?_
      rotate_left
      · (intro w hSw; obtain ⟨hS1, hS2, hS3, hS4⟩ := hSw; (try simp only [List.getElem_toArray, List.getElem_cons_zero, List.getElem_cons_succ]); go_simp; try (with_reducible rfl))
      try simp only [Act.put, List.getElem_toArray, List.getElem_cons_zero, List.getElem_cons_succ, List.setIfInBounds_toArray, List.set_cons_zero, List.set_cons_succ]
      refine wpAnyH_ready (rs := [25]) (by kernel_rfl) (by simp) ?_
      refine (AllReadyH.cons rfl (fun K hK => ?_) AllReadyH.nil)
      (try simp only [List.getElem_toArray, List.getElem_cons_zero, List.getElem_cons_succ]); go_simp
      go_at_call 18
      refine Calls.mono (HP4.out _ Sv1.out) ?_
      rintro e v2 ⟨rfl, hbv2⟩
      have Sv2 := Lib.hid (Sv1.out.step hbv2)
      have Bv2 := Lib.hid (Bv1.out.trans (hbv2.mono Bv1.out.size))
      clear hbv2
      try (go_wp2_with fail)
      refine hK.out _ _ (SK Sv2.out) (fun hHeld => ?_)
      clear hK K
      try simp only [Act.put, List.getElem_toArray, List.getElem_cons_zero, List.getElem_cons_succ, List.setIfInBounds_toArray, List.set_cons_zero, List.set_cons_succ]
      refine wpAnyH_ready (rs := [29]) (by kernel_rfl) (by simp) ?_
      refine (AllReadyH.cons rfl (fun K hK => ?_) AllReadyH.nil)
      (try simp only [List.getElem_toArray, List.getElem_cons_zero, List.getElem_cons_succ]); go_simp
      go_at_call 45
      refine Calls.mono (HP5.out _ Sv2.out) ?_
      rintro e v3 ⟨rfl, hbv3⟩
      have Sv3 := Lib.hid (Sv2.out.step hbv3)
      have Bv3 := Lib.hid (Bv2.out.trans (hbv3.mono Bv2.out.size))
      clear hbv3
      try (go_wp2_with fail)
      refine hK.out _ _ (SK Sv3.out) (fun hHeld => ?_)
      clear hK K
      try simp only [Act.put, List.getElem_toArray, List.getElem_cons_zero, List.getElem_cons_succ, List.setIfInBounds_toArray, List.set_cons_zero, List.set_cons_succ]
      refine wpAnyH_take (i := 30) (v := ?_) rfl (by kernel_rfl) (by kernel_rfl) (by kernel_rfl) (fun _ _ _ h => h) (Or.inl ⟨by rfl, ?_⟩) (by assumption) ?_
      rotate_left
      · (intro w hSw; obtain ⟨hS1, hS2, hS3, hS4⟩ := hSw; (try simp only [List.getElem_toArray, List.getElem_cons_zero, List.getElem_cons_succ]); go_simp; try (with_reducible rfl))
      try simp only [Act.put, List.getElem_toArray, List.getElem_cons_zero, List.getElem_cons_succ, List.setIfInBounds_toArray, List.set_cons_zero, List.set_cons_succ]
      refine wpAnyH_take (i := 31) (v := ?_) rfl (by kernel_rfl) (by kernel_rfl) (by kernel_rfl) (fun _ _ _ h => h) (Or.inl ⟨by rfl, ?_⟩) (by assumption) ?_
      rotate_left
      · (intro w hSw; obtain ⟨hS1, hS2, hS3, hS4⟩ := hSw; (try simp only [List.getElem_toArray, List.getElem_cons_zero, List.getElem_cons_succ]); go_simp; try (with_reducible rfl))
      try simp only [Act.put, List.getElem_toArray, List.getElem_cons_zero, List.getElem_cons_succ, List.setIfInBounds_toArray, List.set_cons_zero, List.set_cons_succ]
      refine wpAnyH_take (i := 32) (v := ?_) rfl (by kernel_rfl) (by kernel_rfl) (by kernel_rfl) (fun _ _ _ h => h) (Or.inl ⟨by rfl, ?_⟩) (by assumption) ?_
      rotate_left
      · (intro w hSw; obtain ⟨hS1, hS2, hS3, hS4⟩ := hSw; (try simp only [List.getElem_toArray, List.getElem_cons_zero, List.getElem_cons_succ]); go_simp; try (with_reducible rfl))
      try simp only [Act.put, List.getElem_toArray, List.getElem_cons_zero, List.getElem_cons_succ, List.setIfInBounds_toArray, List.set_cons_zero, List.set_cons_succ]
      refine wpAnyH_take (i := 33) (v := ?_) rfl (by kernel_rfl) (by kernel_rfl) (by kernel_rfl) (fun _ _ _ h => h) (Or.inl ⟨by rfl, ?_⟩) (by assumption) ?_
      rotate_left
      · (intro w hSw; obtain ⟨hS1, hS2, hS3, hS4⟩ := hSw; (try simp only [List.getElem_toArray, List.getElem_cons_zero, List.getElem_cons_succ]); go_simp; try (with_reducible rfl))
      try simp only [Act.put, List.getElem_toArray, List.getElem_cons_zero, List.getElem_cons_succ, List.setIfInBounds_toArray, List.set_cons_zero, List.set_cons_succ]
      refine wpAnyH_take (i := 34) (v := ?_) rfl (by kernel_rfl) (by kernel_rfl) (by kernel_rfl) (fun _ _ _ h => h) (Or.inl ⟨by rfl, ?_⟩) (by assumption) ?_
      rotate_left
      · (intro w hSw; obtain ⟨hS1, hS2, hS3, hS4⟩ := hSw; (try simp only [List.getElem_toArray, List.getElem_cons_zero, List.getElem_cons_succ]); go_simp; try (with_reducible rfl))
      try simp only [Act.put, List.getElem_toArray, List.getElem_cons_zero, List.getElem_cons_succ, List.setIfInBounds_toArray, List.set_cons_zero, List.set_cons_succ]
      refine wpAnyH_take (i := 35) (v := ?_) rfl (by kernel_rfl) (by kernel_rfl) (by kernel_rfl) (fun _ _ _ h => h) (Or.inl ⟨by rfl, ?_⟩) (by assumption) ?_
      rotate_left
      · (intro w hSw; obtain ⟨hS1, hS2, hS3, hS4⟩ := hSw; (try simp only [List.getElem_toArray, List.getElem_cons_zero, List.getElem_cons_succ]); go_simp; try (with_reducible rfl))
      try simp only [Act.put, List.getElem_toArray, List.getElem_cons_zero, List.getElem_cons_succ, List.setIfInBounds_toArray, List.set_cons_zero, List.set_cons_succ]
      refine wpAnyH_ready (rs := [36]) (by kernel_rfl) (by simp) ?_
      refine (AllReadyH.cons rfl (fun K hK => ?_) AllReadyH.nil)
      (try simp only [List.getElem_toArray, List.getElem_cons_zero, List.getElem_cons_succ]); go_simp
      go_at_call 46
      refine Calls.mono (HP6.out _ Sv3.out) ?_
      rintro e v4 ⟨rfl, hbv4⟩
      have Sv4 := Lib.hid (Sv3.out.step hbv4)
      have Bv4 := Lib.hid (Bv3.out.trans (hbv4.mono Bv3.out.size))
      clear hbv4
      try (go_wp2_with fail)
      refine hK.out _ _ (SK Sv4.out) (fun hHeld => ?_)
      clear hK K
      try simp only [Act.put, List.getElem_toArray, List.getElem_cons_zero, List.getElem_cons_succ, List.setIfInBounds_toArray, List.set_cons_zero, List.set_cons_succ]
      refine wpAnyH_take (i := 37) (v := ?_) rfl (by kernel_rfl) (by kernel_rfl) (by kernel_rfl) (fun _ _ _ h => h) (Or.inl ⟨by rfl, ?_⟩) (by assumption) ?_
      rotate_left
      · (intro w hSw; obtain ⟨hS1, hS2, hS3, hS4⟩ := hSw; (try simp only [List.getElem_toArray, List.getElem_cons_zero, List.getElem_cons_succ]); go_simp; try (with_reducible rfl))
      try simp only [Act.put, List.getElem_toArray, List.getElem_cons_zero, List.getElem_cons_succ, List.setIfInBounds_toArray, List.set_cons_zero, List.set_cons_succ]
      refine wpAnyH_take (i := 38) (v := ?_) rfl (by kernel_rfl) (by kernel_rfl) (by kernel_rfl) (fun _ _ _ h => h) (Or.inl ⟨by rfl, ?_⟩) (by assumption) ?_
      rotate_left
      · (intro w hSw; obtain ⟨hS1, hS2, hS3, hS4⟩ := hSw; (try simp only [List.getElem_toArray, List.getElem_cons_zero, List.getElem_cons_succ]); go_simp; try (with_reducible rfl))
      try simp only [Act.put, List.getElem_toArray, List.getElem_cons_zero, List.getElem_cons_succ, List.setIfInBounds_toArray, List.set_cons_zero, List.set_cons_succ]
      refine wpAnyH_done (by kernel_rfl) ?_ _
      refine NoPanic.normal ?_
      go_wp2_with fail
      go_roundg (9 - j).toNat
      case measure => omega
      case rel => exact ⟨j + 1, by omega, by omega, by go_num, Sv4.out, Bv4.out⟩
    · have hlt' : ¬ j ≤ (9 : Int) := hlt
      go_wp2_with fail
      go_loopg [12, 13, 14, 15, 16, 17, 18] (sz + 2) (fun g i i3 i4 i5 i6 i7 i8 W => ∃ j : Int, j + g = (sz : Int) + 1 ∧ -1 ≤ j ∧ i = .int .i64 j ∧ Sn W O x d L s k q dq Y B sz w.heap.size ∧ Below w.heap.size w W)
      case atStart => exact ⟨-1, by omega, by omega, rfl, Swr.out, Bwr.out⟩
      case round =>
        obtain ⟨i, hi, hi1, rfl, hS, hB⟩ := hrel
        have Swq := Lib.hid hS
        have Bwq := Lib.hid hB
        obtain ⟨wq, hwq⟩ : ∃ wq, wr = wq := ⟨_, rfl⟩
        rw [hwq] at Swq Bwq hS ⊢
        clear hwq
        have e0 := hS.b0
        have e1 := hS.b1
        have e2 := hS.b2
        have e3 := hS.qx.c0
        obtain ⟨vq, bq, hq⟩ := hS.qd
        obtain ⟨gq, cq, rfl⟩ := hq.row hs1
        have e4 := hq.c0
        rw [HDQ.out] at e4
        clear hS hB hq c0 c1 c2
        by_cases hle : i ≤ (sz : Int)
        · go_wp2_with fail
          go_at_call 25
          refine Calls.mono (xowner_any Swq.out.ed.ex i) ?_
          rintro e wa ⟨v1, rfl, ho1, hb1⟩
          have Swa := Lib.hid (Swq.out.step hb1)
          have Bwa := Lib.hid (Bwq.out.trans (hb1.mono Bwq.out.size))
          have f2 := Swa.out.b2
          clear hb1 e0 e1 e2 e3 e4
          have HO1 := Lib.hid ho1
          obtain ⟨t1, t2, t3, rfl⟩ : ∃ (t1 t2 : Int) (t3 : Bool), v1 = .tuple #[.int .i64 t1, .int .i64 t2, .bool t3] := by
            rcases ho1 with ⟨a, -, -, -, -, rfl⟩ | ⟨-, rfl⟩
            · exact ⟨_, _, _, rfl⟩
            · exact ⟨_, _, _, rfl⟩
          clear ho1
          go_wp2_with fail
          go_at_call 47
          refine Calls.mono (qowner_any Swa.out.qx i) ?_
          rintro e wb ⟨v2, rfl, ho2, hb2⟩
          obtain rfl := HO1.out.one ho2
          have Swb := Lib.hid (Swa.out.step hb2)
          have Bwb := Lib.hid (Bwa.out.trans (hb2.mono Bwa.out.size))
          clear hb2 f2 ho2 HO1
          go_wp2_with fail
          go_roundg ((sz : Int) - i).toNat
          case measure => omega
          case rel => exact ⟨i + 1, by omega, by omega, by go_num, Swb.out, Bwb.out⟩
        · have hle' : ¬ i ≤ (sz : Int) := hle
          have hpe : ∀ W : World, (binOp .eql 27 (.pointer (some ⟨d, 0, none⟩)) (.pointer (some ⟨d, 0, none⟩))).run Try.prog W = .ok (.bool true) W := fun W => by
            obtain ⟨jD, hjD⟩ := Option.isSome_iff_exists.1 (show (Try.prog.info? 105).isSome = true by kernel_rfl)
            exact run_eql_ptr_same W ⟨d, 0, none⟩ Try.underlying27 hjD
          go_wp2_with fail
          clear e0 e1 e2 e3 e4
          have Sv0 := Lib.hid (Swq.out.step (Below.refl _ wq).drew)
          have Bv0 := Lib.hid (Bwq.out.drew)
          refine wp_region_noPanic ?_
          refine wp_region_held_drew (S := fun W => W.cell? ⟨w.heap.size, 0, none⟩ = some (.pointer (some ⟨x, 0, none⟩)) ∧ W.cell? ⟨w.heap.size, 1, none⟩ = some (.pointer (some ⟨d, 0, none⟩)) ∧ W.cell? ⟨w.heap.size, 2, none⟩ = some (.pointer (some ⟨q, 0, none⟩)) ∧ W.cell? ⟨q, 0, none⟩ = some (.pointer (some ⟨dq, 0, none⟩))) (by kernel_rfl) ?_ (fun hHeld => ?_)
          · exact SK Sv0.out
          refine wpAnyH_take (i := 0) (v := ?_) rfl (by kernel_rfl) (by kernel_rfl) (by kernel_rfl) (fun _ _ _ h => h) (Or.inl ⟨by rfl, ?_⟩) (by assumption) ?_
          rotate_left
          · (intro w hSw; obtain ⟨hS1, hS2, hS3, hS4⟩ := hSw; (try simp only [List.getElem_toArray, List.getElem_cons_zero]); go_simp; try (with_reducible rfl))
          try simp only [Act.put, List.getElem_toArray, List.getElem_cons_zero, List.setIfInBounds_toArray, List.set_cons_zero, List.set_cons_succ]
          refine wpAnyH_take (i := 1) (v := ?_) rfl (by kernel_rfl) (by kernel_rfl) (by kernel_rfl) (fun _ _ _ h => h) (Or.inl ⟨by rfl, ?_⟩) (by assumption) ?_
          rotate_left
          · (intro w hSw; obtain ⟨hS1, hS2, hS3, hS4⟩ := hSw; (try simp only [List.getElem_toArray, List.getElem_cons_zero, List.getElem_cons_succ]); go_simp; try (with_reducible rfl))
          try simp only [Act.put, List.getElem_toArray, List.getElem_cons_zero, List.getElem_cons_succ, List.setIfInBounds_toArray, List.set_cons_zero, List.set_cons_succ]
          refine wpAnyH_take (i := 3) (v := ?_) rfl (by kernel_rfl) (by kernel_rfl) (by kernel_rfl) (fun _ _ _ h => h) (Or.inl ⟨by rfl, ?_⟩) (by assumption) ?_
          rotate_left
          · (intro w hSw; obtain ⟨hS1, hS2, hS3, hS4⟩ := hSw; (try simp only [List.getElem_toArray, List.getElem_cons_zero, List.getElem_cons_succ]); go_simp; try (with_reducible rfl))
          try simp only [Act.put, List.getElem_toArray, List.getElem_cons_zero, List.getElem_cons_succ, List.setIfInBounds_toArray, List.set_cons_zero, List.set_cons_succ]
          refine wpAnyH_take (i := 4) (v := ?_) rfl (by kernel_rfl) (by kernel_rfl) (by kernel_rfl) (fun _ _ _ h => h) (Or.inl ⟨by rfl, ?_⟩) (by assumption) ?_
          rotate_left
          · (intro w hSw; obtain ⟨hS1, hS2, hS3, hS4⟩ := hSw; (try simp only [List.getElem_toArray, List.getElem_cons_zero, List.getElem_cons_succ]); go_simp; try (with_reducible rfl))
          try simp only [Act.put, List.getElem_toArray, List.getElem_cons_zero, List.getElem_cons_succ, List.setIfInBounds_toArray, List.set_cons_zero, List.set_cons_succ]
          obtain ⟨v0, hv0⟩ : ∃ v0, wq.drew = v0 := ⟨_, rfl⟩
          rw [hv0] at Sv0 Bv0 ⊢
          clear hv0 hHeld
          refine wpAnyH_ready (rs := [2]) (by kernel_rfl) (by simp) ?_
          refine (AllReadyH.cons rfl (fun K hK => ?_) AllReadyH.nil)
          (try simp only [List.getElem_toArray, List.getElem_cons_zero, List.getElem_cons_succ]); go_simp
          go_at_call 48
          refine Calls.mono (xdisk_any Sv0.out.ed.ex) ?_
          rintro e w' ⟨rfl, rfl⟩
          try (go_wp2_with fail)
          refine hK.out _ _ (SK Sv0.out) (fun hHeld => ?_)
          clear hK K
          try simp only [Act.put, List.getElem_toArray, List.getElem_cons_zero, List.getElem_cons_succ, List.setIfInBounds_toArray, List.set_cons_zero, List.set_cons_succ]
          refine wpAnyH_take (i := 5) (v := ?_) rfl (by kernel_rfl) (by kernel_rfl) (by kernel_rfl) (fun _ _ _ h => h) (Or.inl ⟨by rfl, ?_⟩) (by assumption) ?_
          rotate_left
          · (intro w hSw; obtain ⟨hS1, hS2, hS3, hS4⟩ := hSw; (try simp only [List.getElem_toArray, List.getElem_cons_zero, List.getElem_cons_succ]); go_simp; try (with_reducible rfl))
          try simp only [Act.put, List.getElem_toArray, List.getElem_cons_zero, List.getElem_cons_succ, List.setIfInBounds_toArray, List.set_cons_zero, List.set_cons_succ]
          refine wpAnyH_take (i := 6) (v := ?_) rfl (by kernel_rfl) (by kernel_rfl) (by kernel_rfl) (fun _ _ _ h => h) (Or.inl ⟨by rfl, ?_⟩) (by assumption) ?_
          rotate_left
          · (intro w hSw; obtain ⟨hS1, hS2, hS3, hS4⟩ := hSw; (try simp only [List.getElem_toArray, List.getElem_cons_zero, List.getElem_cons_succ]); go_simp; try (with_reducible rfl))
          try simp only [Act.put, List.getElem_toArray, List.getElem_cons_zero, List.getElem_cons_succ, List.setIfInBounds_toArray, List.set_cons_zero, List.set_cons_succ]
          refine wpAnyH_take (i := 7) (v := ?_) rfl (by kernel_rfl) (by kernel_rfl) (by kernel_rfl) (fun _ _ _ h => h) (Or.inl ⟨by rfl, ?_⟩) (by assumption) ?_
          rotate_left
          · (intro w hSw; obtain ⟨hS1, hS2, hS3, hS4⟩ := hSw; (try simp only [List.getElem_toArray, List.getElem_cons_zero, List.getElem_cons_succ]); go_simp; try (with_reducible rfl))
          try simp only [Act.put, List.getElem_toArray, List.getElem_cons_zero, List.getElem_cons_succ, List.setIfInBounds_toArray, List.set_cons_zero, List.set_cons_succ]
          refine wpAnyH_take (i := 8) (v := ?_) rfl (by kernel_rfl) (by kernel_rfl) (by kernel_rfl) (fun _ _ _ h => h) (Or.inl ⟨by rfl, ?_⟩) (by assumption) ?_
          rotate_left
          · (intro w hSw; obtain ⟨hS1, hS2, hS3, hS4⟩ := hSw; (try simp only [List.getElem_toArray, List.getElem_cons_zero, List.getElem_cons_succ]); go_simp; try (with_reducible rfl))
          try simp only [Act.put, List.getElem_toArray, List.getElem_cons_zero, List.getElem_cons_succ, List.setIfInBounds_toArray, List.set_cons_zero, List.set_cons_succ]
          refine wpAnyH_take (i := 11) (v := ?_) rfl (by kernel_rfl) (by kernel_rfl) (by kernel_rfl) (fun _ _ _ h => h) (Or.inl ⟨by rfl, ?_⟩) (by assumption) ?_
          rotate_left
          · (intro w hSw; obtain ⟨hS1, hS2, hS3, hS4⟩ := hSw; (try simp only [List.getElem_toArray, List.getElem_cons_zero, List.getElem_cons_succ]); go_simp; try (with_reducible rfl))
          try simp only [Act.put, List.getElem_toArray, List.getElem_cons_zero, List.getElem_cons_succ, List.setIfInBounds_toArray, List.set_cons_zero, List.set_cons_succ]
          refine wpAnyH_take (i := 12) (v := ?_) rfl (by kernel_rfl) (by kernel_rfl) (by kernel_rfl) (fun _ _ _ h => h) (Or.inl ⟨by rfl, ?_⟩) (by assumption) ?_
          rotate_left
          · (intro w hSw; obtain ⟨hS1, hS2, hS3, hS4⟩ := hSw; (try simp only [List.getElem_toArray, List.getElem_cons_zero, List.getElem_cons_succ]); go_simp; try (with_reducible rfl))
          try simp only [Act.put, List.getElem_toArray, List.getElem_cons_zero, List.getElem_cons_succ, List.setIfInBounds_toArray, List.set_cons_zero, List.set_cons_succ]
          refine wpAnyH_take (i := 13) (v := ?_) rfl (by kernel_rfl) (by kernel_rfl) (by kernel_rfl) (fun _ _ _ h => h) (Or.inl ⟨by rfl, ?_⟩) (by assumption) ?_
          rotate_left
          · (intro w hSw; obtain ⟨hS1, hS2, hS3, hS4⟩ := hSw; (try simp only [List.getElem_toArray, List.getElem_cons_zero, List.getElem_cons_succ]); go_simp; try (with_reducible rfl))
          try simp only [Act.put, List.getElem_toArray, List.getElem_cons_zero, List.getElem_cons_succ, List.setIfInBounds_toArray, List.set_cons_zero, List.set_cons_succ]
          refine wpAnyH_take (i := 14) (v := ?_) rfl (by kernel_rfl) (by kernel_rfl) (by kernel_rfl) (fun _ _ _ h => h) (Or.inl ⟨by rfl, ?_⟩) (by assumption) ?_
          rotate_left
          · (intro w hSw; obtain ⟨hS1, hS2, hS3, hS4⟩ := hSw; (try simp only [List.getElem_toArray, List.getElem_cons_zero, List.getElem_cons_succ]); go_simp; try (with_reducible rfl))
          try simp only [Act.put, List.getElem_toArray, List.getElem_cons_zero, List.getElem_cons_succ, List.setIfInBounds_toArray, List.set_cons_zero, List.set_cons_succ]
          refine wpAnyH_take (i := 15) (v := ?_) rfl (by kernel_rfl) (by kernel_rfl) (by kernel_rfl) (fun _ _ _ h => h) (Or.inl ⟨by rfl, ?_⟩) (by assumption) ?_
          rotate_left
          · (intro w hSw; obtain ⟨hS1, hS2, hS3, hS4⟩ := hSw; (try simp only [List.getElem_toArray, List.getElem_cons_zero, List.getElem_cons_succ]); go_simp; try (with_reducible rfl))
          try simp only [Act.put, List.getElem_toArray, List.getElem_cons_zero, List.getElem_cons_succ, List.setIfInBounds_toArray, List.set_cons_zero, List.set_cons_succ]
          refine wpAnyH_ready (rs := [9]) (by kernel_rfl) (by simp) ?_
          refine (AllReadyH.cons rfl (fun K hK => ?_) AllReadyH.nil)
          (try simp only [List.getElem_toArray, List.getElem_cons_zero, List.getElem_cons_succ]); go_simp
          go_at_call 49
          refine Calls.mono (bytes_any9 Sv0.out.ed.dk) ?_
          rintro e v1 ⟨vI, rfl, hvI, hb1⟩
          have Sv1 := Lib.hid (Sv0.out.step hb1)
          have Bv1 := Lib.hid (Bv0.out.trans (hb1.mono Bv0.out.size))
          have OI := Lib.hid (show v1.ownsRow v0.heap.size 5 1 vI (sz * 128) (rowV (rowC (fun _ => zeroS) sz)) from by have h9 := hvI; rw [HFL.out, rowC_len] at h9; exact h9)
          clear hb1 hvI
          try (go_wp2_with fail)
          refine hK.out _ _ (SK Sv1.out) (fun hHeld => ?_)
          clear hK K
          try simp only [Act.put, List.getElem_toArray, List.getElem_cons_zero, List.getElem_cons_succ, List.setIfInBounds_toArray, List.set_cons_zero, List.set_cons_succ]
          refine wpAnyH_ready (rs := [10, 16]) (by kernel_rfl) (by simp) ?_
          refine (AllReadyH.cons rfl (fun K hK => ?_) (AllReadyH.cons rfl (fun K hK => ?_) AllReadyH.nil))
          · (try simp only [List.getElem_toArray, List.getElem_cons_zero, List.getElem_cons_succ])
            have hcv := conv_flat10 OI.out hkk
            rw [HFB.out] at hcv
            go_simp
            refine hK.out _ _ (SK Sv1.out) (fun hHeld => ?_)
            clear hK K hcv
            try simp only [Act.put, List.getElem_toArray, List.getElem_cons_zero, List.getElem_cons_succ, List.setIfInBounds_toArray, List.set_cons_zero, List.set_cons_succ]
            refine wpAnyH_ready (rs := [16]) (by kernel_rfl) (by simp) ?_
            refine (AllReadyH.cons rfl (fun K hK => ?_) AllReadyH.nil)
            (try simp only [List.getElem_toArray, List.getElem_cons_zero, List.getElem_cons_succ]); go_simp
            obtain ⟨vq, bq, hq⟩ := Sv1.out.qd
            have hqb := qbytes_any9 hq hs1 hs2 (fun _ _ => zeroS_ok)
            rw [HDQ.out] at hqb
            clear hq
            go_at_call 50
            refine Calls.mono hqb ?_
            rintro e v2 ⟨vJ, rfl, hvJ, hb2⟩
            have Sv2 := Lib.hid (Sv1.out.step hb2)
            have Bv2 := Lib.hid (Bv1.out.trans (hb2.mono Bv1.out.size))
            have OJ := Lib.hid (show v2.ownsRow v1.heap.size 5 1 vJ (sz * 128) (rowV (rowC (fun _ => zeroS) sz)) from by have h9 := hvJ; rw [rowC_len] at h9; exact h9)
            have OIJ := Lib.hid (owns_eq OI.out (fun g e => hb2.block g (OI.out.lt g e).2))
            clear hb2 hvJ
            try (go_wp2_with fail)
            refine hK.out _ _ (SK Sv2.out) (fun hHeld => ?_)
            clear hK K
            try simp only [Act.put, List.getElem_toArray, List.getElem_cons_zero, List.getElem_cons_succ, List.setIfInBounds_toArray, List.set_cons_zero, List.set_cons_succ]
            refine wpAnyH_ready (rs := [17]) (by kernel_rfl) (by simp) ?_
            refine (AllReadyH.cons rfl (fun K hK => ?_) AllReadyH.nil)
            (try simp only [List.getElem_toArray, List.getElem_cons_zero, List.getElem_cons_succ])
            have hcv := conv_flat10 OJ.out hkk
            rw [HFB.out] at hcv
            go_simp
            refine hK.out _ _ (SK Sv2.out) (fun hHeld => ?_)
            clear hK K hcv
            try simp only [Act.put, List.getElem_toArray, List.getElem_cons_zero, List.getElem_cons_succ, List.setIfInBounds_toArray, List.set_cons_zero, List.set_cons_succ]
            refine wpAnyH_take (i := 18) (v := ?_) rfl (by kernel_rfl) (by kernel_rfl) (by kernel_rfl) (fun _ _ _ h => h) (Or.inl ⟨by rfl, ?_⟩) (by assumption) ?_
            rotate_left
            · (intro w hSw; obtain ⟨hS1, hS2, hS3, hS4⟩ := hSw; (try simp only [List.getElem_toArray, List.getElem_cons_zero, List.getElem_cons_succ]); go_simp; try (with_reducible rfl))
            try simp only [Act.put, List.getElem_toArray, List.getElem_cons_zero, List.getElem_cons_succ, List.setIfInBounds_toArray, List.set_cons_zero, List.set_cons_succ]
            refine wpAnyH_take (i := 19) (v := ?_) rfl (by kernel_rfl) (by kernel_rfl) (by kernel_rfl) (fun _ _ _ h => h) (Or.inl ⟨by rfl, ?_⟩) (by assumption) ?_
            rotate_left
            · (intro w hSw; obtain ⟨hS1, hS2, hS3, hS4⟩ := hSw; (try simp only [List.getElem_toArray, List.getElem_cons_zero, List.getElem_cons_succ]); go_simp; try (with_reducible rfl))
            try simp only [Act.put, List.getElem_toArray, List.getElem_cons_zero, List.getElem_cons_succ, List.setIfInBounds_toArray, List.set_cons_zero, List.set_cons_succ]
            refine wpAnyH_take (i := 20) (v := ?_) rfl (by kernel_rfl) (by kernel_rfl) (by kernel_rfl) (fun _ _ _ h => h) (Or.inl ⟨by rfl, ?_⟩) (by assumption) ?_
            rotate_left
            · (intro w hSw; obtain ⟨hS1, hS2, hS3, hS4⟩ := hSw; (try simp only [List.getElem_toArray, List.getElem_cons_zero, List.getElem_cons_succ]); go_simp; try (with_reducible rfl))
            try simp only [Act.put, List.getElem_toArray, List.getElem_cons_zero, List.getElem_cons_succ, List.setIfInBounds_toArray, List.set_cons_zero, List.set_cons_succ]
            refine wpAnyH_done (by kernel_rfl) ?_ _
            refine NoPanic.normal ?_
            go_wp2
            go_ret
            exact ⟨rfl, Bv2.out⟩
          · (try simp only [List.getElem_toArray, List.getElem_cons_zero, List.getElem_cons_succ]); go_simp
            obtain ⟨vq, bq, hq⟩ := Sv1.out.qd
            have hqb := qbytes_any9 hq hs1 hs2 (fun _ _ => zeroS_ok)
            rw [HDQ.out] at hqb
            clear hq
            go_at_call 50
            refine Calls.mono hqb ?_
            rintro e v2 ⟨vJ, rfl, hvJ, hb2⟩
            have Sv2 := Lib.hid (Sv1.out.step hb2)
            have Bv2 := Lib.hid (Bv1.out.trans (hb2.mono Bv1.out.size))
            have OJ := Lib.hid (show v2.ownsRow v1.heap.size 5 1 vJ (sz * 128) (rowV (rowC (fun _ => zeroS) sz)) from by have h9 := hvJ; rw [rowC_len] at h9; exact h9)
            have OIJ := Lib.hid (owns_eq OI.out (fun g e => hb2.block g (OI.out.lt g e).2))
            clear hb2 hvJ
            try (go_wp2_with fail)
            refine hK.out _ _ (SK Sv2.out) (fun hHeld => ?_)
            clear hK K
            try simp only [Act.put, List.getElem_toArray, List.getElem_cons_zero, List.getElem_cons_succ, List.setIfInBounds_toArray, List.set_cons_zero, List.set_cons_succ]
            refine wpAnyH_ready (rs := [10, 17]) (by kernel_rfl) (by simp) ?_
            refine (AllReadyH.cons rfl (fun K hK => ?_) (AllReadyH.cons rfl (fun K hK => ?_) AllReadyH.nil))
            · (try simp only [List.getElem_toArray, List.getElem_cons_zero, List.getElem_cons_succ])
              have hcv := conv_flat10 OIJ.out hkk
              rw [HFB.out] at hcv
              go_simp
              refine hK.out _ _ (SK Sv2.out) (fun hHeld => ?_)
              clear hK K hcv
              try simp only [Act.put, List.getElem_toArray, List.getElem_cons_zero, List.getElem_cons_succ, List.setIfInBounds_toArray, List.set_cons_zero, List.set_cons_succ]
              refine wpAnyH_ready (rs := [17]) (by kernel_rfl) (by simp) ?_
              refine (AllReadyH.cons rfl (fun K hK => ?_) AllReadyH.nil)
              (try simp only [List.getElem_toArray, List.getElem_cons_zero, List.getElem_cons_succ])
              have hcv := conv_flat10 OJ.out hkk
              rw [HFB.out] at hcv
              go_simp
              refine hK.out _ _ (SK Sv2.out) (fun hHeld => ?_)
              clear hK K hcv
              try simp only [Act.put, List.getElem_toArray, List.getElem_cons_zero, List.getElem_cons_succ, List.setIfInBounds_toArray, List.set_cons_zero, List.set_cons_succ]
              refine wpAnyH_take (i := 18) (v := ?_) rfl (by kernel_rfl) (by kernel_rfl) (by kernel_rfl) (fun _ _ _ h => h) (Or.inl ⟨by rfl, ?_⟩) (by assumption) ?_
              rotate_left
              · (intro w hSw; obtain ⟨hS1, hS2, hS3, hS4⟩ := hSw; (try simp only [List.getElem_toArray, List.getElem_cons_zero, List.getElem_cons_succ]); go_simp; try (with_reducible rfl))
              try simp only [Act.put, List.getElem_toArray, List.getElem_cons_zero, List.getElem_cons_succ, List.setIfInBounds_toArray, List.set_cons_zero, List.set_cons_succ]
              refine wpAnyH_take (i := 19) (v := ?_) rfl (by kernel_rfl) (by kernel_rfl) (by kernel_rfl) (fun _ _ _ h => h) (Or.inl ⟨by rfl, ?_⟩) (by assumption) ?_
              rotate_left
              · (intro w hSw; obtain ⟨hS1, hS2, hS3, hS4⟩ := hSw; (try simp only [List.getElem_toArray, List.getElem_cons_zero, List.getElem_cons_succ]); go_simp; try (with_reducible rfl))
              try simp only [Act.put, List.getElem_toArray, List.getElem_cons_zero, List.getElem_cons_succ, List.setIfInBounds_toArray, List.set_cons_zero, List.set_cons_succ]
              refine wpAnyH_take (i := 20) (v := ?_) rfl (by kernel_rfl) (by kernel_rfl) (by kernel_rfl) (fun _ _ _ h => h) (Or.inl ⟨by rfl, ?_⟩) (by assumption) ?_
              rotate_left
              · (intro w hSw; obtain ⟨hS1, hS2, hS3, hS4⟩ := hSw; (try simp only [List.getElem_toArray, List.getElem_cons_zero, List.getElem_cons_succ]); go_simp; try (with_reducible rfl))
              try simp only [Act.put, List.getElem_toArray, List.getElem_cons_zero, List.getElem_cons_succ, List.setIfInBounds_toArray, List.set_cons_zero, List.set_cons_succ]
              refine wpAnyH_done (by kernel_rfl) ?_ _
              refine NoPanic.normal ?_
              go_wp2
              go_ret
              exact ⟨rfl, Bv2.out⟩
            · (try simp only [List.getElem_toArray, List.getElem_cons_zero, List.getElem_cons_succ])
              have hcv := conv_flat10 OJ.out hkk
              rw [HFB.out] at hcv
              go_simp
              refine hK.out _ _ (SK Sv2.out) (fun hHeld => ?_)
              clear hK K hcv
              try simp only [Act.put, List.getElem_toArray, List.getElem_cons_zero, List.getElem_cons_succ, List.setIfInBounds_toArray, List.set_cons_zero, List.set_cons_succ]
              refine wpAnyH_ready (rs := [10]) (by kernel_rfl) (by simp) ?_
              refine (AllReadyH.cons rfl (fun K hK => ?_) AllReadyH.nil)
              (try simp only [List.getElem_toArray, List.getElem_cons_zero, List.getElem_cons_succ])
              have hcv := conv_flat10 OIJ.out hkk
              rw [HFB.out] at hcv
              go_simp
              refine hK.out _ _ (SK Sv2.out) (fun hHeld => ?_)
              clear hK K hcv
              try simp only [Act.put, List.getElem_toArray, List.getElem_cons_zero, List.getElem_cons_succ, List.setIfInBounds_toArray, List.set_cons_zero, List.set_cons_succ]
              refine wpAnyH_take (i := 18) (v := ?_) rfl (by kernel_rfl) (by kernel_rfl) (by kernel_rfl) (fun _ _ _ h => h) (Or.inl ⟨by rfl, ?_⟩) (by assumption) ?_
              rotate_left
              · (intro w hSw; obtain ⟨hS1, hS2, hS3, hS4⟩ := hSw; (try simp only [List.getElem_toArray, List.getElem_cons_zero, List.getElem_cons_succ]); go_simp; try (with_reducible rfl))
              try simp only [Act.put, List.getElem_toArray, List.getElem_cons_zero, List.getElem_cons_succ, List.setIfInBounds_toArray, List.set_cons_zero, List.set_cons_succ]
              refine wpAnyH_take (i := 19) (v := ?_) rfl (by kernel_rfl) (by kernel_rfl) (by kernel_rfl) (fun _ _ _ h => h) (Or.inl ⟨by rfl, ?_⟩) (by assumption) ?_
              rotate_left
              · (intro w hSw; obtain ⟨hS1, hS2, hS3, hS4⟩ := hSw; (try simp only [List.getElem_toArray, List.getElem_cons_zero, List.getElem_cons_succ]); go_simp; try (with_reducible rfl))
              try simp only [Act.put, List.getElem_toArray, List.getElem_cons_zero, List.getElem_cons_succ, List.setIfInBounds_toArray, List.set_cons_zero, List.set_cons_succ]
              refine wpAnyH_take (i := 20) (v := ?_) rfl (by kernel_rfl) (by kernel_rfl) (by kernel_rfl) (fun _ _ _ h => h) (Or.inl ⟨by rfl, ?_⟩) (by assumption) ?_
              rotate_left
              · (intro w hSw; obtain ⟨hS1, hS2, hS3, hS4⟩ := hSw; (try simp only [List.getElem_toArray, List.getElem_cons_zero, List.getElem_cons_succ]); go_simp; try (with_reducible rfl))
              try simp only [Act.put, List.getElem_toArray, List.getElem_cons_zero, List.getElem_cons_succ, List.setIfInBounds_toArray, List.set_cons_zero, List.set_cons_succ]
              refine wpAnyH_done (by kernel_rfl) ?_ _
              refine NoPanic.normal ?_
              go_wp2
              go_ret
              exact ⟨rfl, Bv2.out⟩
end Go.Proofs.Ytgpdkfmneoggkaa
