/- tests; slices.Grow and Concat of tests. -/
import Derived.Test.YteibholghonajaaFiG
namespace Go.Proofs.Yteibholghonajaa
open Go.RowKit

theorem Try.arr64 : Try.prog.underlying 55 = some (.array 64 5) := by kernel_rfl
theorem Try.arrT64 : Try.prog.arrayLen 55 = 64 := by kernel_rfl
theorem slice_masks (g l : Nat) (h : l ≤ 64) (w : World) : (Instr.sliceAt 55 (.pointer (some ⟨g, 1, none⟩)) none (some (.int .i64 (l : Int))) none).run Try.prog w = .ok (.slice (some ⟨g, 1, none⟩) l 64) w := by
  rw [run_sliceAt_array_h w 55 ⟨g, 1, none⟩ (by kernel_rfl) .i64 (l : Int) (by omega) (by rw [Try.arrT64]; omega)]
  rw [Try.arrT64, show (sizeOf (Try.prog.elem 55)).run Try.prog w = .ok 1 w from by kernel_rfl]
  simp [slicedAt, Addr.add]
set_option maxHeartbeats 4000000 in
set_option maxRecDepth 100000 in
theorem tests_any {w : World} {g : Nat} {s : Sm} (h : SmAt w g s) (hs : SmOk s) :
    Calls Try.prog 34 #[.pointer (some ⟨g, 0, none⟩)] w (TsOut ((testsS s).map Tn.ts) w) := by
  obtain ⟨i0, hi, hz0, hz1, hz2⟩ := info_parts Try.inTest
  have HS := Lib.hid hs
  have hn := hs.n
  have hsl := slice_masks g s.size hs.n
  have c0 := h.c0
  have hlt := h.lt
  have H := Lib.hid h
  clear h hs
  obtain ⟨l, hl⟩ : ∃ l, s.size = l := ⟨_, rfl⟩
  rw [hl] at hn c0 hsl
  have HL := Lib.hid hl
  clear hl
  go_enter Try.func34, Try.ntmps34
  go_wp2
  go_quiet (fail)
  refine gen_world (C := fun W => Exit.then _ _ _ _ W) _ (fun W => Below w.heap.size w W) (below_drewN (Below.refl _ w) _) (fun w1 hb1 => ?_)
  have HB1 := Lib.hid hb1
  clear hb1 c0 hlt
  go_wp2_with fail
  go_loopg [3, 15] l (fun g v i W => ∃ k : Nat, k + g = l ∧ i = .int .i64 (k : Int) ∧ W.ownsRow w.heap.size 52 3 v (testsTo s k).length (rowN (testsTo s k)) ∧ Below w.heap.size w W)
  case atStart => exact ⟨0, by omega, rfl, World.ownsRow_nil _ _ _ _, HB1.out⟩
  case round =>
    obtain ⟨k, hk, rfl, hown, hB⟩ := hrel
    have HOW := Lib.hid hown
    have HW := Lib.hid hB
    clear hown hB
    have hlw := (H.out.below HW.out).lt
    by_cases hlt : k < l
    · have hlt2 : (k : Int) < l := by omega
      have HTS := Lib.hid (testsTo_succ s k)
      have hM8 := HS.out.m k
      have hV8 := HS.out.v k
      have hlen := testsTo_len s k
      have c0 := (H.out.below HW.out).c0
      have cM := (H.out.below HW.out).cM (show k < 64 by omega)
      have cV := (H.out.below HW.out).cV (show k < 64 by omega)
      rw [HL.out] at c0
      generalize hmk : s.M k = mk at hM8 HTS cM
      generalize hvk : s.V k = vk at hV8 HTS cV
      by_cases hm0 : mk = 0
      · have hb0 : ((mk : Int) != 0) = false := by rw [hm0]; rfl
        by_cases hlast : k + 1 = l
        · have hb1 : ((k : Int) == (l : Int) - 1) = true := by simp; omega
          have hb1' : decide ((k : Int) = (l : Int) - 1) = true := by simp; omega
          have HT2 := Lib.hid (show testsTo s (k + 1) = testsTo s k ++ [⟨k, mk, vk⟩] by rw [HTS.out, if_pos (by rw [HL.out]; simp [hlast])])
          clear hm0 HTS hmk hvk
          go_wp2_with (at_builtin; refine wpList_append_own _ rfl _ _ 22 rfl w.heap.size 52 i0 (.agg #[.int .i64 0, .int .i64 0, .int .i64 0]) 3 24 Try.underlying22 hi hz0 hz1 hz2 rfl (by decide) _ _ _ rfl (HOW.out.alloc _) ⟨wr.heap.size, 0, none⟩ 1 1 [.int .i64 (k : Int), .int .i64 (mk : Int), .int .i64 (vk : Int)] rfl rfl (cells_new _ _ _) (by simp [Value.oneCell']) (by unfold maxLen; omega) (by omega) (by have := HW.out.size; simp; omega) ?_; intro v' w3 hown' hg3 hnil3)
          all_goals
            go_roundg (l - (k + 1))
            case measure => omega
            case rel =>
              refine ⟨k + 1, by omega, by go_num, ?_, ?_⟩
              · rw [HT2.out, rowN_snoc, List.length_append]; exact hown'
              · exact (HW.out.alloc HW.out.size _).grown hg3 (by have := HW.out.size; simp; omega) (fun j hj => (HOW.out.lt j hj).1)
        · have hb1 : ((k : Int) == (l : Int) - 1) = false := by simp; omega
          have hb1' : decide ((k : Int) = (l : Int) - 1) = false := by simp; omega
          have HT2 := Lib.hid (show testsTo s (k + 1) = testsTo s k by rw [HTS.out, if_neg (by rw [HL.out]; simp [hlast, hm0]), List.append_nil])
          clear hm0 HTS hmk hvk
          go_wp2_with fail
          all_goals
            go_roundg (l - (k + 1))
            case measure => omega
            case rel => exact ⟨k + 1, by omega, by go_num, by rw [HT2.out]; exact HOW.out, HW.out⟩
      · have hb0 : ((mk : Int) != 0) = true := by rw [bne_iff_ne]; omega
        have HT2 := Lib.hid (show testsTo s (k + 1) = testsTo s k ++ [⟨k, mk, vk⟩] by rw [HTS.out, if_pos (by simp [hm0])])
        clear hm0 HTS hmk hvk
        go_wp2_with (at_builtin; refine wpList_append_own _ rfl _ _ 22 rfl w.heap.size 52 i0 (.agg #[.int .i64 0, .int .i64 0, .int .i64 0]) 3 24 Try.underlying22 hi hz0 hz1 hz2 rfl (by decide) _ _ _ rfl (HOW.out.alloc _) ⟨wr.heap.size, 0, none⟩ 1 1 [.int .i64 (k : Int), .int .i64 (mk : Int), .int .i64 (vk : Int)] rfl rfl (cells_new _ _ _) (by simp [Value.oneCell']) (by unfold maxLen; omega) (by omega) (by have := HW.out.size; simp; omega) ?_; intro v' w3 hown' hg3 hnil3)
        all_goals
          go_roundg (l - (k + 1))
          case measure => omega
          case rel =>
            refine ⟨k + 1, by omega, by go_num, ?_, ?_⟩
            · rw [HT2.out, rowN_snoc, List.length_append]; exact hown'
            · exact (HW.out.alloc HW.out.size _).grown hg3 (by have := HW.out.size; simp; omega) (fun j hj => (HOW.out.lt j hj).1)
    · obtain rfl : k = l := by omega
      have hlt2 : ¬ (k : Int) < (k : Int) := by omega
      go_wp2
      go_ret
      refine ⟨_, rfl, ?_, HW.out⟩
      have he : testsTo s k = testsS s := by rw [← HL.out, testsTo_all]
      have ho := HOW.out
      rw [he] at ho
      rw [List.length_map]
      exact ho

/-! ### Grow, Concat -/
theorem grow_made {P : Program} (w : World) (t ti ty e : TypeId) (i : TypeInfo) (z : Value) (ht : P.underlying t = some (.slice e)) (hti : P.underlying ti = some (.int .i64)) (hi : P.info? e = some i) (hz : i.zero = some z) (hs : i.size = z.cells.size) (hzn : z.cells.size ≠ 0)
    (m : Nat) (h0 : 0 < m) (h63 : m ≤ maxLen) (hb : m * i.bytes ≤ 140737488355328) :
    ∃ cur, (Builtin.append_ #[t, ti] ty #[.slice none 0 0, .int .i64 m]).run P w = .ok (.slice (some ⟨w.heap.size, 0, none⟩) m (grownCap w m 0 e)) (w.drew.alloc (.cells cur e)) ∧ cur.size = grownCap w m 0 e * z.cells.size := by
  unfold maxLen at h63
  have hn : m ≠ 0 := by omega
  have h63' : ¬ (9223372036854775807 < (m : Int)) := by omega
  have hneg : ¬ ((m : Int) < 0) := by omega
  have hwr : IntKind.i64.wrap (m : Int) = m := IntWalk.i64_in _ (by omega)
  have hbi : ¬ (281474976710656 < (m : Int) * (i.bytes : Int)) := by
    have : ((m * i.bytes : Nat) : Int) ≤ 140737488355328 := by omega
    rw [Int.natCast_mul] at this
    omega
  have h48' : ¬ (281474976710656 < Builtin.nextslicecap m 0 * i.bytes) := by rw [nextslicecap_zero h0]; omega
  have hge := grownCap_ge w m 0 e
  refine ⟨Builtin.zeroCells z.cells m ++ Builtin.zeroCells z.cells (grownCap w m 0 e - m), ?_, ?_⟩
  · simp [Builtin.append_, run_underlying ht, run_underlying hti, sizeOf, typeInfo, zeroValue, hi, hz, hs, hn, hzn, h63', hneg, hwr, hbi, h48', asInt, asIntOf, Question.forced, run_firstCells_none, newRow, grownCap]
    intro hh
    exact absurd hh (Nat.mul_ne_zero hn hzn)
  · rw [Array.size_append, size_zeroCells, size_zeroCells, ← Nat.add_mul]
    congr 1; omega
theorem wpList_grow {P : Program} {w : World} {ops : Array Oper} {rest : List Oper} {o : Oper} {a : Act} {Q : Exit → Act → World → Prop} (hgd : o.guard = none) (s x : Operand) (t ti : TypeId)
    (ho : o.op = .call { callee := .builtin .append, args := #[s, x], argTypes := #[t, ti] })
    (e : TypeId) (i : TypeInfo) (z : Value) (ht : P.underlying t = some (.slice e)) (hti : P.underlying ti = some (.int .i64)) (hi : P.info? e = some i) (hz : i.zero = some z) (hs : i.size = z.cells.size) (hzn : z.cells.size ≠ 0)
    (hv : a.eval s = .slice none 0 0) (m : Nat) (h0 : 0 < m) (hx : a.eval x = .int .i64 m) (h63 : m ≤ maxLen) (hb : m * i.bytes ≤ 140737488355328)
    (h : ∀ cap cur, m ≤ cap → cap ≤ maxLen → cur.size = cap * z.cells.size → wpList P ops Q rest (a.put o.dst (.slice (some ⟨w.heap.size, 0, none⟩) m cap)) (w.drew.alloc (.cells cur e))) : wpList P ops Q (o :: rest) a w :=
  wpList_plain hgd fun _ hK => by
    obtain ⟨cur, hr, hc⟩ := grow_made (P := P) w t ti o.type e i z ht hti hi hz hs hzn m h0 h63 hb
    unfold Oper.wp execOp
    simp only [ho, resolve, invoke, builtin, Sem.run_bind, Sem.run_pure, Result.andThen_ok, List.map_toArray, List.map_cons, List.map_nil, hv, hx, hr]
    exact hK _ _ (h _ cur (grownCap_ge w m 0 e) (grownCap_le_maxLen w m 0 e h63) hc)
set_option maxHeartbeats 4000000 in
set_option maxRecDepth 100000 in
theorem grow_any {w : World} (m : Nat) (hm : m ≤ 1000000) :
    Calls Try.prog 39 #[.slice none 0 0, .int .i64 (m : Int)] w fun e w' => ∃ v, e = .returned v ∧ w'.ownsRow w.heap.size 52 3 v 0 [] ∧ Below w.heap.size w w' := by
  obtain ⟨i0, hi, hz0, hz1, hz2⟩ := info_parts Try.inTest
  by_cases h0 : m = 0
  · subst h0
    go_enter Try.func39, Try.ntmps39
    go_wp2
    go_ret
    exact ⟨_, rfl, World.ownsRow_nil _ _ _ _, Below.refl _ w⟩
  · have h0' : (0 : Int) < (m : Int) := by omega
    have h0n : ¬ (m : Int) < 0 := by omega
    have h0p : 0 < m := by omega
    clear h0
    go_enter Try.func39, Try.ntmps39
    go_wp2_with (at_builtin; refine wpList_grow rfl _ _ 22 3 rfl 52 i0 _ Try.underlying22 Try.underlying3 hi hz0 hz1 (by decide) rfl m h0p rfl (by unfold maxLen; omega) (by rw [hz2]; omega) ?_; intro cap cur hc1 hc2 hc3)
    go_ret
    refine ⟨_, rfl, ⟨rfl, .inr ⟨w.heap.size, cap, cur, rfl, Nat.le_refl _, heap_alloc_new w.drew _, Nat.zero_le _, hc2, hc3, rfl⟩⟩, ((Below.refl _ w).drew).alloc (Nat.le_refl _) _⟩
end Go.Proofs.Yteibholghonajaa
