/- No table: its iterators tell nothing; any, Spaces. -/
import Derived.Test.YtgkfejnjjoaihaaDoorPgNo
namespace Go.Proofs.YtgkfejnjjoaihaaDoor
open Go.RowKit

structure BoxQ (w : World) (b1 b2 : Nat) (q : Option Addr) (x : Int) : Prop where
  c1 : w.cell? ⟨b1, 0, none⟩ = some (.pointer q)
  c2 : w.cell? ⟨b2, 0, none⟩ = some (.int .i64 x)
theorem space_nt0 (m : Nat) (hm : 1 ≤ m) (b1 b2 : Nat) (q : Option Addr) (s : Int) (encs : Nat → Array Value) (hit : Nat → Bool) (I : Nat → World → Prop) (hI : ∀ W, I 0 W → BoxQ W b1 b2 q s ∧ NoT W q) :
    StepsB Fence.wide m Tryd.prog 61 #[.pointer (some ⟨b1, 0, none⟩), .pointer (some ⟨b2, 0, none⟩)] encs 0 hit I := by
  intro l J Jx W hJI hJa hJd hsk hY h0
  have HA := Lib.hid h0
  obtain ⟨⟨c1, c2⟩, hp0⟩ := hI W (hJI 0 W h0)
  have HP := Lib.hid hp0
  clear hp0 h0
  refine callsIn_of_wp Tryd.func61 rfl trivial ?_ rfl
  simp only [Tryd.ntmps61, List.size_toArray, List.length_cons, List.length_nil, Nat.reduceAdd, Nat.reduceSub, Array.replicate_succ, Array.replicate_zero, List.push_toArray, List.append_toArray, List.nil_append, List.cons_append]
  gi_wp2_with (first | (refine ⟨trivial, ?_⟩; gi_at_call 43; refine (callsIn_wide.2 (there_nt HP.out)).mono ?_; rintro e w' ⟨rfl, rfl⟩) | refine ⟨trivial, ?_⟩)
  try gi_wp2
  exact bodyPost_ret (v := .tuple #[]) (by simp [results, Tryd.results61, go_sem]) rfl ⟨⟨_, rfl⟩, .inl HA.out⟩
theorem each_nt0 (m : Nat) (hm : 1 ≤ m) (b1 b2 : Nat) (q : Option Addr) (s : Int) (encs : Nat → Array Value) (hit : Nat → Bool) (I : Nat → World → Prop) (hI : ∀ W, I 0 W → BoxQ W b1 b2 q s ∧ NoT W q) :
    StepsB Fence.wide m Tryd.prog 60 #[.pointer (some ⟨b1, 0, none⟩), .pointer (some ⟨b2, 0, none⟩)] encs 0 hit I := by
  intro l J Jx W hJI hJa hJd hsk hY h0
  have HA := Lib.hid h0
  obtain ⟨⟨c1, c2⟩, hp0⟩ := hI W (hJI 0 W h0)
  have HP := Lib.hid hp0
  clear hp0 h0
  refine callsIn_of_wp Tryd.func60 rfl trivial ?_ rfl
  simp only [Tryd.ntmps60, List.size_toArray, List.length_cons, List.length_nil, Nat.reduceAdd, Nat.reduceSub, Array.replicate_succ, Array.replicate_zero, List.push_toArray, List.append_toArray, List.nil_append, List.cons_append]
  gi_wp2_with (refine ⟨trivial, ?_⟩; gi_at_call 43; refine (callsIn_wide.2 (there_nt HP.out)).mono ?_; rintro e w' ⟨rfl, rfl⟩)
  exact bodyPost_ret (v := .tuple #[]) (by simp [results, Tryd.results60, go_sem]) rfl ⟨⟨_, rfl⟩, .inl HA.out⟩
theorem boxq_of {w : World} {b1 b2 : Nat} {q : Option Addr} {s : Int} {ta tb : TypeId} (h1 : w.heap[b1]? = some (.cells #[.pointer q] ta (0, 0))) (h2 : w.heap[b2]? = some (.cells #[.int .i64 s] tb (0, 0))) : BoxQ w b1 b2 q s := ⟨(one_of h1).1, (one_of h2).1⟩

set_option maxRecDepth 100000 in
set_option maxHeartbeats 2000000 in
theorem any_nt_in {w : World} {q : Option Addr} (h : NoT w q) (s : Int) :
    CallsIn Fence.wide 5 Tryd.prog 53 #[.pointer q, .int .i64 s] w fun e w' => e = .returned (.bool false) ∧ Below w.heap.size w w' := by
  obtain ⟨r0, r1, r2, hsz, hB0⟩ := three_boxes w (.bool false) (.pointer q) (.int .i64 s) 4 23 3
  have hP := h.below hB0
  have HP := Lib.hid hP
  clear h hP
  refine callsIn_of_wp_marks Tryd.func53 rfl trivial ?_ rfl
  simp only [Tryd.ntmps53, List.size_toArray, List.length_cons, List.length_nil, Nat.reduceAdd, Nat.reduceSub, Array.replicate_succ, Array.replicate_zero, List.push_toArray, List.append_toArray, List.nil_append, List.cons_append]
  gi_wp2_with fail
  refine ⟨trivial, ?_⟩
  gi_at_call 54
  refine (callsIn_wide.2 (space_any _ _)).mono ?_
  rintro e w' ⟨rfl, rfl⟩
  have hsz1 : (w.alloc (.cells #[.bool false] 4)).heap.size = w.heap.size + 1 := by simp
  rw [hsz1]
  gi_wp2_with fail
  generalize hW0 : ((w.alloc (.cells #[.bool false] 4)).alloc (.cells #[.pointer q] 23)).alloc (.cells #[.int .i64 s] 3) = w0 at r0 r1 r2 hsz hB0 HP ⊢
  clear hW0 hsz1
  have hn : w.heap.size ≤ w0.heap.size := hB0.size
  have HB0 := Lib.hid hB0
  have R0 := Lib.hid r0
  have HS := Lib.hid hsz
  have hbox : ∀ W : World, Below w0.heap.size w0 W → BoxQ W (w.heap.size + 1) (w.heap.size + 1 + 1) q s ∧ NoT W q := fun W hb =>
    ⟨boxq_of ((hb.block _ (by omega)).trans r1) ((hb.block _ (by omega)).trans r2), HP.out.below hb⟩
  have HBX := Lib.hid hbox
  clear r0 r1 r2 hsz hbox hB0
  refine range_b (encs := encS newT s) (N := 0) (hit := fun _ => false) (I := fun _ W => Below w0.heap.size w0 W) (Ix := fun _ _ => False) rfl (by omega) (gf := 61) (lb := #[.pointer (some ⟨w.heap.size + 1, 0, none⟩), .pointer (some ⟨w.heap.size + 1 + 1, 0, none⟩)]) rfl trivial (enters_of Tryd.func61 (by kernel_rfl) rfl)
    (space_nt0 4 (by omega) _ _ q s _ _ _ (fun W hI => HBX.out W hI)) (fun _ => rfl) (ownFrom_below (Nat.le_refl _) (Nat.le_refl _)) (fun k W h => h.trans ((Below.refl _ W).drew.mono h.size)) (fun c => fun _ _ _ _ h _ _ => h.elim) (Below.refl _ _)
    (fun k W hk _ _ => absurd hk (Nat.not_lt_zero _)) (fun _ => none)
    (fun k B => { tmps := #[.pointer q, .int .i64 s, undef, undef, .pointer (some ⟨w.heap.size, 0, none⟩), .pointer q, .int .i64 s, .func (.func 61) #[] #[.pointer (some ⟨w.heap.size + 1, 0, none⟩), .pointer (some ⟨w.heap.size + 1 + 1, 0, none⟩)], .int .i64 k, entV (atT newT s k)], defers := [] }) ?assign ?body ?done ?stop
  case assign =>
    intro l k W K hK
    gi_wp2
    simpa [encS, addO] using hK
  case body =>
    rintro l k B W hk hh hB - hbl
    exact absurd hk (Nat.not_lt_zero _)
  case done =>
    rintro D W hD hbl hK
    have r0 : W.heap[w.heap.size]? = some (.cells #[.bool false] 4 (0, 0)) := (hbl.block _ (by have := HS.out; omega)).trans R0.out
    obtain ⟨rc, rf, rl⟩ := one_of r0
    have HBL := Lib.hid hbl
    have hne := HS.out
    clear hbl
    gi_wp2
    have hK' : (W.setCell ⟨w.heap.size, 0, none⟩ (.bool false)).heap[D]? = some (.deferred (some [])) := (heap_setCell_other W ⟨w.heap.size, 0, none⟩ D _ (show D ≠ w.heap.size by omega)).trans hK
    have hc' : (W.setCell ⟨w.heap.size, 0, none⟩ (.bool false)).cell? ⟨w.heap.size, 0, none⟩ = some (.bool false) := by rw [cell_of_row _ _ _ _ _ _ (one_setCell r0)]; rfl
    refine ⟨by simp, .inl ⟨_, _, rfl, run_takeDeferred hK', ?_⟩⟩
    refine ⟨.bool false, ?_, rfl, below_putC ((HB0.out.trans (HBL.out.mono HB0.out.size)).setCell (Nat.le_refl _) _) _ _ (by omega)⟩
    have hc2 : ((W.setCell ⟨w.heap.size, 0, none⟩ (.bool false)).putObj D (.deferred none)).cell? ⟨w.heap.size, 0, none⟩ = some (.bool false) := (World.cell?_of_block (a := ⟨w.heap.size, 0, none⟩) (World.putObj_heap_other (show w.heap.size ≠ D by omega))).trans hc'
    simp [results, Tryd.f53, go_sem, hc2]
  case stop => rintro D c W hD h; exact h.elim
theorem any_nt {w : World} {q : Option Addr} (h : NoT w q) (s : Int) :
    Calls Tryd.prog 53 #[.pointer q, .int .i64 s] w fun e w' => e = .returned (.bool false) ∧ Below w.heap.size w w' := callsIn_wide.1 (any_nt_in h s)
set_option maxRecDepth 100000 in
set_option maxHeartbeats 1000000 in
theorem spaces_nt {w : World} {q : Option Addr} (h : NoT w q) : Calls Tryd.prog 30 #[.pointer q] w fun e w' => e = .returned (.slice none 0 0) ∧ Below w.heap.size w w' := by
  have H := Lib.hid h
  clear h
  go_enter Tryd.func30, Tryd.ntmps30
  go_wp2_with fail
  go_loopw [3, 5] (fun v x wr => ∃ k : Nat, k ≤ 16 ∧ v = .slice none 0 0 ∧ x = .int .i64 k ∧ Below w.heap.size w wr) (fun _ x _ => 16 - (intOf x).toNat)
  case atStart => exact ⟨0, Nat.zero_le _, rfl, rfl, Below.refl _ _⟩
  case round =>
    obtain ⟨k, hk, rfl, rfl, hbl⟩ := hrel
    have HB := Lib.hid hbl
    clear hbl
    by_cases hlt : k < 16
    · have hlt' : (k : Int) < 16 := by omega
      have HC := Lib.hid (any_nt (H.out.below HB.out) k)
      go_wp2_with (go_at_call 53; refine HC.out.mono ?_; rintro e w1 ⟨rfl, hb1⟩; have HB1 := Lib.hid hb1; clear hb1)
      go_roundw
      case rel => exact ⟨k + 1, hlt, rfl, by go_num, HB.out.trans (HB1.out.mono HB.out.size)⟩
      case measure => simp [intOf]; omega
    · obtain rfl : k = 16 := by omega
      go_wp2_with fail
      go_ret
      exact ⟨rfl, HB.out⟩
end Go.Proofs.YtgkfejnjjoaihaaDoor
