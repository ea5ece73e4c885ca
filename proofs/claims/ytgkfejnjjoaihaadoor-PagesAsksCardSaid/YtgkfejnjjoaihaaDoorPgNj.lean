/- No table: Count, Where. -/
import Derived.Test.YtgkfejnjjoaihaaDoorPgNi
namespace Go.Proofs.YtgkfejnjjoaihaaDoor
open Go.RowKit
attribute [local go_sem] Oper.semAt_some

set_option maxRecDepth 100000 in
set_option maxHeartbeats 2000000 in
theorem count_nt_in {w : World} {q : Option Addr} (h : NoT w q) (f : Int) :
    CallsIn Fence.wide 5 Tryd.prog 22 #[.pointer q, .int .i64 f] w fun e w' => e = .returned (.int .i64 0) ∧ Below w.heap.size w w' := by
  obtain ⟨r0, r1, r2, hsz, hB0⟩ := three_boxes w (.int .i64 0) (.pointer q) (.int .i64 f) 3 23 3
  have HP := Lib.hid (h.below hB0)
  clear h
  refine callsIn_of_wp_marks Tryd.func22 rfl trivial ?_ rfl
  simp only [Tryd.ntmps22, List.size_toArray, List.length_cons, List.length_nil, Nat.reduceAdd, Nat.reduceSub, Array.replicate_succ, Array.replicate_zero, List.push_toArray, List.append_toArray, List.nil_append, List.cons_append]
  gi_wp2_with fail
  refine ⟨trivial, ?_⟩
  gi_at_call 47
  refine (callsIn_wide.2 (each_any _ _)).mono ?_
  rintro e w' ⟨rfl, rfl⟩
  rw [show (w.alloc (.cells #[.int .i64 0] 3)).heap.size = w.heap.size + 1 by simp]
  gi_wp2_with fail
  generalize hW0 : ((w.alloc (.cells #[.int .i64 0] 3)).alloc (.cells #[.pointer q] 23)).alloc (.cells #[.int .i64 f] 3) = w0 at r0 r1 r2 hsz hB0 HP ⊢
  clear hW0
  have HB0 := Lib.hid hB0
  have R0 := Lib.hid r0
  have HS := Lib.hid hsz
  have HBX := Lib.hid (show ∀ W : World, Below w0.heap.size w0 W → BoxQ W (w.heap.size + 1) (w.heap.size + 1 + 1) q f ∧ NoT W q from fun W hb =>
    ⟨boxq_of ((hb.block _ (by omega)).trans r1) ((hb.block _ (by omega)).trans r2), HP.out.below hb⟩)
  clear r0 r1 r2 hsz hB0
  refine range_b (encs := encE newT f) (N := 0) (hit := fun _ => false) (I := fun _ W => Below w0.heap.size w0 W) (Ix := fun _ _ => False) rfl (by omega) (gf := 60) (lb := #[.pointer (some ⟨w.heap.size + 1, 0, none⟩), .pointer (some ⟨w.heap.size + 1 + 1, 0, none⟩)]) rfl trivial (enters_of Tryd.func60 (by kernel_rfl) rfl)
    (each_nt0 4 (by omega) _ _ q f _ _ _ (fun W hI => HBX.out W hI)) (fun _ => rfl) (ownFrom_below (Nat.le_refl _) (Nat.le_refl _)) (fun k W h => h.trans ((Below.refl _ W).drew.mono h.size)) (fun c => fun _ _ _ _ h _ _ => h.elim) (Below.refl _ _)
    (fun k W hk _ _ => absurd hk (Nat.not_lt_zero _)) (fun _ => none)
    (fun k B => { tmps := #[.pointer q, .int .i64 f, undef, undef, .int .i64 0, .pointer (some ⟨w.heap.size, 0, none⟩), undef, .int .u32 (mask newT f k : Nat), .pointer q, .int .i64 f, .func (.func 60) #[] #[.pointer (some ⟨w.heap.size + 1, 0, none⟩), .pointer (some ⟨w.heap.size + 1 + 1, 0, none⟩)], .int .i64 k, .int .u32 (mask newT f k : Nat), undef, undef, undef, undef, undef], defers := [] }) ?assign ?body ?done ?stop
  case assign =>
    intro l k W K hK
    unfold encE
    gi_wp2
    exact hK
  case body =>
    rintro l k B W hk hh hB - hbl
    exact absurd hk (Nat.not_lt_zero _)
  case done =>
    rintro D W hD hbl hK
    have hc : W.heap[w.heap.size]? = some (.cells #[.int .i64 0] 3 (0, 0)) := (hbl.block _ (by have := HS.out; omega)).trans R0.out
    obtain ⟨d0, df, dl⟩ := one_of hc
    have hm := HS.out
    have HT := Lib.hid (HB0.out.trans (hbl.mono HB0.out.size))
    clear hbl hc
    gi_wp2
    refine ⟨by simp, .inl ⟨_, _, rfl, run_takeDeferred hK, ?_⟩⟩
    exact ⟨.int .i64 0, by simp [results, Tryd.f22, go_sem], rfl, below_putC HT.out _ _ (by omega)⟩
  case stop => rintro D c W hD h; exact h.elim
theorem count_nt {w : World} {q : Option Addr} (h : NoT w q) (f : Int) :
    Calls Tryd.prog 22 #[.pointer q, .int .i64 f] w fun e w' => e = .returned (.int .i64 0) ∧ Below w.heap.size w w' := callsIn_wide.1 (count_nt_in h f)
set_option maxRecDepth 100000 in
set_option maxHeartbeats 2000000 in
theorem where_nt_in {w : World} {q : Option Addr} (h : NoT w q) (f : Int) :
    CallsIn Fence.wide 5 Tryd.prog 21 #[.pointer q, .int .i64 f] w fun e w' => e = .returned (.slice none 0 0) ∧ Below w.heap.size w w' := by
  obtain ⟨r0, r1, r2, hsz, hB0⟩ := three_boxes w (.slice none 0 0) (.pointer q) (.int .i64 f) 48 23 3
  have HP := Lib.hid (h.below hB0)
  clear h
  refine callsIn_of_wp_marks Tryd.func21 rfl trivial ?_ rfl
  simp only [Tryd.ntmps21, List.size_toArray, List.length_cons, List.length_nil, Nat.reduceAdd, Nat.reduceSub, Array.replicate_succ, Array.replicate_zero, List.push_toArray, List.append_toArray, List.nil_append, List.cons_append]
  gi_wp2_with fail
  refine ⟨trivial, ?_⟩
  gi_at_call 47
  refine (callsIn_wide.2 (each_any _ _)).mono ?_
  rintro e w' ⟨rfl, rfl⟩
  rw [show (w.alloc (.cells #[.slice none 0 0] 48)).heap.size = w.heap.size + 1 by simp]
  gi_wp2_with fail
  generalize hW0 : ((w.alloc (.cells #[.slice none 0 0] 48)).alloc (.cells #[.pointer q] 23)).alloc (.cells #[.int .i64 f] 3) = w0 at r0 r1 r2 hsz hB0 HP ⊢
  clear hW0
  have HB0 := Lib.hid hB0
  have R0 := Lib.hid r0
  have HS := Lib.hid hsz
  have HBX := Lib.hid (show ∀ W : World, Below w0.heap.size w0 W → BoxQ W (w.heap.size + 1) (w.heap.size + 1 + 1) q f ∧ NoT W q from fun W hb =>
    ⟨boxq_of ((hb.block _ (by omega)).trans r1) ((hb.block _ (by omega)).trans r2), HP.out.below hb⟩)
  clear r0 r1 r2 hsz hB0
  refine range_b (encs := encE newT f) (N := 0) (hit := fun _ => false) (I := fun _ W => Below w0.heap.size w0 W) (Ix := fun _ _ => False) rfl (by omega) (gf := 60) (lb := #[.pointer (some ⟨w.heap.size + 1, 0, none⟩), .pointer (some ⟨w.heap.size + 1 + 1, 0, none⟩)]) rfl trivial (enters_of Tryd.func60 (by kernel_rfl) rfl)
    (each_nt0 4 (by omega) _ _ q f _ _ _ (fun W hI => HBX.out W hI)) (fun _ => rfl) (ownFrom_below (Nat.le_refl _) (Nat.le_refl _)) (fun k W h => h.trans ((Below.refl _ W).drew.mono h.size)) (fun c => fun _ _ _ _ h _ _ => h.elim) (Below.refl _ _)
    (fun k W hk _ _ => absurd hk (Nat.not_lt_zero _)) (fun _ => none)
    (fun k B => { tmps := #[.pointer q, .int .i64 f, undef, undef, .slice none 0 0, .pointer (some ⟨w.heap.size, 0, none⟩), .int .i64 k, .int .u32 (mask newT f k : Nat), .pointer q, .int .i64 f, .func (.func 60) #[] #[.pointer (some ⟨w.heap.size + 1, 0, none⟩), .pointer (some ⟨w.heap.size + 1 + 1, 0, none⟩)], .int .i64 k, .int .u32 (mask newT f k : Nat), undef, undef, undef, undef, undef, undef, undef, undef, undef, undef, undef, undef, undef, undef], defers := [] }) ?assign ?body ?done ?stop
  case assign =>
    intro l k W K hK
    unfold encE
    gi_wp2
    exact hK
  case body =>
    rintro l k B W hk hh hB - hbl
    exact absurd hk (Nat.not_lt_zero _)
  case done =>
    rintro D W hD hbl hK
    have hc : W.heap[w.heap.size]? = some (.cells #[.slice none 0 0] 48 (0, 0)) := (hbl.block _ (by have := HS.out; omega)).trans R0.out
    obtain ⟨d0, df, dl⟩ := one_of hc
    have hm := HS.out
    have HT := Lib.hid (HB0.out.trans (hbl.mono HB0.out.size))
    clear hbl hc
    gi_wp2
    refine ⟨by simp, .inl ⟨_, _, rfl, run_takeDeferred hK, ?_⟩⟩
    exact ⟨.slice none 0 0, by simp [results, Tryd.f21, go_sem], rfl, below_putC HT.out _ _ (by omega)⟩
  case stop => rintro D c W hD h; exact h.elim
theorem where_nt {w : World} {q : Option Addr} (h : NoT w q) (f : Int) :
    Calls Tryd.prog 21 #[.pointer q, .int .i64 f] w fun e w' => e = .returned (.slice none 0 0) ∧ Below w.heap.size w w' := callsIn_wide.1 (where_nt_in h f)
end Go.Proofs.YtgkfejnjjoaihaaDoor
