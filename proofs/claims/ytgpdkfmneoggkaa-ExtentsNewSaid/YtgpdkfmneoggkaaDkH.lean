/- Read, Flushed; copies of sectors; what lasts of a disk. -/
import Derived.Test.YtgpdkfmneoggkaaDkG
import Derived.Lib.SliceRun
namespace Go.Proofs.Ytgpdkfmneoggkaa
open Go.RowKit
open Go.Maps (Keyed)
attribute [local go_sem] Oper.semAt_some

theorem read_no9 {w : World} {v : Value} (h : NoDk w v) (i : Int) : Calls Try.prog 72 #[v, .int .i64 i] w fun e w' => e = .returned (.tuple #[.slice none 0 0, .int .i64 1]) ∧ w = w' := by
  go_enter Try.func72, Try.ntmps72
  go_wp2_with (go_at_call 75; refine (ask_no9 h i).mono ?_; rintro e w' ⟨rfl, rfl⟩)
  go_ret2
  exact ⟨rfl, rfl⟩
theorem flushed_no9 {w : World} {v : Value} (h : NoDk w v) (i : Int) : Calls Try.prog 61 #[v, .int .i64 i] w fun e w' => e = .returned (.tuple #[.slice none 0 0, .int .i64 1]) ∧ w = w' := by
  go_enter Try.func61, Try.ntmps61
  go_wp2_with (go_at_call 75; refine (ask_no9 h i).mono ?_; rintro e w' ⟨rfl, rfl⟩)
  go_ret2
  exact ⟨rfl, rfl⟩
/-- A sector's bytes, handed out. -/
def SecOut (w : World) (c : Sec) (e : Ending) (w' : World) : Prop :=
  ∃ g k, e = .returned (.tuple #[.slice (some ⟨g, 0, none⟩) 128 k, .int .i64 0]) ∧ w.heap.size ≤ g ∧ g < w'.heap.size ∧ w'.rangeAt g 0 (secL c) ∧ (∀ o, w'.frozen? ⟨g, o, none⟩ = false) ∧ Below w.heap.size w w'
section
variable {w : World} {O : Nat → Prop} {d : Nat} {L : Lay9} {s : Dk}
theorem read_out9 (h : DkAt w O d L s) (i : Int) (hi : s.has i = false) : Calls Try.prog 72 #[.pointer (some ⟨d, 0, none⟩), .int .i64 i] w fun e w' => e = .returned (.tuple #[.slice none 0 0, .int .i64 2]) ∧ w = w' := by
  have HA := Lib.hid (ask_any9 h i)
  rw [hi] at HA
  clear h
  go_enter Try.func72, Try.ntmps72
  go_wp2_with (go_at_call 75; refine HA.out.mono ?_; rintro e w' ⟨rfl, rfl⟩)
  go_ret2
  exact ⟨rfl, rfl⟩
theorem flushed_out9 (h : DkAt w O d L s) (i : Int) (hi : s.has i = false) : Calls Try.prog 61 #[.pointer (some ⟨d, 0, none⟩), .int .i64 i] w fun e w' => e = .returned (.tuple #[.slice none 0 0, .int .i64 2]) ∧ w = w' := by
  have HA := Lib.hid (ask_any9 h i)
  rw [hi] at HA
  clear h
  go_enter Try.func61, Try.ntmps61
  go_wp2_with (go_at_call 75; refine HA.out.mono ?_; rintro e w' ⟨rfl, rfl⟩)
  go_ret2
  exact ⟨rfl, rfl⟩
theorem has_yes9 {s : Dk} {i : Nat} (hi : i < s.fl.length) : s.has i = true := by unfold Dk.has; simp; omega
set_option maxHeartbeats 1000000 in
set_option maxRecDepth 100000 in
theorem read_yes9 (h : DkAt w O d L s) (i : Nat) (hi : i < s.fl.length) : Calls Try.prog 72 #[.pointer (some ⟨d, 0, none⟩), .int .i64 (i : Int)] w (SecOut w (s.seen i)) := by
  have HA := Lib.hid (ask_any9 h i)
  rw [has_yes9 hi, if_pos rfl] at HA
  have HS := Lib.hid (seen_any9 h i hi)
  have HOK := Lib.hid (Dk.seen_ok h.ok hi)
  clear h
  go_enter Try.func72, Try.ntmps72
  go_wp2_with (first
    | (go_at_call 75; refine HA.out.mono ?_; rintro e w' ⟨rfl, rfl⟩)
    | (go_at_call 78; refine HS.out.mono ?_; rintro e w1 ⟨rfl, hb1⟩; have HB1 := Lib.hid hb1; have hs1 := hb1.size; clear hb1)
    | (refine wpList_store_sec rfl _ _ rfl rfl w1.heap.size (s.seen i) rfl rfl 108 _ (heap_alloc_new w1 _) rfl HOK.out ?_))
  refine bodyPost_ret (v := .tuple #[.slice (some ⟨w1.heap.size, 0, none⟩) 128 128, .int .i64 0]) (by simp [results, Try.results72, go_sem]) rfl ?_
  have hrow := setRow_heap (w1.alloc (.cells Try.zeroCells108 108)) w1.heap.size _ (secA (s.seen i)) _ _ (heap_alloc_new w1 _)
  refine ⟨w1.heap.size, 128, rfl, hs1, by simp, fun j v hj => ?_, fun o => frozen_of_row _ _ _ _ _ hrow, below_setRow (HB1.out.alloc hs1 _) hs1 _⟩
  rw [Nat.zero_add, cell_of_row _ _ _ _ _ _ hrow]
  unfold secA
  rw [List.getElem?_toArray]
  exact hj

theorem owns_mono0 {w : World} {B : Nat} {e : TypeId} {k : Nat} {v : Value} {n : Nat} {xs : List Value} (h : w.ownsRow B e k v n xs) : w.ownsRow 0 e k v n xs := by
  refine ⟨h.1, ?_⟩
  rcases h.2 with h2 | ⟨g, cap, cur, h1, -, h3⟩
  · exact .inl h2
  · exact .inr ⟨g, cap, cur, h1, Nat.zero_le _, h3⟩
/-- A copy of a row of sectors. -/
def CloneOut9 (w : World) (n : Nat) (l : List Sec) (e : Ending) (w' : World) : Prop :=
  ∃ F cap, e = .returned (.slice (some ⟨F, 0, none⟩) n cap) ∧ w'.ownsRow 0 108 128 (.slice (some ⟨F, 0, none⟩) n cap) n (rowV l) ∧ w.heap.size ≤ F ∧ Below w.heap.size w w'
set_option maxHeartbeats 1000000 in
set_option maxRecDepth 100000 in
theorem clone_any9 {w : World} {B g n k : Nat} {l : List Sec} (h : w.ownsRow B 108 128 (.slice (some ⟨g, 0, none⟩) n k) n (rowV l)) (hn : n ≤ 1000000) :
    Calls Try.prog 56 #[.slice (some ⟨g, 0, none⟩) n k] w (CloneOut9 w n l) := by
  obtain ⟨i0, hi, hz0, hz1, hz2⟩ := info_parts Try.zCont
  have hz2 : i0.bytes = 128 := hz2
  have q22 : ∀ (w : World) (a : Option Addr) (n c n' c' : Nat), (binOp .eql 102 (.slice a n c) (.slice none n' c')).run Try.prog w = .ok (.bool a.isNone) w := fun w a n c n' c' => Lib.run_eql_slice_nil w _ _ a n c n' c' Try.underlying102
  have HC := Lib.hid (h.cells (g := g) rfl)
  have HN := Lib.hid h.1
  clear h
  go_enter Try.func56, Try.ntmps56
  go_wp2_with (at_builtin; refine wpList_append_own _ rfl _ _ 102 rfl w.heap.size 108 i0 (.agg (secA zeroS)) 128 128 Try.underlying102 hi hz0 hz1 hz2 rfl (by decide) _ _ _ rfl (World.ownsRow_made w #[] 0 (Nat.le_refl _) (Nat.zero_le _) rfl) ⟨g, 0, none⟩ n k (rowV l) rfl ?qc1 ?qc2 ?qc3 ?qc4 ?qc5 ?qc6 ?_)
  case qc1 => exact HN.out
  case qc2 =>
    intro j u hj
    have := HC.out j u hj
    rw [Addr.add_lit] at this ⊢
    exact Lib.cell?_alloc_some _ this
  case qc3 => exact rowV_one'
  case qc4 => unfold maxLen; omega
  case qc5 => omega
  case qc6 => simp
  intro v' w1 hown hgrow hnil
  have hsl := owns_sl hown
  have hlt := hown.lt
  rcases hsl with rfl | ⟨F, n', cap, rfl⟩
  · exact absurd rfl hnil
  · have he : n' = n := by
      rcases hown.2 with ⟨e, -⟩ | ⟨_, _, _, e, -⟩
      · cases e
      · cases e; simp
    subst he
    have HO := Lib.hid hown
    have HF := Lib.hid (hlt F rfl).1
    have HG := Lib.hid hgrow
    clear hown hgrow hlt hnil
    go_wp2
    go_ret
    refine ⟨F, cap, rfl, ?_, HF.out, ?_⟩
    · have := owns_mono0 HO.out
      simpa using this
    · exact ((Below.refl _ w).alloc (Nat.le_refl _) _).grown HG.out (by simp) (by intro k hk; simp [Value.ownBlock] at hk; omega)

/-- What lasts of a disk. -/
def Dk.last (s : Dk) : Dk := newD s.fl s.wr
theorem Dk.last_ok {s : Dk} (h : DkOk s) : DkOk s.last := newD_ok h.n1 h.n2 h.f h.w1
/-- A disk of the call's own. -/
def MadeDk (w : World) (s : Dk) (p : Value) (w' : World) : Prop := ∃ d O L, p = .pointer (some ⟨d, 0, none⟩) ∧ DkAt w' O d L s ∧ (∀ k, O k → w.heap.size ≤ k) ∧ Below w.heap.size w w'
set_option maxHeartbeats 2000000 in
set_option maxRecDepth 100000 in
theorem last_any9 (h : DkAt w O d L s) : Calls Try.prog 55 #[.pointer (some ⟨d, 0, none⟩)] w fun e w' => ∃ p, e = .returned p ∧ MadeDk w s.last p w' := by
  have hn2 := h.ok.n2
  have HD := Lib.hid h
  have HOK := Lib.hid (Dk.last_ok h.ok)
  obtain ⟨n, hn⟩ : ∃ n, s.fl.length = n := ⟨_, rfl⟩
  have HN := Lib.hid hn
  have hK1 : ∀ w1 : World, Below w.heap.size w w1 → w1.cell? ⟨d, 0, none⟩ = some (.slice (some ⟨L.F, 0, none⟩) n L.cap) ∧ w1.cell? ⟨d, 2, none⟩ = some (.int .i64 (s.wr : Int)) := fun w1 hb => by
    have h1 := h.step hb
    have := h1.c0
    rw [hn] at this
    exact ⟨this, h1.c2⟩
  have HS0 := Lib.hid (hK1 w.drew ((Below.refl _ w).drew))
  have HK1 := hK1
  have hcl := clone_any9 (w := w.drew) (n := n) (by have := h.row; rw [hn] at this; exact this) (by omega)
  have HCL := Lib.hid hcl
  have HCN : ∀ (w1 : World) (F' cap' : Nat), w1.ownsRow 0 108 128 (.slice (some ⟨F', 0, none⟩) n cap') n (rowV s.fl) →
      Calls Try.prog 60 #[.slice (some ⟨F', 0, none⟩) n cap', .int .i64 (s.wr : Int)] w1 fun e w' => e = .returned (.pointer (some ⟨w1.heap.size + 1, 0, none⟩)) ∧
        DkAt w' (fun k => k = F' ∨ (w1.heap.size ≤ k ∧ k < w'.heap.size)) (w1.heap.size + 1) ⟨F', cap', w1.heap.size, fun _ => .slice none 0 0⟩ s.last ∧ Below w1.heap.size w1 w' := fun w1 F' cap' ho => by
    rw [← HN.out] at ho ⊢
    exact clean_any ho HOK.out
  clear h hcl hK1 hn
  go_enter Try.func55, Try.ntmps55
  go_wp2
  refine wp_region_noPanic ?_
  refine wp_region_held_drew (S := fun W => W.cell? ⟨d, 0, none⟩ = some (.slice (some ⟨L.F, 0, none⟩) n L.cap) ∧ W.cell? ⟨d, 2, none⟩ = some (.int .i64 (s.wr : Int))) (by kernel_rfl) ?_ (fun hHeld => ?_)
  · exact HS0.out
  refine wpAnyH_take (i := 0) (v := ?_) rfl (by kernel_rfl) (by kernel_rfl) (by kernel_rfl) (fun _ _ _ h => h) (Or.inl ⟨by rfl, ?_⟩) (by assumption) ?_
  rotate_left
  · (intro w hSw; obtain ⟨hS0, hS2⟩ := hSw; (try simp only [List.getElem_toArray, List.getElem_cons_zero]); go_simp; try (with_reducible rfl))
  try simp only [Act.put, List.getElem_toArray, List.getElem_cons_zero, List.setIfInBounds_toArray, List.set_cons_zero, List.set_cons_succ]
  refine wpAnyH_take (i := 1) (v := ?_) rfl (by kernel_rfl) (by kernel_rfl) (by kernel_rfl) (fun _ _ _ h => h) (Or.inl ⟨by rfl, ?_⟩) (by assumption) ?_
  rotate_left
  · (intro w hSw; obtain ⟨hS0, hS2⟩ := hSw; (try simp only [List.getElem_toArray, List.getElem_cons_zero, List.getElem_cons_succ]); go_simp; try (with_reducible rfl))
  try simp only [Act.put, List.getElem_toArray, List.getElem_cons_zero, List.getElem_cons_succ, List.setIfInBounds_toArray, List.set_cons_zero, List.set_cons_succ]
  refine wpAnyH_take (i := 2) (v := ?_) rfl (by kernel_rfl) (by kernel_rfl) (by kernel_rfl) (fun _ _ _ h => h) (Or.inl ⟨by rfl, ?_⟩) (by assumption) ?_
  rotate_left
  · (intro w hSw; obtain ⟨hS0, hS2⟩ := hSw; (try simp only [List.getElem_toArray, List.getElem_cons_zero, List.getElem_cons_succ]); go_simp; try (with_reducible rfl))
  try simp only [Act.put, List.getElem_toArray, List.getElem_cons_zero, List.getElem_cons_succ, List.setIfInBounds_toArray, List.set_cons_zero, List.set_cons_succ]
  refine wpAnyH_take (i := 3) (v := ?_) rfl (by kernel_rfl) (by kernel_rfl) (by kernel_rfl) (fun _ _ _ h => h) (Or.inl ⟨by rfl, ?_⟩) (by assumption) ?_
  rotate_left
  · (intro w hSw; obtain ⟨hS0, hS2⟩ := hSw; (try simp only [List.getElem_toArray, List.getElem_cons_zero, List.getElem_cons_succ]); go_simp; try (with_reducible rfl))
  try simp only [Act.put, List.getElem_toArray, List.getElem_cons_zero, List.getElem_cons_succ, List.setIfInBounds_toArray, List.set_cons_zero, List.set_cons_succ]
  refine wpAnyH_take (i := 5) (v := ?_) rfl (by kernel_rfl) (by kernel_rfl) (by kernel_rfl) (fun _ _ _ h => h) (Or.inl ⟨by rfl, ?_⟩) (by assumption) ?_
  rotate_left
  · (intro w hSw; obtain ⟨hS0, hS2⟩ := hSw; (try simp only [List.getElem_toArray, List.getElem_cons_zero, List.getElem_cons_succ]); go_simp; try (with_reducible rfl))
  try simp only [Act.put, List.getElem_toArray, List.getElem_cons_zero, List.getElem_cons_succ, List.setIfInBounds_toArray, List.set_cons_zero, List.set_cons_succ]
  refine wpAnyH_take (i := 6) (v := ?_) rfl (by kernel_rfl) (by kernel_rfl) (by kernel_rfl) (fun _ _ _ h => h) (Or.inl ⟨by rfl, ?_⟩) (by assumption) ?_
  rotate_left
  · (intro w hSw; obtain ⟨hS0, hS2⟩ := hSw; (try simp only [List.getElem_toArray, List.getElem_cons_zero, List.getElem_cons_succ]); go_simp; try (with_reducible rfl))
  try simp only [Act.put, List.getElem_toArray, List.getElem_cons_zero, List.getElem_cons_succ, List.setIfInBounds_toArray, List.set_cons_zero, List.set_cons_succ]
  refine wpAnyH_take (i := 7) (v := ?_) rfl (by kernel_rfl) (by kernel_rfl) (by kernel_rfl) (fun _ _ _ h => h) (Or.inl ⟨by rfl, ?_⟩) (by assumption) ?_
  rotate_left
  · (intro w hSw; obtain ⟨hS0, hS2⟩ := hSw; (try simp only [List.getElem_toArray, List.getElem_cons_zero, List.getElem_cons_succ]); go_simp; try (with_reducible rfl))
  try simp only [Act.put, List.getElem_toArray, List.getElem_cons_zero, List.getElem_cons_succ, List.setIfInBounds_toArray, List.set_cons_zero, List.set_cons_succ]
  refine wpAnyH_take (i := 8) (v := ?_) rfl (by kernel_rfl) (by kernel_rfl) (by kernel_rfl) (fun _ _ _ h => h) (Or.inl ⟨by rfl, ?_⟩) (by assumption) ?_
  rotate_left
  · (intro w hSw; obtain ⟨hS0, hS2⟩ := hSw; (try simp only [List.getElem_toArray, List.getElem_cons_zero, List.getElem_cons_succ]); go_simp; try (with_reducible rfl))
  try simp only [Act.put, List.getElem_toArray, List.getElem_cons_zero, List.getElem_cons_succ, List.setIfInBounds_toArray, List.set_cons_zero, List.set_cons_succ]
  refine wpAnyH_ready (rs := [4]) (by kernel_rfl) (by simp) ?_
  refine AllReadyH.cons rfl (fun K hK => ?_) AllReadyH.nil
  (try simp only [List.getElem_toArray, List.getElem_cons_zero, List.getElem_cons_succ]); go_simp
  go_at_call 56; refine HCL.out.mono ?_; rintro e w1 ⟨F', cap', rfl, ho1, hF1, hb1⟩
  have HO1 := Lib.hid ho1
  have HF1 := Lib.hid hF1
  have HB1 := Lib.hid (((Below.refl _ w).drew).trans hb1)
  clear ho1 hb1 hF1
  try (go_wp2_with fail)
  refine hK.out _ _ (HK1 w1 HB1.out) (fun hHeld => ?_)
  clear hK K
  try simp only [Act.put, List.getElem_toArray, List.getElem_cons_zero, List.getElem_cons_succ, List.setIfInBounds_toArray, List.set_cons_zero, List.set_cons_succ]
  refine wpAnyH_ready (rs := [9]) (by kernel_rfl) (by simp) ?_
  refine AllReadyH.cons rfl (fun K hK => ?_) AllReadyH.nil
  (try simp only [List.getElem_toArray, List.getElem_cons_zero, List.getElem_cons_succ]); go_simp
  go_at_call 60; refine (HCN w1 F' cap' HO1.out).mono ?_; rintro e w2 ⟨rfl, hd2, hb2⟩
  have HD2 := Lib.hid hd2
  have HB2 := Lib.hid hb2
  clear hd2 hb2
  try (go_wp2_with fail)
  refine hK.out _ _ (HK1 w2 (HB1.out.trans (HB2.out.mono HB1.out.size))) (fun hHeld => ?_)
  clear hK K
  try simp only [Act.put, List.getElem_toArray, List.getElem_cons_zero, List.getElem_cons_succ, List.setIfInBounds_toArray, List.set_cons_zero, List.set_cons_succ]
  refine wpAnyH_take (i := 10) (v := ?_) rfl (by kernel_rfl) (by kernel_rfl) (by kernel_rfl) (fun _ _ _ h => h) (Or.inl ⟨by rfl, ?_⟩) (by assumption) ?_
  rotate_left
  · (intro w hSw; have hSc := hSw; (try simp only [List.getElem_toArray, List.getElem_cons_zero, List.getElem_cons_succ]); go_simp; try (with_reducible rfl))
  try simp only [Act.put, List.getElem_toArray, List.getElem_cons_zero, List.getElem_cons_succ, List.setIfInBounds_toArray, List.set_cons_zero, List.set_cons_succ]
  refine wpAnyH_done (by kernel_rfl) ?_ _
  refine NoPanic.normal ?_
  go_wp2
  go_ret
  refine ⟨_, rfl, w1.heap.size + 1, _, _, rfl, HD2.out, fun k hk => ?_, HB1.out.trans (HB2.out.mono HB1.out.size)⟩
  have hf : w.heap.size ≤ F' := HF1.out
  have hs := HB1.out.size
  rcases hk with rfl | ⟨hk, -⟩
  · exact hf
  · omega
end
end Go.Proofs.Ytgpdkfmneoggkaa
