/- Used and Free of a pool that is there: what each counts. -/
import Derived.Test.YtjbamldhoeblbaaFrmB
import Derived.Test.YtjbamldhoeblbaaIsaRound
namespace Go.Proofs.Ytjbamldhoeblbaa
open Go.RowKit Go.Shelf
attribute [local go_sem] Oper.semAt_some

/-- How many of the first k frames are an account's, and are held. -/
def St.usedTo (s : St) (a : Int) : Nat → Nat
  | 0 => 0
  | k + 1 => s.usedTo a k + (if 0 < s.hold k ∧ s.own k = a then 1 else 0)
def St.heldTo (s : St) : Nat → Nat
  | 0 => 0
  | k + 1 => s.heldTo k + (if 0 < s.hold k then 1 else 0)
def St.used (s : St) (a : Int) : Nat := s.usedTo a s.n
def St.held (s : St) : Nat := s.heldTo s.n
theorem St.usedTo_le (s : St) (a : Int) : ∀ k, s.usedTo a k ≤ k
  | 0 => Nat.le_refl _
  | k + 1 => by have := St.usedTo_le s a k; unfold St.usedTo; split <;> omega
theorem St.heldTo_le (s : St) : ∀ k, s.heldTo k ≤ k
  | 0 => Nat.le_refl _
  | k + 1 => by have := St.heldTo_le s k; unfold St.heldTo; split <;> omega

theorem St.usedTo_succ (s : St) (a : Int) (k : Nat) : s.usedTo a (k + 1) = s.usedTo a k + (if 0 < s.hold k ∧ s.own k = a then 1 else 0) := rfl
theorem St.heldTo_succ (s : St) (k : Nat) : s.heldTo (k + 1) = s.heldTo k + (if 0 < s.hold k then 1 else 0) := rfl

theorem cell_new_f (w : World) (v : Value) (t : TypeId) : (w.alloc (.cells #[v] t)).cell? ⟨w.heap.size, 0, none⟩ = some v ∧ (w.alloc (.cells #[v] t)).frozen? ⟨w.heap.size, 0, none⟩ = false := ⟨by simp, by simp⟩
theorem cell_alloc_f {W : World} {a : Addr} {v : Value} (o : Obj) (h : W.cell? a = some v) : (W.alloc o).cell? a = some v := cell_kept h (World.grownBy_alloc W o none) (fun r e => by cases e)
theorem frozen_alloc_f {W : World} {a : Addr} {v : Value} (o : Obj) (h : W.cell? a = some v) (hf : W.frozen? a = false) : (W.alloc o).frozen? a = false := (frozen_kept h (World.grownBy_alloc W o none) (fun r e => by cases e)).trans hf
theorem below_drewN_f {B : Nat} {a w : World} (h : Below B a w) (n : Nat) : Below B a (w.drewN n) := h.trans ⟨rfl, rfl, rfl, Nat.le_refl _, fun _ _ => rfl⟩
theorem below_putObj_f {B D : Nat} {w : World} (o : Obj) (h : B ≤ D) : Below B w (w.putObj D o) := ⟨rfl, rfl, rfl, by simp, fun k hk => World.putObj_heap_other (by omega)⟩

theorem hold_hit {W : World} {p F Q c : Nat} {s : St} (h : PoolAt W p F Q c s) {k : Nat} (hk : k < s.n) (hh : hitF F k W) : 0 < s.hold k := by
  obtain ⟨x, hx, hc⟩ := hh
  rw [h.hold k hk] at hc
  cases hc; exact hx
theorem hold_skip {W : World} {p F Q c : Nat} {s : St} (h : PoolAt W p F Q c s) {k : Nat} (hk : k < s.n) (hh : skipF F k W) : s.hold k = 0 := by
  unfold skipF at hh
  rw [h.hold k hk] at hh
  have e := Option.some.inj hh
  injection e
theorem own_hitF {B F : Nat} (hF : F < B) : OwnFrom B (hitF F) := by
  refine Own.from (fun s A B row hs hg hr => ?_) _
  obtain ⟨x, hx, hc⟩ := hs
  exact ⟨x, hx, cell_kept hc hg hr⟩

/-- What Used's rounds keep. -/
def UsedI (w : World) (H p : Nat) (s : St) (a : Int) (k : Nat) (W : World) : Prop :=
  (W.cell? ⟨H, 0, none⟩ = some (.int .i64 a) ∧ W.cell? ⟨H + 1, 0, none⟩ = some (.int .i64 (s.usedTo a k)) ∧ W.frozen? ⟨H + 1, 0, none⟩ = false ∧ W.cell? ⟨H + 1 + 1, 0, none⟩ = some (.pointer (some ⟨p, 0, none⟩))) ∧ Below H w W

theorem mixed_f : Try.prog.follows .mixedOrders = true := by kernel_rfl
theorem usedI_step {w W : World} {H p : Nat} {s : St} {a : Int} {k : Nat} (h : UsedI w H p s a k W) (nq : Nat) (x : Int) (hx : x = s.usedTo a (k + 1)) :
    KeepsOthers W ((W.drewN nq).setCell ⟨H + 1, 0, none⟩ (.int .i64 x)) ∧ UsedI w H p s a (k + 1) ((W.drewN nq).setCell ⟨H + 1, 0, none⟩ (.int .i64 x)) := by
  obtain ⟨⟨h0, h1, h2, h3⟩, hB⟩ := h
  have ko : ∀ b, b ≠ H + 1 → ((W.drewN nq).setCell ⟨H + 1, 0, none⟩ (.int .i64 x)).cell? ⟨b, 0, none⟩ = W.cell? ⟨b, 0, none⟩ := fun b hb => World.cell?_of_block (w := W) (a := ⟨b, 0, none⟩) (Below.heap_setCell _ ⟨H + 1, 0, none⟩ _ b hb)
  refine ⟨KeepsOthers.trans (B := W.drewN nq) ⟨Nat.le_refl _, fun _ _ h _ => h⟩ (KeepsOthers.setCell _ _ _), ⟨(ko _ (by omega)).trans h0, ?_, ?_, (ko _ (by omega)).trans h3⟩, (below_drewN_f hB nq).setCell (by show H ≤ H + 1; omega) _⟩
  · rw [World.cell?_setCell_same' _ _ _ (by rw [World.cell?_drewN, h1]; rfl), hx]
  · rw [← h2]; simp [go_sem]

set_option maxRecDepth 100000 in
set_option maxHeartbeats 2000000 in
theorem used_in {w : World} {p F Q c : Nat} {s : St} (h : PoolAt w p F Q c s) (a : Int) :
    CallsIn Fence.wide 5 Try.prog 16 #[.pointer (some ⟨p, 0, none⟩), .int .i64 a] w fun e w' => e = .returned (.int .i64 (s.used a)) ∧ Below w.heap.size w w' := by
  have HP := Lib.hid h
  have hFs := h.lt
  clear h
  refine callsIn_of_wp_marks Try.func16 rfl trivial ?_ rfl
  simp only [Try.ntmps16, List.size_toArray, List.length_cons, List.length_nil, Nat.reduceAdd, Nat.reduceSub, Array.replicate_succ, Array.replicate_zero, List.push_toArray, List.append_toArray, List.nil_append, List.cons_append]
  gi_wp2_with (refine ⟨trivial, ?_⟩; gi_at_call 49; refine (callsIn_wide.2 (each_any _ _)).mono ?_; rintro e w' ⟨rfl, rfl⟩)
  have c0 := cell_new_f w (.int .i64 a) 3
  have c1 := cell_new_f (w.alloc (.cells #[.int .i64 a] 3)) (.int .i64 0) 3
  have c2 := cell_new_f ((w.alloc (.cells #[.int .i64 a] 3)).alloc (.cells #[.int .i64 0] 3)) (.pointer (some ⟨p, 0, none⟩)) 25
  simp only [World.size_alloc] at c1 c2
  have hB0 : Below w.heap.size w (((w.alloc (.cells #[.int .i64 a] 3)).alloc (.cells #[.int .i64 0] 3)).alloc (.cells #[.pointer (some ⟨p, 0, none⟩)] 25)) := (((Below.refl _ w).alloc (Nat.le_refl _) _).alloc (by simp) _).alloc (by simp; omega) _
  refine range_ix rfl (by omega) (gf := 58) (lb := #[.pointer (some ⟨w.heap.size + 1 + 1, 0, none⟩)]) rfl trivial (enters_of Try.func58 (by kernel_rfl) rfl)
    (each_steps 4 (by omega) (w.heap.size + 1 + 1) p F s.n (UsedI w w.heap.size p s a) (fun k W hI => ⟨hI.1.2.2.2, Q, c, s, rfl, HP.out.below hI.2⟩)) (fun _ => rfl)
    (OwnFrom.and (Own.from (fun s A B row hs hg hr => ⟨cell_kept hs.1 hg hr, cell_kept hs.2.1 hg hr, (frozen_kept hs.2.1 hg hr).trans hs.2.2.1, cell_kept hs.2.2.2 hg hr⟩) _) (ownFrom_below (Nat.le_refl _) (by simp; omega)))
    (own_hitF (by simp; omega))
    ⟨⟨cell_alloc_f _ (cell_alloc_f _ c0.1), cell_alloc_f _ c1.1, frozen_alloc_f _ c1.1 c1.2, c2.1⟩, hB0⟩ ?skip
    (fun k => { tmps := #[.pointer (some ⟨p, 0, none⟩), .int .i64 a, undef, .pointer (some ⟨w.heap.size, 0, none⟩), .int .i64 0, .pointer (some ⟨w.heap.size + 1, 0, none⟩), undef, .pointer (some ⟨F, k * 258, none⟩), .pointer (some ⟨p, 0, none⟩), .func (.func 58) #[] #[.pointer (some ⟨w.heap.size + 1 + 1, 0, none⟩)], .int .i64 k, .pointer (some ⟨F, k * 258, none⟩), undef, undef, undef, undef, undef, undef, undef, undef, undef], defers := [] }) ?assign ?body ?done
  case skip =>
    rintro k W hk ⟨⟨h0, h1, h2, h3⟩, hB⟩ hs
    have hz := hold_skip (HP.out.below hB) hk hs
    exact ⟨⟨h0, by rw [h1, St.usedTo_succ]; simp [hz], h2, h3⟩, hB⟩
  case assign =>
    intro l k W K hK
    gi_wp2
    exact hK
  case body =>
    rintro l k W hk ⟨⟨h0, h1, h2, h3⟩, hB⟩ hh
    have hP := HP.out.below hB
    have hpos := hold_hit hP hk hh
    have ho := hP.own k hk
    have hkb := hP.ok.n2
    have hlt : s.usedTo a k < 256 := by have := St.usedTo_le s a k; omega
    clear hP
    by_cases he : s.own k = a
    · have hbq : (s.own k == a) = true := by simpa using he
      gi_wp2
      refine region_quiet_round (by rfl) mixed_f (by kernel_rfl) (by kernel_rfl) ?_
      repeat (gi_big_quiet_step (fail))
      refine wpQuietIn_nil ?_
      rintro _ ⟨nq, rfl⟩
      gi_wp2
      have hst := usedI_step ⟨⟨h0, h1, h2, h3⟩, hB⟩ nq ((s.usedTo a k : Int) + 1) (by rw [St.usedTo_succ]; simp [hpos, he])
      exact ⟨rfl, hst.1, hst.2⟩
    · have hbq : (s.own k == a) = false := by simpa using he
      gi_wp2
      refine region_quiet_round (by rfl) mixed_f (by kernel_rfl) (by kernel_rfl) ?_
      repeat (gi_big_quiet_step (fail))
      refine wpQuietIn_nil ?_
      rintro _ ⟨nq, rfl⟩
      gi_wp2
      exact ⟨rfl, ⟨Nat.le_refl _, fun _ _ h _ => h⟩, ⟨h0, by rw [St.usedTo_succ]; simpa [he] using h1, h2, h3⟩, below_drewN_f hB nq⟩
  case done =>
    rintro D W hD ⟨⟨h0, h1, h2, h3⟩, hB⟩ hK
    gi_wp2
    refine ⟨by simp, .inl ⟨_, _, rfl, run_takeDeferred hK, ?_⟩⟩
    refine ⟨.int .i64 (s.used a), ?_, rfl, hB.trans (below_putObj_f _ (by simp at hD; omega))⟩
    simp [results, Try.f16, go_sem, St.used]
theorem used_any {w : World} {p F Q c : Nat} {s : St} (h : PoolAt w p F Q c s) (a : Int) : Calls Try.prog 16 #[.pointer (some ⟨p, 0, none⟩), .int .i64 a] w fun e w' => e = .returned (.int .i64 (s.used a)) ∧ Below w.heap.size w w' := callsIn_wide.1 (used_in h a)

/-- What Free's rounds keep. -/
def FreeI (w : World) (H p : Nat) (s : St) (k : Nat) (W : World) : Prop :=
  (W.cell? ⟨H, 0, none⟩ = some (.int .i64 ((s.n : Int) - s.heldTo k)) ∧ W.frozen? ⟨H, 0, none⟩ = false ∧ W.cell? ⟨H + 1, 0, none⟩ = some (.pointer (some ⟨p, 0, none⟩))) ∧ Below H w W
theorem freeI_step {w W : World} {H p : Nat} {s : St} {k : Nat} (h : FreeI w H p s k W) (x : Int) (hx : x = (s.n : Int) - s.heldTo (k + 1)) :
    KeepsOthers W (W.setCell ⟨H, 0, none⟩ (.int .i64 x)) ∧ FreeI w H p s (k + 1) (W.setCell ⟨H, 0, none⟩ (.int .i64 x)) := by
  obtain ⟨⟨h1, h2, h3⟩, hB⟩ := h
  refine ⟨KeepsOthers.setCell _ _ _, ⟨?_, ?_, (World.cell?_of_block (w := W) (a := ⟨H + 1, 0, none⟩) (Below.heap_setCell _ ⟨H, 0, none⟩ _ (H + 1) (by show H + 1 ≠ H; omega))).trans h3⟩, hB.setCell (by show H ≤ H; omega) _⟩
  · rw [World.cell?_setCell_same' _ _ _ (by rw [h1]; rfl), hx]
  · rw [← h2]; simp [go_sem]

set_option maxRecDepth 100000 in
set_option maxHeartbeats 2000000 in
theorem free_in {w : World} {p F Q c : Nat} {s : St} (h : PoolAt w p F Q c s) :
    CallsIn Fence.wide 5 Try.prog 21 #[.pointer (some ⟨p, 0, none⟩)] w fun e w' => e = .returned (.int .i64 ((s.n : Int) - s.held)) ∧ Below w.heap.size w w' := by
  have HP := Lib.hid h
  have hFs := h.lt
  have hc0 := h.c0
  have hn2 := h.ok.n2
  clear h
  refine callsIn_of_wp_marks Try.func21 rfl trivial ?_ rfl
  simp only [Try.ntmps21, List.size_toArray, List.length_cons, List.length_nil, Nat.reduceAdd, Nat.reduceSub, Array.replicate_succ, Array.replicate_zero, List.push_toArray, List.append_toArray, List.nil_append, List.cons_append]
  gi_wp2_with (first
    | (refine ⟨trivial, ?_⟩; gi_at_call 38; refine (callsIn_wide.2 (there_yes HP.out)).mono ?_; rintro e w' ⟨rfl, rfl⟩)
    | (refine ⟨trivial, ?_⟩; gi_at_call 49; refine (callsIn_wide.2 (each_any _ _)).mono ?_; rintro e w' ⟨rfl, rfl⟩))
  have c1 := cell_new_f w (.int .i64 s.n) 3
  have c2 := cell_new_f (w.alloc (.cells #[.int .i64 s.n] 3)) (.pointer (some ⟨p, 0, none⟩)) 25
  simp only [World.size_alloc] at c2
  have hB0 : Below w.heap.size w ((w.alloc (.cells #[.int .i64 s.n] 3)).alloc (.cells #[.pointer (some ⟨p, 0, none⟩)] 25)) := ((Below.refl _ w).alloc (Nat.le_refl _) _).alloc (by simp) _
  refine range_ix rfl (by omega) (gf := 58) (lb := #[.pointer (some ⟨w.heap.size + 1, 0, none⟩)]) rfl trivial (enters_of Try.func58 (by kernel_rfl) rfl)
    (each_steps 4 (by omega) (w.heap.size + 1) p F s.n (FreeI w w.heap.size p s) (fun k W hI => ⟨hI.1.2.2, Q, c, s, rfl, HP.out.below hI.2⟩)) (fun _ => rfl)
    (OwnFrom.and (Own.from (fun s A B row hs hg hr => ⟨cell_kept hs.1 hg hr, (frozen_kept hs.1 hg hr).trans hs.2.1, cell_kept hs.2.2 hg hr⟩) _) (ownFrom_below (Nat.le_refl _) (by simp; omega)))
    (own_hitF (by simp; omega))
    ⟨⟨cell_alloc_f _ (by rw [c1.1]; simp [St.heldTo]), frozen_alloc_f _ c1.1 c1.2, c2.1⟩, hB0⟩ ?skip
    (fun k => { tmps := #[.pointer (some ⟨p, 0, none⟩), undef, .int .i64 0, .pointer (some ⟨w.heap.size, 0, none⟩), .pointer (some ⟨p, 0, none⟩), .bool true, .bool false, .pointer (some ⟨p, 0, none⟩), .pointer (some ⟨p, 0, none⟩), .pointer (some ⟨p, 0, none⟩), .slice (some ⟨F, 0, none⟩) s.n s.n, .int .i64 s.n, .pointer (some ⟨p, 0, none⟩), .func (.func 58) #[] #[.pointer (some ⟨w.heap.size + 1, 0, none⟩)], .int .i64 k, .pointer (some ⟨F, k * 258, none⟩), undef, undef, undef], defers := [] }) ?assign ?body ?done
  case skip =>
    rintro k W hk ⟨⟨h1, h2, h3⟩, hB⟩ hs
    have hz := hold_skip (HP.out.below hB) hk hs
    exact ⟨⟨by rw [h1, St.heldTo_succ]; simp [hz], h2, h3⟩, hB⟩
  case assign =>
    intro l k W K hK
    gi_wp2
    refine Eq.mp (congrArg (fun t => K { tmps := t, defers := [] } W) ?_) hK
    kernel_rfl
  case body =>
    rintro l k W hk ⟨⟨h1, h2, h3⟩, hB⟩ hh
    have hpos := hold_hit (HP.out.below hB) hk hh
    have hlt : s.heldTo k < 256 := by have := St.heldTo_le s k; omega
    have hst := freeI_step ⟨⟨h1, h2, h3⟩, hB⟩ ((s.n : Int) - s.heldTo k - 1) (by rw [St.heldTo_succ]; simp [hpos]; omega)
    have HST := Lib.hid hst
    clear hst
    gi_wp2
    exact ⟨rfl, HST.out.1, HST.out.2⟩
  case done =>
    rintro D W hD ⟨⟨h1, h2, h3⟩, hB⟩ hK
    gi_wp2
    refine ⟨by simp, .inl ⟨_, _, rfl, run_takeDeferred hK, ?_⟩⟩
    refine ⟨.int .i64 ((s.n : Int) - s.held), ?_, rfl, hB.trans (below_putObj_f _ (by simp at hD; omega))⟩
    simp [results, Try.f21, go_sem, St.held]
theorem free_any {w : World} {p F Q c : Nat} {s : St} (h : PoolAt w p F Q c s) : Calls Try.prog 21 #[.pointer (some ⟨p, 0, none⟩)] w fun e w' => e = .returned (.int .i64 ((s.n : Int) - s.held)) ∧ Below w.heap.size w w' := callsIn_wide.1 (free_in h)

end Go.Proofs.Ytjbamldhoeblbaa
