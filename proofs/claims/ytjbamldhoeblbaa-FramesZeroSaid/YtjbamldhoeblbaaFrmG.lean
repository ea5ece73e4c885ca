/- Drops: all frames of an account are let go of. -/
import Derived.Test.YtjbamldhoeblbaaFrmF
namespace Go.Proofs.Ytjbamldhoeblbaa
open Go.RowKit Go.Shelf
attribute [local go_sem] Oper.semAt_some

def St.dropsTo (s : St) (a : Int) : Nat → St
  | 0 => s
  | k + 1 => if 0 < s.hold k ∧ s.own k = a then (s.dropsTo a k).freed k else s.dropsTo a k
def St.drops (s : St) (a : Int) : St := s.dropsTo a s.n
theorem n_dropsTo (s : St) (a : Int) : ∀ k, (s.dropsTo a k).n = s.n
  | 0 => rfl
  | k + 1 => by unfold St.dropsTo; split; rw [n_freed]; exact n_dropsTo s a k; exact n_dropsTo s a k
theorem quo_dropsTo (s : St) (a : Int) : ∀ k, (s.dropsTo a k).quo = s.quo
  | 0 => rfl
  | k + 1 => by unfold St.dropsTo; split; exact quo_dropsTo s a k; exact quo_dropsTo s a k
theorem hold_dropsTo (s : St) (a : Int) (i : Nat) : ∀ k, k ≤ s.n → (s.dropsTo a k).hold i = if i < k ∧ 0 < s.hold i ∧ s.own i = a then 0 else s.hold i
  | 0, _ => by rw [if_neg (by omega)]; rfl
  | k + 1, hk => by
    have ih := hold_dropsTo s a i k (by omega)
    unfold St.dropsTo
    by_cases hc : 0 < s.hold k ∧ s.own k = a
    · rw [if_pos hc, hold_freed _ _ (by rw [n_dropsTo]; omega), ih]
      by_cases e : i = k
      · subst e; rw [if_pos rfl, if_pos ⟨by omega, hc⟩]
      · rw [if_neg e]; by_cases q : i < k ∧ 0 < s.hold i ∧ s.own i = a
        · rw [if_pos q, if_pos ⟨by omega, q.2⟩]
        · rw [if_neg q, if_neg (fun h => q ⟨by omega, h.2⟩)]
    · rw [if_neg hc, ih]
      by_cases q : i < k ∧ 0 < s.hold i ∧ s.own i = a
      · rw [if_pos q, if_pos ⟨by omega, q.2⟩]
      · rw [if_neg q, if_neg (fun h => q ⟨by
          have : i ≠ k := fun e => hc (e ▸ h.2)
          omega, h.2⟩)]
theorem own_dropsTo (s : St) (a : Int) (i : Nat) : ∀ k, k ≤ s.n → (s.dropsTo a k).own i = if i < k ∧ 0 < s.hold i ∧ s.own i = a then 0 else s.own i
  | 0, _ => by rw [if_neg (by omega)]; rfl
  | k + 1, hk => by
    have ih := own_dropsTo s a i k (by omega)
    unfold St.dropsTo
    by_cases hc : 0 < s.hold k ∧ s.own k = a
    · rw [if_pos hc, own_freed _ _ (by rw [n_dropsTo]; omega), ih]
      by_cases e : i = k
      · subst e; rw [if_pos rfl, if_pos ⟨by omega, hc⟩]
      · rw [if_neg e]; by_cases q : i < k ∧ 0 < s.hold i ∧ s.own i = a
        · rw [if_pos q, if_pos ⟨by omega, q.2⟩]
        · rw [if_neg q, if_neg (fun h => q ⟨by omega, h.2⟩)]
    · rw [if_neg hc, ih]
      by_cases q : i < k ∧ 0 < s.hold i ∧ s.own i = a
      · rw [if_pos q, if_pos ⟨by omega, q.2⟩]
      · rw [if_neg q, if_neg (fun h => q ⟨by
          have : i ≠ k := fun e => hc (e ▸ h.2)
          omega, h.2⟩)]

theorem grown_cell {W W1 : World} {F b o : Nat} {v : Value} (hg : W.grownBy W1 (some F)) (hne : b ≠ F) (h : W.cell? ⟨b, o, none⟩ = some v) : W1.cell? ⟨b, o, none⟩ = some v := by
  obtain ⟨ob, hob, -⟩ := cells_of_cell h
  exact (World.cell?_of_block (a := ⟨b, o, none⟩) (hg.block b (Array.getElem?_eq_some_iff.1 hob).1 (fun e => hne (Option.some.inj e)))).trans h
theorem grown_frozen {W W1 : World} {F b o : Nat} {v : Value} (hg : W.grownBy W1 (some F)) (hne : b ≠ F) (h : W.cell? ⟨b, o, none⟩ = some v) (hz : W.frozen? ⟨b, o, none⟩ = false) : W1.frozen? ⟨b, o, none⟩ = false := by
  obtain ⟨ob, hob, -⟩ := cells_of_cell h
  have e := hg.block b (Array.getElem?_eq_some_iff.1 hob).1 (fun e => hne (Option.some.inj e))
  rw [← hz]; simp [World.frozen?, e]
theorem grown_of_below {W W1 : World} {F : Nat} (h : Below W.heap.size W W1) : W.grownBy W1 (some F) := ⟨h.os, h.tape, h.output, h.size, fun k hk _ => h.block k hk⟩
theorem pool_drewN {W : World} {p F Q c : Nat} {s : St} (h : PoolAt W p F Q c s) (nq : Nat) : PoolAt (W.drewN nq) p F Q c s := h.below (below_drewN_f (Below.refl _ W) nq)
theorem keeps_of_grown {W W1 : World} {F : Nat} (hg : W.grownBy W1 (some F)) {o : Obj} (ho : W.heap[F]? = some o) (hc : o.isCells = true) : KeepsOthers W W1 :=
  ⟨hg.size, fun k o' hk hn => by
    have hkF : k ≠ F := fun e => by subst e; rw [ho] at hk; cases hk; rw [hc] at hn; cases hn
    exact (hg.block k (Array.getElem?_eq_some_iff.1 hk).1 (fun e => hkF (Option.some.inj e))).trans hk⟩

theorem PoolAt.pl {w : World} {p F Q c : Nat} {s : St} (h : PoolAt w p F Q c s) : p < w.heap.size := (Array.getElem?_eq_some_iff.1 h.pool).1
theorem PoolAt.Ql {w : World} {p F Q c : Nat} {s : St} (h : PoolAt w p F Q c s) {a : Nat} (ha : a < s.k) : Q < w.heap.size := World.block_lt_of_cell? w _ (h.quo a ha)
/-- Another block was written. -/
theorem pool_other {W W' : World} {p F Q c : Nat} {s : St} (h : PoolAt W p F Q c s) (B : Nat) (hb : ∀ k, k ≠ B → W'.heap[k]? = W.heap[k]?) (hp : p ≠ B) (hF : F ≠ B) (hQ : ∀ a, a < s.k → Q ≠ B) : PoolAt W' p F Q c s := by
  obtain ⟨cur, t, h1, h2, h3⟩ := h.row
  exact ⟨h.ok, (hb p hp).trans h.pool, ⟨cur, t, (hb F hF).trans h1, h2, h3⟩, fun a ha => (World.cell?_of_block (a := ⟨Q, a, none⟩) (hb Q (hQ a ha))).trans (h.quo a ha), h.pF, h.QF⟩

/-- What Drops' rounds keep. -/
def DropI (w : World) (H p F Q c : Nat) (s : St) (a : Int) (k : Nat) (W : World) : Prop :=
  (W.cell? ⟨H, 0, none⟩ = some (.int .i64 a) ∧ W.cell? ⟨H + 1, 0, none⟩ = some (.int .i64 (s.usedTo a k)) ∧ W.frozen? ⟨H + 1, 0, none⟩ = false ∧ W.cell? ⟨H + 1 + 1, 0, none⟩ = some (.pointer (some ⟨p, 0, none⟩))) ∧ PoolAt W p F Q c (s.dropsTo a k) ∧ w.grownBy W (some F)
theorem own_dropI {w : World} {H p F Q c : Nat} {s : St} {a : Int} (B : Nat) (hB : w.heap.size ≤ B) : OwnFrom B (DropI w H p F Q c s a) := by
  rintro k W W' row ⟨⟨h0, h1, h2, h3⟩, hP, hG⟩ hg hr
  have hr' : ∀ r, row = some r → ∃ o : Obj, W.heap[r]? = some o ∧ o.isCells = false := fun r e => (hr r e).2
  refine ⟨⟨cell_kept h0 hg hr', cell_kept h1 hg hr', (frozen_kept h1 hg hr').trans h2, cell_kept h3 hg hr'⟩, pool_kept hP hg hr', ?_⟩
  exact ⟨hg.os.trans hG.os, hg.tape.trans hG.tape, hg.output.trans hG.output, Nat.le_trans hG.size hg.size, fun k hk hne => (hg.block k (Nat.lt_of_lt_of_le hk hG.size) (fun e => by have := (hr k e.symm).1; omega)).trans (hG.block k hk hne)⟩
theorem dropI_step {w W W1 : World} {H p F Q c : Nat} {s : St} {a : Int} {k : Nat} (h : DropI w H p F Q c s a k W) (hw : PoolAt w p F Q c s) (hH : w.heap.size ≤ H) (hk : k < s.n) (hc : 0 < s.hold k ∧ s.own k = a)
    (hP : PoolAt W1 p F Q c ((s.dropsTo a k).freed k)) (hg : W.grownBy W1 (some F)) (x : Int) (hx : x = s.usedTo a (k + 1)) :
    (W1.cell? ⟨H + 1, 0, none⟩ = some (.int .i64 (s.usedTo a k)) ∧ W1.frozen? ⟨H + 1, 0, none⟩ = false) ∧
    KeepsOthers W (W1.setCell ⟨H + 1, 0, none⟩ (.int .i64 x)) ∧ DropI w H p F Q c s a (k + 1) (W1.setCell ⟨H + 1, 0, none⟩ (.int .i64 x)) := by
  obtain ⟨⟨h0, h1, h2, h3⟩, hP0, hG⟩ := h
  have hF := hw.lt
  have g0 := grown_cell hg (by omega) h0
  have g1 := grown_cell hg (by omega) h1
  have g2 := grown_frozen hg (by omega) h1 h2
  have g3 := grown_cell hg (by omega) h3
  have ko : ∀ b, b ≠ H + 1 → (W1.setCell ⟨H + 1, 0, none⟩ (.int .i64 x)).cell? ⟨b, 0, none⟩ = W1.cell? ⟨b, 0, none⟩ := fun b hb => World.cell?_of_block (w := W1) (a := ⟨b, 0, none⟩) (Below.heap_setCell _ ⟨H + 1, 0, none⟩ _ b hb)
  obtain ⟨cur, t, hr, -⟩ := hP0.row
  have hbl : ∀ b, b ≠ H + 1 → (W1.setCell ⟨H + 1, 0, none⟩ (.int .i64 x)).heap[b]? = W1.heap[b]? := fun b hb => Below.heap_setCell W1 ⟨H + 1, 0, none⟩ _ b hb
  refine ⟨⟨g1, g2⟩, KeepsOthers.trans (keeps_of_grown hg hr rfl) (KeepsOthers.setCell _ _ _), ⟨(ko _ (by omega)).trans g0, ?_, ?_, (ko _ (by omega)).trans g3⟩, ?_, ?_⟩
  · rw [World.cell?_setCell_same' _ _ _ (by rw [g1]; rfl), hx]
  · rw [← g2]; simp [go_sem]
  · have e : s.dropsTo a (k + 1) = (s.dropsTo a k).freed k := by show (if 0 < s.hold k ∧ s.own k = a then (s.dropsTo a k).freed k else s.dropsTo a k) = _; rw [if_pos hc]
    rw [e]
    have hp := hw.pl
    have hk' : ((s.dropsTo a k).freed k).k = s.k := by show (s.dropsTo a k).quo.length = s.quo.length; rw [quo_dropsTo]
    exact pool_other hP (H + 1) hbl (by omega) (by omega) (fun i hi => by rw [hk'] at hi; have := hw.Ql hi; omega)
  · exact ⟨hg.os.trans hG.os, hg.tape.trans hG.tape, hg.output.trans hG.output, by simp [World.setCell]; exact Nat.le_trans hG.size hg.size, fun b hb hne => (hbl b (by omega)).trans ((hg.block b (Nat.lt_of_lt_of_le hb hG.size) hne).trans (hG.block b hb hne))⟩


theorem drops_nil (a : Int) (w : World) : Calls Try.prog 20 #[.pointer none, .int .i64 a] w fun e w' => e = .returned (.tuple #[.int .i64 0, .int .i64 1]) ∧ Below w.heap.size w w' := by
  go_enter Try.func20, Try.ntmps20
  go_wp2_with (go_at_call 38; refine (there_nil _).mono ?_; rintro e w' ⟨rfl, rfl⟩)
  go_ret2
  exact ⟨rfl, (Below.refl _ _).alloc (Nat.le_refl _) _⟩
theorem drops_arg {w : World} {p F Q c : Nat} {s : St} (h : PoolAt w p F Q c s) (a : Int) (ha : a < 0 ∨ (s.k : Int) ≤ a) :
    Calls Try.prog 20 #[.pointer (some ⟨p, 0, none⟩), .int .i64 a] w fun e w' => e = .returned (.tuple #[.int .i64 0, .int .i64 2]) ∧ Below w.heap.size w w' := by
  have HP := fun o => Lib.hid (h.below ((Below.refl _ w).alloc (Nat.le_refl _) o))
  have HA := Lib.hid ha
  clear h ha
  go_enter Try.func20, Try.ntmps20
  go_wp2_with (first
    | (go_at_call 38; refine (there_yes (HP _).out).mono ?_; rintro e w' ⟨rfl, rfl⟩)
    | (go_at_call 50; refine (has_no (HP _).out a HA.out).mono ?_; rintro e w' ⟨rfl, rfl⟩))
  go_ret2
  exact ⟨rfl, (Below.refl _ _).alloc (Nat.le_refl _) _⟩

set_option maxRecDepth 100000 in
set_option maxHeartbeats 2000000 in
theorem drops_in {w : World} {p F Q c : Nat} {s : St} (h : PoolAt w p F Q c s) (a : Nat) (ha : a < s.k) :
    CallsIn Fence.wide 5 Try.prog 20 #[.pointer (some ⟨p, 0, none⟩), .int .i64 a] w fun e w' => e = .returned (.tuple #[.int .i64 (s.used a), .int .i64 0]) ∧ PoolAt w' p F Q c (s.drops a) ∧ w.grownBy w' (some F) := by
  have HP := Lib.hid h
  have HPa := fun o => Lib.hid (h.below ((Below.refl _ w).alloc (Nat.le_refl _) o))
  have hFs := h.lt
  clear h
  refine callsIn_of_wp_marks Try.func20 rfl trivial ?_ rfl
  simp only [Try.ntmps20, List.size_toArray, List.length_cons, List.length_nil, Nat.reduceAdd, Nat.reduceSub, Array.replicate_succ, Array.replicate_zero, List.push_toArray, List.append_toArray, List.nil_append, List.cons_append]
  gi_wp2_with (first
    | (refine ⟨trivial, ?_⟩; gi_at_call 38; refine (callsIn_wide.2 (there_yes (HPa _).out)).mono ?_; rintro e w' ⟨rfl, rfl⟩)
    | (refine ⟨trivial, ?_⟩; gi_at_call 50; refine (callsIn_wide.2 (has_yes (HPa _).out a ha)).mono ?_; rintro e w' ⟨rfl, rfl⟩)
    | (refine ⟨trivial, ?_⟩; gi_at_call 49; refine (callsIn_wide.2 (each_any _ _)).mono ?_; rintro e w' ⟨rfl, rfl⟩))
  have c0 := cell_new_f w (.int .i64 a) 3
  have c1 := cell_new_f (w.alloc (.cells #[.int .i64 a] 3)) (.int .i64 0) 3
  have c2 := cell_new_f ((w.alloc (.cells #[.int .i64 a] 3)).alloc (.cells #[.int .i64 0] 3)) (.pointer (some ⟨p, 0, none⟩)) 25
  simp only [World.size_alloc] at c1 c2
  have hB0 : Below w.heap.size w (((w.alloc (.cells #[.int .i64 a] 3)).alloc (.cells #[.int .i64 0] 3)).alloc (.cells #[.pointer (some ⟨p, 0, none⟩)] 25)) := (((Below.refl _ w).alloc (Nat.le_refl _) _).alloc (by simp) _).alloc (by simp; omega) _
  have hkd : ∀ k, (s.dropsTo a k).k = s.k := fun k => by show (s.dropsTo a k).quo.length = s.quo.length; rw [quo_dropsTo]
  refine range_ix rfl (by omega) (gf := 58) (lb := #[.pointer (some ⟨w.heap.size + 1 + 1, 0, none⟩)]) rfl trivial (enters_of Try.func58 (by kernel_rfl) rfl)
    (each_steps 4 (by omega) (w.heap.size + 1 + 1) p F s.n (DropI w w.heap.size p F Q c s a) (fun k W hI => ⟨hI.1.2.2.2, Q, c, s.dropsTo a k, n_dropsTo s a k, hI.2.1⟩)) (fun _ => rfl)
    (own_dropI _ (by simp; omega))
    (own_hitF (by simp; omega))
    ⟨⟨cell_alloc_f _ (cell_alloc_f _ c0.1), cell_alloc_f _ c1.1, frozen_alloc_f _ c1.1 c1.2, c2.1⟩, HP.out.below hB0, grown_of_below hB0⟩ ?skip
    (fun k => { tmps := #[.pointer (some ⟨p, 0, none⟩), .int .i64 a, undef, .pointer (some ⟨w.heap.size, 0, none⟩), .int .i64 0, .int .i64 0, .pointer (some ⟨w.heap.size + 1, 0, none⟩), undef, .pointer (some ⟨F, k * 258, none⟩), .bool false, .pointer (some ⟨p, 0, none⟩), .bool true, .bool false, .bool false, .pointer (some ⟨p, 0, none⟩), .int .i64 a, .bool true, .bool false, .pointer (some ⟨p, 0, none⟩), .func (.func 58) #[] #[.pointer (some ⟨w.heap.size + 1 + 1, 0, none⟩)], .int .i64 k, .pointer (some ⟨F, k * 258, none⟩), undef, undef, undef, undef, undef, undef, undef, undef, undef, undef, undef], defers := [] }) ?assign ?body ?done
  case skip =>
    rintro k W hk ⟨⟨h0, h1, h2, h3⟩, hPk, hG⟩ hs
    have hz := hold_skip hPk (by rw [n_dropsTo]; exact hk) hs
    rw [hold_dropsTo s a k k (by omega), if_neg (by omega)] at hz
    have hn : ¬ (0 < s.hold k ∧ s.own k = a) := by omega
    refine ⟨⟨h0, by rw [h1, St.usedTo_succ, if_neg hn]; rfl, h2, h3⟩, ?_, hG⟩
    have e : s.dropsTo a (k + 1) = s.dropsTo a k := by show (if 0 < s.hold k ∧ s.own k = a then (s.dropsTo a k).freed k else s.dropsTo a k) = _; rw [if_neg hn]
    rw [e]; exact hPk
  case assign =>
    intro l k W K hK
    gi_wp2
    exact hK
  case body =>
    rintro l k W hk hI hh
    have hI0 := hI
    obtain ⟨⟨h0, h1, h2, h3⟩, hPk, hG⟩ := hI
    have hk' : k < (s.dropsTo a k).n := by rw [n_dropsTo]; exact hk
    have hpos := hold_hit hPk hk' hh
    rw [hold_dropsTo s a k k (by omega), if_neg (by omega)] at hpos
    have ho := hPk.own k hk'
    rw [own_dropsTo s a k k (by omega), if_neg (by omega)] at ho
    have hkb := hPk.ok.n2
    have hlt : s.usedTo a k < 256 := by have := St.usedTo_le s a k; rw [n_dropsTo] at hkb; omega
    have HI := Lib.hid hI0
    have HPk := fun nq => Lib.hid (pool_drewN hPk nq)
    have HH := Lib.hid hh
    clear hPk hG hkb hI0 hh
    by_cases he : s.own k = a
    · have hbq : (s.own k == (a : Int)) = true := by simpa using he
      have HST := fun (nq : Nat) (W1 : World) (hP1 : PoolAt W1 p F Q c ((s.dropsTo a k).freed k)) (hg1 : (W.drewN nq).grownBy W1 (some F)) => Lib.hid (dropI_step HI.out HP.out (Nat.le_refl _) hk ⟨hpos, he⟩ hP1 (grown_trans (grown_of_below (below_drewN_f (Below.refl _ W) nq)) hg1) ((s.usedTo a k : Int) + 1) (by rw [St.usedTo_succ]; simp [hpos, he]))
      have HE := Lib.hid he
      clear he
      gi_wp2
      refine region_quiet_round (by rfl) mixed_f (by kernel_rfl) (by kernel_rfl) ?_
      repeat (gi_big_quiet_step (fail))
      refine wpQuietIn_nil ?_
      rintro _ ⟨nq, rfl⟩
      gi_wp2_with (refine ⟨trivial, ?_⟩; gi_at_call 52; refine (callsIn_wide.2 (mfree (HPk nq).out k hk')).mono ?_; rintro e w1 ⟨rfl, hp1, hg1⟩; have HX := HST nq w1 hp1 hg1; obtain ⟨g1, g2⟩ := HX.out.1; clear hp1 hg1)
      exact ⟨rfl, HX.out.2.1, HX.out.2.2⟩
    · have hbq : (s.own k == (a : Int)) = false := by simpa using he
      have HE := Lib.hid he
      clear he
      gi_wp2
      refine region_quiet_round (by rfl) mixed_f (by kernel_rfl) (by kernel_rfl) ?_
      repeat (gi_big_quiet_step (fail))
      refine wpQuietIn_nil ?_
      rintro _ ⟨nq, rfl⟩
      gi_wp2
      have hn : ¬ (0 < s.hold k ∧ s.own k = a) := fun x => HE.out x.2
      have e : s.dropsTo a (k + 1) = s.dropsTo a k := by show (if 0 < s.hold k ∧ s.own k = a then (s.dropsTo a k).freed k else s.dropsTo a k) = _; rw [if_neg hn]
      refine ⟨rfl, ⟨Nat.le_refl _, fun _ _ h _ => h⟩, ⟨h0, by rw [St.usedTo_succ, if_neg hn]; exact h1, h2, h3⟩, by rw [e]; exact (HPk nq).out, grown_trans HI.out.2.2 (grown_of_below (below_drewN_f (Below.refl _ W) nq))⟩
  case done =>
    rintro D W hD hI hK
    have h1 := hI.1.2.1
    have hD' : w.heap.size ≤ D := by simp at hD; omega
    have HDI := fun o => Lib.hid ((own_dropI (Q := Q) (c := c) (p := p) (F := F) (s := s) (a := a) (H := w.heap.size) (w := w) w.heap.size (Nat.le_refl _)).putObj o hI hD' hK rfl)
    clear hI
    gi_wp2
    refine ⟨by simp, .inl ⟨_, _, rfl, run_takeDeferred hK, ?_⟩⟩
    refine ⟨.tuple #[.int .i64 (s.used a), .int .i64 0], ?_, rfl, (HDI _).out.2.1, (HDI _).out.2.2⟩
    simp [results, Try.f20, go_sem, St.used]
theorem drops_yes {w : World} {p F Q c : Nat} {s : St} (h : PoolAt w p F Q c s) (a : Nat) (ha : a < s.k) :
    Calls Try.prog 20 #[.pointer (some ⟨p, 0, none⟩), .int .i64 a] w fun e w' => e = .returned (.tuple #[.int .i64 (s.used a), .int .i64 0]) ∧ PoolAt w' p F Q c (s.drops a) ∧ w.grownBy w' (some F) := callsIn_wide.1 (drops_in h a ha)

end Go.Proofs.Ytjbamldhoeblbaa
