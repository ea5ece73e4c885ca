/- The function that frames.each hands back tells the frames that are held, by numbers; Used and Free count them. -/
import Derived.Test.YtjbamldhoeblbaaFrmRange
namespace Go.Proofs.Ytjbamldhoeblbaa
open Go.RowKit Go.Shelf
attribute [local go_sem] Oper.semAt_some

def hitF (F k : Nat) (W : World) : Prop := ∃ h : Int, 0 < h ∧ W.cell? ⟨F, k * 258 + 1, none⟩ = some (.int .i64 h)
def skipF (F k : Nat) (W : World) : Prop := W.cell? ⟨F, k * 258 + 1, none⟩ = some (.int .i64 0)
/-- What the iterator reads. -/
def ReadsAt (bx p F n : Nat) (W : World) : Prop := W.cell? ⟨bx, 0, none⟩ = some (.pointer (some ⟨p, 0, none⟩)) ∧ ∃ Q c s, s.n = n ∧ PoolAt W p F Q c s

theorem pool_kept {w w' : World} {p F Q c : Nat} {s : St} (h : PoolAt w p F Q c s) {row : Option Nat} (hg : w.grownBy w' row) (hr : ∀ r, row = some r → ∃ o : Obj, w.heap[r]? = some o ∧ o.isCells = false) : PoolAt w' p F Q c s := by
  obtain ⟨cur, t, h1, h2, h3⟩ := h.row
  exact ⟨h.ok, (grownBy_keeps_cells hg hr h.pool rfl).trans h.pool, ⟨cur, t, (grownBy_keeps_cells hg hr h1 rfl).trans h1, h2, h3⟩, fun a ha => cell_kept (h.quo a ha) hg hr, h.pF, h.QF⟩
theorem pool_grown {w w' : World} {p F Q c : Nat} {s : St} (h : PoolAt w p F Q c s) (hg : w.grownBy w' none) : PoolAt w' p F Q c s := pool_kept h hg (fun r e => by cases e)
theorem grownOf {W W' : World} (h : Below W.heap.size W W') : W.grownBy W' none := ⟨h.os, h.tape, h.output, h.size, fun k hk _ => h.block k hk⟩
theorem PoolAt.below {w w' : World} {p F Q c : Nat} {s : St} (h : PoolAt w p F Q c s) (hb : Below w.heap.size w w') : PoolAt w' p F Q c s := pool_grown h (grownOf hb)

set_option maxRecDepth 100000 in
set_option maxHeartbeats 1000000 in
theorem each_steps (m : Nat) (hm : 1 ≤ m) (bx p F n : Nat) (I : Nat → World → Prop) (hI : ∀ k W, I k W → ReadsAt bx p F n W) :
    StepsIx Fence.wide m Try.prog 58 #[.pointer (some ⟨bx, 0, none⟩)] (fun k => #[.int .i64 (k : Int), .pointer (some ⟨F, k * 258, none⟩)]) n (hitF F) (skipF F) I := by
  intro l J W hJI hsk hY h0
  have hn : n ≤ 256 := by obtain ⟨-, Q, c, s, rfl, h⟩ := hI 0 W (hJI 0 W h0); exact h.ok.n2
  refine callsIn_of_wp Try.func58 rfl trivial ?_ rfl
  simp only [Try.ntmps58, List.size_toArray, List.length_cons, List.length_nil, Nat.reduceAdd, Nat.reduceSub, Array.replicate_succ, Array.replicate_zero, List.push_toArray, List.append_toArray, List.nil_append, List.cons_append]
  obtain ⟨hb0, Q0, c0, s0, hn0, hp0⟩ := hI 0 W (hJI 0 W h0)
  have hc0 := hp0.c0
  rw [hn0] at hc0
  have HP := Lib.hid hp0
  have HJ0 := Lib.hid h0
  clear hp0 h0 hn0
  gi_wp2_with (refine ⟨trivial, ?_⟩; gi_at_call 38; refine (callsIn_wide.2 (there_yes HP.out)).mono ?_; rintro e w' ⟨rfl, rfl⟩)
  gi_loopw [13] (fun i wr => ∃ k : Nat, k ≤ n ∧ i = .int .i64 k ∧ J k wr) (fun i _ => n - (intOf i).toNat)
  case atStart => exact ⟨0, Nat.zero_le _, rfl, HJ0.out⟩
  case round =>
    obtain ⟨k, hk, rfl, hJs⟩ := hrel
    obtain ⟨hb1, Q1, c1, s1, hn1, hp1⟩ := hI k wr (hJI k wr hJs)
    have hcc := hp1.c0
    rw [hn1] at hcc
    have HJ := Lib.hid hJs
    clear hJs hb0 hc0
    by_cases hlt : k < n
    · have hh := hp1.hold k (by omega)
      have hh0 := hp1.ok.h0 k
      clear hp1 hn1
      by_cases hz : s1.hold k = 0
      · rw [hz] at hh
        have HS := Lib.hid (hsk k wr hlt HJ.out hh)
        gi_wp2
        refine ⟨(fun f e => by cases e), ?_⟩
        gi_wp2
        go_roundw
        case rel => exact ⟨k + 1, hlt, by go_num, HS.out⟩
        case measure => simp [intOf]; omega
      · have hpos : 0 < s1.hold k := by omega
        obtain ⟨fn, tmps, assign, body, hy, hR⟩ := hY k wr hlt HJ.out ⟨_, hpos, hh⟩
        gi_wp2
        refine hR.mono ?_
        rintro e W3 ⟨rfl, hJ3⟩
        have HJ3 := Lib.hid hJ3
        clear hJ3
        gi_wp2
        go_roundw
        case rel => exact ⟨k + 1, hlt, by go_num, HJ3.out⟩
        case measure => simp [intOf]; omega
    · obtain rfl : k = n := by omega
      clear hp1 hn1
      gi_wp2
      go_end0
      exact ⟨⟨_, rfl⟩, HJ.out⟩

theorem each_any (p : Nat) (w : World) : Calls Try.prog 49 #[.pointer (some ⟨p, 0, none⟩)] w fun e w' => e = .returned (.func (.func 58) #[] #[.pointer (some ⟨w.heap.size, 0, none⟩)]) ∧ w' = w.alloc (.cells #[.pointer (some ⟨p, 0, none⟩)] 25) := by
  go_enter Try.func49, Try.ntmps49
  go_wp2
  go_ret
  exact ⟨rfl, rfl⟩

/-- A pool whose frames' cells were written. -/
theorem pool_row {w w' : World} {p F Q c : Nat} {s s' : St} (h : PoolAt w p F Q c s) (hg : w.grownBy w' (some F)) (ok : StOk s') (hn : s'.n = s.n) (hq : s'.quo = s.quo)
    (hr : ∃ cur t, w'.heap[F]? = some (.cells cur t (0, 0)) ∧ cur.size = s.n * 258 ∧ ∀ i j, i < s.n → j < 258 → cur[i * 258 + j]? = some (s'.cv i j)) : PoolAt w' p F Q c s' := by
  have hk : s'.k = s.k := by unfold St.k; rw [hq]
  have hp := (Array.getElem?_eq_some_iff.1 h.pool).1
  refine ⟨ok, ?_, by rw [hn]; exact hr, fun a ha => ?_, h.pF, h.QF⟩
  · rw [hn, hk, hg.block p hp (by intro e; exact h.pF (Option.some.inj e))]; exact h.pool
  · have hQ : Q < w.heap.size := by
      obtain ⟨ob, hob, -⟩ := cells_of_cell (h.quo a (by rw [← hk]; exact ha))
      exact (Array.getElem?_eq_some_iff.1 hob).1
    rw [hq]
    exact (World.cell?_of_block (a := ⟨Q, a, none⟩) (hg.block Q hQ (by intro e; exact h.QF (Option.some.inj e)))).trans (h.quo a (by rw [← hk]; exact ha))
/-- One cell was written. -/
theorem pool_set {w : World} {p F Q c : Nat} {s s' : St} (h : PoolAt w p F Q c s) (f m : Nat) (hm : m < 258) (ok : StOk s') (hn : s'.n = s.n) (hq : s'.quo = s.quo) (v : Value)
    (hv : f < s.n → s'.cv f m = v) (ho : ∀ i j, i < s.n → j < 258 → (i ≠ f ∨ j ≠ m) → s'.cv i j = s.cv i j) : PoolAt (w.setCell ⟨F, f * 258 + m, none⟩ v) p F Q c s' := by
  obtain ⟨cur, t, h1, h2, h3⟩ := h.row
  refine pool_row h ⟨rfl, rfl, rfl, by simp [World.setCell], fun k _ hk => Below.heap_setCell _ _ _ _ (fun e => hk (by simp [e]))⟩ ok hn hq ⟨cur.setIfInBounds (f * 258 + m) v, t, Go.heap_setCell_same _ _ _ _ _ _ h1, by simpa using h2, fun i j hi hj => ?_⟩
  rw [Array.getElem?_setIfInBounds]
  split
  · rename_i he
    have e1 : i = f := by omega
    have e2 : j = m := by omega
    subst e1 e2
    rw [if_pos (by rw [h2]; have : i * 258 + 258 ≤ s.n * 258 := by rw [← Nat.succ_mul]; exact Nat.mul_le_mul_right _ hi
                   omega), hv hi]
  · rename_i he
    rw [h3 i j hi hj, ho i j hi hj (by omega)]
theorem pool_set_grown {w : World} (F o : Nat) (v : Value) : w.grownBy (w.setCell ⟨F, o, none⟩ v) (some F) := ⟨rfl, rfl, rfl, by simp [World.setCell], fun k _ hk => Below.heap_setCell _ _ _ _ (fun e => hk (by simp [e]))⟩

end Go.Proofs.Ytjbamldhoeblbaa
