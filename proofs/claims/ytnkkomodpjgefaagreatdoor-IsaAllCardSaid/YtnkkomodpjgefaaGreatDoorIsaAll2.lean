/- The function that isa.All hands back: it tells the instructions with which the bytes begin, whoever stops it. -/
import Derived.Test.YtnkkomodpjgefaaGreatDoorIsaAll1
import Derived.Test.YtnkkomodpjgefaaGreatDoorIsaOps
namespace Go.Proofs.YtnkkomodpjgefaaGreatDoor
open Go.RowKit Go.Shelf
attribute [local go_sem] Oper.semAt_some

abbrev insEnc (L : List Int) (k : Nat) : Array Value := #[.int .i64 ((4 * k : Nat) : Int), .agg #[.int .i64 (oOp (wAt L k)), .int .i64 (oD (wAt L k)), .int .i64 (oA (wAt L k)), .int .i64 (oB (wAt L k)), .int .i64 (oM (wAt L k))]]
/-- What lies in cells in two blocks lies as it lay. -/
def KeepsTwo (b g : Nat) (W W' : World) : Prop := ∀ k cs t fr, k = b ∨ k = g → W.heap[k]? = some (.cells cs t fr) → W'.heap[k]? = some (.cells cs t fr)
theorem KeepsTwo.trans {b g : Nat} {A B C : World} (h : KeepsTwo b g A B) (k : KeepsTwo b g B C) : KeepsTwo b g A C := fun i cs t fr hi e => k i cs t fr hi (h i cs t fr hi e)
theorem keepsTwo_b {b g : Nat} {w : World} (W : World) (l : Nat) (o o' : Obj) (_ : w.heap.size ≤ l) (h : W.heap[l]? = some o) (ho : o.isCells = false) (_ : o.isWalk = false) : KeepsTwo b g W (W.putObj l o') := fun k cs t fr _ e => by
  have hk : k ≠ l := by rintro rfl; rw [h] at e; cases e; cases ho
  rw [World.putObj_heap_other hk]; exact e
theorem grown_of_below {W W' : World} (h : Below W.heap.size W W') : W.grownBy W' none := ⟨h.os, h.tape, h.output, h.size, fun k hk _ => h.block k hk⟩
theorem yieldAt_same (L : List Int) {k p : Nat} (hp : p = 4 * k) : insEnc L k = (#[.int .i64 (p : Int), .agg #[.int .i64 (oOp (wAt L k)), .int .i64 (oD (wAt L k)), .int .i64 (oA (wAt L k)), .int .i64 (oB (wAt L k)), .int .i64 (oM (wAt L k))]] : Array Value) := by subst hp; rfl

theorem read_at0 {w : World} {B : Nat} {L : List Int} (h : BytesAt w (some ⟨B, 0, none⟩) L) (hr : ∀ x ∈ L, 0 ≤ x ∧ x < 256) {p k : Nat} (hp : p = 4 * k) (hle : p + 4 ≤ L.length) (c : Nat) {x : Int} (hx : oE (wAt L k) = x) :
    Calls Tryz.prog 18 #[.slice (some ⟨B, p, none⟩) 4 c] w fun e w' => e = .returned (.tuple #[.agg #[.int .i64 (oOp (wAt L k)), .int .i64 (oD (wAt L k)), .int .i64 (oA (wAt L k)), .int .i64 (oB (wAt L k)), .int .i64 (oM (wAt L k))], .int .i64 x]) ∧ Below w.heap.size w w' := by
  have := read_at h hr hp hle c hx
  rwa [Nat.zero_add] at this

set_option maxRecDepth 100000 in
set_option maxHeartbeats 2000000 in
theorem allLit_in (m : Nat) (hm : 1 ≤ m) (l bx g n cap N : Nat) (L : List Int) (cur : Array Value) (J Jx : List Nat → World → Prop) (W : World) (hL : L.length = n) (hn : n ≤ 4000) (hr : ∀ x ∈ L, 0 ≤ x ∧ x < 256) (hN : Begins L N)
    (hbx : W.heap[bx]? = some (.cells #[.slice (some ⟨g, 0, none⟩) n cap] 22 (0, 0))) (hg : W.heap[g]? = some (.cells cur 5 (0, 0))) (hcur : ∀ (j : Nat) (x : Int), L[j]? = some x → cur[j]? = some (Value.int .u8 x)) (hcap : n ≤ cap) (hcm : cap ≤ maxLen)
    (hJ : ∀ pre W1 W2, J pre W1 → Below W1.heap.size W1 W2 → J pre W2)
    (hY : ∀ pre x W1, J pre W1 → pre.length < N → YieldAt Fence.wide (m - 1) Tryz.prog l (insEnc L x) W1 fun e W' =>
      (e = .returned (.bool true) ∧ J (pre ++ [x]) W' ∧ KeepsTwo bx g W1 W') ∨ (e = .returned (.bool false) ∧ Jx (pre ++ [x]) W'))
    (h0 : J [] W) :
    CallsIn Fence.wide m Tryz.prog 17 #[.func (.yield l) #[] #[], .pointer (some ⟨bx, 0, none⟩)] W fun e W' => (∃ v, e = .returned v) ∧
      ((∃ xs, xs = List.range N ∧ J xs W') ∨ (∃ pre, (∃ k, k ≤ N ∧ pre = List.range k) ∧ Jx pre W')) := by
  have HN := Lib.hid hN
  have HR := Lib.hid hr
  have HL := Lib.hid hL
  have HC := Lib.hid hcur
  have hcap' : (n : Int) ≤ (cap : Int) := by omega
  have hn' : (n : Int) ≤ 4000 := by omega
  clear hN hr hL hcur
  refine callsIn_of_wp Tryz.func17 rfl trivial ?_ rfl
  simp only [Tryz.ntmps17, List.size_toArray, List.length_cons, List.length_nil, Nat.reduceAdd, Nat.reduceSub, Array.replicate_succ, Array.replicate_zero, List.push_toArray, List.append_toArray, List.nil_append, List.cons_append]
  gi_wp2
  gi_loopw [3] (fun i wr => ∃ k p : Nat, Hid (p = 4 * k) ∧ k ≤ N ∧ p ≤ n ∧ i = .int .i64 p ∧ J (List.range k) wr ∧ wr.heap[bx]? = some (.cells #[.slice (some ⟨g, 0, none⟩) n cap] 22 (0, 0)) ∧ wr.heap[g]? = some (.cells cur 5 (0, 0)))
    (fun i _ => n + 4 - (intOf i).toNat)
  case atStart => exact ⟨0, 0, Lib.hid rfl, Nat.zero_le _, Nat.zero_le _, rfl, h0, hbx, hg⟩
  case round =>
    obtain ⟨k, p, HP, hk, hpn, rfl, hJs, hb1, hg1⟩ := hrel
    have hcb : wr.cell? ⟨bx, 0, none⟩ = some (.slice (some ⟨g, 0, none⟩) n cap) := by rw [cell_of_row _ _ _ _ _ _ hb1]; rfl
    have HJ := Lib.hid hJs
    have HB := Lib.hid hb1
    have HG := Lib.hid hg1
    have hbl : bx < wr.heap.size := (Array.getElem?_eq_some_iff.1 hb1).1
    have hgl : g < wr.heap.size := (Array.getElem?_eq_some_iff.1 hg1).1
    have HBY : Hid (BytesAt wr (some ⟨g, 0, none⟩) L) := Lib.hid (fun ad e j x hx => by cases e; rw [plain_add, Nat.zero_add, cell_of_row _ _ _ _ _ _ HG.out]; exact HC.out j x hx)
    have hp0 : (0 : Int) ≤ (p : Int) := by omega
    have hpn' : (p : Int) ≤ (n : Int) := by omega
    clear hJs hb1 hg1 hbx hg
    by_cases hlt : p + 4 ≤ n
    · have hlt' : (p : Int) + 4 ≤ (n : Int) := by omega
      have HPL : Hid (p + 4 ≤ L.length) := Lib.hid (by rw [HL.out]; exact hlt)
      cases hw : isWord (wAt L k)
      · have HE : Hid (oE (wAt L k) = 4) := Lib.hid (by unfold oE; rw [hw]; rfl)
        have HK : Hid (k = N) := Lib.hid (by
          rcases Nat.lt_or_ge k N with h1 | h1
          · have := (okAt_parts (HN.out.1 k h1)).2; rw [hw] at this; cases this
          · omega)
        clear hw
        gi_wp2_with (first | (refine ⟨trivial, ?_⟩; gi_at_call 18; refine (callsIn_wide.2 (read_at0 HBY.out HR.out HP.out HPL.out _ HE.out)).mono ?_; rintro e w1 ⟨rfl, hb1⟩) | (refine ⟨fun f e => by cases e, ?_⟩))
        all_goals (first | (refine ⟨(fun f e => by cases e), ?_⟩; gi_wp2) | skip)
        all_goals
          refine bodyPost_ret (results_none rfl _ _ _) rfl ?_
          exact ⟨⟨_, rfl⟩, .inl ⟨_, rfl, by rw [← HK.out]; exact hJ _ _ _ HJ.out (Bl.alloc hb1 _)⟩⟩
      · have HE : Hid (oE (wAt L k) = 0) := Lib.hid (by unfold oE; rw [hw]; rfl)
        have HK : Hid (k < N) := Lib.hid (by
          rcases Nat.lt_or_ge k N with h1 | h1
          · exact h1
          · obtain rfl : k = N := by omega
            have := HN.out.2
            unfold okAt at this
            rw [hw, Bool.and_true] at this
            have := of_decide_eq_false this
            have := HP.out; have := HPL.out; omega)
        clear hw
        gi_wp2_with (refine ⟨trivial, ?_⟩; gi_at_call 18; refine (callsIn_wide.2 (read_at0 HBY.out HR.out HP.out HPL.out _ HE.out)).mono ?_; rintro e w1 ⟨rfl, hb1⟩; have hYk := hY _ k (w1.alloc (.cells #[.int .i64 (oOp (wAt L k)), .int .i64 (oD (wAt L k)), .int .i64 (oA (wAt L k)), .int .i64 (oB (wAt L k)), .int .i64 (oM (wAt L k))] 31)) (hJ _ _ _ HJ.out (Bl.alloc hb1 _)) (by rw [List.length_range]; exact HK.out); rw [yieldAt_same L HP.out] at hYk; obtain ⟨fn, tmps, assign, body, hy, hR⟩ := hYk)
        refine hR.mono ?_
        rintro e W3 (⟨rfl, hJ3, hk3⟩ | ⟨rfl, hJx3⟩)
        · gi_wp2
          have kb : (w1.alloc (.cells #[.int .i64 (oOp (wAt L k)), .int .i64 (oD (wAt L k)), .int .i64 (oA (wAt L k)), .int .i64 (oB (wAt L k)), .int .i64 (oM (wAt L k))] 31)).heap[bx]? = some (.cells #[.slice (some ⟨g, 0, none⟩) n cap] 22 (0, 0)) := by
            rw [Below.heap_alloc _ _ _ (Nat.lt_of_lt_of_le hbl hb1.size), hb1.block bx hbl]; exact HB.out
          have kg : (w1.alloc (.cells #[.int .i64 (oOp (wAt L k)), .int .i64 (oD (wAt L k)), .int .i64 (oA (wAt L k)), .int .i64 (oB (wAt L k)), .int .i64 (oM (wAt L k))] 31)).heap[g]? = some (.cells cur 5 (0, 0)) := by
            rw [Below.heap_alloc _ _ _ (Nat.lt_of_lt_of_le hgl hb1.size), hb1.block g hgl]; exact HG.out
          go_roundw
          case rel => exact ⟨k + 1, p + 4, Lib.hid (by have := HP.out; omega), HK.out, hlt, by go_num, by rw [List.range_succ]; exact hJ3, hk3 _ _ _ _ (Or.inl rfl) kb, hk3 _ _ _ _ (Or.inr rfl) kg⟩
          case measure => simp [intOf]; omega
        · gi_wp2
          refine bodyPost_ret (results_none rfl _ _ _) rfl ?_
          exact ⟨⟨_, rfl⟩, .inr ⟨_, ⟨k + 1, HK.out, List.range_succ.symm⟩, hJx3⟩⟩
    · have HK : Hid (k = N) := Lib.hid (by
        rcases Nat.lt_or_ge k N with h1 | h1
        · have := (okAt_parts (HN.out.1 k h1)).1; have := HP.out; have := HL.out; omega
        · omega)
      have hlt' : (n : Int) < (p : Int) + 4 := by omega
      gi_wp2
      go_end0
      exact ⟨⟨_, rfl⟩, .inl ⟨_, rfl, by rw [← HK.out]; exact HJ.out⟩⟩

/-- The same as a sequence that may be stopped: bytes that are there. -/
theorem all_stops (m : Nat) (hm : 1 ≤ m) (bx g n cap N : Nat) (L : List Int) (cur : Array Value) (w : World) (hL : L.length = n) (hn : n ≤ 4000) (hr : ∀ x ∈ L, 0 ≤ x ∧ x < 256) (hN : Begins L N)
    (hbx : w.heap[bx]? = some (.cells #[.slice (some ⟨g, 0, none⟩) n cap] 22 (0, 0))) (hg : w.heap[g]? = some (.cells cur 5 (0, 0))) (hcur : ∀ (j : Nat) (x : Int), L[j]? = some x → cur[j]? = some (Value.int .u8 x)) (hcap : n ≤ cap) (hcm : cap ≤ maxLen) :
    SeqStopsK Fence.wide m Tryz.prog 17 #[.pointer (some ⟨bx, 0, none⟩)] (insEnc L) (KeepsTwo bx g) (fun xs => xs = List.range N) (fun pre => ∃ k, k ≤ N ∧ pre = List.range k) N w :=
  fun l J Jx W hb hJ _ hY h0 => allLit_in m hm l bx g n cap N L cur J Jx W hL hn hr hN ((hb.block bx (Array.getElem?_eq_some_iff.1 hbx).1).trans hbx) ((hb.block g (Array.getElem?_eq_some_iff.1 hg).1).trans hg) hcur hcap hcm
    (fun pre W1 W2 h hbw => hJ pre W1 W2 none h (grown_of_below hbw) (fun r e => by cases e)) hY h0

set_option maxRecDepth 100000 in
set_option maxHeartbeats 2000000 in
/-- And of no bytes. -/
theorem allNil_in (m l bx : Nat) (J Jx : List Nat → World → Prop) (W : World) (hbx : W.heap[bx]? = some (.cells #[.slice none 0 0] 22 (0, 0))) (h0 : J [] W) :
    CallsIn Fence.wide m Tryz.prog 17 #[.func (.yield l) #[] #[], .pointer (some ⟨bx, 0, none⟩)] W fun e W' => (∃ v, e = .returned v) ∧
      ((∃ xs, xs = List.range 0 ∧ J xs W') ∨ (∃ pre, (∃ k, k ≤ 0 ∧ pre = List.range k) ∧ Jx pre W')) := by
  have hcb : W.cell? ⟨bx, 0, none⟩ = some (.slice none 0 0) := by rw [cell_of_row _ _ _ _ _ _ hbx]; rfl
  clear hbx
  refine callsIn_of_wp Tryz.func17 rfl trivial ?_ rfl
  simp only [Tryz.ntmps17, List.size_toArray, List.length_cons, List.length_nil, Nat.reduceAdd, Nat.reduceSub, Array.replicate_succ, Array.replicate_zero, List.push_toArray, List.append_toArray, List.nil_append, List.cons_append]
  gi_wp2
  refine wpIn_loop_rounds 1 ?_
  rw [roundsIn_succ]
  gi_wp2
  go_end0
  exact ⟨⟨_, rfl⟩, .inl ⟨_, rfl, h0⟩⟩
theorem all_stops_nil (m : Nat) (bx g : Nat) (L : List Int) (w : World) (hbx : w.heap[bx]? = some (.cells #[.slice none 0 0] 22 (0, 0))) :
    SeqStopsK Fence.wide m Tryz.prog 17 #[.pointer (some ⟨bx, 0, none⟩)] (insEnc L) (KeepsTwo bx g) (fun xs => xs = List.range 0) (fun pre => ∃ k, k ≤ 0 ∧ pre = List.range k) 0 w :=
  fun l J Jx W hb _ _ _ h0 => allNil_in m l bx J Jx W ((hb.block bx (Array.getElem?_eq_some_iff.1 hbx).1).trans hbx) h0

end Go.Proofs.YtnkkomodpjgefaaGreatDoor
