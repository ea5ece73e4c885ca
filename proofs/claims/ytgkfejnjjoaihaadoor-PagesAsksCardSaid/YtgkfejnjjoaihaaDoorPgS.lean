/- The iterators: what is told of a space; in which spaces a frame stands. -/
import Derived.Test.YtgkfejnjjoaihaaDoorPgR
import Derived.Deep.WholeRow
import Derived.Deep.RegionHeld3
namespace Go.Proofs.YtgkfejnjjoaihaaDoor
open Go.RowKit
attribute [local go_sem] Oper.semAt_some

/-- What an iterator over a table has captured: the table, a number. -/
structure BoxesAt (w : World) (b1 b2 t : Nat) (x : Int) : Prop where
  c1 : w.cell? ⟨b1, 0, none⟩ = some (.pointer (some ⟨t, 0, none⟩))
  c2 : w.cell? ⟨b2, 0, none⟩ = some (.int .i64 x)
def hitE (T : Tb) (f : Int) (k : Nat) : Bool := mask T f k != 0
def encE (T : Tb) (f : Int) (k : Nat) : Array Value := #[.int .i64 k, .int .u32 (mask T f k : Nat)]
set_option maxRecDepth 100000 in
set_option maxHeartbeats 1000000 in
theorem each_steps (m : Nat) (hm : 1 ≤ m) (b1 b2 t b N : Nat) (T : Tb) (f : Int) (hf : (Lit.int .i64 f).wf = true) (I : Nat → World → Prop) (hI : ∀ k W, I k W → BoxesAt W b1 b2 t f ∧ PT W t b N T) :
    StepsB Fence.wide m Tryd.prog 60 #[.pointer (some ⟨b1, 0, none⟩), .pointer (some ⟨b2, 0, none⟩)] (encE T f) 16 (hitE T f) I := by
  intro l J Jx W hJI hJa hJd hsk hY h0
  refine callsIn_of_wp Tryd.func60 rfl trivial ?_ rfl
  simp only [Tryd.ntmps60, List.size_toArray, List.length_cons, List.length_nil, Nat.reduceAdd, Nat.reduceSub, Array.replicate_succ, Array.replicate_zero, List.push_toArray, List.append_toArray, List.nil_append, List.cons_append]
  obtain ⟨⟨c1, c2⟩, hp0⟩ := hI 0 W (hJI 0 W h0)
  have HP := Lib.hid hp0
  have HJ0 := Lib.hid h0
  clear hp0 h0
  gi_wp2_with (refine ⟨trivial, ?_⟩; gi_at_call 43; refine (callsIn_wide.2 (there_any HP.out)).mono ?_; rintro e w' ⟨rfl, rfl⟩)
  clear c1 c2
  gi_loopw [9] (fun i wr => ∃ k : Nat, k ≤ 16 ∧ i = .int .i64 k ∧ J k wr) (fun i _ => 16 - (intOf i).toNat)
  case atStart => exact ⟨0, Nat.zero_le _, rfl, HJ0.out⟩
  case round =>
    obtain ⟨k, hk, rfl, hJs⟩ := hrel
    obtain ⟨⟨d1, d2⟩, hp1⟩ := hI k wr (hJI k wr hJs)
    have HJ := Lib.hid hJs
    clear hJs
    by_cases hlt : k < 16
    · have hlt' : (k : Int) < 16 := by omega
      have cm := hp1.cm
      have htl := hp1.ht
      obtain ⟨D, hown, hD⟩ := hp1.map
      have hl := look_map (w := wr.drew) (ownsMap_eq hown rfl) hf hlt (hD f k hf hlt)
      clear hown hD hp1
      have hsk' := Lib.hid (hsk k wr.drew hlt)
      have hY' := hY k wr.drew hlt
      unfold hitE at hsk' hY'
      unfold encE at hY'
      obtain ⟨mk, hmk⟩ : ∃ mk, mask T f k = mk := ⟨_, rfl⟩
      rw [hmk] at hl hY' hsk'
      clear hmk
      by_cases hz : mk = 0
      · subst hz
        have HS := Lib.hid (hsk'.out rfl (hJd _ _ HJ.out))
        gi_wp2_with (gi_region)
        refine ⟨(fun f e => by cases e), ?_⟩
        gi_wp2
        go_roundw
        case rel => exact ⟨k + 1, hlt, by go_num, HS.out⟩
        case measure => simp [intOf]; omega
      · have hz' : ((mk : Int) != 0) = true := by simp; omega
        obtain ⟨fn, tmps, assign, body, hy, hR⟩ := hY' (by simpa using hz) (hJd _ _ HJ.out)
        gi_wp2_with (gi_region)
        refine hR.mono ?_
        rintro e W3 (⟨rfl, hJ3⟩ | ⟨rfl, hJx⟩)
        · have HJ3 := Lib.hid hJ3
          clear hJ3
          gi_wp2
          go_roundw
          case rel => exact ⟨k + 1, hlt, by go_num, HJ3.out⟩
          case measure => simp [intOf]; omega
        · have HJ3 := Lib.hid hJx
          clear hJx
          gi_wp2
          exact bodyPost_ret (v := .tuple #[]) (by simp [results, Tryd.results60, go_sem]) rfl ⟨⟨_, rfl⟩, .inr HJ3.out⟩
    · obtain rfl : k = 16 := by omega
      clear hp1
      gi_wp2
      go_end0
      exact ⟨⟨_, rfl⟩, .inl HJ.out⟩

/-- A load whose run is known, within a fence. -/
theorem wpListIn_load_run {F : Fence} {nF : Nat} {P : Program} {ops : Array Oper} {rest : List Oper} {op : Oper} {a : Act} {w : World} {Q : Exit → Act → World → Prop} (hgd : op.guard = none) (ty : TypeId) (x : Operand) (ho : op.op = .load ty x) (v : Value)
    (hr : (Instr.loadAt ty (a.eval x)).run P w = .ok v w) (h : wpListIn F nF P ops Q rest (a.put op.dst v) w) : wpListIn F nF P ops Q (op :: rest) a w := by
  refine wpListIn_plain hgd fun K hK => ?_
  refine ⟨fun f hf => by simp [Oper.about, ho] at hf, ?_⟩
  rw [Oper.semAt_eq _ _ _ (fun c e => by rw [ho] at e; cases e)]
  have e : (execOp a.eval op).run P w = .ok (.value v) w := by
    unfold execOp
    simp only [ho, Sem.run_bind, hr, Result.andThen_ok]
    rfl
  rw [e, Oper.uponIn_value]
  exact hK _ _ h

/-! ### Space -/
def hitS (T : Tb) (s : Int) (k : Nat) : Bool := spaceB s && (atT T s k).is
def encS (T : Tb) (s : Int) (k : Nat) : Array Value := #[.int .i64 k, entV (atT T s k)]
theorem space_off (m : Nat) (hm : 1 ≤ m) (b1 b2 t b N : Nat) (T : Tb) (s : Int) (hs : spaceB s = false) (I : Nat → World → Prop) (hI : ∀ W, I 0 W → BoxesAt W b1 b2 t s ∧ PT W t b N T) :
    StepsB Fence.wide m Tryd.prog 61 #[.pointer (some ⟨b1, 0, none⟩), .pointer (some ⟨b2, 0, none⟩)] (encS T s) 32 (hitS T s) I := by
  intro l J Jx W hJI hJa hJd hsk hY h0
  have hall : ∀ k, k ≤ 32 → J k W := fun k => by
    induction k with
    | zero => intro _; exact h0
    | succ k ih => intro hk; exact hsk k W hk (by unfold hitS; rw [hs]; rfl) (ih (by omega))
  have HA := Lib.hid (hall 32 (by omega))
  obtain ⟨⟨c1, c2⟩, hp0⟩ := hI W (hJI 0 W h0)
  have HP := Lib.hid hp0
  clear hp0 h0 hall
  refine callsIn_of_wp Tryd.func61 rfl trivial ?_ rfl
  simp only [Tryd.ntmps61, List.size_toArray, List.length_cons, List.length_nil, Nat.reduceAdd, Nat.reduceSub, Array.replicate_succ, Array.replicate_zero, List.push_toArray, List.append_toArray, List.nil_append, List.cons_append]
  gi_wp2_with (first
    | (refine ⟨trivial, ?_⟩; gi_at_call 43; refine (callsIn_wide.2 (there_any HP.out)).mono ?_; rintro e w' ⟨rfl, rfl⟩)
    | (refine ⟨trivial, ?_⟩; gi_at_call 46; refine (callsIn_wide.2 (isSpace_any s _)).mono ?_; rintro e w' ⟨rfl, rfl⟩))
  exact bodyPost_ret (v := .tuple #[]) (by simp [results, Tryd.results61, go_sem]) rfl ⟨⟨_, rfl⟩, .inl HA.out⟩
theorem Tryd.zRow : (Tryd.prog.info? 60).map (fun i => (i.zero, i.size)) = some (some (.agg (rowL cvP newT 0).toArray), 160) := by kernel_rfl
theorem Tryd.uRow : Tryd.prog.underlying 60 = some (.array 32 59) := by kernel_rfl
theorem Tryd.sRow : Tryd.prog.info? 60 ≠ none := by intro h; have := Tryd.zRow; rw [h] at this; cases this
theorem slot_one (e : Ent) (m : Nat) : (cvP e m).oneCell' = true := by
  unfold cvP
  repeat' split
  all_goals rfl
theorem row_one (T : Tb) (s : Nat) : (rowL cvP T s).toArray.all (·.oneCell') = true := by
  rw [Array.all_eq_true']
  intro x hx
  simp [rowL] at hx
  obtain ⟨k, -, rfl⟩ := hx
  exact slot_one _ _
def slotA (e : Ent) : Array Value := #[.int .i64 e.fr, .int .i64 e.ri, .bool e.tc, .bool e.wr, .bool e.is]
theorem row_cut (T : Tb) (s k : Nat) (hk : k < 32) : (rowL cvP T s).toArray.extract (k * 5) (k * 5 + 5) = slotA (T s k) := by
  apply Array.ext_getElem?
  intro i
  rw [Array.getElem?_extract]
  by_cases hi : i < 5
  · rw [if_pos (by simp [rowL_len]; omega)]
    simp only [List.getElem?_toArray]
    rw [rowL_get cvP T s k i hk hi]
    rcases (show i = 0 ∨ i = 1 ∨ i = 2 ∨ i = 3 ∨ i = 4 by omega) with rfl | rfl | rfl | rfl | rfl <;> rfl
  · rw [if_neg (by simp [rowL_len]; omega)]
    unfold slotA
    simp; omega
theorem Tryd.cSlot : (Tryd.prog.info? 59).map (·.size) = some 5 := by kernel_rfl
theorem index_row (T : Tb) (s k : Nat) (hk : k < 32) (w : World) : (Instr.index 60 (.agg (rowL cvP T s).toArray) (.int .i64 k)).run Tryd.prog w = .ok (.agg (slotA (T s k))) w := by
  have hs : (sizeOf 59).run Tryd.prog w = .ok 5 w := by
    have := Tryd.cSlot
    cases hq : Tryd.prog.info? 59 with
    | none => rw [hq] at this; cases this
    | some i => rw [hq] at this; simp at this; simp [sizeOf, typeInfo, hq, this]
  have ha : (isAgg 59).run Tryd.prog w = .ok true w := by unfold isAgg; simp [run_underlying Tryd.underlying59]
  have hc := row_cut T s k hk
  have h2 : (0 : Int) ≤ k ∧ (k : Int) < 32 := by omega
  simp only [Instr.index, Sem.run_bind]
  simp [asIntOf, run_underlying Tryd.uRow, Result.andThen, hs, part, ha, h2]
  simpa using hc
set_option maxRecDepth 100000 in
set_option maxHeartbeats 1000000 in
theorem space_on (m : Nat) (hm : 1 ≤ m) (b1 b2 t b N : Nat) (T : Tb) (s : Nat) (hs : s < 16) (I : Nat → World → Prop) (hI : ∀ W, I 0 W → BoxesAt W b1 b2 t s ∧ PT W t b N T) :
    StepsB Fence.wide m Tryd.prog 61 #[.pointer (some ⟨b1, 0, none⟩), .pointer (some ⟨b2, 0, none⟩)] (encS T s) 32 (hitS T s) I := by
  intro l J Jx W hJI hJa hJd hsk hY h0
  have hsb : spaceB s = true := (spaceB_iff _).2 ⟨by omega, by omega⟩
  obtain ⟨⟨c1, c2⟩, hp0⟩ := hI W (hJI 0 W h0)
  have hlt := hp0.ht
  have HP := Lib.hid hp0
  have HJ0 := Lib.hid h0
  obtain ⟨hz, hi⟩ := zero_of_info Tryd.zRow
  have hrg : W.rangeAt t (s * 160) (rowL cvP T s) := hp0.row.rangeRow s hs
  have hrl : (Tryd.prog.info? 60).map (·.size) = some (rowL cvP T s).length := by rw [hi, rowL_len]
  have hb1 : b1 < W.heap.size := block_lt_of_cell c1
  have hb2 : b2 < W.heap.size := block_lt_of_cell c2
  clear hp0 h0
  refine callsIn_of_wp Tryd.func61 rfl trivial ?_ rfl
  simp only [Tryd.ntmps61, List.size_toArray, List.length_cons, List.length_nil, Nat.reduceAdd, Nat.reduceSub, Array.replicate_succ, Array.replicate_zero, List.push_toArray, List.append_toArray, List.nil_append, List.cons_append]
  gi_wp2_with (first
    | (refine ⟨trivial, ?_⟩; gi_at_call 43; refine (callsIn_wide.2 (there_any HP.out)).mono ?_; rintro e w' ⟨rfl, rfl⟩)
    | (refine ⟨trivial, ?_⟩; gi_at_call 46; refine (callsIn_wide.2 (isSpace_any s _)).mono ?_; rintro e w' ⟨rfl, rfl⟩))
  refine wpIn_wide.2 ?_
  refine wp_region_noPanic ?_
  refine wp_region_held_drew (S := (fun w' => w'.cell? ⟨b1, 0, none⟩ = some (.pointer (some ⟨t, 0, none⟩)) ∧ w'.cell? ⟨b2, 0, none⟩ = some (.int .i64 s) ∧ w'.rangeAt t (s * 160) (rowL cvP T s))) (by kernel_rfl) ?_ (fun hHeld => ?_)
  · exact ⟨c1, c2, hrg⟩
  refine wpAnyH_take (i := 0) (v := ?_) rfl (by kernel_rfl) (by kernel_rfl) (by kernel_rfl) (fun _ _ _ h => h) (Or.inl ⟨by rfl, ?_⟩) (by assumption) ?_
  rotate_left
  · (intro w hSw; (try dsimp only at hSw); (try simp only [List.getElem_toArray, List.getElem_cons_zero]); go_simp; try (with_reducible rfl))
  try simp only [Act.put, List.getElem_toArray, List.getElem_cons_zero, List.setIfInBounds_toArray, List.set_cons_zero, List.set_cons_succ]
  refine wpAnyH_take (i := 1) (v := ?_) rfl (by kernel_rfl) (by kernel_rfl) (by kernel_rfl) (fun _ _ _ h => h) (Or.inl ⟨by rfl, ?_⟩) (by assumption) ?_
  rotate_left
  · (intro w hSw; (try dsimp only at hSw); (try simp only [List.getElem_toArray, List.getElem_cons_zero, List.getElem_cons_succ]); go_simp; try (with_reducible rfl))
  try simp only [Act.put, List.getElem_toArray, List.getElem_cons_zero, List.getElem_cons_succ, List.setIfInBounds_toArray, List.set_cons_zero, List.set_cons_succ]
  refine wpAnyH_take (i := 2) (v := ?_) rfl (by kernel_rfl) (by kernel_rfl) (by kernel_rfl) (fun _ _ _ h => h) (Or.inl ⟨by rfl, ?_⟩) (by assumption) ?_
  rotate_left
  · (intro w hSw; (try dsimp only at hSw); (try simp only [List.getElem_toArray, List.getElem_cons_zero, List.getElem_cons_succ]); go_simp; try (with_reducible rfl))
  try simp only [Act.put, List.getElem_toArray, List.getElem_cons_zero, List.getElem_cons_succ, List.setIfInBounds_toArray, List.set_cons_zero, List.set_cons_succ]
  refine wpAnyH_take (i := 3) (v := ?_) rfl (by kernel_rfl) (by kernel_rfl) (by kernel_rfl) (fun _ _ _ h => h) (Or.inl ⟨by rfl, ?_⟩) (by assumption) ?_
  rotate_left
  · (intro w hSw; (try dsimp only at hSw); (try simp only [List.getElem_toArray, List.getElem_cons_zero, List.getElem_cons_succ]); go_simp; try (with_reducible rfl))
  try simp only [Act.put, List.getElem_toArray, List.getElem_cons_zero, List.getElem_cons_succ, List.setIfInBounds_toArray, List.set_cons_zero, List.set_cons_succ]
  have hs' : (s : Int) < 16 := by omega
  refine wpAnyH_take (i := 4) (v := .pointer (some ⟨t, s * 160, none⟩)) rfl (by kernel_rfl) (by kernel_rfl) (by kernel_rfl) (fun _ _ _ h => h) (Or.inl ⟨by rfl, ?_⟩) (by assumption) ?_
  · (intro w hSw; (try dsimp only at hSw); (try simp only [List.getElem_toArray, List.getElem_cons_zero, List.getElem_cons_succ]); go_simp)
  try simp only [Act.put, List.getElem_toArray, List.getElem_cons_zero, List.getElem_cons_succ, List.setIfInBounds_toArray, List.set_cons_zero, List.set_cons_succ]
  refine wpAnyH_take (i := 5) (v := .agg (rowL cvP T s).toArray) rfl (by kernel_rfl) (by kernel_rfl) (by kernel_rfl) (fun _ _ _ h => h) (yieldsIf_load_mid (by rfl) 60 _ rfl t (s * 160) rfl (rowL cvP T s) _ (fun w h => h.2.2) Tryd.uRow rfl hrl) (by assumption) ?_
  try simp only [Act.put, List.getElem_toArray, List.getElem_cons_zero, List.getElem_cons_succ, List.setIfInBounds_toArray, List.set_cons_zero, List.set_cons_succ]
  refine wpAnyH_ready (rs := [6]) (by kernel_rfl) (by simp) ?_
  refine AllReadyH.cons rfl (fun K hK => ?_) AllReadyH.nil
  (try simp only [List.getElem_toArray, List.getElem_cons_zero, List.getElem_cons_succ]); go_simp
  refine hK.out _ _ ?_ (fun hHeld => ?_)
  · exact ⟨(World.cell?_alloc_some _ _ _ (by simp [c1])).trans c1, (World.cell?_alloc_some _ _ _ (by simp [c2])).trans c2, World.rangeAt_alloc hrg _⟩
  clear hK K
  try simp only [Act.put, List.getElem_toArray, List.getElem_cons_zero, List.getElem_cons_succ, List.setIfInBounds_toArray, List.set_cons_zero, List.set_cons_succ]
  refine wpAnyH_ready (rs := [7]) (by kernel_rfl) (by simp) ?_
  refine AllReadyH.cons rfl (fun K hK => ?_) AllReadyH.nil
  rw [if_pos (by rfl)]
  refine wp_store_row 60 _ _ rfl W.heap.size (rowL cvP T s).toArray rfl rfl 60 (rowL cvP newT 0).toArray (heap_alloc_new W _) (by rw [hi]; simp [rowL_len]) (by simp [rowL_len]) (row_one T s) ?_
  rw [show ((W.alloc (.cells (rowL cvP newT 0).toArray 60)).drew).setRow W.heap.size (rowL cvP T s).toArray = (W.alloc (.cells (rowL cvP T s).toArray 60)).drew from World.setRow_alloc_new W.drew _ _ _]
  refine hK.out _ _ ?_ (fun hHeld => ?_)
  · exact ⟨(World.cell?_alloc_some _ _ _ (by simp [c1])).trans c1, (World.cell?_alloc_some _ _ _ (by simp [c2])).trans c2, World.rangeAt_alloc hrg _⟩
  clear hK K
  try simp only [Act.put, List.getElem_toArray, List.getElem_cons_zero, List.getElem_cons_succ, List.setIfInBounds_toArray, List.set_cons_zero, List.set_cons_succ]
  refine wpAnyH_done (by kernel_rfl) ?_ _
  refine NoPanic.normal ?_
  have ld2 : (Instr.loadAt 60 (.pointer (some ⟨W.heap.size, 0, none⟩))).run Tryd.prog (W.alloc (.cells (rowL cvP T s).toArray 60)).drew = .ok (.agg (rowL cvP T s).toArray) (W.alloc (.cells (rowL cvP T s).toArray 60)).drew := run_loadAt_new (P := Tryd.prog) W.drew 60 (rowL cvP T s).toArray 32 59 Tryd.uRow (by rw [hi]; simp [rowL_len])
  have HJ1 := Lib.hid (hJd _ _ (hJa 0 W (.cells (rowL cvP T s).toArray 60) HJ0.out))
  have LD2 := Lib.hid ld2
  clear ld2 hrg hHeld c1 c2 HJ0 HP hb1 hb2 hlt hz hi hrl
  gi_wp2_with (refine wpListIn_load_run rfl 60 _ rfl _ (LD2.out) ?_)
  clear hHeld LD2
  have hrw := rowL_len cvP T s
  gi_loopw [22] (fun i wr => ∃ k : Nat, k ≤ 32 ∧ i = .int .i64 k ∧ J k wr) (fun i _ => 32 - (intOf i).toNat)
  case atStart => exact ⟨0, Nat.zero_le _, rfl, HJ1.out⟩
  case round =>
    obtain ⟨k, hk, rfl, hJs⟩ := hrel
    have HJ := Lib.hid hJs
    clear hJs
    by_cases hlt : k < 32
    · have hlt' : (k : Int) < 32 := by omega
      have hix := index_row T s k hlt wr
      unfold slotA at hix
      have hsk' := Lib.hid (hsk k (wr.alloc (.cells (slotA (T s k)) 59)) hlt)
      have hY' := hY k (wr.alloc (.cells (slotA (T s k)) 59)) hlt
      have ha := hJa k wr (.cells (slotA (T s k)) 59) HJ.out
      have HA := Lib.hid ha
      clear ha
      have hat : atT T s k = T s k := rfl
      unfold hitS at hsk' hY'
      unfold encS at hY'
      rw [hsb] at hsk' hY'
      rw [hat] at hsk' hY'
      obtain ⟨E, hE⟩ : ∃ E, T s k = E := ⟨_, rfl⟩
      rw [hE] at hix hsk' hY' HA
      clear hE hat
      unfold slotA at hY' hsk' HA
      unfold entV at hY'
      cases hz : E.is with
      | false =>
        rw [hz] at hix hsk' hY' HA
        clear hz
        have HS := Lib.hid (hsk'.out rfl HA.out)
        gi_wp2
        refine ⟨(fun f e => by cases e), ?_⟩
        gi_wp2
        go_roundw
        case rel => exact ⟨k + 1, hlt, by go_num, HS.out⟩
        case measure => simp [intOf]; omega
      | true =>
        rw [hz] at hix hsk' hY' HA
        clear hz
        obtain ⟨fn, tmps, assign, body, hy, hR⟩ := hY' rfl HA.out
        gi_wp2
        refine hR.mono ?_
        rintro e W3 (⟨rfl, hJ3⟩ | ⟨rfl, hJx⟩)
        · have HJ3 := Lib.hid hJ3
          clear hJ3
          gi_wp2
          go_roundw
          case rel => exact ⟨k + 1, hlt, by go_num, HJ3.out⟩
          case measure => simp [intOf]; omega
        · have HJ3 := Lib.hid hJx
          clear hJx
          gi_wp2
          exact bodyPost_ret (v := .tuple #[]) (by simp [results, Tryd.results61, go_sem]) rfl ⟨⟨_, rfl⟩, .inr HJ3.out⟩
    · obtain rfl : k = 32 := by omega
      gi_wp2
      go_end0
      exact ⟨⟨_, rfl⟩, .inl HJ.out⟩

/-- The iterator of a space, whatever number it has. -/
theorem space_steps (m : Nat) (hm : 1 ≤ m) (b1 b2 t b N : Nat) (T : Tb) (s : Int) (I : Nat → World → Prop) (hI : ∀ W, I 0 W → BoxesAt W b1 b2 t s ∧ PT W t b N T) :
    StepsB Fence.wide m Tryd.prog 61 #[.pointer (some ⟨b1, 0, none⟩), .pointer (some ⟨b2, 0, none⟩)] (encS T s) 32 (hitS T s) I := by
  cases hs : spaceB s with
  | false => exact space_off m hm b1 b2 t b N T s hs I hI
  | true =>
    obtain ⟨h1, h2⟩ := (spaceB_iff s).1 hs
    obtain ⟨k, rfl⟩ : ∃ k : Nat, s = k := ⟨s.toNat, by omega⟩
    exact space_on m hm b1 b2 t b N T k (by omega) I hI
theorem space_any {w : World} (p : Option Addr) (s : Int) : Calls Tryd.prog 54 #[.pointer p, .int .i64 s] w fun e w' => e = .returned (.func (.func 61) #[] #[.pointer (some ⟨w.heap.size, 0, none⟩), .pointer (some ⟨w.heap.size + 1, 0, none⟩)]) ∧
    w' = (w.alloc (.cells #[.pointer p] 23)).alloc (.cells #[.int .i64 s] 3) := by
  go_enter Tryd.func54, Tryd.ntmps54
  go_wp2
  go_ret
  exact ⟨rfl, rfl⟩
theorem each_any {w : World} (p : Option Addr) (s : Int) : Calls Tryd.prog 47 #[.pointer p, .int .i64 s] w fun e w' => e = .returned (.func (.func 60) #[] #[.pointer (some ⟨w.heap.size, 0, none⟩), .pointer (some ⟨w.heap.size + 1, 0, none⟩)]) ∧
    w' = (w.alloc (.cells #[.pointer p] 23)).alloc (.cells #[.int .i64 s] 3) := by
  go_enter Tryd.func47, Tryd.ntmps47
  go_wp2
  go_ret
  exact ⟨rfl, rfl⟩
end Go.Proofs.YtgkfejnjjoaihaaDoor
