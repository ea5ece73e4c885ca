/- Copies of slices, a frame's page, how a frame stands. -/
import Derived.Test.YtjbamldhoeblbaaFrmE
import Derived.WalkSpells
import Derived.Lib.SliceRun
namespace Go.Proofs.Ytjbamldhoeblbaa
open Go.RowKit Go.Shelf

theorem Try.inInt : (Try.prog.info? 3).map (fun i => (i.zero, i.size, i.bytes)) = some (some (.int .i64 0), 1, 8) := by kernel_rfl
theorem Try.inU8 : (Try.prog.info? 5).map (fun i => (i.zero, i.size, i.bytes)) = some (some (.int .u8 0), 1, 1) := by kernel_rfl
/-- Cells that lie behind an address. -/
def CellsAt (w : World) (b off : Nat) (cs : List Value) : Prop := (∀ j v, cs[j]? = some v → w.cell? ⟨b, off + j, none⟩ = some v) ∧ ∀ v ∈ cs, v.oneCell' = true
def CloneOut (t : TypeId) (k n : Nat) (cs : List Value) (w : World) (e : Ending) (w' : World) : Prop := ∃ v', e = .returned v' ∧ w'.ownsRow w.heap.size t k v' n cs ∧ v' ≠ .slice none 0 0 ∧ Below w.heap.size w w'

set_option maxHeartbeats 1000000 in
set_option maxRecDepth 100000 in
theorem clone_ints {w : World} (b off n c : Nat) (cs : List Value) (hn : cs.length = n) (hc : CellsAt w b off cs) (hb : n ≤ 1000000) :
    Calls Try.prog 29 #[.slice (some ⟨b, off, none⟩) n c] w (CloneOut 3 1 n cs w) := by
  obtain ⟨i0, hi, hz0, hz1, hz2⟩ := info_parts Try.inInt
  have q22 : ∀ (w : World) (a : Option Addr) (n c n' c' : Nat), (binOp .eql 22 (.slice a n c) (.slice none n' c')).run Try.prog w = .ok (.bool a.isNone) w := fun w a n c n' c' => Lib.run_eql_slice_nil w _ _ a n c n' c' Try.underlying22
  have HC := Lib.hid hc
  have HN := Lib.hid hn
  clear hc hn
  go_enter Try.func29, Try.ntmps29
  go_wp2_with (at_builtin; refine wpList_append_own _ rfl _ _ 22 rfl w.heap.size 3 i0 (.int .i64 0) 1 8 Try.underlying22 hi hz0 hz1 hz2 rfl (by decide) _ _ _ rfl (World.ownsRow_made w #[] 0 (Nat.le_refl _) (Nat.zero_le _) rfl) ⟨b, off, none⟩ n c cs rfl ?qc1 ?qc2 ?qc3 ?qc4 ?qc5 ?qc6 ?_)
  case qc1 => rw [HN.out, Nat.mul_one]
  case qc2 =>
    intro j u hj
    rw [Addr.add_lit]
    exact Lib.cell?_alloc_some _ (HC.out.1 j u hj)
  case qc3 => exact HC.out.2
  case qc4 => unfold maxLen; omega
  case qc5 => omega
  case qc6 => simp
  intro v' w1 hown hgrow hnil
  go_wp2
  go_ret
  refine ⟨v', rfl, by simpa using hown, ?_, ?_⟩
  · exact hnil
  · exact ((Below.refl _ w).alloc (Nat.le_refl _) _).grown hgrow (by simp) (by intro k hk; simp [Value.ownBlock] at hk; omega)

set_option maxHeartbeats 1000000 in
set_option maxRecDepth 100000 in
theorem clone_bytes {w : World} (b off n c : Nat) (cs : List Value) (hn : cs.length = n) (hc : CellsAt w b off cs) (hb : n ≤ 1000000) :
    Calls Try.prog 53 #[.slice (some ⟨b, off, none⟩) n c] w (CloneOut 5 1 n cs w) := by
  obtain ⟨i0, hi, hz0, hz1, hz2⟩ := info_parts Try.inU8
  have q22 : ∀ (w : World) (a : Option Addr) (n c n' c' : Nat), (binOp .eql 32 (.slice a n c) (.slice none n' c')).run Try.prog w = .ok (.bool a.isNone) w := fun w a n c n' c' => Lib.run_eql_slice_nil w _ _ a n c n' c' Try.underlying32
  have HC := Lib.hid hc
  have HN := Lib.hid hn
  clear hc hn
  go_enter Try.func53, Try.ntmps53
  go_wp2_with (at_builtin; refine wpList_append_own _ rfl _ _ 32 rfl w.heap.size 5 i0 (.int .u8 0) 1 1 Try.underlying32 hi hz0 hz1 hz2 rfl (by decide) _ _ _ rfl (World.ownsRow_made w #[] 0 (Nat.le_refl _) (Nat.zero_le _) rfl) ⟨b, off, none⟩ n c cs rfl ?qc1 ?qc2 ?qc3 ?qc4 ?qc5 ?qc6 ?_)
  case qc1 => rw [HN.out, Nat.mul_one]
  case qc2 =>
    intro j u hj
    rw [Addr.add_lit]
    exact Lib.cell?_alloc_some _ (HC.out.1 j u hj)
  case qc3 => exact HC.out.2
  case qc4 => unfold maxLen; omega
  case qc5 => omega
  case qc6 => simp
  intro v' w1 hown hgrow hnil
  go_wp2
  go_ret
  refine ⟨v', rfl, by simpa using hown, ?_, ?_⟩
  · exact hnil
  · exact ((Below.refl _ w).alloc (Nat.le_refl _) _).grown hgrow (by simp) (by intro k hk; simp [Value.ownBlock] at hk; omega)

/-! ### Page -/
theorem run_page (w : World) (B b : Nat) :
    (Instr.sliceAt 74 (.pointer (some ⟨B, b, none⟩)) none none none).run Try.prog w = .ok (.slice (some ⟨B, b, none⟩) 256 256) w := by
  rw [run_sliceAt_array_all w _ _ pageA_arr, pageA_one, pageA_len]
  simp only [Result.andThen_ok, slicedAt, Nat.mul_one, Addr.add_lit, Nat.zero_mul, Nat.add_zero]
  rfl
/-- A frame's bytes as cells. -/
def St.page (s : St) (f : Nat) : List Value := (List.range 256).map fun j => .int .u8 (s.byt f j)
theorem page_len (s : St) (f : Nat) : (s.page f).length = 256 := by simp [St.page]
theorem page_get (s : St) (f j : Nat) (hj : j < 256) : (s.page f)[j]? = some (.int .u8 (s.byt f j)) := by
  unfold St.page; rw [List.getElem?_map, List.getElem?_range hj]; rfl
theorem page_cells {w : World} {p F Q c : Nat} {s : St} (h : PoolAt w p F Q c s) (f : Nat) (hf : f < s.n) : CellsAt w F (f * 258 + 2) (s.page f) := by
  refine ⟨fun j v hv => ?_, fun v hv => ?_⟩
  · have hj : j < 256 := by have := (List.getElem?_eq_some_iff.1 hv).1; rwa [page_len] at this
    rw [page_get s f j hj] at hv
    cases hv
    exact h.byt f j hf hj
  · obtain ⟨j, -, rfl⟩ := List.mem_map.1 hv; rfl
theorem page_gone {w : World} {p F Q c : Nat} {s : St} (h : PoolAt w p F Q c s) (f : Int) (hg : s.gone f) :
    Calls Try.prog 23 #[.pointer (some ⟨p, 0, none⟩), .int .i64 f] w fun e w' => e = .returned (.tuple #[.slice none 0 0, .int .i64 6]) ∧ w = w' := by
  have HG := Lib.hid hg
  clear hg
  go_enter Try.func23, Try.ntmps23
  go_wp2_with (go_at_call 51; refine (owned_gone h f HG.out).mono ?_; rintro e w' ⟨rfl, rfl⟩)
  go_ret2
  exact ⟨rfl, rfl⟩
def PageOut (cs : List Value) (w : World) (e : Ending) (w' : World) : Prop := ∃ v', e = .returned (.tuple #[v', .int .i64 0]) ∧ w'.ownsRow w.heap.size 5 1 v' 256 cs ∧ Below w.heap.size w w'
set_option maxRecDepth 100000 in
theorem page_yes {w : World} {p F Q c : Nat} {s : St} (h : PoolAt w p F Q c s) (f : Nat) (hf : f < s.n) (hh : 0 < s.hold f) :
    Calls Try.prog 23 #[.pointer (some ⟨p, 0, none⟩), .int .i64 f] w (PageOut (s.page f) w) := by
  have HP := Lib.hid h
  have hr := fun w => run_page w F (f * 258 + 2)
  have HC := Lib.hid (page_cells h f hf)
  clear h
  go_enter Try.func23, Try.ntmps23
  go_wp2_with (first
    | (go_at_call 51; refine (owned_yes HP.out f hf hh).mono ?_; rintro e w' ⟨rfl, rfl⟩)
    | (go_at_call 53; refine (clone_bytes F (f * 258 + 2) 256 256 (s.page f) (page_len s f) HC.out (by omega)).mono ?_; rintro e w1 ⟨v', rfl, ho, -, hb⟩; have HO := Lib.hid ho; have HB := Lib.hid hb; clear ho hb))
  go_ret2
  exact ⟨v', rfl, HO.out, HB.out⟩

/-! ### Of -/
set_option maxRecDepth 100000 in
theorem told_yes {w : World} {p F Q c : Nat} {s : St} (h : PoolAt w p F Q c s) (f : Nat) (hf : f < s.n) :
    Calls Try.prog 55 #[.pointer (some ⟨F, f * 258, none⟩), .int .i64 f] w fun e w' => e = .returned (.agg #[.int .i64 f, .int .i64 (s.own f), .int .i64 (s.hold f)]) ∧ Below w.heap.size w w' := by
  have hP := h.below ((Below.refl _ w).alloc (Nat.le_refl _) (.cells #[.int .i64 0, .int .i64 0, .int .i64 0] 56))
  have h0 := hP.own f hf
  have h1 := hP.hold f hf
  clear h hP
  go_enter Try.func55, Try.ntmps55
  go_wp2
  go_region
  all_goals
    go_wp2
    refine bodyPost_ret (v := .agg #[.int .i64 f, .int .i64 (s.own f), .int .i64 (s.hold f)]) (by simp [results, Try.results55, go_sem]) rfl ⟨rfl, ?_⟩
    trace_state
    exact ((Below.refl _ _).alloc (Nat.le_refl _) _).drew
theorem three_of {w : World} {B : Nat} {x y z : Value} {t : TypeId} (h : w.heap[B]? = some (.cells #[x, y, z] t (0, 0))) :
    w.cell? ⟨B, 0, none⟩ = some x ∧ w.cell? ⟨B, 1, none⟩ = some y ∧ w.cell? ⟨B, 2, none⟩ = some z ∧ (∀ o, w.frozen? ⟨B, o, none⟩ = false) ∧ B < w.heap.size :=
  ⟨by rw [cell_of_row _ _ _ _ _ _ h]; rfl, by rw [cell_of_row _ _ _ _ _ _ h]; rfl, by rw [cell_of_row _ _ _ _ _ _ h]; rfl, fun o => by simp [World.frozen?, h], (Array.getElem?_eq_some_iff.1 h).1⟩
theorem of_gone {w : World} {p F Q c : Nat} {s : St} (h : PoolAt w p F Q c s) (f : Int) (hg : s.gone f) :
    Calls Try.prog 27 #[.pointer (some ⟨p, 0, none⟩), .int .i64 f] w fun e w' => e = .returned (.tuple #[.agg #[.int .i64 0, .int .i64 0, .int .i64 0], .int .i64 6]) ∧ Below w.heap.size w w' := by
  have HG := Lib.hid hg
  have HP := fun o => Lib.hid (h.below ((Below.refl _ w).alloc (Nat.le_refl _) o))
  clear hg h
  go_enter Try.func27, Try.ntmps27
  go_wp2_with (go_at_call 51; refine (owned_gone (HP _).out f HG.out).mono ?_; rintro e w' ⟨rfl, rfl⟩)
  exact bodyPost_ret (v := .tuple #[.agg #[.int .i64 0, .int .i64 0, .int .i64 0], .int .i64 6]) (by simp [results, Try.results27, go_sem]) rfl ⟨rfl, (Below.refl _ _).alloc (Nat.le_refl _) _⟩
theorem of_yes {w : World} {p F Q c : Nat} {s : St} (h : PoolAt w p F Q c s) (f : Nat) (hf : f < s.n) (hh : 0 < s.hold f) :
    Calls Try.prog 27 #[.pointer (some ⟨p, 0, none⟩), .int .i64 f] w fun e w' => e = .returned (.tuple #[.agg #[.int .i64 f, .int .i64 (s.own f), .int .i64 (s.hold f)], .int .i64 0]) ∧ Below w.heap.size w w' := by
  have HP := fun o => Lib.hid (h.below ((Below.refl _ w).alloc (Nat.le_refl _) o))
  clear h
  go_enter Try.func27, Try.ntmps27
  go_wp2_with (first
    | (go_at_call 51; refine (owned_yes (HP _).out f hf hh).mono ?_; rintro e w' ⟨rfl, rfl⟩)
    | (go_at_call 55; refine (told_yes (HP _).out f hf).mono ?_; rintro e w1 ⟨rfl, hb⟩; obtain ⟨d0, d1, d2, d3, d4⟩ := three_of ((hb.block w.heap.size (by simp)).trans (heap_alloc_new w _)); have HB := Lib.hid hb; clear hb))
  refine bodyPost_ret (v := .tuple #[.agg #[.int .i64 f, .int .i64 (s.own f), .int .i64 (s.hold f)], .int .i64 0]) (by simp [results, Try.results27, go_sem, d0, d1, d2, d3]) rfl ⟨rfl, ?_⟩
  exact (((((Below.refl _ w).alloc (Nat.le_refl _) _).trans (HB.out.mono (by simp))).setCell (Nat.le_refl _) _).setCell (Nat.le_refl _) _).setCell (Nat.le_refl _) _

end Go.Proofs.Ytjbamldhoeblbaa
