/- New: a pool of free frames, or none. -/
import Derived.Test.YtjbamldhoeblbaaFrmH
import Derived.Laws.MakeOwn
namespace Go.Proofs.Ytjbamldhoeblbaa
open Go.RowKit Go.Shelf

def at0 (L : List Int) (k : Nat) : Int := L.getD k 0
def sumTo (L : List Int) : Nat → Int
  | 0 => 0
  | k + 1 => sumTo L k + at0 L k
/-- The quota at a place is none, or more than what is left. -/
def badAt (n : Int) (L : List Int) (k : Nat) : Prop := at0 L k < 0 ∨ n - sumTo L k < at0 L k
structure NewOk (n : Int) (L : List Int) : Prop where
  n1 : 1 ≤ n
  n2 : n ≤ 256
  k1 : 1 ≤ L.length
  k2 : L.length ≤ 8
  q : ∀ k, k < L.length → ¬ badAt n L k
/-- Ints that stand in memory behind an address. -/
def IntsOf (w : World) (A : Option Addr) (L : List Int) : Prop := 0 < L.length → ∃ b o, A = some ⟨b, o, none⟩ ∧ ∀ j, j < L.length → w.cell? ⟨b, o + j, none⟩ = some (.int .i64 (at0 L j))

theorem sumTo_ok {n : Int} {L : List Int} {K : Nat} (h : ∀ j, j < K → ¬ badAt n L j) (hn : 0 ≤ n) : ∀ k, k ≤ K → 0 ≤ sumTo L k ∧ sumTo L k ≤ n
  | 0, _ => ⟨Int.le_refl _, hn⟩
  | k + 1, hk => by
    have ih := sumTo_ok h hn k (by omega)
    have hb := h k (by omega)
    unfold badAt at hb
    unfold sumTo
    omega
theorem first_bad {n : Int} {L : List Int} : ∀ m, (∀ k, k < m → ¬ badAt n L k) ∨ ∃ K, K < m ∧ badAt n L K ∧ ∀ j, j < K → ¬ badAt n L j
  | 0 => .inl (fun k hk => by omega)
  | m + 1 => by
    rcases first_bad (n := n) (L := L) m with h | ⟨K, hK, h1, h2⟩
    · by_cases hb : badAt n L m
      · exact .inr ⟨m, by omega, hb, h⟩
      · refine .inl (fun k hk => ?_)
        by_cases e : k = m
        · subst e; exact hb
        · exact h k (by omega)
    · exact .inr ⟨K, by omega, h1, h2⟩

theorem new_few {w : World} (n : Int) (A : Option Addr) (k c : Nat) (hk : (k : Int) ≤ 9223372036854775807) (h : n < 1 ∨ 256 < n ∨ k < 1 ∨ 8 < k) :
    Calls Try.prog 10 #[.int .i64 n, .slice A k c] w fun e w' => e = .returned (.tuple #[.pointer none, .int .i64 2]) ∧ w = w' := by
  by_cases h0 : n < 1
  · clear h
    go_enter Try.func10, Try.ntmps10
    go_wp2
    go_ret2
    exact ⟨rfl, rfl⟩
  · by_cases h1 : 256 < n
    · clear h
      go_enter Try.func10, Try.ntmps10
      go_wp2
      go_ret2
      exact ⟨rfl, rfl⟩
    · by_cases h2 : k < 1
      · have h2' : (k : Int) < 1 := by omega
        clear h h2
        go_enter Try.func10, Try.ntmps10
        go_wp2
        go_ret2
        exact ⟨rfl, rfl⟩
      · have h3 : (8 : Int) < k := by omega
        have h2' : ¬ (k : Int) < 1 := by omega
        clear h h2
        go_enter Try.func10, Try.ntmps10
        go_wp2
        go_ret2
        exact ⟨rfl, rfl⟩

set_option maxHeartbeats 1000000 in
theorem new_bad {w : World} (n : Int) (A : Option Addr) (c : Nat) (L : List Int) (hA : IntsOf w A L) (h1 : 1 ≤ n) (h2 : n ≤ 256) (h4 : L.length ≤ 8) (K : Nat) (hK : K < L.length) (hb : badAt n L K) (hl : ∀ j, j < K → ¬ badAt n L j) :
    Calls Try.prog 10 #[.int .i64 n, .slice A L.length c] w fun e w' => e = .returned (.tuple #[.pointer none, .int .i64 2]) ∧ w = w' := by
  obtain ⟨b, o, rfl, hc⟩ := hA (by omega)
  obtain ⟨m, hm⟩ : ∃ m, m = L.length := ⟨_, rfl⟩
  rw [← hm] at hc hK h4 ⊢
  have HC := Lib.hid hc
  have HS := Lib.hid (sumTo_ok hl (by omega))
  have HL := Lib.hid hl
  have h1n : ¬ n < 1 := by omega
  have h2n : ¬ 256 < n := by omega
  have h3n : ¬ (m : Int) < 1 := by omega
  have h4n : ¬ (8 : Int) < m := by omega
  have h63 : (m : Int) ≤ 9223372036854775807 := by omega
  have HB := Lib.hid hb
  clear hA hl hc hm hb
  go_enter Try.func10, Try.ntmps10
  go_wp2
  go_loop [6, 28] (fun l i => ∃ k : Nat, k ≤ K ∧ i = .int .i64 k ∧ l = .int .i64 (n - sumTo L k)) (fun _ i => K - (intOf i).toNat)
  case atStart => exact ⟨0, Nat.zero_le _, rfl, by simp [sumTo]⟩
  case round =>
    obtain ⟨k, hk', rfl, rfl⟩ := hrel
    have hd := HC.out k (by omega)
    have hs := HS.out k hk'
    have hkm : (k : Int) < m := by omega
    by_cases hlt : k < K
    · have hn := HL.out k hlt
      have hq0 : 0 ≤ at0 L k := by unfold badAt at hn; omega
      have hq1 : ¬ (n - sumTo L k < at0 L k) := by unfold badAt at hn; omega
      have hq2 : at0 L k ≤ 256 := by omega
      have HE := Lib.hid (show n - sumTo L k - at0 L k = n - sumTo L (k + 1) by show _ = n - (sumTo L k + at0 L k); omega)
      clear hn
      go_wp2
      go_round
      case rel => exact ⟨k + 1, by omega, by go_num, by rw [HE.out]⟩
      case measure => simp [intOf]; omega
    · obtain rfl : k = K := by omega
      by_cases hq0 : at0 L k < 0
      · go_wp2
        go_ret2
        exact ⟨rfl, rfl⟩
      · have hq1 : n - sumTo L k < at0 L k := by have := HB.out; unfold badAt at this; omega
        go_wp2
        go_ret2
        exact ⟨rfl, rfl⟩
theorem new_no {w : World} (n : Int) (A : Option Addr) (c : Nat) (L : List Int) (hA : IntsOf w A L) (hk : (L.length : Int) ≤ 9223372036854775807) (h : ¬ NewOk n L) :
    Calls Try.prog 10 #[.int .i64 n, .slice A L.length c] w fun e w' => e = .returned (.tuple #[.pointer none, .int .i64 2]) ∧ w = w' := by
  by_cases h0 : n < 1 ∨ 256 < n ∨ L.length < 1 ∨ 8 < L.length
  · exact new_few n A L.length c hk h0
  · rcases first_bad (n := n) (L := L) L.length with h1 | ⟨K, hK, h1, h2⟩
    · exact absurd ⟨by omega, by omega, by omega, by omega, h1⟩ h
    · exact new_bad n A c L hA (by omega) (by omega) (by omega) K hK h1 h2

/-! ### A pool that is made -/
def fresh (n : Nat) (L : List Int) : St := ⟨List.replicate n (0, 0), fun _ _ => 0, L⟩
theorem fresh_n (n : Nat) (L : List Int) : (fresh n L).n = n := by simp [fresh, St.n]
theorem fresh_own (n : Nat) (L : List Int) (i : Nat) : (fresh n L).own i = 0 := by
  simp only [fresh, St.own, List.getD_eq_getElem?_getD, List.getElem?_replicate]; split <;> rfl
theorem fresh_hold (n : Nat) (L : List Int) (i : Nat) : (fresh n L).hold i = 0 := by
  simp only [fresh, St.hold, List.getD_eq_getElem?_getD, List.getElem?_replicate]; split <;> rfl
theorem fresh_ok (n : Nat) (L : List Int) (h1 : 1 ≤ n) (h2 : n ≤ 256) (h3 : L.length ≤ 8) : StOk (fresh n L) :=
  ⟨by rw [fresh_n]; exact h1, by rw [fresh_n]; exact h2, h3, fun i => by rw [fresh_hold]; decide, fun i => by rw [fresh_hold]; decide, fun _ _ => Int.le_refl _, fun _ _ => by show (0 : Int) < 256; decide⟩
theorem fresh_cv (n : Nat) (L : List Int) (i j : Nat) : (fresh n L).cv i j = if j = 0 then .int .i64 0 else if j = 1 then .int .i64 0 else .int .u8 0 := by
  unfold St.cv; rw [fresh_own, fresh_hold]; rfl
theorem made_get (n i j : Nat) (hi : i < n) (hj : j < 258) : (madeCells memZero (n * 258))[i * 258 + j]? = some (if j = 0 then .int .i64 0 else if j = 1 then .int .i64 0 else .int .u8 0) := by
  unfold madeCells
  have hlt : i * 258 + j < n * 258 := by omega
  rw [Array.getElem?_map, Array.getElem?_range, if_pos hlt, memZero_size]
  have e : (i * 258 + j) % 258 = j := by omega
  have e2 := (Array.getElem?_toList (xs := memZero) (i := j)).symm.trans (memZero_get j hj)
  rw [Option.map_some, e, getElem!_def, e2]
theorem fresh_pool {W : World} {p F Q c n : Nat} {L : List Int} (h1 : 1 ≤ n) (h2 : n ≤ 256) (h3 : L.length ≤ 8) (hp : W.heap[p]? = some (.cells #[.slice (some ⟨F, 0, none⟩) n n, .slice (some ⟨Q, 0, none⟩) L.length c] 61 (0, 0)))
    (hF : W.heap[F]? = some (.cells (madeCells memZero (n * 258)) 76 (0, 0))) (hQ : ∀ a, a < L.length → W.cell? ⟨Q, a, none⟩ = some (.int .i64 (at0 L a))) (pF : p ≠ F) (QF : Q ≠ F) : PoolAt W p F Q c (fresh n L) := by
  refine ⟨fresh_ok n L h1 h2 h3, by rw [fresh_n]; exact hp, ⟨_, _, hF, by rw [fresh_n, size_madeCells], fun i j hi hj => ?_⟩, hQ, pF, QF⟩
  rw [fresh_n] at hi
  rw [fresh_cv]; exact made_get n i j hi hj
theorem Try.inMem : (Try.prog.info? 76).map (fun i => (i.zero.map (·.cells), i.size, i.bytes)) = some (some memZero, 258, 272) := by kernel_rfl

def NewOut (n : Nat) (L : List Int) (w : World) (e : Ending) (w' : World) : Prop :=
  ∃ p F Q c, e = .returned (.tuple #[.pointer (some ⟨p, 0, none⟩), .int .i64 0]) ∧ PoolAt w' p F Q c (fresh n L) ∧ Below w.heap.size w w' ∧ w.heap.size ≤ F ∧ w.heap.size ≤ p ∧ w.heap.size ≤ Q
theorem run_mems (n : Nat) (hn : n ≤ 256) (w : World) : (Instr.makeSlice 59 (.int .i64 (n : Int)) (.int .i64 (n : Int))).run Try.prog w = .ok (.slice (some ⟨w.heap.size, 0, none⟩) n n) (w.alloc (.cells (madeCells memZero (n * 258)) 76)) := by
  obtain ⟨i, hi, hzz⟩ := Option.map_eq_some_iff.1 Try.inMem
  simp only [Prod.mk.injEq] at hzz
  obtain ⟨hz, hs, hb⟩ := hzz
  obtain ⟨z, hz, hzc⟩ := Option.map_eq_some_iff.1 hz
  have := run_make (P := Try.prog) w 59 76 i z Try.underlying59 hi hz .i64 .i64 n n (by omega) (Int.le_refl _) (by rw [hb]; omega) (by omega)
  rw [hzc, hs, Int.toNat_natCast] at this
  exact this

theorem own_ints {w : World} {B n : Nat} {e : TypeId} {v : Value} {L : List Int} (h : w.ownsRow B e 1 v n (L.map (Value.int .i64))) (hn : 0 < n) :
    ∃ g cap, v = .slice (some ⟨g, 0, none⟩) n cap ∧ B ≤ g ∧ ∀ a, a < L.length → w.cell? ⟨g, a, none⟩ = some (.int .i64 (at0 L a)) := by
  obtain ⟨hl, ⟨-, h0⟩ | ⟨g, cap, cur, rfl, hg, hw, -, -, -, hx⟩⟩ := h
  · omega
  · refine ⟨g, cap, rfl, hg, fun a ha => ?_⟩
    rw [cell_of_row _ _ _ _ _ _ hw, ← Array.getElem?_toList]
    have e : (cur.toList.take (n * 1))[a]? = some (.int .i64 (at0 L a)) := by
      rw [hx, List.getElem?_map, List.getElem?_eq_getElem ha]
      unfold at0; rw [List.getD_eq_getElem?_getD, List.getElem?_eq_getElem ha]; rfl
    rw [List.getElem?_take] at e
    split at e
    · exact e
    · cases e
theorem new_a {w w1 : World} {n g cap : Nat} {L : List Int} (h1 : 1 ≤ n) (h2 : n ≤ 256) (h3 : L.length ≤ 8) (h4 : 1 ≤ L.length)
    (hb : Below (w.alloc (.cells (madeCells memZero (n * 258)) 76)).drew.heap.size (w.alloc (.cells (madeCells memZero (n * 258)) 76)).drew w1)
    (hg : (w.alloc (.cells (madeCells memZero (n * 258)) 76)).drew.heap.size ≤ g) (hc : ∀ a, a < L.length → w1.cell? ⟨g, a, none⟩ = some (.int .i64 (at0 L a))) :
    NewOut n L w (.returned (.tuple #[.pointer (some ⟨w1.heap.size, 0, none⟩), .int .i64 0])) (w1.alloc (.cells #[.slice (some ⟨w.heap.size, 0, none⟩) n n, .slice (some ⟨g, 0, none⟩) L.length cap] 61)) := by
  have hsz : w.heap.size < w1.heap.size := by have := hb.size; simp at this; omega
  have hgl : g < w1.heap.size := World.block_lt_of_cell? w1 _ (hc 0 (by omega))
  have hgw : w.heap.size < g := by simp at hg; omega
  have hB : Below w.heap.size w w1 := ((Below.refl _ w).alloc (Nat.le_refl _) _).drew.trans (hb.mono (by simp))
  refine ⟨_, _, _, _, rfl, fresh_pool h1 h2 h3 (heap_alloc_new w1 _) ?_ (fun a ha => cell_alloc_f _ (hc a ha)) (by omega) (by omega), hB.alloc (by omega) _, Nat.le_refl _, by omega, by omega⟩
  rw [Below.heap_alloc _ _ _ (by omega)]
  rw [hb.block _ (by simp)]
  exact heap_alloc_new w _
theorem new_b {w w1 : World} {n g cap : Nat} {L : List Int} (h1 : 1 ≤ n) (h2 : n ≤ 256) (h3 : L.length ≤ 8) (h4 : 1 ≤ L.length)
    (hb : Below w.drew.heap.size w.drew w1) (hg : w.drew.heap.size ≤ g) (hc : ∀ a, a < L.length → w1.cell? ⟨g, a, none⟩ = some (.int .i64 (at0 L a))) :
    NewOut n L w (.returned (.tuple #[.pointer (some ⟨w1.heap.size + 1, 0, none⟩), .int .i64 0])) ((w1.alloc (.cells (madeCells memZero (n * 258)) 76)).alloc (.cells #[.slice (some ⟨w1.heap.size, 0, none⟩) n n, .slice (some ⟨g, 0, none⟩) L.length cap] 61)) := by
  have hgl : g < w1.heap.size := World.block_lt_of_cell? w1 _ (hc 0 (by omega))
  have hsz : w.heap.size ≤ w1.heap.size := hb.size
  have hgw : w.heap.size ≤ g := hg
  have hB : Below w.heap.size w w1 := (Below.refl _ w).drew.trans hb
  refine ⟨w1.heap.size + 1, w1.heap.size, g, cap, rfl, fresh_pool h1 h2 h3 ?_ ?_ (fun a ha => cell_alloc_f _ (cell_alloc_f _ (hc a ha))) (by omega) (by omega), (hB.alloc (by omega) _).alloc (by simp; omega) _, hsz, by omega, hgw⟩
  · have := heap_alloc_new (w1.alloc (.cells (madeCells memZero (n * 258)) 76)) (.cells #[.slice (some ⟨w1.heap.size, 0, none⟩) n n, .slice (some ⟨g, 0, none⟩) L.length cap] 61 (0, 0))
    rw [World.size_alloc] at this
    exact this
  · rw [Below.heap_alloc _ _ _ (by simp)]
    exact heap_alloc_new w1 _
set_option maxRecDepth 100000 in
set_option maxHeartbeats 2000000 in
theorem new_yes {w : World} (n : Nat) (A : Option Addr) (c : Nat) (L : List Int) (hA : IntsOf w A L) (h : NewOk n L) :
    Calls Try.prog 10 #[.int .i64 n, .slice A L.length c] w (NewOut n L w) := by
  obtain ⟨h1, h2, h3, h4, hl⟩ := h
  obtain ⟨b, o, rfl, hc⟩ := hA (by omega)
  have hcells : CellsAt w b o (L.map (Value.int .i64)) := by
    refine ⟨fun j v hv => ?_, fun v hv => ?_⟩
    · have hj : j < L.length := by have := (List.getElem?_eq_some_iff.1 hv).1; simpa using this
      rw [hc j hj]
      rw [List.getElem?_map, List.getElem?_eq_getElem hj] at hv
      unfold at0; rw [List.getD_eq_getElem?_getD, List.getElem?_eq_getElem hj]; exact hv
    · obtain ⟨x, -, rfl⟩ := List.mem_map.1 hv; rfl
  have HCL := Lib.hid (fun W (hb : Below w.heap.size w W) => show CellsAt W b o (L.map (Value.int .i64)) from ⟨fun j v hv => (hb.cell (p := ⟨b, o + j, none⟩) (World.block_lt_of_cell? w _ (hcells.1 j v hv))).trans (hcells.1 j v hv), hcells.2⟩)
  clear hcells
  obtain ⟨m, hm⟩ : ∃ m, m = L.length := ⟨_, rfl⟩
  rw [← hm] at hc h3 h4 hl ⊢
  have HM := Lib.hid hm
  have HC := Lib.hid hc
  have HS := Lib.hid (sumTo_ok hl (by omega))
  have HL := Lib.hid hl
  have h1n : ¬ (n : Int) < 1 := by omega
  have h2n : ¬ (256 : Int) < n := by omega
  have h3n : ¬ (m : Int) < 1 := by omega
  have h4n : ¬ (8 : Int) < m := by omega
  have h63 : (m : Int) ≤ 9223372036854775807 := by omega
  have hmk := fun w => run_mems n (by omega) w
  clear hA hl hc hm
  go_enter Try.func10, Try.ntmps10
  go_wp2
  go_loop [6, 28] (fun l i => ∃ k : Nat, k ≤ m ∧ i = .int .i64 k ∧ l = .int .i64 (n - sumTo L k)) (fun _ i => m - (intOf i).toNat)
  case atStart => exact ⟨0, Nat.zero_le _, rfl, by simp [sumTo]⟩
  case round =>
    obtain ⟨k, hk', rfl, rfl⟩ := hrel
    have hs := HS.out k hk'
    by_cases hlt : k < m
    · have hn := HL.out k hlt
      have hd := HC.out k hlt
      have hkm : (k : Int) < m := by omega
      have hq0 : 0 ≤ at0 L k := by unfold badAt at hn; omega
      have hq1 : ¬ (n - sumTo L k < at0 L k) := by unfold badAt at hn; omega
      have hq2 : at0 L k ≤ 256 := by omega
      have HE := Lib.hid (show n - sumTo L k - at0 L k = n - sumTo L (k + 1) by show _ = n - (sumTo L k + at0 L k); omega)
      clear hn
      go_wp2
      go_round
      case rel => exact ⟨k + 1, by omega, by go_num, by rw [HE.out]⟩
      case measure => simp [intOf]; omega
    · obtain rfl : k = m := by omega
      have hkk : ¬ (k : Int) < k := by omega
      go_wp2_with fail
      go_region_with (go_at_call 29; refine (clone_ints b o k c (L.map (Value.int .i64)) (by rw [List.length_map]; exact HM.out.symm) (HCL.out _ (by first | exact (Below.refl _ w).drew | exact ((Below.refl _ w).alloc (Nat.le_refl _) _).drew | exact ((Below.refl _ w).drew).alloc (Nat.le_refl _) _)) (by omega)).mono ?_; rintro e w1 ⟨v', rfl, ho, -, hb⟩; obtain ⟨g, cap, rfl, hBg, hgc⟩ := own_ints ho (by omega); have HB1 := Lib.hid hb; have HG := Lib.hid hgc; have HBg := Lib.hid hBg; clear ho hb hgc hBg)
      all_goals go_wp2
      · have HN := new_a (cap := cap) (by omega) (by omega) (by have := HM.out; omega) (by have := HM.out; omega) HB1.out HBg.out HG.out
        rw [← HM.out] at HN
        have HN := Lib.hid HN
        go_ret2
        exact HN.out
      · have HN := new_b (n := n) (cap := cap) (by omega) (by omega) (by have := HM.out; omega) (by have := HM.out; omega) HB1.out HBg.out HG.out
        rw [← HM.out] at HN
        have HN := Lib.hid HN
        go_ret2
        exact HN.out

end Go.Proofs.Ytjbamldhoeblbaa
