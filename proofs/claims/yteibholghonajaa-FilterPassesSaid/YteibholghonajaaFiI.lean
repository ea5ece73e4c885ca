/- slices.Concat of tests. -/
import Derived.Test.YteibholghonajaaFiH
namespace Go.Proofs.Yteibholghonajaa
open Go.RowKit

/-- A filter that came in. -/
structure Fl where
  A : Option Addr
  n : Nat
  c : Nat
  L : List Ts
def Fl.v (x : Fl) : Value := .slice x.A x.n x.c
/-- Filters in a row. -/
structure FsIn (w : World) (b : Nat) (Fs : List Fl) : Prop where
  row : w.heap[b]? = some (.cells (Fs.map Fl.v).toArray 22 (0, 0))
  fl : ∀ x ∈ Fs, FlIn w x.A x.n x.c x.L
theorem FsIn.lt {w : World} {b : Nat} {Fs : List Fl} (h : FsIn w b Fs) : b < w.heap.size := (Array.getElem?_eq_some_iff.1 h.row).1
theorem FsIn.below {w w' : World} {b : Nat} {Fs : List Fl} (h : FsIn w b Fs) (hb : Below w.heap.size w w') : FsIn w' b Fs := ⟨(hb.block b h.lt).trans h.row, fun x hx => (h.fl x hx).below hb⟩
theorem FsIn.at {w : World} {b : Nat} {Fs : List Fl} (h : FsIn w b Fs) {i : Nat} {x : Fl} (hx : Fs[i]? = some x) : w.cell? ⟨b, i, none⟩ = some (.slice x.A x.n x.c) := by
  rw [cell_of_row _ _ _ _ _ _ h.row, List.getElem?_toArray, List.getElem?_map, hx]; rfl
def catL (Fs : List Fl) : List Ts := Fs.flatMap (·.L)
theorem catL_snoc {Fs : List Fl} {k : Nat} {x : Fl} (h : Fs[k]? = some x) : catL (Fs.take (k + 1)) = catL (Fs.take k) ++ x.L := by
  unfold catL; rw [List.take_add_one, h]; simp
theorem catL_len {Fs : List Fl} (h : ∀ x ∈ Fs, x.L.length ≤ 1000) : (catL Fs).length ≤ Fs.length * 1000 := by
  induction Fs with
  | nil => simp [catL]
  | cons x Fs ih =>
    have h1 := h x (List.mem_cons_self ..)
    have h2 := ih fun y hy => h y (List.mem_cons_of_mem _ hy)
    unfold catL at h2 ⊢
    rw [List.flatMap_cons, List.length_append, List.length_cons]
    omega
theorem catL_take {Fs : List Fl} (h : ∀ x ∈ Fs, x.L.length ≤ 1000) (k : Nat) : (catL (Fs.take k)).length ≤ k * 1000 := by
  have := catL_len (Fs := Fs.take k) fun x hx => h x (List.mem_of_mem_take hx)
  have h2 : (Fs.take k).length ≤ k := by simp; omega
  exact Nat.le_trans this (Nat.mul_le_mul h2 (Nat.le_refl _))
set_option maxHeartbeats 4000000 in
set_option maxRecDepth 100000 in
theorem concat_any {w : World} {b : Nat} {Fs : List Fl} (h : FsIn w b Fs) (n : Nat) (hn : Fs.length = n) (hn2 : n ≤ 10) (hx : ∀ x ∈ Fs, x.L.length ≤ 1000) :
    Calls Try.prog 37 #[.slice (some ⟨b, 0, none⟩) n n] w (TsOut (catL Fs) w) := by
  obtain ⟨i0, hi, hz0, hz1, hz2⟩ := info_parts Try.inTest
  have H := Lib.hid h
  have HN := Lib.hid hn
  have HT := Lib.hid (catL_take hx)
  have HX := Lib.hid hx
  clear h hn hx
  go_enter Try.func37, Try.ntmps37
  go_wp2
  go_loop [3, 11] (fun l i => ∃ k : Nat, k ≤ n ∧ i = .int .i64 (k : Int) ∧ l = .int .i64 ((catL (Fs.take k)).length : Int)) (fun _ i => n - (intOf i).toNat)
  case atStart => exact ⟨0, by omega, rfl, rfl⟩
  case round =>
    obtain ⟨k, hk, rfl, rfl⟩ := hrel
    have hlk := HT.out k
    by_cases hlt : k < n
    · have hlt2 : (k : Int) < n := by omega
      obtain ⟨x, hx⟩ : ∃ x, Fs[k]? = some x := ⟨_, List.getElem?_eq_getElem (by rw [HN.out]; exact hlt)⟩
      have hc := H.out.at hx
      have hfl := (H.out.fl x (List.mem_of_getElem? hx)).len
      have hx8 := HX.out x (List.mem_of_getElem? hx)
      have HS := Lib.hid (show (catL (Fs.take (k + 1))).length = (catL (Fs.take k)).length + x.n by rw [catL_snoc hx, List.length_append, hfl])
      rw [hfl] at hx8
      generalize (catL (Fs.take k)).length = l at hlk HS ⊢
      obtain ⟨xA, xn, xc, xL⟩ := x
      simp only at hc hx8 HS
      have hneg : ¬ ((l : Int) + (xn : Int) < 0) := by omega
      clear hfl hx
      go_wp2
      go_round
      case measure => simp [intOf]; omega
      case rel => exact ⟨k + 1, by omega, by go_num, by rw [HS.out]; simp⟩
    · obtain rfl : k = n := by omega
      have hlt2 : ¬ (k : Int) < (k : Int) := by omega
      have HE := Lib.hid (show Fs.take k = Fs by rw [List.take_of_length_le (by rw [HN.out]; exact Nat.le_refl _)])
      rw [HE.out] at hlk ⊢
      generalize (catL Fs).length = m at hlk ⊢
      go_wp2_with (go_at_call 39; refine (grow_any m (by omega)).mono ?_; rintro e w1 ⟨v1, rfl, ho1, hb1⟩; have HO1 := Lib.hid ho1; have HB1 := Lib.hid hb1; clear ho1 hb1)
      go_loopg [6, 27] k (fun g v i W => ∃ j : Nat, j + g = k ∧ i = .int .i64 (j : Int) ∧ W.ownsRow w.heap.size 52 3 v (catL (Fs.take j)).length (rowT (catL (Fs.take j))) ∧ Below w.heap.size w W)
      case atStart => exact ⟨0, by omega, rfl, HO1.out, HB1.out⟩
      case round =>
        obtain ⟨j, hj, rfl, hown, hB⟩ := hrel
        have HOW := Lib.hid hown
        have HW := Lib.hid hB
        clear hown hB
        by_cases hjt : j < k
        · have hjt2 : (j : Int) < k := by omega
          obtain ⟨x, hx⟩ : ∃ x, Fs[j]? = some x := ⟨_, List.getElem?_eq_getElem (by rw [HN.out]; exact hjt)⟩
          have hc := (H.out.below HW.out).at hx
          have HFL := Lib.hid ((H.out.below HW.out).fl x (List.mem_of_getElem? hx))
          have hx8 := HX.out x (List.mem_of_getElem? hx)
          have hlj := HT.out j
          have HS := Lib.hid (catL_snoc hx)
          rw [HFL.out.len] at hx8
          obtain ⟨xA, xn, xc, xL⟩ := x
          simp only at hc hx8 HS HFL
          clear hx
          go_wp2_with (at_builtin; refine app_optF rfl _ _ 22 rfl w.heap.size 52 i0 (.agg #[.int .i64 0, .int .i64 0, .int .i64 0]) 3 24 Try.underlying22 hi hz0 hz1 hz2 rfl (by decide) _ _ _ rfl HOW.out xA xn xc (rowT xL) rfl HFL.out.nil (by rw [rowT_len, HFL.out.len]) HFL.out.ts.news (rowT_one xL) (by unfold maxLen; omega) (by omega) HW.out.size ?_; intro v' w3 hown' hg3)
          go_roundg (k - (j + 1))
          case measure => omega
          case rel =>
            refine ⟨j + 1, by omega, by go_num, ?_, HW.out.grown hg3 HW.out.size (fun q hq => (HOW.out.lt q hq).1)⟩
            rw [HS.out, rowT_append, List.length_append, HFL.out.len]; exact hown'
        · obtain rfl : j = k := by omega
          have hjt2 : ¬ (j : Int) < (j : Int) := by omega
          go_wp2
          go_ret
          refine ⟨_, rfl, ?_, HW.out⟩
          have ho := HOW.out
          rw [HE.out] at ho
          exact ho
end Go.Proofs.Yteibholghonajaa
