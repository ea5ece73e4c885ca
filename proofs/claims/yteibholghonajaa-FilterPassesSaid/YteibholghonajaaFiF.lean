/- Plain of the document. -/
import Derived.Test.YteibholghonajaaFiE
namespace Go.Proofs.Yteibholghonajaa
open Go.RowKit

def testsTo (s : Sm) (k : Nat) : List Tn := ((List.range k).filter fun i => s.M i != 0 || i + 1 == s.size).map fun i => ⟨i, s.M i, s.V i⟩
theorem testsTo_all (s : Sm) : testsTo s s.size = testsS s := rfl
theorem testsTo_succ (s : Sm) (k : Nat) : testsTo s (k + 1) = testsTo s k ++ (if (s.M k != 0 || k + 1 == s.size) = true then [⟨k, s.M k, s.V k⟩] else []) := by
  unfold testsTo
  rw [List.range_succ, List.filter_append, List.map_append]
  congr 1
  by_cases h : (s.M k != 0 || k + 1 == s.size) = true
  · rw [if_pos h]; simp only [List.filter_cons, h]; rfl
  · rw [if_neg h]; simp only [List.filter_cons, h]; rfl
theorem testsTo_len (s : Sm) (k : Nat) : (testsTo s k).length ≤ k := by
  unfold testsTo
  rw [List.length_map]
  exact Nat.le_trans (List.length_filter_le _ _) (by simp)
def rowN (N : List Tn) : List Value := rowT (N.map Tn.ts)
theorem rowN_snoc (N : List Tn) (n : Tn) : rowN (N ++ [n]) = rowN N ++ [.int .i64 (n.p : Int), .int .i64 (n.m : Int), .int .i64 (n.v : Int)] := by
  unfold rowN; rw [List.map_append, rowT_append]; rfl
theorem own_cell {w : World} {B g cap n : Nat} {l : List Nat} (h : w.ownsRow B 5 1 (.slice (some ⟨g, 0, none⟩) n cap) n (byL l)) {i x : Nat} (hx : l[i]? = some x) : w.cell? ⟨g, i, none⟩ = some (.int .u8 (x : Int)) := by
  have k := h.cells (g := g) rfl i (.int .u8 (x : Int)) (by unfold byL; rw [List.getElem?_map, hx]; rfl)
  rw [add_plain, Nat.zero_add] at k
  exact k
theorem own_base {w : World} {B B' : Nat} {e : TypeId} {v : Value} {k n : Nat} {xs : List Value} (h : w.ownsRow B e k v n xs) (hb : B' ≤ B) : w.ownsRow B' e k v n xs := by
  refine ⟨h.1, ?_⟩
  rcases h.2 with h | ⟨g, cap, cur, h1, h2, h3⟩
  · exact .inl h
  · exact .inr ⟨g, cap, cur, h1, Nat.le_trans hb h2, h3⟩
set_option maxHeartbeats 4000000 in
set_option maxRecDepth 100000 in
theorem qplain_any {w : World} {A : Option Addr} {N : List Tn} (h : TsIn w A (N.map Tn.ts)) (ho : ∀ t ∈ N, t.Ok) (hg : Good N) (n c : Nat) (hn : N.length = n) (hn2 : n ≤ 1000) :
    Calls Try.prog 18 #[.slice A n c] w (TsOut ((testsS (sumN N)).map Tn.ts) w) := by
  obtain ⟨i0, hi, hz0, hz1, hz2⟩ := info_parts Try.inTest
  have HLE := Lib.hid (qleast_any h ho n c hn hn2)
  rw [leastL_good ho hg] at HLE
  have H := Lib.hid h
  have HN := Lib.hid hn
  have HO := Lib.hid ho
  have h64 := long_bound ho
  have HV8 := Lib.hid (sum_V256 ho)
  have HM8 := Lib.hid (sum_M256 ho)
  have HMM := Lib.hid (sum_M N)
  clear h hn ho hg
  have hsz := sum_size N
  obtain ⟨s, hs⟩ : ∃ s, sumN N = s := ⟨_, rfl⟩
  rw [hs] at HLE HV8 HM8 HMM hsz ⊢
  obtain ⟨l, hl⟩ : ∃ l, longN N = l := ⟨_, rfl⟩
  rw [hl] at HLE h64 hsz
  have HSZ := Lib.hid hsz
  clear hl hs hsz
  go_enter Try.func18, Try.ntmps18
  go_wp2_with (go_at_call 16; refine HLE.out.mono ?_; rintro e w1 ⟨hb1, v1, rfl, hown1⟩; have HB1 := Lib.hid hb1; rw [show ((List.range l).map s.V).length = l by simp] at hown1; have HOW1 := Lib.hid hown1; obtain ⟨A1, c1, rfl, hA1, hA2⟩ := own_form hown1; have HA2 := Lib.hid hA2; clear hb1 hown1 hA1 hA2)
  go_loopg [5, 6] l (fun g v i W => ∃ k : Nat, k + g = l ∧ i = .int .i64 (k : Int) ∧ W.ownsRow w1.heap.size 52 3 v (testsTo s k).length (rowN (testsTo s k)) ∧ Below w1.heap.size w1 W)
  case atStart => exact ⟨0, by omega, rfl, World.ownsRow_nil _ _ _ _, Below.refl _ _⟩
  case round =>
    obtain ⟨k, hk, rfl, hown, hB⟩ := hrel
    have HOW := Lib.hid hown
    have HW := Lib.hid hB
    have HWW := Lib.hid (HB1.out.trans (hB.mono HB1.out.size))
    have HMK := Lib.hid (qmask_any (H.out.below HWW.out) HO.out n c HN.out hn2 k (by omega))
    rw [← HMM.out] at HMK
    clear hown hB
    by_cases hlt : k < l
    · have hlt2 : (k : Int) < l := by omega
      have HTS := Lib.hid (testsTo_succ s k)
      have hM8 := HM8.out k
      have hV8 := HV8.out k
      have hcell : ∃ g, A1 = some ⟨g, 0, none⟩ ∧ g < w1.heap.size ∧ wr.cell? ⟨g, k, none⟩ = some (.int .u8 (s.V k : Int)) := by
        cases A1 with
        | none =>
          have ho1 := HOW1.out
          obtain ⟨A', c', e, h0, -⟩ := own_form ho1
          cases e
          have := (h0 rfl).1; omega
        | some ad =>
          obtain ⟨g, rfl, -, hg, -⟩ := HA2.out ad rfl
          exact ⟨g, rfl, hg, own_cell (own_stepF HOW1.out HW.out) (by rw [List.getElem?_map, List.getElem?_range hlt]; rfl)⟩
      obtain ⟨g, rfl, hgl, hc⟩ := hcell
      have hlen := testsTo_len s k
      generalize hmk : s.M k = mk at hM8 HMK HTS
      generalize hvk : s.V k = vk at hV8 hc HTS
      have HSL := Lib.hid (HSZ.out)
      by_cases hm0 : mk = 0
      · have hb0 : ((mk : Int) != 0) = false := by rw [hm0]; rfl
        by_cases hlast : k + 1 = l
        · have hb1 : ((k : Int) == (l : Int) - 1) = true := by simp; omega
          have hb1' : decide ((k : Int) = (l : Int) - 1) = true := by simp; omega
          have HT2 := Lib.hid (show testsTo s (k + 1) = testsTo s k ++ [⟨k, mk, vk⟩] by rw [HTS.out, if_pos (by rw [HSL.out]; simp [hlast])])
          clear hm0 HTS hmk hvk
          go_wp2_with (first
            | (go_at_call 33; refine HMK.out.mono ?_; rintro e w' ⟨rfl, rfl⟩)
            | (at_builtin; refine wpList_append_own _ rfl _ _ 22 rfl w1.heap.size 52 i0 (.agg #[.int .i64 0, .int .i64 0, .int .i64 0]) 3 24 Try.underlying22 hi hz0 hz1 hz2 rfl (by decide) _ _ _ rfl (HOW.out.alloc _) ⟨wr.heap.size, 0, none⟩ 1 1 [.int .i64 (k : Int), .int .i64 (mk : Int), .int .i64 (vk : Int)] rfl rfl (cells_new _ _ _) (by simp [Value.oneCell']) (by unfold maxLen; omega) (by omega) (by have := HW.out.size; simp; omega) ?_; intro v' w3 hown' hg3 hnil3))
          all_goals
            go_roundg (l - (k + 1))
            case measure => omega
            case rel =>
              refine ⟨k + 1, by omega, by go_num, ?_, ?_⟩
              · rw [HT2.out, rowN_snoc, List.length_append]; exact hown'
              · exact (HW.out.alloc HW.out.size _).grown hg3 (by have := HW.out.size; simp; omega) (fun j hj => (HOW.out.lt j hj).1)
          
        · have hb1 : ((k : Int) == (l : Int) - 1) = false := by simp; omega
          have hb1' : decide ((k : Int) = (l : Int) - 1) = false := by simp; omega
          have HT2 := Lib.hid (show testsTo s (k + 1) = testsTo s k by rw [HTS.out, if_neg (by rw [HSL.out]; simp [hlast, hm0]), List.append_nil])
          clear hm0 HTS hmk hvk
          go_wp2_with (go_at_call 33; refine HMK.out.mono ?_; rintro e w' ⟨rfl, rfl⟩)
          all_goals
            go_roundg (l - (k + 1))
            case measure => omega
            case rel => exact ⟨k + 1, by omega, by go_num, by rw [HT2.out]; exact HOW.out, HW.out⟩
      · have hb0 : ((mk : Int) != 0) = true := by rw [bne_iff_ne]; omega
        have HT2 := Lib.hid (show testsTo s (k + 1) = testsTo s k ++ [⟨k, mk, vk⟩] by rw [HTS.out, if_pos (by simp [hm0])])
        clear hm0 HTS hmk hvk
        go_wp2_with (first
          | (go_at_call 33; refine HMK.out.mono ?_; rintro e w' ⟨rfl, rfl⟩)
          | (at_builtin; refine wpList_append_own _ rfl _ _ 22 rfl w1.heap.size 52 i0 (.agg #[.int .i64 0, .int .i64 0, .int .i64 0]) 3 24 Try.underlying22 hi hz0 hz1 hz2 rfl (by decide) _ _ _ rfl (HOW.out.alloc _) ⟨wr.heap.size, 0, none⟩ 1 1 [.int .i64 (k : Int), .int .i64 (mk : Int), .int .i64 (vk : Int)] rfl rfl (cells_new _ _ _) (by simp [Value.oneCell']) (by unfold maxLen; omega) (by omega) (by have := HW.out.size; simp; omega) ?_; intro v' w3 hown' hg3 hnil3))
        all_goals
          go_roundg (l - (k + 1))
          case measure => omega
          case rel =>
            refine ⟨k + 1, by omega, by go_num, ?_, ?_⟩
            · rw [HT2.out, rowN_snoc, List.length_append]; exact hown'
            · exact (HW.out.alloc HW.out.size _).grown hg3 (by have := HW.out.size; simp; omega) (fun j hj => (HOW.out.lt j hj).1)
        
    · obtain rfl : k = l := by omega
      have hlt2 : ¬ (k : Int) < (k : Int) := by omega
      go_wp2
      go_ret
      refine ⟨_, rfl, ?_, HWW.out⟩
      have he : testsTo s k = testsS s := by rw [← HSZ.out, testsTo_all]
      have ho := own_base HOW.out HB1.out.size
      rw [he] at ho
      rw [List.length_map]
      exact ho
end Go.Proofs.Yteibholghonajaa
