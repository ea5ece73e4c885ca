/- The fixed rows that every statement asks at its end. -/
import Derived.Test.YtnkkomodpjgefaaGreatDoorIsaP
import Derived.Test.YtnkkomodpjgefaaGreatDoorIsaRReads
import Derived.Laws.BytesArg
namespace Go.Proofs.YtnkkomodpjgefaaGreatDoor
open Go.RowKit Go.Sort

set_option maxHeartbeats 400000 in
theorem num_any (n : Int) (w : World) : Calls Tryz.prog 13 #[.int .i64 n] w fun e w' => e = .returned (.int .i64 n) ∧ w = w' := by
  go_enter Tryz.func13, Tryz.ntmps13
  go_wp2
  go_ret
  exact ⟨rfl, rfl⟩

theorem k_text : textOf 26 1 2 0 (-3) = ⟨#[98, 101, 113, 32, 114, 49, 32, 114, 50, 32, 45, 51]⟩ := by kernel_rfl
theorem k_parse : okP ⟨#[97, 100, 100, 105, 32, 114, 49, 32, 114, 50, 32, 48, 53]⟩ = false := by kernel_rfl
theorem k_of0 : isWord 0 = false := by kernel_rfl
theorem k_of1 : isWord 16777218 = false := by kernel_rfl
theorem k_reads : rdL 8 3 2 2 = [2] := by simp [rdL, rdRaw, nmA, nmB, formOf, asksOf, sort_two]; kernel_rfl
theorem k_may1 : mayB 26 1 2 0 (-3) = true := by kernel_rfl
theorem k_may2 : mayB 23 0 0 0 (-1) = true := by kernel_rfl
theorem k_may3 : mayB 20 1 2 0 0 = true := by kernel_rfl
theorem k_may4 : mayB 8 3 2 2 0 = true := by kernel_rfl

theorem own_string {w : World} {base n : Nat} {v : Value} {L : List Int} (h : w.ownsRow base 5 1 v n (L.map (Value.int .u8))) (hn : L.length = n) :
    (convert 22 9 v).run Tryz.prog w = .ok (.string (strOfNums L)) w := by
  subst hn
  have h' := h
  rcases h.2 with ⟨hnil, hx⟩ | ⟨g, cap, cur, rfl, hbase, hb, h1, h2, h3, h4⟩
  · have hz : L = [] := by simpa using hx
    subst hz hnil
    exact run_convert_bytes_nil w 22 5 Tryz.underlying22 Tryz.underlying5 0 0 9 Tryz.underlying9
  · refine run_convert_bytes_arg w 22 5 Tryz.underlying22 Tryz.underlying5 g 0 L.length cap L rfl (fun j hj => ?_) 9 Tryz.underlying9
    rw [Nat.zero_add, h'.cellAt j (by omega)]; simp [List.getD, List.getElem?_eq_getElem hj]
theorem k_bytes : strOfNums [5, 16, 254, 255, 8, 18, 3, 0, 2, 0, 0, 0] = ⟨#[5, 16, 254, 255, 8, 18, 3, 0, 2, 0, 0, 0]⟩ := by kernel_rfl
theorem k_wr : wrB 20 = false := by kernel_rfl
theorem k_ldV : ldV 23 (-1) 8 = 4 := by kernel_rfl
theorem k_ldB : ldB 23 = true := by kernel_rfl
theorem k_q : qE ⟨#[97, 100, 100, 105, 32, 114, 49, 32, 114, 50, 32, 48, 53]⟩ = 4 := by unfold qE; rw [k_parse]; rfl
theorem k_o0 : oE 0 = 4 := by unfold oE; rw [k_of0]; rfl
theorem k_o1 : oE 16777218 = 4 := by unfold oE; rw [k_of1]; rfl

def k3 (x y z : Int) (j : Nat) : Int := if j = 0 then x else if j = 1 then y else z
theorem k_words : wordsL (fun j => wordOf (k3 5 8 2 j) (k3 1 1 0 j) (k3 0 2 0 j) (k3 0 3 0 j) (k3 (-2) 0 0 j)) 3 = [5, 16, 254, 255, 8, 18, 3, 0, 2, 0, 0, 0] := by kernel_rfl
theorem k_may (j : Nat) : mayB (k3 5 8 2 j) (k3 1 1 0 j) (k3 0 2 0 j) (k3 0 3 0 j) (k3 (-2) 0 0 j) = true := by
  unfold k3; split
  · kernel_rfl
  · split <;> kernel_rfl

set_option maxHeartbeats 1600000 in
set_option maxRecDepth 100000 in
theorem known_yes (w : World) (he : Env w) :
    Calls Tryz.prog 4 #[] w fun e w' => e = .returned (.bool true) ∧ Below w.heap.size w w' := by
  have tok : True := trivial
  go_enter Tryz.func4, Tryz.ntmps4
  go_wp2_with (first
    | (go_at_call 7; refine (bytes_all w.heap.size 0 3 3 (k3 5 8 2) (k3 1 1 0) (k3 0 2 0) (k3 0 3 0) (k3 (-2) 0 0) _ (by omega) (by simp) ?_ (fun j _ => k_may j)).mono ?_
       · intro j hj
         have hj' : j = 0 ∨ j = 1 ∨ j = 2 := by omega
         rcases hj' with rfl | rfl | rfl <;> simp [k3]
       rintro e w1 ⟨v1, rfl, h1, hb1⟩
       rw [k_words] at h1
       have he1 := (he.alloc _).below hb1)
    | (go_at_call 8; refine (text_yes 26 1 2 0 (-3) _ he1 k_may1).mono ?_; rw [k_text]; rintro e w2 ⟨rfl, hb2⟩; have he2 := he1.below hb2; have h2 := own_below h1 hb2)
    | (go_at_call 9; refine (parse_any ⟨#[97, 100, 100, 105, 32, 114, 49, 32, 114, 50, 32, 48, 53]⟩ (by decide) _ he2).mono ?_; rw [k_q]; rintro e w3 ⟨rfl, hb3⟩; have he3 := he2.below hb3; have h3 := own_below h2 hb3)
    | (go_at_call 10; have tik := tok; clear tik tok; refine (of_any 0 _ (by omega) (by omega)).mono ?_; rw [k_o0]; rintro e w4 ⟨rfl, hb4⟩; have h4 := own_below (h3.alloc _) hb4)
    | (go_at_call 10; refine (of_any 16777218 _ (by omega) (by omega)).mono ?_; rw [k_o1]; rintro e w5 ⟨rfl, hb5⟩; have h5 := own_below (h4.alloc _) hb5)
    | (go_at_call 11; refine (leads_yes 23 0 0 0 (-1) 8 _ k_may2 (by omega) (by omega)).mono ?_; rw [k_ldV, k_ldB]; rintro e w6 ⟨rfl, hb6⟩; have h6 := own_below (h5.alloc _) hb6)
    | (go_at_call 12; refine (writes_may 20 1 2 0 0 _ k_may3).mono ?_; rw [k_wr]; rintro e w7 ⟨rfl, hb7⟩; have h7 := own_below h6 hb7; have hcv := own_string h7 rfl; rw [k_bytes] at hcv)
    | (go_at_call 13; refine (num_any _ _).mono ?_; rintro e w8 ⟨rfl, rfl⟩)
    | (go_at_call 15; refine (reads_may 8 3 2 2 0 _ k_may4).mono ?_; rw [k_reads]; rintro e w9 ⟨v9, rfl, h9, hb9⟩)
    | (go_at_call 14; refine (same_any (L1 := [2]) (L2 := [2]) (h9.below ((Below.refl _ _).alloc (Nat.le_refl _) _)) (Or.inr ⟨_, _, _, rfl, fun j hj => ?_⟩) (by decide) (by decide)).mono ?_
       · have : j = 0 := by simp at hj; omega
         subst this; simp
       rintro e w10 ⟨rfl, q, rfl⟩))
  go_ret
  refine ⟨rfl, ?_⟩
  repeat (first | exact Below.refl _ _ | refine Bl.drew ?_ | refine Bl.drewN ?_ _ | refine Bl.alloc ?_ _ | refine Bl.step ?_ (by assumption))

end Go.Proofs.YtnkkomodpjgefaaGreatDoor
