/- The walk of IsaTexts. -/
import Derived.Test.YtnkkomodpjgefaaDoorIsaRP
import Derived.Test.YtnkkomodpjgefaaDoorIsaKnown
namespace Go.Proofs.YtnkkomodpjgefaaDoor
open Go.RowKit Go.Sort

theorem insEq_same (op d a b m : Int) : insEq op d a b m op d a b m = true := by unfold insEq; simp

set_option maxHeartbeats 1600000 in
set_option maxRecDepth 100000 in
theorem texts_y (op d a b m : Int) (s : ByteArray) (w : World) (he : Env w) (hs : s.size ≤ 4000) (hm : mayB op d a b m = true) :
    Calls Tryd.prog 5 #[.agg #[.int .i64 op, .int .i64 d, .int .i64 a, .int .i64 b, .int .i64 m], .string s] w fun e w' => e = .returned (.bool true) ∧ Below w.heap.size w w' := by
  have HM := Lib.hid hm
  have HE := Lib.hid he
  have hs' : (s.size : Int) ≤ 4000 := by omega
  have hne := neq_ins
  have hself := insEq_same
  clear hm he
  go_enter Tryd.func5, Tryd.ntmps5
  go_wp2_with (first
    | (go_at_call 19; refine (text_yes _ _ _ _ _ _ (HE.out.alloc _) HM.out).mono ?_; rintro e w1 ⟨rfl, hb1⟩
       have hB1 := Bl.step (Bl.alloc (Below.refl _ _) _) hb1
       have P1 := (InsIs.new w (.int .i64 op) (.int .i64 d) (.int .i64 a) (.int .i64 b) (.int .i64 m) 26).below hb1 (by simp)
       have hs1 := hb1.size
       simp at hs1)
    | (go_at_call 20; refine (parse_any s hs _ (Env.of' hB1 HE.out)).mono ?_; rintro e w2 ⟨rfl, hb2⟩
       have hB2 := Bl.step hB1 hb2
       have P2 := P1.below hb2 P1.2.2
       have hs2 := hb2.size)
    | (go_at_call 21; refine (rparse_any s hs _ (Env.of' (Bl.alloc hB2 _) HE.out)).mono ?_; rintro e w3 ⟨rfl, hb3⟩
       have hB3 := Bl.step (Bl.alloc hB2 _) hb3
       have hs3 := hb3.size
       simp at hs3
       have P3 := (P2.alloc _).below hb3 (by simp; omega)
       have P4 := P3
       obtain ⟨⟨a0, a1, a2, a3, a4⟩, -, aB⟩ := P3
       obtain ⟨⟨b0, b1, b2, b3, b4⟩, -, bB⟩ := (InsIs.new w2 (.int .i64 (qOp s)) (.int .i64 (qD s)) (.int .i64 (qA s)) (.int .i64 (qB s)) (.int .i64 (qM s)) 26).below hb3 (by simp))
    | (go_at_call 11; refine (num_any _ _).mono ?_; rintro e w7 ⟨rfl, rfl⟩)
    | (go_at_call 12; refine (rmay_at HM.out _).mono ?_; rintro e w4 ⟨rfl, hb4⟩
       have hB4 := Bl.step (Bl.alloc hB3 _) hb4
       obtain ⟨⟨c0, c1, c2, c3, c4⟩, -, cB⟩ := (P4.alloc _).below hb4 (by simp; omega))
    | (go_at_call 22; refine (rtext_yes _ _ _ _ _ _ (Env.of' hB4 HE.out) HM.out).mono ?_; rintro e w5 ⟨rfl, hb5⟩
       have hB5 := Bl.step hB4 hb5)
    | (go_at_call 8; refine (known_yes _ (Env.of' hB5 HE.out)).mono ?_; rintro e w6 ⟨rfl, hb6⟩))
  go_ret
  exact ⟨rfl, Bl.step hB5 hb6⟩

set_option maxHeartbeats 1600000 in
set_option maxRecDepth 100000 in
theorem texts_n (op d a b m : Int) (s : ByteArray) (w : World) (he : Env w) (hs : s.size ≤ 4000) (hm : mayB op d a b m = false) :
    Calls Tryd.prog 5 #[.agg #[.int .i64 op, .int .i64 d, .int .i64 a, .int .i64 b, .int .i64 m], .string s] w fun e w' => e = .returned (.bool true) ∧ Below w.heap.size w w' := by
  have HM := Lib.hid hm
  have HE := Lib.hid he
  have hs' : (s.size : Int) ≤ 4000 := by omega
  have hne := neq_ins
  have hself := insEq_same
  clear hm he
  go_enter Tryd.func5, Tryd.ntmps5
  go_wp2_with (first
    | (go_at_call 19; refine (text_no _ _ _ _ _ _ HM.out).mono ?_; rintro e w1 ⟨rfl, hb1⟩
       have hB1 := Bl.step (Bl.alloc (Below.refl _ _) _) hb1
       have P1 := (InsIs.new w (.int .i64 op) (.int .i64 d) (.int .i64 a) (.int .i64 b) (.int .i64 m) 26).below hb1 (by simp)
       have hs1 := hb1.size
       simp at hs1)
    | (go_at_call 20; refine (parse_any s hs _ (Env.of' hB1 HE.out)).mono ?_; rintro e w2 ⟨rfl, hb2⟩
       have hB2 := Bl.step hB1 hb2
       have P2 := P1.below hb2 P1.2.2
       have hs2 := hb2.size)
    | (go_at_call 21; refine (rparse_any s hs _ (Env.of' (Bl.alloc hB2 _) HE.out)).mono ?_; rintro e w3 ⟨rfl, hb3⟩
       have hB3 := Bl.step (Bl.alloc hB2 _) hb3
       have hs3 := hb3.size
       simp at hs3
       have P3 := (P2.alloc _).below hb3 (by simp; omega)
       have P4 := P3
       obtain ⟨⟨a0, a1, a2, a3, a4⟩, -, aB⟩ := P3
       obtain ⟨⟨b0, b1, b2, b3, b4⟩, -, bB⟩ := (InsIs.new w2 (.int .i64 (qOp s)) (.int .i64 (qD s)) (.int .i64 (qA s)) (.int .i64 (qB s)) (.int .i64 (qM s)) 26).below hb3 (by simp))
    | (go_at_call 11; refine (num_any _ _).mono ?_; rintro e w7 ⟨rfl, rfl⟩)
    | (go_at_call 12; refine (rmay_at HM.out _).mono ?_; rintro e w4 ⟨rfl, hb4⟩
       have hB4 := Bl.step (Bl.alloc hB3 _) hb4)
    | (go_at_call 8; refine (known_yes _ (Env.of' hB4 HE.out)).mono ?_; rintro e w6 ⟨rfl, hb6⟩))
  go_ret
  exact ⟨rfl, Bl.step hB4 hb6⟩

set_option maxHeartbeats 1600000 in
set_option maxRecDepth 100000 in
theorem texts_long (op d a b m : Int) (s : ByteArray) (w : World) (he : Env w) (hs : 4000 < s.size) :
    Calls Tryd.prog 5 #[.agg #[.int .i64 op, .int .i64 d, .int .i64 a, .int .i64 b, .int .i64 m], .string s] w fun e w' => e = .returned (.bool true) ∧ Below w.heap.size w w' := by
  have hs' : (4000 : Int) < (s.size : Int) := by omega
  go_enter Tryd.func5, Tryd.ntmps5
  go_wp2_with (go_at_call 8; refine (known_yes _ (he.alloc _)).mono ?_; rintro e w6 ⟨rfl, hb6⟩)
  go_ret
  exact ⟨rfl, Bl.step (Bl.alloc (Below.refl _ _) _) hb6⟩

theorem texts_any (op d a b m : Int) (s : ByteArray) (w : World) (he : Env w) :
    Calls Tryd.prog 5 #[.agg #[.int .i64 op, .int .i64 d, .int .i64 a, .int .i64 b, .int .i64 m], .string s] w fun e w' => e = .returned (.bool true) ∧ Below w.heap.size w w' := by
  by_cases hs : s.size ≤ 4000
  · cases hm : mayB op d a b m
    · exact texts_n op d a b m s w he hs hm
    · exact texts_y op d a b m s w he hs hm
  · exact texts_long op d a b m s w he (by omega)

end Go.Proofs.YtnkkomodpjgefaaDoor
