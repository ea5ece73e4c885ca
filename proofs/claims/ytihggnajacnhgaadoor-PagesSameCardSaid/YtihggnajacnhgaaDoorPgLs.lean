/- The law PagesSame. -/
import Derived.Test.YtihggnajacnhgaaDoorPgDg
namespace Go.Proofs.YtihggnajacnhgaaDoor
open Go.RowKit

set_option maxRecDepth 100000 in
set_option maxHeartbeats 1000000 in
theorem same_law {w : World} {A A' : Option Addr} {n c n' c' : Nat} {R R' : Nat → Stp} (h : StepsOf7 w A n R) (h' : StepsOf7 w A' n' R') (hz : TzTab w) :
    Calls Tryd.prog 6 #[.slice A n c, .slice A' n' c'] w fun e w' => e = .returned (.bool true) ∧ Below w.heap.size w w' := by
  have H' := Lib.hid h'
  have HZ := Lib.hid hz
  have HG := Lib.hid (grown_any (c := c) h)
  clear h h' hz
  go_enter Tryd.func6, Tryd.ntmps6
  go_wp2_with fail
  refine HG.out.mono ?_
  rintro e w1 ⟨t1, b1, q1, N1, k1, rfl, -, -, hd1⟩
  have D1 := Lib.hid hd1
  have HG' := Lib.hid (grown_any (c := c') (H'.out.below hd1.tr))
  clear hd1
  obtain ⟨T1, hT1⟩ : ∃ T1, grownT R k1 = T1 := ⟨_, rfl⟩
  rw [hT1] at D1
  clear hT1
  go_wp2_with fail
  refine HG'.out.mono ?_
  rintro e w2 ⟨t2, b2, q2, N2, k2, rfl, -, -, hd2⟩
  have D1 := Lib.hid (D1.out.same hd2.tr)
  have D2 := Lib.hid hd2
  have HB := Lib.hid hd2.tr
  clear hd2
  obtain ⟨T2, hT2⟩ : ∃ T2, grownT R' k2 = T2 := ⟨_, rfl⟩
  rw [hT2] at D2
  clear hT2
  go_wp2_with fail
  refine (same_any D1.out.pt D2.out.pt).mono ?_
  rintro e w3 ⟨rfl, hb⟩
  have D1 := Lib.hid (D1.out.same hb)
  have D2 := Lib.hid (D2.out.same hb)
  clear hb
  go_wp2_with fail
  refine (q_same D1.out.qt D2.out.qt).mono ?_
  rintro e w4 ⟨rfl, hb⟩
  have D1 := Lib.hid (D1.out.same hb)
  clear hb
  obtain ⟨s, hs⟩ : ∃ s, sameB T1 T2 = s := ⟨_, rfl⟩
  rw [hs]
  clear hs
  go_wp2_with fail
  refine (same_any D1.out.pt D1.out.pt).mono ?_
  rintro e w5 ⟨rfl, hb⟩
  rw [(sameB_iff T1 T1).2 rfl]
  have D1 := Lib.hid (D1.out.same hb)
  clear hb
  go_wp2_with fail
  refine (known_any _ (HZ.out.below D1.out.tr HZ.out.lt)).mono ?_
  rintro e w6 ⟨rfl, hb⟩
  have D1 := Lib.hid (D1.out.same hb)
  clear hb
  go_wp2_with fail
  go_ret
  exact ⟨rfl, D1.out.tr⟩
end Go.Proofs.YtihggnajacnhgaaDoor
