/- FilterBoth, all ways. -/
import Derived.Test.YteibholghonajaaFiQ0
import Derived.Test.YteibholghonajaaFiQ3
namespace Go.Proofs.Yteibholghonajaa
open Go.RowKit
theorem fboth_law {w : World} {A A' B : Option Addr} {n c m d pn pc : Nat} {L K : List Ts} {P : List Nat} (h : FlIn w A n c L) (h63 : (n : Int) ≤ 9223372036854775807) (k : FlIn w A' m d K) (k63 : (m : Int) ≤ 9223372036854775807) (hp : PkIn w B P) (hpn : P.length = pn) (p63 : (pn : Int) ≤ 9223372036854775807) :
    Calls Try.prog 5 #[.slice A n c, .slice A' m d, .slice B pn pc] w fun e w' => e = .returned (.bool true) ∧ Below w.heap.size w w' := by
  by_cases hbig : 40 < n ∨ (n ≤ 40 ∧ 40 < m) ∨ (n ≤ 40 ∧ m ≤ 40 ∧ 300 < pn)
  · exact fboth_big h63 k63 p63 hbig
  · cases hl : mayF L with
    | false => exact fboth_not h k (by omega) (by omega) (by omega) (.inl hl)
    | true =>
      cases hk : mayF K with
      | false => exact fboth_not h k (by omega) (by omega) (by omega) (.inr ⟨hl, hk⟩)
      | true =>
        obtain ⟨N, rfl, hN⟩ := may_n hl
        obtain ⟨M, rfl, hM⟩ := may_n hk
        by_cases g : Good (N ++ M)
        · by_cases h8 : (testsS (sumN (N ++ M))).length ≤ 8
          · exact fboth_good0 h k (by omega) (by omega) (by omega) hp hpn hN hM g h8
          · exact fboth_good3 h k (by omega) (by omega) (by omega) hp hpn hN hM g h8
        · exact fboth_bad h k (by omega) (by omega) (by omega) hp hpn hN hM g
end Go.Proofs.Yteibholghonajaa
