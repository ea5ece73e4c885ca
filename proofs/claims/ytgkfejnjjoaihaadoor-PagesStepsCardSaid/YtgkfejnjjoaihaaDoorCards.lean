/-
  DERIVED. GIVEN WITH THE SEED: THE CARDS: each row of YtgkfejnjjoaihaaDoorRows.lean that lists a variable, with what it lists TIED to the program's text (the seventh form; the later family's looks); each row that meets fmt, with fmt's text TOLD by the authors' own Lean function (tested against real Go, not proved from fmt's source: count such statements apart). THE CARD IS WHAT COUNTS. Prove the row's statement (the work); the ties are given (YtgkfejnjjoaihaaDoorTie.lean); close each card by the builder's one call (the guide's Derived/Test/ToyasCard.lean, 'card_holds'). Laid BY PROGRAM, IN A SANDBOX (cutbox-door.mjs). By AI agents, Wed Nov 11 2026. No macro, syntax, notation, axiom, sorry.
-/
import Derived.Test.YtgkfejnjjoaihaaDoorRows
import GoSem.ClaimSeven
namespace Go.Proofs.YtgkfejnjjoaihaaDoor
namespace Rows

/-- THE TIED CARD OF 'steadinglaw07.PagesSteps'. -/
def pagesStepsCard : Claim7 := { stood := { row := pagesStepsRow, standIns := [], harness := (true, "8530505c0551274c148d2d6a2cc9ee8a04d9786af795a741befd299423499697"), looks := true }, kinds := [], alts := [], laidByText := true, laidKinds := [.data], laidTests := true, laidLooks := .later }
def PagesStepsCardSaid : Prop := Claim7.holds Tryd.pinned (.plain (OpenSpec.ofChange pagesStepsSpec)) pagesStepsCard

/-- THE TIED CARD OF 'steadinglaw07.PagesAsks'. -/
def pagesAsksCard : Claim7 := { stood := { row := pagesAsksRow, standIns := [], harness := (true, "8530505c0551274c148d2d6a2cc9ee8a04d9786af795a741befd299423499697"), looks := true }, kinds := [], alts := [], laidByText := true, laidKinds := [.data], laidTests := true, laidLooks := .later }
def PagesAsksCardSaid : Prop := Claim7.holds Tryd.pinned (.plain (OpenSpec.ofChange pagesAsksSpec)) pagesAsksCard

/-- THE TIED CARD OF 'steadinglaw07.PagesApart'. -/
def pagesApartCard : Claim7 := { stood := { row := pagesApartRow, standIns := [], harness := (true, "8530505c0551274c148d2d6a2cc9ee8a04d9786af795a741befd299423499697"), looks := true }, kinds := [], alts := [], laidByText := true, laidKinds := [.data], laidTests := true, laidLooks := .later }
def PagesApartCardSaid : Prop := Claim7.holds Tryd.pinned (.plain (OpenSpec.ofChange pagesApartSpec)) pagesApartCard

/-- THE TIED CARD OF 'steadinglaw07.PagesSame'. -/
def pagesSameCard : Claim7 := { stood := { row := pagesSameRow, standIns := [], harness := (true, "8530505c0551274c148d2d6a2cc9ee8a04d9786af795a741befd299423499697"), looks := true }, kinds := [], alts := [], laidByText := true, laidKinds := [.data], laidTests := true, laidLooks := .later }
def PagesSameCardSaid : Prop := Claim7.holds Tryd.pinned (.plain (OpenSpec.ofChange pagesSameSpec)) pagesSameCard

/-- THE TIED CARD OF 'steadinglaw07.PagesBoth'. -/
def pagesBothCard : Claim7 := { stood := { row := pagesBothRow, standIns := [], harness := (true, "8530505c0551274c148d2d6a2cc9ee8a04d9786af795a741befd299423499697"), looks := true }, kinds := [], alts := [], laidByText := true, laidKinds := [.data], laidTests := true, laidLooks := .later }
def PagesBothCardSaid : Prop := Claim7.holds Tryd.pinned (.plain (OpenSpec.ofChange pagesBothSpec)) pagesBothCard

/-- THE TIED CARD OF 'steadinglaw07.PagesNil'. -/
def pagesNilCard : Claim7 := { stood := { row := pagesNilRow, standIns := [], harness := (true, "8530505c0551274c148d2d6a2cc9ee8a04d9786af795a741befd299423499697"), looks := true }, kinds := [], alts := [], laidByText := true, laidKinds := [.data], laidTests := true, laidLooks := .later }
def PagesNilCardSaid : Prop := Claim7.holds Tryd.pinned (.plain (OpenSpec.ofChange pagesNilSpec)) pagesNilCard

/-- THE SECOND FORM's CARD OF 'steadinglaw07.PagesSteps'. -/
def pagesStepsUptoCard : Claim7 := { stood := { row := pagesStepsUptoRow, standIns := [], harness := (true, "8530505c0551274c148d2d6a2cc9ee8a04d9786af795a741befd299423499697"), looks := true }, kinds := [], alts := [], laidByText := true, laidKinds := [.data], laidTests := true, laidLooks := .later }
def PagesStepsUptoCardSaid : Prop := Claim7.holds Tryd.pinned (.plain (OpenSpec.upto pagesStepsSpec)) pagesStepsUptoCard

/-- THE SECOND FORM's CARD OF 'steadinglaw07.PagesAsks'. -/
def pagesAsksUptoCard : Claim7 := { stood := { row := pagesAsksUptoRow, standIns := [], harness := (true, "8530505c0551274c148d2d6a2cc9ee8a04d9786af795a741befd299423499697"), looks := true }, kinds := [], alts := [], laidByText := true, laidKinds := [.data], laidTests := true, laidLooks := .later }
def PagesAsksUptoCardSaid : Prop := Claim7.holds Tryd.pinned (.plain (OpenSpec.upto pagesAsksSpec)) pagesAsksUptoCard

/-- THE SECOND FORM's CARD OF 'steadinglaw07.PagesApart'. -/
def pagesApartUptoCard : Claim7 := { stood := { row := pagesApartUptoRow, standIns := [], harness := (true, "8530505c0551274c148d2d6a2cc9ee8a04d9786af795a741befd299423499697"), looks := true }, kinds := [], alts := [], laidByText := true, laidKinds := [.data], laidTests := true, laidLooks := .later }
def PagesApartUptoCardSaid : Prop := Claim7.holds Tryd.pinned (.plain (OpenSpec.upto pagesApartSpec)) pagesApartUptoCard

/-- THE SECOND FORM's CARD OF 'steadinglaw07.PagesSame'. -/
def pagesSameUptoCard : Claim7 := { stood := { row := pagesSameUptoRow, standIns := [], harness := (true, "8530505c0551274c148d2d6a2cc9ee8a04d9786af795a741befd299423499697"), looks := true }, kinds := [], alts := [], laidByText := true, laidKinds := [.data], laidTests := true, laidLooks := .later }
def PagesSameUptoCardSaid : Prop := Claim7.holds Tryd.pinned (.plain (OpenSpec.upto pagesSameSpec)) pagesSameUptoCard

/-- THE SECOND FORM's CARD OF 'steadinglaw07.PagesBoth'. -/
def pagesBothUptoCard : Claim7 := { stood := { row := pagesBothUptoRow, standIns := [], harness := (true, "8530505c0551274c148d2d6a2cc9ee8a04d9786af795a741befd299423499697"), looks := true }, kinds := [], alts := [], laidByText := true, laidKinds := [.data], laidTests := true, laidLooks := .later }
def PagesBothUptoCardSaid : Prop := Claim7.holds Tryd.pinned (.plain (OpenSpec.upto pagesBothSpec)) pagesBothUptoCard

/-- THE SECOND FORM's CARD OF 'steadinglaw07.PagesNil'. -/
def pagesNilUptoCard : Claim7 := { stood := { row := pagesNilUptoRow, standIns := [], harness := (true, "8530505c0551274c148d2d6a2cc9ee8a04d9786af795a741befd299423499697"), looks := true }, kinds := [], alts := [], laidByText := true, laidKinds := [.data], laidTests := true, laidLooks := .later }
def PagesNilUptoCardSaid : Prop := Claim7.holds Tryd.pinned (.plain (OpenSpec.upto pagesNilSpec)) pagesNilUptoCard
end Rows
end Go.Proofs.YtgkfejnjjoaihaaDoor
