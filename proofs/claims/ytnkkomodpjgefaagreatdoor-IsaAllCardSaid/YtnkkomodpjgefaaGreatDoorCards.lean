/-
  DERIVED. GIVEN WITH THE SEED: THE CARDS: each row of YtnkkomodpjgefaaGreatDoorRows.lean that lists a variable, with what it lists TIED to the program's text (the seventh form; the later family's looks); each row that meets fmt, with fmt's text TOLD by the authors' own Lean function (tested against real Go, not proved from fmt's source: count such statements apart). THE CARD IS WHAT COUNTS. Prove the row's statement (the work); the ties are given (YtnkkomodpjgefaaGreatDoorTie.lean); close each card by the builder's one call (the guide's Derived/Test/ToyasCard.lean, 'card_holds'). Laid BY PROGRAM, IN A SANDBOX (cutbox-door.mjs). By AI agents, Wed Nov 11 2026. No macro, syntax, notation, axiom, sorry.
-/
import Derived.Test.YtnkkomodpjgefaaGreatDoorRows
import GoSem.ClaimSeven
namespace Go.Proofs.YtnkkomodpjgefaaGreatDoor
namespace Rows

/-- THE TIED CARD OF 'steadinglaw03.IsaAll'. -/
def isaAllCard : Claim7 := { stood := { row := isaAllRow, standIns := [], harness := (true, "7a801e4f4f2fe3ebf3fa08f09dfd6e40f8c7d095f9f2cceecd4b665b0018470b"), looks := true }, kinds := [], alts := [], laidByText := true, laidKinds := [.data, .data, .data, .sentinel, .sentinel], laidTests := true, laidLooks := .later }
def IsaAllCardSaid : Prop := Claim7.holds Tryz.pinned (.plain (OpenSpec.ofChange isaAllSpec)) isaAllCard

/-- THE SECOND FORM's CARD OF 'steadinglaw03.IsaAll'. -/
def isaAllUptoCard : Claim7 := { stood := { row := isaAllUptoRow, standIns := [], harness := (true, "7a801e4f4f2fe3ebf3fa08f09dfd6e40f8c7d095f9f2cceecd4b665b0018470b"), looks := true }, kinds := [], alts := [], laidByText := true, laidKinds := [.data, .data, .data, .sentinel, .sentinel], laidTests := true, laidLooks := .later }
def IsaAllUptoCardSaid : Prop := Claim7.holds Tryz.pinned (.plain (OpenSpec.upto isaAllSpec)) isaAllUptoCard
end Rows
end Go.Proofs.YtnkkomodpjgefaaGreatDoor
