/-
  No cell of these rows narrows 'for every input' (looked for: loops, veiled, ifaces, maps, wideKeys, modest, calm, conditions, laid).
  DERIVED. THE GIVEN ROWS OF THIS SEAT. 5 by the template 'for every input the law returns true; each argument reads behind the call as it read before'; 0 by the template 'total and deterministic' (their statements: YtgpdkfmneoggkaaTotals.lean).
  GIVEN WITH THE SEED: the statements are not yours to turn. If you find one false, say at which input.
  Laid BY PROGRAM, IN A SANDBOX (cutbox-rows.mjs): the forced cells as the released guide's own fill.sh prints them over the translation e0053adb3f4c5190… (all of the seat's roots in one cut). By AI agents, Wed Nov 11 2026. No macro, syntax, notation, axiom, sorry.
-/
import Derived.Test.YtgpdkfmneoggkaaChecked
import GoSem.Claim
import GoSem.ClaimJoined
import GoSem.ClaimMapViews
import Derived.JoinedTies
import Derived.KernelRfl
namespace Go.Proofs.Ytgpdkfmneoggkaa
/- THE CELL 'sum', in the pinned program and in every row, IS THE sha256 OF THE DUMP (.gsa) THAT YtgpdkfmneoggkaaProg.lean LOADS. Nothing in Lean hashes anything: it is a label: what it is worth is what the hold of that sum in a sandbox is worth. -/
noncomputable def Try.pinned : Pinned := { name := "ytgpdkfmneoggkaa", sum := "e0053adb3f4c519043c8982094f64ece007e935e47a01aa26816d5c7e29e4ee1", checked := Try.checked }
namespace Rows
def none {H : Type} : Left H := { results := [], args := [] }

/-- 'steadinglaw10.ExtentsSteps': WHATEVER THE INPUT: true; the input reads as it did. -/
def extentsStepsSpec : ChangeSpec := { name := "extentsSteps", fn := fun _ => fun
  | [d1, d2, d3] => { results := [.lit (.bool true)], args := [d1, d2, d3] }
  | _ => none }
def extentsStepsRow : OpenClaim := { program := "ytgpdkfmneoggkaa", sum := "e0053adb3f4c519043c8982094f64ece007e935e47a01aa26816d5c7e29e4ee1", func := "steading/steadinglaw10.ExtentsSteps", spec := "extentsSteps", unfollowed := true, recurses := true, apart := false }
def ExtentsStepsSaid : Prop := extentsStepsRow.holds Try.pinned (OpenSpec.ofChange extentsStepsSpec)

/-- ITS FALSE NEIGHBOUR: 'it returns false'. Refute it at one input. -/
def extentsStepsWrong : ChangeSpec := { name := "extentsSteps", fn := fun _ => fun
  | [d1, d2, d3] => { results := [.lit (.bool false)], args := [d1, d2, d3] }
  | _ => none }
def ExtentsStepsWrongFalsely : Prop := extentsStepsRow.holds Try.pinned (OpenSpec.ofChange extentsStepsWrong)

/-- 'steadinglaw10.ExtentsNew': WHATEVER THE INPUT: true; the input reads as it did. -/
def extentsNewSpec : ChangeSpec := { name := "extentsNew", fn := fun _ => fun
  | [d1, d2] => { results := [.lit (.bool true)], args := [d1, d2] }
  | _ => none }
def extentsNewRow : OpenClaim := { program := "ytgpdkfmneoggkaa", sum := "e0053adb3f4c519043c8982094f64ece007e935e47a01aa26816d5c7e29e4ee1", func := "steading/steadinglaw10.ExtentsNew", spec := "extentsNew", unfollowed := true, recurses := true, apart := false }
def ExtentsNewSaid : Prop := extentsNewRow.holds Try.pinned (OpenSpec.ofChange extentsNewSpec)

/-- ITS FALSE NEIGHBOUR: 'it returns false'. Refute it at one input. -/
def extentsNewWrong : ChangeSpec := { name := "extentsNew", fn := fun _ => fun
  | [d1, d2] => { results := [.lit (.bool false)], args := [d1, d2] }
  | _ => none }
def ExtentsNewWrongFalsely : Prop := extentsNewRow.holds Try.pinned (OpenSpec.ofChange extentsNewWrong)

/-- 'steadinglaw10.ExtentsFirst': WHATEVER THE INPUT: true; the input reads as it did. -/
def extentsFirstSpec : ChangeSpec := { name := "extentsFirst", fn := fun _ => fun
  | [d1, d2, d3] => { results := [.lit (.bool true)], args := [d1, d2, d3] }
  | _ => none }
def extentsFirstRow : OpenClaim := { program := "ytgpdkfmneoggkaa", sum := "e0053adb3f4c519043c8982094f64ece007e935e47a01aa26816d5c7e29e4ee1", func := "steading/steadinglaw10.ExtentsFirst", spec := "extentsFirst", apart := false }
def ExtentsFirstSaid : Prop := extentsFirstRow.holds Try.pinned (OpenSpec.ofChange extentsFirstSpec)

/-- ITS FALSE NEIGHBOUR: 'it returns false'. Refute it at one input. -/
def extentsFirstWrong : ChangeSpec := { name := "extentsFirst", fn := fun _ => fun
  | [d1, d2, d3] => { results := [.lit (.bool false)], args := [d1, d2, d3] }
  | _ => none }
def ExtentsFirstWrongFalsely : Prop := extentsFirstRow.holds Try.pinned (OpenSpec.ofChange extentsFirstWrong)

/-- 'steadinglaw10.ExtentsApart': WHATEVER THE INPUT: true; the input reads as it did. -/
def extentsApartSpec : ChangeSpec := { name := "extentsApart", fn := fun _ => fun
  | [d1, d2, d3] => { results := [.lit (.bool true)], args := [d1, d2, d3] }
  | _ => none }
def extentsApartRow : OpenClaim := { program := "ytgpdkfmneoggkaa", sum := "e0053adb3f4c519043c8982094f64ece007e935e47a01aa26816d5c7e29e4ee1", func := "steading/steadinglaw10.ExtentsApart", spec := "extentsApart", apart := false }
def ExtentsApartSaid : Prop := extentsApartRow.holds Try.pinned (OpenSpec.ofChange extentsApartSpec)

/-- ITS FALSE NEIGHBOUR: 'it returns false'. Refute it at one input. -/
def extentsApartWrong : ChangeSpec := { name := "extentsApart", fn := fun _ => fun
  | [d1, d2, d3] => { results := [.lit (.bool false)], args := [d1, d2, d3] }
  | _ => none }
def ExtentsApartWrongFalsely : Prop := extentsApartRow.holds Try.pinned (OpenSpec.ofChange extentsApartWrong)

/-- 'steadinglaw10.ExtentsNil': WHATEVER THE INPUT: true; the input reads as it did. -/
def extentsNilSpec : ChangeSpec := { name := "extentsNil", fn := fun _ => fun
  | [] => { results := [.lit (.bool true)], args := [] }
  | _ => none }
def extentsNilRow : OpenClaim := { program := "ytgpdkfmneoggkaa", sum := "e0053adb3f4c519043c8982094f64ece007e935e47a01aa26816d5c7e29e4ee1", func := "steading/steadinglaw10.ExtentsNil", spec := "extentsNil", unfollowed := true, recurses := true, apart := false }
def ExtentsNilSaid : Prop := extentsNilRow.holds Try.pinned (OpenSpec.ofChange extentsNilSpec)

/-- ITS FALSE NEIGHBOUR: 'it returns false'. Refute it at one input. -/
def extentsNilWrong : ChangeSpec := { name := "extentsNil", fn := fun _ => fun
  | [] => { results := [.lit (.bool false)], args := [] }
  | _ => none }
def ExtentsNilWrongFalsely : Prop := extentsNilRow.holds Try.pinned (OpenSpec.ofChange extentsNilWrong)

/- THE SECOND FORM. 'bulk': how many values and letters a reading holds, each counted each time it is reached (what is shared counts as often as it is met; a slice's spare places count too). A statement '..UptoSaid' is the law's where the arguments, and the package variables that the reading takes, are together of bulk at most 1048576: NARROWER than '..Said'. Prove '..Said' where nothing that the law and all that it calls make is longer than what came in: it says more and counts as full. Else prove '..UptoSaid'. A law counts once. -/
mutual
def uptoBulk {H : Type} : DataW H → Nat
  | .lit (.string bytes) => bytes.length + 1
  | .lit _ => 1
  | .nil => 1
  | .ptr d => uptoBulk d + 1
  | .slice elems spare => uptoBulkAll elems + uptoBulkAll spare + 1
  | .agg parts => uptoBulkAll parts + 1
  | .iface _ d => uptoBulk d + 1
  | .map entries => uptoBulkEntries entries + 1
  | .held _ => 1
def uptoBulkAll {H : Type} : List (DataW H) → Nat
  | [] => 0
  | d :: r => uptoBulk d + uptoBulkAll r
def uptoBulkEntries {H : Type} : List (Lit × DataW H) → Nat
  | [] => 0
  | x :: r => uptoBulkEntry x + uptoBulkEntries r
def uptoBulkEntry {H : Type} : Lit × DataW H → Nat
  | (.string bytes, d) => bytes.length + uptoBulk d + 1
  | (_, d) => uptoBulk d + 1
 end
def uptoSmall : (H : Type) → List (DataW H) → Bool := fun _ ds => decide (uptoBulkAll ds ≤ 1048576)
def OpenSpec.upto (s : _root_.Go.ChangeSpec) : _root_.Go.OpenSpec := { _root_.Go.OpenSpec.ofChange s with cond := some uptoSmall }

/-- 'steadinglaw10.ExtentsSteps', WHERE WHAT IT READS IS OF BULK AT MOST 1048576: true; the input reads as it did. -/
def extentsStepsUptoRow : OpenClaim := { program := "ytgpdkfmneoggkaa", sum := "e0053adb3f4c519043c8982094f64ece007e935e47a01aa26816d5c7e29e4ee1", func := "steading/steadinglaw10.ExtentsSteps", spec := "extentsSteps", unfollowed := true, recurses := true, apart := false, narrowed := true }
def ExtentsStepsUptoSaid : Prop := extentsStepsUptoRow.holds Try.pinned (OpenSpec.upto extentsStepsSpec)

/-- 'steadinglaw10.ExtentsNew', WHERE WHAT IT READS IS OF BULK AT MOST 1048576: true; the input reads as it did. -/
def extentsNewUptoRow : OpenClaim := { program := "ytgpdkfmneoggkaa", sum := "e0053adb3f4c519043c8982094f64ece007e935e47a01aa26816d5c7e29e4ee1", func := "steading/steadinglaw10.ExtentsNew", spec := "extentsNew", unfollowed := true, recurses := true, apart := false, narrowed := true }
def ExtentsNewUptoSaid : Prop := extentsNewUptoRow.holds Try.pinned (OpenSpec.upto extentsNewSpec)

/-- 'steadinglaw10.ExtentsFirst', WHERE WHAT IT READS IS OF BULK AT MOST 1048576: true; the input reads as it did. -/
def extentsFirstUptoRow : OpenClaim := { program := "ytgpdkfmneoggkaa", sum := "e0053adb3f4c519043c8982094f64ece007e935e47a01aa26816d5c7e29e4ee1", func := "steading/steadinglaw10.ExtentsFirst", spec := "extentsFirst", apart := false, narrowed := true }
def ExtentsFirstUptoSaid : Prop := extentsFirstUptoRow.holds Try.pinned (OpenSpec.upto extentsFirstSpec)

/-- 'steadinglaw10.ExtentsApart', WHERE WHAT IT READS IS OF BULK AT MOST 1048576: true; the input reads as it did. -/
def extentsApartUptoRow : OpenClaim := { program := "ytgpdkfmneoggkaa", sum := "e0053adb3f4c519043c8982094f64ece007e935e47a01aa26816d5c7e29e4ee1", func := "steading/steadinglaw10.ExtentsApart", spec := "extentsApart", apart := false, narrowed := true }
def ExtentsApartUptoSaid : Prop := extentsApartUptoRow.holds Try.pinned (OpenSpec.upto extentsApartSpec)

/-- 'steadinglaw10.ExtentsNil', WHERE WHAT IT READS IS OF BULK AT MOST 1048576: true; the input reads as it did. -/
def extentsNilUptoRow : OpenClaim := { program := "ytgpdkfmneoggkaa", sum := "e0053adb3f4c519043c8982094f64ece007e935e47a01aa26816d5c7e29e4ee1", func := "steading/steadinglaw10.ExtentsNil", spec := "extentsNil", unfollowed := true, recurses := true, apart := false, narrowed := true }
def ExtentsNilUptoSaid : Prop := extentsNilUptoRow.holds Try.pinned (OpenSpec.upto extentsNilSpec)

end Rows
end Go.Proofs.Ytgpdkfmneoggkaa
