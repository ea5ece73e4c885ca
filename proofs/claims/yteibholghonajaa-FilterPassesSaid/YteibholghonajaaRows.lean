/-
  No cell of these rows narrows 'for every input' (looked for: loops, veiled, ifaces, maps, wideKeys, modest, calm, conditions, laid).
  DERIVED. THE GIVEN ROWS OF THIS SEAT. 5 by the template 'for every input the law returns true; each argument reads behind the call as it read before'; 0 by the template 'total and deterministic' (their statements: YteibholghonajaaTotals.lean).
  GIVEN WITH THE SEED: the statements are not yours to turn. If you find one false, say at which input.
  Laid BY PROGRAM, IN A SANDBOX (cutbox-rows.mjs): the forced cells as the released guide's own fill.sh prints them over the translation fe8f0ad26a2f6c23… (all of the seat's roots in one cut). By AI agents, Wed Nov 11 2026. No macro, syntax, notation, axiom, sorry.
-/
import Derived.Test.YteibholghonajaaChecked
import GoSem.Claim
import GoSem.ClaimJoined
import GoSem.ClaimMapViews
import Derived.JoinedTies
import Derived.KernelRfl
namespace Go.Proofs.Yteibholghonajaa
/- THE CELL 'sum', in the pinned program and in every row, IS THE sha256 OF THE DUMP (.gsa) THAT YteibholghonajaaProg.lean LOADS. Nothing in Lean hashes anything: it is a label: what it is worth is what the hold of that sum in a sandbox is worth. -/
noncomputable def Try.pinned : Pinned := { name := "yteibholghonajaa", sum := "fe8f0ad26a2f6c2351f0046804e46bb6addd743d9c2629cb0b95c70bd41c0ef9", checked := Try.checked }
namespace Rows
def none {H : Type} : Left H := { results := [], args := [] }

/-- 'steadinglaw11.FilterMatches': WHATEVER THE INPUT: true; the input reads as it did. -/
def filterMatchesSpec : ChangeSpec := { name := "filterMatches", fn := fun _ => fun
  | [d1, d2] => { results := [.lit (.bool true)], args := [d1, d2] }
  | _ => none }
def filterMatchesRow : OpenClaim := { program := "yteibholghonajaa", sum := "fe8f0ad26a2f6c2351f0046804e46bb6addd743d9c2629cb0b95c70bd41c0ef9", func := "steading/steadinglaw11.FilterMatches", spec := "filterMatches", unfollowed := true, recurses := true, apart := false }
def FilterMatchesSaid : Prop := filterMatchesRow.holds Try.pinned (OpenSpec.ofChange filterMatchesSpec)

/-- ITS FALSE NEIGHBOUR: 'it returns false'. Refute it at one input. -/
def filterMatchesWrong : ChangeSpec := { name := "filterMatches", fn := fun _ => fun
  | [d1, d2] => { results := [.lit (.bool false)], args := [d1, d2] }
  | _ => none }
def FilterMatchesWrongFalsely : Prop := filterMatchesRow.holds Try.pinned (OpenSpec.ofChange filterMatchesWrong)

/-- 'steadinglaw11.FilterPlains': WHATEVER THE INPUT: true; the input reads as it did. -/
def filterPlainsSpec : ChangeSpec := { name := "filterPlains", fn := fun _ => fun
  | [d1, d2] => { results := [.lit (.bool true)], args := [d1, d2] }
  | _ => none }
def filterPlainsRow : OpenClaim := { program := "yteibholghonajaa", sum := "fe8f0ad26a2f6c2351f0046804e46bb6addd743d9c2629cb0b95c70bd41c0ef9", func := "steading/steadinglaw11.FilterPlains", spec := "filterPlains", unfollowed := true, recurses := true, apart := false }
def FilterPlainsSaid : Prop := filterPlainsRow.holds Try.pinned (OpenSpec.ofChange filterPlainsSpec)

/-- ITS FALSE NEIGHBOUR: 'it returns false'. Refute it at one input. -/
def filterPlainsWrong : ChangeSpec := { name := "filterPlains", fn := fun _ => fun
  | [d1, d2] => { results := [.lit (.bool false)], args := [d1, d2] }
  | _ => none }
def FilterPlainsWrongFalsely : Prop := filterPlainsRow.holds Try.pinned (OpenSpec.ofChange filterPlainsWrong)

/-- 'steadinglaw11.FilterBoth': WHATEVER THE INPUT: true; the input reads as it did. -/
def filterBothSpec : ChangeSpec := { name := "filterBoth", fn := fun _ => fun
  | [d1, d2, d3] => { results := [.lit (.bool true)], args := [d1, d2, d3] }
  | _ => none }
def filterBothRow : OpenClaim := { program := "yteibholghonajaa", sum := "fe8f0ad26a2f6c2351f0046804e46bb6addd743d9c2629cb0b95c70bd41c0ef9", func := "steading/steadinglaw11.FilterBoth", spec := "filterBoth", unfollowed := true, recurses := true, apart := false }
def FilterBothSaid : Prop := filterBothRow.holds Try.pinned (OpenSpec.ofChange filterBothSpec)

/-- ITS FALSE NEIGHBOUR: 'it returns false'. Refute it at one input. -/
def filterBothWrong : ChangeSpec := { name := "filterBoth", fn := fun _ => fun
  | [d1, d2, d3] => { results := [.lit (.bool false)], args := [d1, d2, d3] }
  | _ => none }
def FilterBothWrongFalsely : Prop := filterBothRow.holds Try.pinned (OpenSpec.ofChange filterBothWrong)

/-- 'steadinglaw11.FilterHomes': WHATEVER THE INPUT: true; the input reads as it did. -/
def filterHomesSpec : ChangeSpec := { name := "filterHomes", fn := fun _ => fun
  | [d1, d2, d3, d4, d5] => { results := [.lit (.bool true)], args := [d1, d2, d3, d4, d5] }
  | _ => none }
def filterHomesRow : OpenClaim := { program := "yteibholghonajaa", sum := "fe8f0ad26a2f6c2351f0046804e46bb6addd743d9c2629cb0b95c70bd41c0ef9", func := "steading/steadinglaw11.FilterHomes", spec := "filterHomes", unfollowed := true, recurses := true, apart := false }
def FilterHomesSaid : Prop := filterHomesRow.holds Try.pinned (OpenSpec.ofChange filterHomesSpec)

/-- ITS FALSE NEIGHBOUR: 'it returns false'. Refute it at one input. -/
def filterHomesWrong : ChangeSpec := { name := "filterHomes", fn := fun _ => fun
  | [d1, d2, d3, d4, d5] => { results := [.lit (.bool false)], args := [d1, d2, d3, d4, d5] }
  | _ => none }
def FilterHomesWrongFalsely : Prop := filterHomesRow.holds Try.pinned (OpenSpec.ofChange filterHomesWrong)

/-- 'steadinglaw11.FilterPasses': WHATEVER THE INPUT: true; the input reads as it did. -/
def filterPassesSpec : ChangeSpec := { name := "filterPasses", fn := fun _ => fun
  | [d1, d2, d3] => { results := [.lit (.bool true)], args := [d1, d2, d3] }
  | _ => none }
def filterPassesRow : OpenClaim := { program := "yteibholghonajaa", sum := "fe8f0ad26a2f6c2351f0046804e46bb6addd743d9c2629cb0b95c70bd41c0ef9", func := "steading/steadinglaw11.FilterPasses", spec := "filterPasses", unfollowed := true, recurses := true, apart := false }
def FilterPassesSaid : Prop := filterPassesRow.holds Try.pinned (OpenSpec.ofChange filterPassesSpec)

/-- ITS FALSE NEIGHBOUR: 'it returns false'. Refute it at one input. -/
def filterPassesWrong : ChangeSpec := { name := "filterPasses", fn := fun _ => fun
  | [d1, d2, d3] => { results := [.lit (.bool false)], args := [d1, d2, d3] }
  | _ => none }
def FilterPassesWrongFalsely : Prop := filterPassesRow.holds Try.pinned (OpenSpec.ofChange filterPassesWrong)

/- THE SECOND FORM. 'bulk': how many values and letters a reading holds, each counted each time it is reached (what is shared counts as often as it is met; a slice's spare places count too). A statement '..UptoSaid' is the law's where the arguments, and the package variables that the reading takes, are together of bulk at most 1048576: NARROWER than '..Said'. Prove '..Said' where nothing that the law and all that it calls make is longer than what came in: it says more and counts as full. Else prove '..UptoSaid'. A law counts once. -/
mutual
def uptoBulk {H : Type} : DataW H → Nat
  | .lit (.string bytes) => bytes.length + 1
  | .lit _ => 1
  | .nil => 1
  | .ptr d => uptoBulk d + 1
  | .slice elems spare => uptoBulkAll elems + uptoBulkAll spare + 1
  | .agg parts => uptoBulkAll parts + 1
  | .iface _ d => uptoBulk d + 1
  | .map entries => uptoBulkEntries entries + 1
  | .held _ => 1
def uptoBulkAll {H : Type} : List (DataW H) → Nat
  | [] => 0
  | d :: r => uptoBulk d + uptoBulkAll r
def uptoBulkEntries {H : Type} : List (Lit × DataW H) → Nat
  | [] => 0
  | x :: r => uptoBulkEntry x + uptoBulkEntries r
def uptoBulkEntry {H : Type} : Lit × DataW H → Nat
  | (.string bytes, d) => bytes.length + uptoBulk d + 1
  | (_, d) => uptoBulk d + 1
 end
def uptoSmall : (H : Type) → List (DataW H) → Bool := fun _ ds => decide (uptoBulkAll ds ≤ 1048576)
def OpenSpec.upto (s : _root_.Go.ChangeSpec) : _root_.Go.OpenSpec := { _root_.Go.OpenSpec.ofChange s with cond := some uptoSmall }

/-- 'steadinglaw11.FilterMatches', WHERE WHAT IT READS IS OF BULK AT MOST 1048576: true; the input reads as it did. -/
def filterMatchesUptoRow : OpenClaim := { program := "yteibholghonajaa", sum := "fe8f0ad26a2f6c2351f0046804e46bb6addd743d9c2629cb0b95c70bd41c0ef9", func := "steading/steadinglaw11.FilterMatches", spec := "filterMatches", unfollowed := true, recurses := true, apart := false, narrowed := true }
def FilterMatchesUptoSaid : Prop := filterMatchesUptoRow.holds Try.pinned (OpenSpec.upto filterMatchesSpec)

/-- 'steadinglaw11.FilterPlains', WHERE WHAT IT READS IS OF BULK AT MOST 1048576: true; the input reads as it did. -/
def filterPlainsUptoRow : OpenClaim := { program := "yteibholghonajaa", sum := "fe8f0ad26a2f6c2351f0046804e46bb6addd743d9c2629cb0b95c70bd41c0ef9", func := "steading/steadinglaw11.FilterPlains", spec := "filterPlains", unfollowed := true, recurses := true, apart := false, narrowed := true }
def FilterPlainsUptoSaid : Prop := filterPlainsUptoRow.holds Try.pinned (OpenSpec.upto filterPlainsSpec)

/-- 'steadinglaw11.FilterBoth', WHERE WHAT IT READS IS OF BULK AT MOST 1048576: true; the input reads as it did. -/
def filterBothUptoRow : OpenClaim := { program := "yteibholghonajaa", sum := "fe8f0ad26a2f6c2351f0046804e46bb6addd743d9c2629cb0b95c70bd41c0ef9", func := "steading/steadinglaw11.FilterBoth", spec := "filterBoth", unfollowed := true, recurses := true, apart := false, narrowed := true }
def FilterBothUptoSaid : Prop := filterBothUptoRow.holds Try.pinned (OpenSpec.upto filterBothSpec)

/-- 'steadinglaw11.FilterHomes', WHERE WHAT IT READS IS OF BULK AT MOST 1048576: true; the input reads as it did. -/
def filterHomesUptoRow : OpenClaim := { program := "yteibholghonajaa", sum := "fe8f0ad26a2f6c2351f0046804e46bb6addd743d9c2629cb0b95c70bd41c0ef9", func := "steading/steadinglaw11.FilterHomes", spec := "filterHomes", unfollowed := true, recurses := true, apart := false, narrowed := true }
def FilterHomesUptoSaid : Prop := filterHomesUptoRow.holds Try.pinned (OpenSpec.upto filterHomesSpec)

/-- 'steadinglaw11.FilterPasses', WHERE WHAT IT READS IS OF BULK AT MOST 1048576: true; the input reads as it did. -/
def filterPassesUptoRow : OpenClaim := { program := "yteibholghonajaa", sum := "fe8f0ad26a2f6c2351f0046804e46bb6addd743d9c2629cb0b95c70bd41c0ef9", func := "steading/steadinglaw11.FilterPasses", spec := "filterPasses", unfollowed := true, recurses := true, apart := false, narrowed := true }
def FilterPassesUptoSaid : Prop := filterPassesUptoRow.holds Try.pinned (OpenSpec.upto filterPassesSpec)

end Rows
end Go.Proofs.Yteibholghonajaa
