/-
  No cell of these rows narrows 'for every input' (looked for: loops, veiled, ifaces, maps, wideKeys, modest, calm, conditions, laid).
  DERIVED. THE GIVEN ROWS OF THIS SEAT. 6 by the template 'for every input the law returns true; each argument reads behind the call as it read before'; 0 by the template 'total and deterministic' (their statements: YtakgjakcbpdefaaTotals.lean).
  GIVEN WITH THE SEED: the statements are not yours to turn. If you find one false, say at which input.
  Laid BY PROGRAM, IN A SANDBOX (cutbox-rows.mjs): the forced cells as the released guide's own fill.sh prints them over the translation 8e5ef872347d0858… (all of the seat's roots in one cut). By AI agents, Wed Nov 11 2026. No macro, syntax, notation, axiom, sorry.
-/
import Derived.Test.YtakgjakcbpdefaaChecked
import GoSem.Claim
import GoSem.ClaimJoined
import GoSem.ClaimMapViews
import Derived.JoinedTies
import Derived.KernelRfl
namespace Go.Proofs.Ytakgjakcbpdefaa
/- THE CELL 'sum', in the pinned program and in every row, IS THE sha256 OF THE DUMP (.gsa) THAT YtakgjakcbpdefaaProg.lean LOADS. Nothing in Lean hashes anything: it is a label: what it is worth is what the hold of that sum in a sandbox is worth. -/
noncomputable def Try.pinned : Pinned := { name := "ytakgjakcbpdefaa", sum := "8e5ef872347d085808e5daf6e0af25c4cd93ccbe2ddbc43ba4b574eda39ae55f", checked := Try.checked }
namespace Rows
def none {H : Type} : Left H := { results := [], args := [] }

/-- 'steadinglaw06.CapsPlay': WHATEVER THE INPUT: true; the input reads as it did. -/
def capsPlaySpec : ChangeSpec := { name := "capsPlay", fn := fun _ => fun
  | [d1, d2] => { results := [.lit (.bool true)], args := [d1, d2] }
  | _ => none }
def capsPlayRow : OpenClaim := { program := "ytakgjakcbpdefaa", sum := "8e5ef872347d085808e5daf6e0af25c4cd93ccbe2ddbc43ba4b574eda39ae55f", func := "steading/steadinglaw06.CapsPlay", spec := "capsPlay", inPlace := ["maps.clone"], unfollowed := true, recurses := true, apart := false }
def CapsPlaySaid : Prop := capsPlayRow.holds Try.pinned (OpenSpec.ofChange capsPlaySpec)

/-- ITS FALSE NEIGHBOUR: 'it returns false'. Refute it at one input. -/
def capsPlayWrong : ChangeSpec := { name := "capsPlay", fn := fun _ => fun
  | [d1, d2] => { results := [.lit (.bool false)], args := [d1, d2] }
  | _ => none }
def CapsPlayWrongFalsely : Prop := capsPlayRow.holds Try.pinned (OpenSpec.ofChange capsPlayWrong)

/-- 'steadinglaw06.CapsMay': WHATEVER THE INPUT: true; the input reads as it did. -/
def capsMaySpec : ChangeSpec := { name := "capsMay", fn := fun _ => fun
  | [d1, d2, d3, d4, d5] => { results := [.lit (.bool true)], args := [d1, d2, d3, d4, d5] }
  | _ => none }
def capsMayRow : OpenClaim := { program := "ytakgjakcbpdefaa", sum := "8e5ef872347d085808e5daf6e0af25c4cd93ccbe2ddbc43ba4b574eda39ae55f", func := "steading/steadinglaw06.CapsMay", spec := "capsMay", unfollowed := true, recurses := true, apart := false }
def CapsMaySaid : Prop := capsMayRow.holds Try.pinned (OpenSpec.ofChange capsMaySpec)

/-- ITS FALSE NEIGHBOUR: 'it returns false'. Refute it at one input. -/
def capsMayWrong : ChangeSpec := { name := "capsMay", fn := fun _ => fun
  | [d1, d2, d3, d4, d5] => { results := [.lit (.bool false)], args := [d1, d2, d3, d4, d5] }
  | _ => none }
def CapsMayWrongFalsely : Prop := capsMayRow.holds Try.pinned (OpenSpec.ofChange capsMayWrong)

/-- 'steadinglaw06.CapsWithin': WHATEVER THE INPUT: true; the input reads as it did. -/
def capsWithinSpec : ChangeSpec := { name := "capsWithin", fn := fun _ => fun
  | [d] => { results := [.lit (.bool true)], args := [d] }
  | _ => none }
def capsWithinRow : OpenClaim := { program := "ytakgjakcbpdefaa", sum := "8e5ef872347d085808e5daf6e0af25c4cd93ccbe2ddbc43ba4b574eda39ae55f", func := "steading/steadinglaw06.CapsWithin", spec := "capsWithin", unfollowed := true, recurses := true, apart := false }
def CapsWithinSaid : Prop := capsWithinRow.holds Try.pinned (OpenSpec.ofChange capsWithinSpec)

/-- ITS FALSE NEIGHBOUR: 'it returns false'. Refute it at one input. -/
def capsWithinWrong : ChangeSpec := { name := "capsWithin", fn := fun _ => fun
  | [d] => { results := [.lit (.bool false)], args := [d] }
  | _ => none }
def CapsWithinWrongFalsely : Prop := capsWithinRow.holds Try.pinned (OpenSpec.ofChange capsWithinWrong)

/-- 'steadinglaw06.CapsGone': WHATEVER THE INPUT: true; the input reads as it did. -/
def capsGoneSpec : ChangeSpec := { name := "capsGone", fn := fun _ => fun
  | [d1, d2, d3] => { results := [.lit (.bool true)], args := [d1, d2, d3] }
  | _ => none }
def capsGoneRow : OpenClaim := { program := "ytakgjakcbpdefaa", sum := "8e5ef872347d085808e5daf6e0af25c4cd93ccbe2ddbc43ba4b574eda39ae55f", func := "steading/steadinglaw06.CapsGone", spec := "capsGone", unfollowed := true, recurses := true, apart := false }
def CapsGoneSaid : Prop := capsGoneRow.holds Try.pinned (OpenSpec.ofChange capsGoneSpec)

/-- ITS FALSE NEIGHBOUR: 'it returns false'. Refute it at one input. -/
def capsGoneWrong : ChangeSpec := { name := "capsGone", fn := fun _ => fun
  | [d1, d2, d3] => { results := [.lit (.bool false)], args := [d1, d2, d3] }
  | _ => none }
def CapsGoneWrongFalsely : Prop := capsGoneRow.holds Try.pinned (OpenSpec.ofChange capsGoneWrong)

/-- 'steadinglaw06.CapsOwn': WHATEVER THE INPUT: true; the input reads as it did. -/
def capsOwnSpec : ChangeSpec := { name := "capsOwn", fn := fun _ => fun
  | [d1, d2] => { results := [.lit (.bool true)], args := [d1, d2] }
  | _ => none }
def capsOwnRow : OpenClaim := { program := "ytakgjakcbpdefaa", sum := "8e5ef872347d085808e5daf6e0af25c4cd93ccbe2ddbc43ba4b574eda39ae55f", func := "steading/steadinglaw06.CapsOwn", spec := "capsOwn", unfollowed := true, recurses := true, apart := false }
def CapsOwnSaid : Prop := capsOwnRow.holds Try.pinned (OpenSpec.ofChange capsOwnSpec)

/-- ITS FALSE NEIGHBOUR: 'it returns false'. Refute it at one input. -/
def capsOwnWrong : ChangeSpec := { name := "capsOwn", fn := fun _ => fun
  | [d1, d2] => { results := [.lit (.bool false)], args := [d1, d2] }
  | _ => none }
def CapsOwnWrongFalsely : Prop := capsOwnRow.holds Try.pinned (OpenSpec.ofChange capsOwnWrong)

/-- 'steadinglaw06.CapsNil': WHATEVER THE INPUT: true; the input reads as it did. -/
def capsNilSpec : ChangeSpec := { name := "capsNil", fn := fun _ => fun
  | [] => { results := [.lit (.bool true)], args := [] }
  | _ => none }
def capsNilRow : OpenClaim := { program := "ytakgjakcbpdefaa", sum := "8e5ef872347d085808e5daf6e0af25c4cd93ccbe2ddbc43ba4b574eda39ae55f", func := "steading/steadinglaw06.CapsNil", spec := "capsNil", inPlace := ["maps.clone"], unfollowed := true, recurses := true, apart := false }
def CapsNilSaid : Prop := capsNilRow.holds Try.pinned (OpenSpec.ofChange capsNilSpec)

/-- ITS FALSE NEIGHBOUR: 'it returns false'. Refute it at one input. -/
def capsNilWrong : ChangeSpec := { name := "capsNil", fn := fun _ => fun
  | [] => { results := [.lit (.bool false)], args := [] }
  | _ => none }
def CapsNilWrongFalsely : Prop := capsNilRow.holds Try.pinned (OpenSpec.ofChange capsNilWrong)

/- THE SECOND FORM. 'bulk': how many values and letters a reading holds, each counted each time it is reached (what is shared counts as often as it is met; a slice's spare places count too). A statement '..UptoSaid' is the law's where the arguments, and the package variables that the reading takes, are together of bulk at most 1048576: NARROWER than '..Said'. Prove '..Said' where nothing that the law and all that it calls make is longer than what came in: it says more and counts as full. Else prove '..UptoSaid'. A law counts once. -/
mutual
def uptoBulk {H : Type} : DataW H → Nat
  | .lit (.string bytes) => bytes.length + 1
  | .lit _ => 1
  | .nil => 1
  | .ptr d => uptoBulk d + 1
  | .slice elems spare => uptoBulkAll elems + uptoBulkAll spare + 1
  | .agg parts => uptoBulkAll parts + 1
  | .iface _ d => uptoBulk d + 1
  | .map entries => uptoBulkEntries entries + 1
  | .held _ => 1
def uptoBulkAll {H : Type} : List (DataW H) → Nat
  | [] => 0
  | d :: r => uptoBulk d + uptoBulkAll r
def uptoBulkEntries {H : Type} : List (Lit × DataW H) → Nat
  | [] => 0
  | x :: r => uptoBulkEntry x + uptoBulkEntries r
def uptoBulkEntry {H : Type} : Lit × DataW H → Nat
  | (.string bytes, d) => bytes.length + uptoBulk d + 1
  | (_, d) => uptoBulk d + 1
 end
def uptoSmall : (H : Type) → List (DataW H) → Bool := fun _ ds => decide (uptoBulkAll ds ≤ 1048576)
def OpenSpec.upto (s : _root_.Go.ChangeSpec) : _root_.Go.OpenSpec := { _root_.Go.OpenSpec.ofChange s with cond := some uptoSmall }

/-- 'steadinglaw06.CapsPlay', WHERE WHAT IT READS IS OF BULK AT MOST 1048576: true; the input reads as it did. -/
def capsPlayUptoRow : OpenClaim := { program := "ytakgjakcbpdefaa", sum := "8e5ef872347d085808e5daf6e0af25c4cd93ccbe2ddbc43ba4b574eda39ae55f", func := "steading/steadinglaw06.CapsPlay", spec := "capsPlay", inPlace := ["maps.clone"], unfollowed := true, recurses := true, apart := false, narrowed := true }
def CapsPlayUptoSaid : Prop := capsPlayUptoRow.holds Try.pinned (OpenSpec.upto capsPlaySpec)

/-- 'steadinglaw06.CapsMay', WHERE WHAT IT READS IS OF BULK AT MOST 1048576: true; the input reads as it did. -/
def capsMayUptoRow : OpenClaim := { program := "ytakgjakcbpdefaa", sum := "8e5ef872347d085808e5daf6e0af25c4cd93ccbe2ddbc43ba4b574eda39ae55f", func := "steading/steadinglaw06.CapsMay", spec := "capsMay", unfollowed := true, recurses := true, apart := false, narrowed := true }
def CapsMayUptoSaid : Prop := capsMayUptoRow.holds Try.pinned (OpenSpec.upto capsMaySpec)

/-- 'steadinglaw06.CapsWithin', WHERE WHAT IT READS IS OF BULK AT MOST 1048576: true; the input reads as it did. -/
def capsWithinUptoRow : OpenClaim := { program := "ytakgjakcbpdefaa", sum := "8e5ef872347d085808e5daf6e0af25c4cd93ccbe2ddbc43ba4b574eda39ae55f", func := "steading/steadinglaw06.CapsWithin", spec := "capsWithin", unfollowed := true, recurses := true, apart := false, narrowed := true }
def CapsWithinUptoSaid : Prop := capsWithinUptoRow.holds Try.pinned (OpenSpec.upto capsWithinSpec)

/-- 'steadinglaw06.CapsGone', WHERE WHAT IT READS IS OF BULK AT MOST 1048576: true; the input reads as it did. -/
def capsGoneUptoRow : OpenClaim := { program := "ytakgjakcbpdefaa", sum := "8e5ef872347d085808e5daf6e0af25c4cd93ccbe2ddbc43ba4b574eda39ae55f", func := "steading/steadinglaw06.CapsGone", spec := "capsGone", unfollowed := true, recurses := true, apart := false, narrowed := true }
def CapsGoneUptoSaid : Prop := capsGoneUptoRow.holds Try.pinned (OpenSpec.upto capsGoneSpec)

/-- 'steadinglaw06.CapsOwn', WHERE WHAT IT READS IS OF BULK AT MOST 1048576: true; the input reads as it did. -/
def capsOwnUptoRow : OpenClaim := { program := "ytakgjakcbpdefaa", sum := "8e5ef872347d085808e5daf6e0af25c4cd93ccbe2ddbc43ba4b574eda39ae55f", func := "steading/steadinglaw06.CapsOwn", spec := "capsOwn", unfollowed := true, recurses := true, apart := false, narrowed := true }
def CapsOwnUptoSaid : Prop := capsOwnUptoRow.holds Try.pinned (OpenSpec.upto capsOwnSpec)

/-- 'steadinglaw06.CapsNil', WHERE WHAT IT READS IS OF BULK AT MOST 1048576: true; the input reads as it did. -/
def capsNilUptoRow : OpenClaim := { program := "ytakgjakcbpdefaa", sum := "8e5ef872347d085808e5daf6e0af25c4cd93ccbe2ddbc43ba4b574eda39ae55f", func := "steading/steadinglaw06.CapsNil", spec := "capsNil", inPlace := ["maps.clone"], unfollowed := true, recurses := true, apart := false, narrowed := true }
def CapsNilUptoSaid : Prop := capsNilUptoRow.holds Try.pinned (OpenSpec.upto capsNilSpec)

end Rows
end Go.Proofs.Ytakgjakcbpdefaa
