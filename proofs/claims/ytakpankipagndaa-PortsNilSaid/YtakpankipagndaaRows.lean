/-
  No cell of these rows narrows 'for every input' (looked for: loops, veiled, ifaces, maps, wideKeys, modest, calm, conditions, laid).
  DERIVED. THE GIVEN ROWS OF THIS SEAT. 5 by the template 'for every input the law returns true; each argument reads behind the call as it read before'; 0 by the template 'total and deterministic' (their statements: YtakpankipagndaaTotals.lean).
  GIVEN WITH THE SEED: the statements are not yours to turn. If you find one false, say at which input.
  Laid BY PROGRAM, IN A SANDBOX (cutbox-rows.mjs): the forced cells as the released guide's own fill.sh prints them over the translation 2a04b37497536d19… (all of the seat's roots in one cut). By AI agents, Wed Nov 11 2026. No macro, syntax, notation, axiom, sorry.
-/
import Derived.Test.YtakpankipagndaaChecked
import GoSem.Claim
import GoSem.ClaimJoined
import GoSem.ClaimMapViews
import Derived.JoinedTies
import Derived.KernelRfl
namespace Go.Proofs.Ytakpankipagndaa
/- THE CELL 'sum', in the pinned program and in every row, IS THE sha256 OF THE DUMP (.gsa) THAT YtakpankipagndaaProg.lean LOADS. Nothing in Lean hashes anything: it is a label: what it is worth is what the hold of that sum in a sandbox is worth. -/
noncomputable def Try.pinned : Pinned := { name := "ytakpankipagndaa", sum := "2a04b37497536d19f2062d0f9ae09780010947455382c6bab53fda9e7a2041f4", checked := Try.checked }
namespace Rows
def none {H : Type} : Left H := { results := [], args := [] }

/-- 'steadinglaw12.PortsSteps': WHATEVER THE INPUT: true; the input reads as it did. -/
def portsStepsSpec : ChangeSpec := { name := "portsSteps", fn := fun _ => fun
  | [d1, d2, d3] => { results := [.lit (.bool true)], args := [d1, d2, d3] }
  | _ => none }
def portsStepsRow : OpenClaim := { program := "ytakpankipagndaa", sum := "2a04b37497536d19f2062d0f9ae09780010947455382c6bab53fda9e7a2041f4", func := "steading/steadinglaw12.PortsSteps", spec := "portsSteps", unfollowed := true, recurses := true, plainKeys := false, apart := false }
def PortsStepsSaid : Prop := portsStepsRow.holds Try.pinned (OpenSpec.ofChange portsStepsSpec)

/-- ITS FALSE NEIGHBOUR: 'it returns false'. Refute it at one input. -/
def portsStepsWrong : ChangeSpec := { name := "portsSteps", fn := fun _ => fun
  | [d1, d2, d3] => { results := [.lit (.bool false)], args := [d1, d2, d3] }
  | _ => none }
def PortsStepsWrongFalsely : Prop := portsStepsRow.holds Try.pinned (OpenSpec.ofChange portsStepsWrong)

/-- 'steadinglaw12.PortsSame': WHATEVER THE INPUT: true; the input reads as it did. -/
def portsSameSpec : ChangeSpec := { name := "portsSame", fn := fun _ => fun
  | [d1, d2, d3] => { results := [.lit (.bool true)], args := [d1, d2, d3] }
  | _ => none }
def portsSameRow : OpenClaim := { program := "ytakpankipagndaa", sum := "2a04b37497536d19f2062d0f9ae09780010947455382c6bab53fda9e7a2041f4", func := "steading/steadinglaw12.PortsSame", spec := "portsSame", unfollowed := true, recurses := true, plainKeys := false, apart := false }
def PortsSameSaid : Prop := portsSameRow.holds Try.pinned (OpenSpec.ofChange portsSameSpec)

/-- ITS FALSE NEIGHBOUR: 'it returns false'. Refute it at one input. -/
def portsSameWrong : ChangeSpec := { name := "portsSame", fn := fun _ => fun
  | [d1, d2, d3] => { results := [.lit (.bool false)], args := [d1, d2, d3] }
  | _ => none }
def PortsSameWrongFalsely : Prop := portsSameRow.holds Try.pinned (OpenSpec.ofChange portsSameWrong)

/-- 'steadinglaw12.PortsOrder': WHATEVER THE INPUT: true; the input reads as it did. -/
def portsOrderSpec : ChangeSpec := { name := "portsOrder", fn := fun _ => fun
  | [d1, d2, d3] => { results := [.lit (.bool true)], args := [d1, d2, d3] }
  | _ => none }
def portsOrderRow : OpenClaim := { program := "ytakpankipagndaa", sum := "2a04b37497536d19f2062d0f9ae09780010947455382c6bab53fda9e7a2041f4", func := "steading/steadinglaw12.PortsOrder", spec := "portsOrder", unfollowed := true, recurses := true, plainKeys := false, apart := false }
def PortsOrderSaid : Prop := portsOrderRow.holds Try.pinned (OpenSpec.ofChange portsOrderSpec)

/-- ITS FALSE NEIGHBOUR: 'it returns false'. Refute it at one input. -/
def portsOrderWrong : ChangeSpec := { name := "portsOrder", fn := fun _ => fun
  | [d1, d2, d3] => { results := [.lit (.bool false)], args := [d1, d2, d3] }
  | _ => none }
def PortsOrderWrongFalsely : Prop := portsOrderRow.holds Try.pinned (OpenSpec.ofChange portsOrderWrong)

/-- 'steadinglaw12.PortsApart': WHATEVER THE INPUT: true; the input reads as it did. -/
def portsApartSpec : ChangeSpec := { name := "portsApart", fn := fun _ => fun
  | [d1, d2] => { results := [.lit (.bool true)], args := [d1, d2] }
  | _ => none }
def portsApartRow : OpenClaim := { program := "ytakpankipagndaa", sum := "2a04b37497536d19f2062d0f9ae09780010947455382c6bab53fda9e7a2041f4", func := "steading/steadinglaw12.PortsApart", spec := "portsApart", unfollowed := true, recurses := true, plainKeys := false, apart := false }
def PortsApartSaid : Prop := portsApartRow.holds Try.pinned (OpenSpec.ofChange portsApartSpec)

/-- ITS FALSE NEIGHBOUR: 'it returns false'. Refute it at one input. -/
def portsApartWrong : ChangeSpec := { name := "portsApart", fn := fun _ => fun
  | [d1, d2] => { results := [.lit (.bool false)], args := [d1, d2] }
  | _ => none }
def PortsApartWrongFalsely : Prop := portsApartRow.holds Try.pinned (OpenSpec.ofChange portsApartWrong)

/-- 'steadinglaw12.PortsNil': WHATEVER THE INPUT: true; the input reads as it did. -/
def portsNilSpec : ChangeSpec := { name := "portsNil", fn := fun _ => fun
  | [] => { results := [.lit (.bool true)], args := [] }
  | _ => none }
def portsNilRow : OpenClaim := { program := "ytakpankipagndaa", sum := "2a04b37497536d19f2062d0f9ae09780010947455382c6bab53fda9e7a2041f4", func := "steading/steadinglaw12.PortsNil", spec := "portsNil", unfollowed := true, recurses := true, plainKeys := false, apart := false }
def PortsNilSaid : Prop := portsNilRow.holds Try.pinned (OpenSpec.ofChange portsNilSpec)

/-- ITS FALSE NEIGHBOUR: 'it returns false'. Refute it at one input. -/
def portsNilWrong : ChangeSpec := { name := "portsNil", fn := fun _ => fun
  | [] => { results := [.lit (.bool false)], args := [] }
  | _ => none }
def PortsNilWrongFalsely : Prop := portsNilRow.holds Try.pinned (OpenSpec.ofChange portsNilWrong)

/- THE SECOND FORM. 'bulk': how many values and letters a reading holds, each counted each time it is reached (what is shared counts as often as it is met; a slice's spare places count too). A statement '..UptoSaid' is the law's where the arguments, and the package variables that the reading takes, are together of bulk at most 1048576: NARROWER than '..Said'. Prove '..Said' where nothing that the law and all that it calls make is longer than what came in: it says more and counts as full. Else prove '..UptoSaid'. A law counts once. -/
mutual
def uptoBulk {H : Type} : DataW H → Nat
  | .lit (.string bytes) => bytes.length + 1
  | .lit _ => 1
  | .nil => 1
  | .ptr d => uptoBulk d + 1
  | .slice elems spare => uptoBulkAll elems + uptoBulkAll spare + 1
  | .agg parts => uptoBulkAll parts + 1
  | .iface _ d => uptoBulk d + 1
  | .map entries => uptoBulkEntries entries + 1
  | .held _ => 1
def uptoBulkAll {H : Type} : List (DataW H) → Nat
  | [] => 0
  | d :: r => uptoBulk d + uptoBulkAll r
def uptoBulkEntries {H : Type} : List (Lit × DataW H) → Nat
  | [] => 0
  | x :: r => uptoBulkEntry x + uptoBulkEntries r
def uptoBulkEntry {H : Type} : Lit × DataW H → Nat
  | (.string bytes, d) => bytes.length + uptoBulk d + 1
  | (_, d) => uptoBulk d + 1
 end
def uptoSmall : (H : Type) → List (DataW H) → Bool := fun _ ds => decide (uptoBulkAll ds ≤ 1048576)
def OpenSpec.upto (s : _root_.Go.ChangeSpec) : _root_.Go.OpenSpec := { _root_.Go.OpenSpec.ofChange s with cond := some uptoSmall }

/-- 'steadinglaw12.PortsSteps', WHERE WHAT IT READS IS OF BULK AT MOST 1048576: true; the input reads as it did. -/
def portsStepsUptoRow : OpenClaim := { program := "ytakpankipagndaa", sum := "2a04b37497536d19f2062d0f9ae09780010947455382c6bab53fda9e7a2041f4", func := "steading/steadinglaw12.PortsSteps", spec := "portsSteps", unfollowed := true, recurses := true, plainKeys := false, apart := false, narrowed := true }
def PortsStepsUptoSaid : Prop := portsStepsUptoRow.holds Try.pinned (OpenSpec.upto portsStepsSpec)

/-- 'steadinglaw12.PortsSame', WHERE WHAT IT READS IS OF BULK AT MOST 1048576: true; the input reads as it did. -/
def portsSameUptoRow : OpenClaim := { program := "ytakpankipagndaa", sum := "2a04b37497536d19f2062d0f9ae09780010947455382c6bab53fda9e7a2041f4", func := "steading/steadinglaw12.PortsSame", spec := "portsSame", unfollowed := true, recurses := true, plainKeys := false, apart := false, narrowed := true }
def PortsSameUptoSaid : Prop := portsSameUptoRow.holds Try.pinned (OpenSpec.upto portsSameSpec)

/-- 'steadinglaw12.PortsOrder', WHERE WHAT IT READS IS OF BULK AT MOST 1048576: true; the input reads as it did. -/
def portsOrderUptoRow : OpenClaim := { program := "ytakpankipagndaa", sum := "2a04b37497536d19f2062d0f9ae09780010947455382c6bab53fda9e7a2041f4", func := "steading/steadinglaw12.PortsOrder", spec := "portsOrder", unfollowed := true, recurses := true, plainKeys := false, apart := false, narrowed := true }
def PortsOrderUptoSaid : Prop := portsOrderUptoRow.holds Try.pinned (OpenSpec.upto portsOrderSpec)

/-- 'steadinglaw12.PortsApart', WHERE WHAT IT READS IS OF BULK AT MOST 1048576: true; the input reads as it did. -/
def portsApartUptoRow : OpenClaim := { program := "ytakpankipagndaa", sum := "2a04b37497536d19f2062d0f9ae09780010947455382c6bab53fda9e7a2041f4", func := "steading/steadinglaw12.PortsApart", spec := "portsApart", unfollowed := true, recurses := true, plainKeys := false, apart := false, narrowed := true }
def PortsApartUptoSaid : Prop := portsApartUptoRow.holds Try.pinned (OpenSpec.upto portsApartSpec)

/-- 'steadinglaw12.PortsNil', WHERE WHAT IT READS IS OF BULK AT MOST 1048576: true; the input reads as it did. -/
def portsNilUptoRow : OpenClaim := { program := "ytakpankipagndaa", sum := "2a04b37497536d19f2062d0f9ae09780010947455382c6bab53fda9e7a2041f4", func := "steading/steadinglaw12.PortsNil", spec := "portsNil", unfollowed := true, recurses := true, plainKeys := false, apart := false, narrowed := true }
def PortsNilUptoSaid : Prop := portsNilUptoRow.holds Try.pinned (OpenSpec.upto portsNilSpec)

end Rows
end Go.Proofs.Ytakpankipagndaa
