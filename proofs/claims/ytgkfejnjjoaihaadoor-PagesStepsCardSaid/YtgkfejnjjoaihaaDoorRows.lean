/-
  NARROWER THAN 'FOR EVERY INPUT', by the rows' own cells (each row's printed sentence says how): PagesSteps: laid · PagesAsks: laid · PagesApart: laid · PagesSame: laid · PagesBoth: laid · PagesNil: laid.
  DERIVED. THE GIVEN ROWS OF THIS SEAT. 6 by the template 'for every input the law returns true; each argument reads behind the call as it read before'; 0 by the template 'total and deterministic' (their statements: YtgkfejnjjoaihaaDoorTotals.lean).
  GIVEN WITH THE SEED: the statements are not yours to turn. If you find one false, say at which input.
  Laid BY PROGRAM, IN A SANDBOX (cutbox-rows.mjs): the forced cells as the released guide's own fill.sh prints them over the translation 7c8f93c57cb97569… (all of the seat's roots in one cut). By AI agents, Wed Nov 11 2026. No macro, syntax, notation, axiom, sorry.
-/
import Derived.Test.YtgkfejnjjoaihaaDoorChecked
import GoSem.Claim
import GoSem.ClaimJoined
import GoSem.ClaimMapViews
import Derived.JoinedTies
import Derived.KernelRfl
namespace Go.Proofs.YtgkfejnjjoaihaaDoor
/- THE CELL 'sum', in the pinned program and in every row, IS THE sha256 OF THE DUMP (.gsa) THAT YtgkfejnjjoaihaaDoorProg.lean LOADS. Nothing in Lean hashes anything: it is a label: what it is worth is what the hold of that sum in a sandbox is worth. -/
noncomputable def Tryd.pinned : Pinned := { name := "ytgkfejnjjoaihaadoor", sum := "7c8f93c57cb97569af8dbf702ac6a7e3811d90e64c7b973d804fa74ebc0da66b", checked := Tryd.checked }
namespace Rows
def none {H : Type} : Left H := { results := [], args := [] }

/- WHAT THE LISTED PACKAGE-LEVEL VARIABLES READ AS WHEN THE CALL BEGINS. Each datum BY PROGRAM (the guide's laid-datum.mjs) off the statement by which the dump's own 'gosem.cut.vars' lays the variable. In a bare row this is a premise. The card (YtgkfejnjjoaihaaDoorCards.lean) ties it to the program's text. -/
def laid_math_bits_deBruijn32tab {H : Type} : DataW H := .agg [.lit (.int .u8 0), .lit (.int .u8 1), .lit (.int .u8 28), .lit (.int .u8 2), .lit (.int .u8 29), .lit (.int .u8 14), .lit (.int .u8 24), .lit (.int .u8 3), .lit (.int .u8 30), .lit (.int .u8 22), .lit (.int .u8 20), .lit (.int .u8 15), .lit (.int .u8 25), .lit (.int .u8 17), .lit (.int .u8 4), .lit (.int .u8 8), .lit (.int .u8 31), .lit (.int .u8 27), .lit (.int .u8 13), .lit (.int .u8 23), .lit (.int .u8 21), .lit (.int .u8 19), .lit (.int .u8 16), .lit (.int .u8 7), .lit (.int .u8 26), .lit (.int .u8 12), .lit (.int .u8 18), .lit (.int .u8 6), .lit (.int .u8 11), .lit (.int .u8 5), .lit (.int .u8 10), .lit (.int .u8 9)]

/-- 'steadinglaw07.PagesSteps': WHATEVER THE INPUT: true; the input reads as it did. -/
def pagesStepsSpec : ChangeSpec := { name := "pagesSteps", fn := fun _ => fun
  | [d1, d2] => { results := [.lit (.bool true)], args := [d1, d2] }
  | _ => none }
def pagesStepsRow : OpenClaim := { program := "ytgkfejnjjoaihaadoor", sum := "7c8f93c57cb97569af8dbf702ac6a7e3811d90e64c7b973d804fa74ebc0da66b", func := "steading/steadinglaw07.PagesSteps", spec := "pagesSteps", inPlace := ["maps.clone"], unfollowed := true, recurses := true, named := ["math/bits.deBruijn32tab"], plainKeys := false, apart := false, laid := [("math/bits.deBruijn32tab", laid_math_bits_deBruijn32tab)] }
def PagesStepsSaid : Prop := pagesStepsRow.holds Tryd.pinned (OpenSpec.ofChange pagesStepsSpec)

/-- ITS FALSE NEIGHBOUR: 'it returns false'. Refute it at one input. -/
def pagesStepsWrong : ChangeSpec := { name := "pagesSteps", fn := fun _ => fun
  | [d1, d2] => { results := [.lit (.bool false)], args := [d1, d2] }
  | _ => none }
def PagesStepsWrongFalsely : Prop := pagesStepsRow.holds Tryd.pinned (OpenSpec.ofChange pagesStepsWrong)

/-- 'steadinglaw07.PagesAsks': WHATEVER THE INPUT: true; the input reads as it did. -/
def pagesAsksSpec : ChangeSpec := { name := "pagesAsks", fn := fun _ => fun
  | [d1, d2] => { results := [.lit (.bool true)], args := [d1, d2] }
  | _ => none }
def pagesAsksRow : OpenClaim := { program := "ytgkfejnjjoaihaadoor", sum := "7c8f93c57cb97569af8dbf702ac6a7e3811d90e64c7b973d804fa74ebc0da66b", func := "steading/steadinglaw07.PagesAsks", spec := "pagesAsks", inPlace := ["maps.clone"], unfollowed := true, recurses := true, named := ["math/bits.deBruijn32tab"], plainKeys := false, apart := false, laid := [("math/bits.deBruijn32tab", laid_math_bits_deBruijn32tab)] }
def PagesAsksSaid : Prop := pagesAsksRow.holds Tryd.pinned (OpenSpec.ofChange pagesAsksSpec)

/-- ITS FALSE NEIGHBOUR: 'it returns false'. Refute it at one input. -/
def pagesAsksWrong : ChangeSpec := { name := "pagesAsks", fn := fun _ => fun
  | [d1, d2] => { results := [.lit (.bool false)], args := [d1, d2] }
  | _ => none }
def PagesAsksWrongFalsely : Prop := pagesAsksRow.holds Tryd.pinned (OpenSpec.ofChange pagesAsksWrong)

/-- 'steadinglaw07.PagesApart': WHATEVER THE INPUT: true; the input reads as it did. -/
def pagesApartSpec : ChangeSpec := { name := "pagesApart", fn := fun _ => fun
  | [d1, d2] => { results := [.lit (.bool true)], args := [d1, d2] }
  | _ => none }
def pagesApartRow : OpenClaim := { program := "ytgkfejnjjoaihaadoor", sum := "7c8f93c57cb97569af8dbf702ac6a7e3811d90e64c7b973d804fa74ebc0da66b", func := "steading/steadinglaw07.PagesApart", spec := "pagesApart", inPlace := ["maps.clone"], unfollowed := true, recurses := true, named := ["math/bits.deBruijn32tab"], plainKeys := false, apart := false, laid := [("math/bits.deBruijn32tab", laid_math_bits_deBruijn32tab)] }
def PagesApartSaid : Prop := pagesApartRow.holds Tryd.pinned (OpenSpec.ofChange pagesApartSpec)

/-- ITS FALSE NEIGHBOUR: 'it returns false'. Refute it at one input. -/
def pagesApartWrong : ChangeSpec := { name := "pagesApart", fn := fun _ => fun
  | [d1, d2] => { results := [.lit (.bool false)], args := [d1, d2] }
  | _ => none }
def PagesApartWrongFalsely : Prop := pagesApartRow.holds Tryd.pinned (OpenSpec.ofChange pagesApartWrong)

/-- 'steadinglaw07.PagesSame': WHATEVER THE INPUT: true; the input reads as it did. -/
def pagesSameSpec : ChangeSpec := { name := "pagesSame", fn := fun _ => fun
  | [d1, d2] => { results := [.lit (.bool true)], args := [d1, d2] }
  | _ => none }
def pagesSameRow : OpenClaim := { program := "ytgkfejnjjoaihaadoor", sum := "7c8f93c57cb97569af8dbf702ac6a7e3811d90e64c7b973d804fa74ebc0da66b", func := "steading/steadinglaw07.PagesSame", spec := "pagesSame", inPlace := ["maps.clone"], unfollowed := true, recurses := true, named := ["math/bits.deBruijn32tab"], plainKeys := false, apart := false, laid := [("math/bits.deBruijn32tab", laid_math_bits_deBruijn32tab)] }
def PagesSameSaid : Prop := pagesSameRow.holds Tryd.pinned (OpenSpec.ofChange pagesSameSpec)

/-- ITS FALSE NEIGHBOUR: 'it returns false'. Refute it at one input. -/
def pagesSameWrong : ChangeSpec := { name := "pagesSame", fn := fun _ => fun
  | [d1, d2] => { results := [.lit (.bool false)], args := [d1, d2] }
  | _ => none }
def PagesSameWrongFalsely : Prop := pagesSameRow.holds Tryd.pinned (OpenSpec.ofChange pagesSameWrong)

/-- 'steadinglaw07.PagesBoth': WHATEVER THE INPUT: true; the input reads as it did. -/
def pagesBothSpec : ChangeSpec := { name := "pagesBoth", fn := fun _ => fun
  | [d] => { results := [.lit (.bool true)], args := [d] }
  | _ => none }
def pagesBothRow : OpenClaim := { program := "ytgkfejnjjoaihaadoor", sum := "7c8f93c57cb97569af8dbf702ac6a7e3811d90e64c7b973d804fa74ebc0da66b", func := "steading/steadinglaw07.PagesBoth", spec := "pagesBoth", inPlace := ["maps.clone"], unfollowed := true, recurses := true, named := ["math/bits.deBruijn32tab"], plainKeys := false, apart := false, laid := [("math/bits.deBruijn32tab", laid_math_bits_deBruijn32tab)] }
def PagesBothSaid : Prop := pagesBothRow.holds Tryd.pinned (OpenSpec.ofChange pagesBothSpec)

/-- ITS FALSE NEIGHBOUR: 'it returns false'. Refute it at one input. -/
def pagesBothWrong : ChangeSpec := { name := "pagesBoth", fn := fun _ => fun
  | [d] => { results := [.lit (.bool false)], args := [d] }
  | _ => none }
def PagesBothWrongFalsely : Prop := pagesBothRow.holds Tryd.pinned (OpenSpec.ofChange pagesBothWrong)

/-- 'steadinglaw07.PagesNil': WHATEVER THE INPUT: true; the input reads as it did. -/
def pagesNilSpec : ChangeSpec := { name := "pagesNil", fn := fun _ => fun
  | [] => { results := [.lit (.bool true)], args := [] }
  | _ => none }
def pagesNilRow : OpenClaim := { program := "ytgkfejnjjoaihaadoor", sum := "7c8f93c57cb97569af8dbf702ac6a7e3811d90e64c7b973d804fa74ebc0da66b", func := "steading/steadinglaw07.PagesNil", spec := "pagesNil", inPlace := ["maps.clone"], unfollowed := true, recurses := true, named := ["math/bits.deBruijn32tab"], plainKeys := false, apart := false, laid := [("math/bits.deBruijn32tab", laid_math_bits_deBruijn32tab)] }
def PagesNilSaid : Prop := pagesNilRow.holds Tryd.pinned (OpenSpec.ofChange pagesNilSpec)

/-- ITS FALSE NEIGHBOUR: 'it returns false'. Refute it at one input. -/
def pagesNilWrong : ChangeSpec := { name := "pagesNil", fn := fun _ => fun
  | [] => { results := [.lit (.bool false)], args := [] }
  | _ => none }
def PagesNilWrongFalsely : Prop := pagesNilRow.holds Tryd.pinned (OpenSpec.ofChange pagesNilWrong)

/- THE SECOND FORM. 'bulk': how many values and letters a reading holds, each counted each time it is reached (what is shared counts as often as it is met; a slice's spare places count too). A statement '..UptoSaid' is the law's where the arguments, and the package variables that the reading takes, are together of bulk at most 1048576: NARROWER than '..Said'. Prove '..Said' where nothing that the law and all that it calls make is longer than what came in: it says more and counts as full. Else prove '..UptoSaid'. A law counts once. -/
mutual
def uptoBulk {H : Type} : DataW H → Nat
  | .lit (.string bytes) => bytes.length + 1
  | .lit _ => 1
  | .nil => 1
  | .ptr d => uptoBulk d + 1
  | .slice elems spare => uptoBulkAll elems + uptoBulkAll spare + 1
  | .agg parts => uptoBulkAll parts + 1
  | .iface _ d => uptoBulk d + 1
  | .map entries => uptoBulkEntries entries + 1
  | .held _ => 1
def uptoBulkAll {H : Type} : List (DataW H) → Nat
  | [] => 0
  | d :: r => uptoBulk d + uptoBulkAll r
def uptoBulkEntries {H : Type} : List (Lit × DataW H) → Nat
  | [] => 0
  | x :: r => uptoBulkEntry x + uptoBulkEntries r
def uptoBulkEntry {H : Type} : Lit × DataW H → Nat
  | (.string bytes, d) => bytes.length + uptoBulk d + 1
  | (_, d) => uptoBulk d + 1
 end
def uptoSmall : (H : Type) → List (DataW H) → Bool := fun _ ds => decide (uptoBulkAll ds ≤ 1048576)
def OpenSpec.upto (s : _root_.Go.ChangeSpec) : _root_.Go.OpenSpec := { _root_.Go.OpenSpec.ofChange s with cond := some uptoSmall }

/-- 'steadinglaw07.PagesSteps', WHERE WHAT IT READS IS OF BULK AT MOST 1048576: true; the input reads as it did. -/
def pagesStepsUptoRow : OpenClaim := { program := "ytgkfejnjjoaihaadoor", sum := "7c8f93c57cb97569af8dbf702ac6a7e3811d90e64c7b973d804fa74ebc0da66b", func := "steading/steadinglaw07.PagesSteps", spec := "pagesSteps", inPlace := ["maps.clone"], unfollowed := true, recurses := true, named := ["math/bits.deBruijn32tab"], plainKeys := false, apart := false, laid := [("math/bits.deBruijn32tab", laid_math_bits_deBruijn32tab)], narrowed := true }
def PagesStepsUptoSaid : Prop := pagesStepsUptoRow.holds Tryd.pinned (OpenSpec.upto pagesStepsSpec)

/-- 'steadinglaw07.PagesAsks', WHERE WHAT IT READS IS OF BULK AT MOST 1048576: true; the input reads as it did. -/
def pagesAsksUptoRow : OpenClaim := { program := "ytgkfejnjjoaihaadoor", sum := "7c8f93c57cb97569af8dbf702ac6a7e3811d90e64c7b973d804fa74ebc0da66b", func := "steading/steadinglaw07.PagesAsks", spec := "pagesAsks", inPlace := ["maps.clone"], unfollowed := true, recurses := true, named := ["math/bits.deBruijn32tab"], plainKeys := false, apart := false, laid := [("math/bits.deBruijn32tab", laid_math_bits_deBruijn32tab)], narrowed := true }
def PagesAsksUptoSaid : Prop := pagesAsksUptoRow.holds Tryd.pinned (OpenSpec.upto pagesAsksSpec)

/-- 'steadinglaw07.PagesApart', WHERE WHAT IT READS IS OF BULK AT MOST 1048576: true; the input reads as it did. -/
def pagesApartUptoRow : OpenClaim := { program := "ytgkfejnjjoaihaadoor", sum := "7c8f93c57cb97569af8dbf702ac6a7e3811d90e64c7b973d804fa74ebc0da66b", func := "steading/steadinglaw07.PagesApart", spec := "pagesApart", inPlace := ["maps.clone"], unfollowed := true, recurses := true, named := ["math/bits.deBruijn32tab"], plainKeys := false, apart := false, laid := [("math/bits.deBruijn32tab", laid_math_bits_deBruijn32tab)], narrowed := true }
def PagesApartUptoSaid : Prop := pagesApartUptoRow.holds Tryd.pinned (OpenSpec.upto pagesApartSpec)

/-- 'steadinglaw07.PagesSame', WHERE WHAT IT READS IS OF BULK AT MOST 1048576: true; the input reads as it did. -/
def pagesSameUptoRow : OpenClaim := { program := "ytgkfejnjjoaihaadoor", sum := "7c8f93c57cb97569af8dbf702ac6a7e3811d90e64c7b973d804fa74ebc0da66b", func := "steading/steadinglaw07.PagesSame", spec := "pagesSame", inPlace := ["maps.clone"], unfollowed := true, recurses := true, named := ["math/bits.deBruijn32tab"], plainKeys := false, apart := false, laid := [("math/bits.deBruijn32tab", laid_math_bits_deBruijn32tab)], narrowed := true }
def PagesSameUptoSaid : Prop := pagesSameUptoRow.holds Tryd.pinned (OpenSpec.upto pagesSameSpec)

/-- 'steadinglaw07.PagesBoth', WHERE WHAT IT READS IS OF BULK AT MOST 1048576: true; the input reads as it did. -/
def pagesBothUptoRow : OpenClaim := { program := "ytgkfejnjjoaihaadoor", sum := "7c8f93c57cb97569af8dbf702ac6a7e3811d90e64c7b973d804fa74ebc0da66b", func := "steading/steadinglaw07.PagesBoth", spec := "pagesBoth", inPlace := ["maps.clone"], unfollowed := true, recurses := true, named := ["math/bits.deBruijn32tab"], plainKeys := false, apart := false, laid := [("math/bits.deBruijn32tab", laid_math_bits_deBruijn32tab)], narrowed := true }
def PagesBothUptoSaid : Prop := pagesBothUptoRow.holds Tryd.pinned (OpenSpec.upto pagesBothSpec)

/-- 'steadinglaw07.PagesNil', WHERE WHAT IT READS IS OF BULK AT MOST 1048576: true; the input reads as it did. -/
def pagesNilUptoRow : OpenClaim := { program := "ytgkfejnjjoaihaadoor", sum := "7c8f93c57cb97569af8dbf702ac6a7e3811d90e64c7b973d804fa74ebc0da66b", func := "steading/steadinglaw07.PagesNil", spec := "pagesNil", inPlace := ["maps.clone"], unfollowed := true, recurses := true, named := ["math/bits.deBruijn32tab"], plainKeys := false, apart := false, laid := [("math/bits.deBruijn32tab", laid_math_bits_deBruijn32tab)], narrowed := true }
def PagesNilUptoSaid : Prop := pagesNilUptoRow.holds Tryd.pinned (OpenSpec.upto pagesNilSpec)

end Rows
end Go.Proofs.YtgkfejnjjoaihaaDoor
