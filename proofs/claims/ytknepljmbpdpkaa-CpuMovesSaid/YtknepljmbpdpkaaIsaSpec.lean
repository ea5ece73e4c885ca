/- What instructions are, as plain Lean: no Go and no program. Proved: nothing of the program. -/
namespace Go.Proofs.Ytknepljmbpdpkaa

/-- The number of an op's form. -/
def formOf (op : Int) : Int :=
  if op = 3 ∨ op = 23 then 1
  else if op = 24 then 2
  else if op = 5 ∨ op = 6 ∨ op = 25 then 3
  else if op = 7 then 4
  else if 8 ≤ op ∧ op ≤ 17 then 5
  else if (18 ≤ op ∧ op ≤ 22) ∨ (26 ≤ op ∧ op ≤ 28) then 6
  else 0

def isOp (op : Int) : Bool := decide (1 ≤ op ∧ op ≤ 28)
/-- Does a form name D, A, B, Imm? -/
def nmD (f : Int) : Bool := decide (f = 3 ∨ f = 4 ∨ f = 5 ∨ f = 6)
def nmA (f : Int) : Bool := decide (f = 2 ∨ f = 4 ∨ f = 5 ∨ f = 6)
def nmB (f : Int) : Bool := decide (f = 5)
def nmM (f : Int) : Bool := decide (f = 1 ∨ f = 3 ∨ f = 6)
/-- Does the op name D only to read it? -/
def asksOf (op : Int) : Bool := decide (op = 20 ∨ op = 22 ∨ op = 26 ∨ op = 27 ∨ op = 28)
def leastOf (op : Int) : Int := if op = 3 ∨ op = 6 then 0 else -32768
def mostOf (op : Int) : Int := if op = 3 ∨ op = 6 then 65535 else 32767
/-- The set of what a form names, as bits. -/
def setOf (f : Int) : Int :=
  if f = 6 then 11 else if f = 3 then 9 else if f = 1 then 8 else if f = 5 then 7 else if f = 4 then 3 else if f = 2 then 2 else 0

theorem form_range (op : Int) : formOf op = 0 ∨ formOf op = 1 ∨ formOf op = 2 ∨ formOf op = 3 ∨ formOf op = 4 ∨ formOf op = 5 ∨ formOf op = 6 := by
  unfold formOf; repeat' split
  all_goals simp

end Go.Proofs.Ytknepljmbpdpkaa
