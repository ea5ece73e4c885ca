/- A pool of frames in memory, and the contracts of the small functions of frames. -/
import Derived.Test.YtgpdkfmneoggkaaRows
import Derived.WalkKit
import Derived.OpenShut
import Derived.StillTailTactics
import Derived.BigRegion
import Derived.BigQuiet
import Derived.Deep.QuietTactic
import Derived.Lib.Hide
import Derived.Below
namespace Go.Proofs.Ytgpdkfmneoggkaa
open Go.RowKit

/-- A pool's state: of each frame whose it is and how often it is held; the bytes; the quotas. -/
structure St where
  fr : List (Int × Int)
  byt : Nat → Nat → Int
  quo : List Int

def St.own (s : St) (i : Nat) : Int := (s.fr.getD i (0, 0)).1
def St.hold (s : St) (i : Nat) : Int := (s.fr.getD i (0, 0)).2
def St.n (s : St) : Nat := s.fr.length
def St.k (s : St) : Nat := s.quo.length

/-- What is always so of a pool's state. -/
structure StOk (s : St) : Prop where
  n1 : 1 ≤ s.n
  n2 : s.n ≤ 256
  k2 : s.k ≤ 8
  h0 : ∀ i, 0 ≤ s.hold i
  h1 : ∀ i, s.hold i ≤ 65535
  b0 : ∀ i j, 0 ≤ s.byt i j
  b1 : ∀ i j, s.byt i j < 256

/-- What stands in a frame's cell. -/
def St.cv (s : St) (i j : Nat) : Value := if j = 0 then .int .i64 (s.own i) else if j = 1 then .int .i64 (s.hold i) else .int .u8 (s.byt i (j - 2))

end Go.Proofs.Ytgpdkfmneoggkaa
