/- Plain functions on values: what value.Check, Compare, Two and One come to. No program in sight. -/
import Derived.Below
import Derived.IntWalk
import Derived.RowKit
import GoSem.Op.String
namespace Go.Proofs.Ytconigmpiggihaa
open Go.RowKit

/-- A value: its kind, its number, its text. -/
structure V where
  k : Int
  n : Int
  t : ByteArray

/-- May a value of kind k have the number n? -/
def nmb (k n : Int) : Bool := if k = 1 then (n == 0 || n == 1) else if k = 2 then true else n == 0
/-- What is wrong with a value. -/
def chk (k n : Int) (t : ByteArray) : Int :=
  if k < 0 then 2 else if 3 < k then 2
  else if (k ≠ 3 ∧ t.toList ≠ []) ∨ nmb k n = false then 6
  else if 20 < t.size then 1 else 0
def chk2 (a b : V) : Int := if chk a.k a.n a.t = 0 then chk b.k b.n b.t else chk a.k a.n a.t
/-- Which of two numbers is less. -/
def sgn (a b : Int) : Int := if a < b then -1 else if b < a then 1 else 0
/-- Which of two texts is less. -/
def sgs (a b : ByteArray) : Int := if Op.bytesLess a.toList b.toList then -1 else if a.toList = b.toList then 0 else 1
/-- The first of three numbers that is not 0. -/
def or3 (a b c : Int) : Int := if a ≠ 0 then a else if b ≠ 0 then b else c
/-- The order of two values. -/
def ord (a b : V) : Int := or3 (sgn a.k b.k) (sgn a.n b.n) (sgs a.t b.t)
/-- What Compare answers. -/
def cmp2 (a b : V) : Int := if chk2 a b = 0 then ord a b else 0
end Go.Proofs.Ytconigmpiggihaa
