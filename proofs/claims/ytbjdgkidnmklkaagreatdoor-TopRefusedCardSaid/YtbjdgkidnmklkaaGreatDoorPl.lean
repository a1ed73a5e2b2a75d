/- Plain functions on values: what value.Check, Compare, Two and One come to. No program in sight. -/
import Derived.Below
import Derived.IntWalk
import Derived.RowKit
import GoSem.Op.String
namespace Go.Proofs.YtbjdgkidnmklkaaGreatDoor
open Go.RowKit

/-- A value: its kind, its number, its text. -/
structure V where
  k : Int
  n : Int
  t : ByteArray

/-- May a value of kind k have the number n? -/
def nmb (k n : Int) : Bool := if k = 1 then (n == 0 || n == 1) else if k = 2 then true else n == 0
/-- What is wrong with a value. -/
def chk (k n : Int) (t : ByteArray) : Int :=
  if k < 0 then 2 else if 3 < k then 2
  else if (k ≠ 3 ∧ t.toList ≠ []) ∨ nmb k n = false then 6
  else if 20 < t.size then 1 else 0
def chk2 (a b : V) : Int := if chk a.k a.n a.t = 0 then chk b.k b.n b.t else chk a.k a.n a.t
/-- Which of two numbers is less. -/
def sgn (a b : Int) : Int := if a < b then -1 else if b < a then 1 else 0
/-- Which of two texts is less. -/
def sgs (a b : ByteArray) : Int := if Op.bytesLess a.toList b.toList then -1 else if a.toList = b.toList then 0 else 1
/-- The first of three numbers that is not 0. -/
def or3 (a b c : Int) : Int := if a ≠ 0 then a else if b ≠ 0 then b else c
/-- The order of two values. -/
def ord (a b : V) : Int := or3 (sgn a.k b.k) (sgn a.n b.n) (sgs a.t b.t)
/-- What Compare answers. -/
def cmp2 (a b : V) : Int := if chk2 a b = 0 then ord a b else 0

/-- Null, and a truth. -/
def nul : V := ⟨0, 0, ⟨#[]⟩⟩
def tru (b : Bool) : V := ⟨1, if b then 1 else 0, ⟨#[]⟩⟩
def known (a b k : Int) : Bool := (a == k || a == 0) && (b == k || b == 0)
def unk (a b : Int) : Bool := a == 0 || b == 0
def join (a b : V) (d : Int) : V × Int :=
  if known a.k b.k 1 = false then (nul, 4) else if a.k = 1 ∧ a.n = d then (a, 0) else if b.k = 1 ∧ b.n = d then (b, 0) else if unk a.k b.k then (nul, 0) else (tru (d == 0), 0)
def hold (k : Int) (a b : V) : V × Int :=
  if unk a.k b.k then (nul, 0) else if a.k ≠ b.k then (nul, 4) else if k = 7 then (tru (decide (ord a b < 0)), 0) else (tru (ord a b == 0), 0)
def tms (a b : Int) : Int × Bool :=
  if a = 0 then (0, true) else if a = -1 then (wrap64 (-b), b != -9223372036854775808) else (wrap64 (a * b), wrap64 ((wrap64 (a * b)).tdiv a) == b)
def cpt (k a b : Int) : Int × Bool :=
  if k = 8 then (wrap64 (a + b), decide (a < wrap64 (a + b)) == decide (0 < b)) else if k = 9 then (wrap64 (a - b), decide (wrap64 (a - b) < a) == decide (0 < b)) else tms a b
def reck (k : Int) (a b : V) : V × Int :=
  if known a.k b.k 2 = false then (nul, 4) else if unk a.k b.k then (nul, 0) else if (cpt k a.n b.n).2 = false then (nul, 5) else (⟨2, (cpt k a.n b.n).1, ⟨#[]⟩⟩, 0)
/-- What Two answers. -/
def two (k : Int) (a b : V) : V × Int :=
  if chk2 a b ≠ 0 then (nul, chk2 a b) else if k = 3 then join a b 0 else if k = 4 then join a b 1 else if k = 6 then hold 6 a b else if k = 7 then hold 7 a b
  else if k = 8 then reck 8 a b else if k = 9 then reck 9 a b else if k = 10 then reck 10 a b else (nul, 2)
def turn (a : V) : V × Int := if a.k = 0 then (nul, 0) else if a.k = 1 then (tru (a.n == 0), 0) else (nul, 4)
/-- What One answers. -/
def one (k : Int) (a : V) : V × Int :=
  if chk a.k a.n a.t ≠ 0 then (nul, chk a.k a.n a.t) else if k = 11 then (tru (a.k == 0), 0) else if k = 5 then turn a else (nul, 2)
end Go.Proofs.YtbjdgkidnmklkaaGreatDoor
