
/-
  WHAT IS TOLD OF PAIRS, as functions of the numbers.
-/
import Derived.Test.YtnggejmpmdhlcaaDoorPair
namespace Go.Proofs.YtnggejmpmdhlcaaDoor

/-- What is told of pairs. -/
def leadV (a b : Int) : Int := if pairOk a b then ((leadN (a.toNat + b.toNat) a.toNat : Nat) : Int) else 0
def perV (a b : Int) : Int := if pairOk a b then ((perN (a.toNat + b.toNat) a.toNat : Nat) : Int) else 0
def empN (x y : Nat) : Bool := decide (orb (x + y) x (leadN (x + y) x) = 0 ∨ orb (x + y) x (leadN (x + y) x) = x + y)
def emptiesV (a b : Int) : Bool := pairOk a b && empN a.toNat b.toNat
def toEmptyV (a b : Int) : Int := if emptiesV a b then leadV a b else 0

end Go.Proofs.YtnggejmpmdhlcaaDoor
