/-
  Plain mathematics, no program: what the entries of a list come to, of an account, a symbol and a side.
-/
import Derived.Test.YtbmmokdccfajmaaFrame18
namespace Go.Proofs.Ytbmmokdccfajmaa.PO
open Go.ChangeShapes Go.WideShapes Go.ChangeAt Go.RowKit Go.Lib

def mt (x : Ex) (a s d : Int) : Bool := x.a == a && x.s == s && x.d == d
def sg (x : Ex) (z : Int) : Int := if x.k then -z else z
/-- What an entry adds to a side's quantity, to its worth. -/
def sq (a s d : Int) (x : Ex) : Int := if mt x a s d then sg x x.q else 0
def sw (a s d : Int) (x : Ex) : Int := if mt x a s d then sg x (x.q * x.p) else 0
def SQ (X : Nat → Ex) (a s d : Int) (n : Nat) : Int := sumTo (fun i => sq a s d (X i)) n
def SW (X : Nat → Ex) (a s d : Int) (n : Nat) : Int := sumTo (fun i => sw a s d (X i)) n
theorem SQ_next (X : Nat → Ex) (a s d : Int) (n : Nat) : SQ X a s d (n + 1) = SQ X a s d n + sq a s d (X n) := rfl
theorem SW_next (X : Nat → Ex) (a s d : Int) (n : Nat) : SW X a s d (n + 1) = SW X a s d n + sw a s d (X n) := rfl
/-- A quantity and a price within their ends. -/
def Fin (x : Ex) : Prop := (1 ≤ x.q ∧ x.q ≤ 1099511627776) ∧ 1 ≤ x.p ∧ x.p ≤ 1099511627776
end Go.Proofs.Ytbmmokdccfajmaa.PO
