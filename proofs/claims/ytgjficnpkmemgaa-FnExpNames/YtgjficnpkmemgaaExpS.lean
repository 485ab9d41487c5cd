/-
  How much an expression holds: szExp, szExpS.
-/
import Derived.Test.YtgjficnpkmemgaaExpA
import Derived.Test.YtgjficnpkmemgaaHoldU
namespace Go.Proofs.Ytgjficnpkmemgaa
open Go.RowKit Go.Deep
set_option linter.unusedVariables false

attribute [local go_sem] Oper.semAt_some

def SzPost (n : Nat) (left : Int) (w : World) (e : Ending) (w' : World) : Prop := e = .returned (.int .i64 (leftI n left)) ∧ Below w.heap.size w w'

end Go.Proofs.Ytgjficnpkmemgaa
