/-
  No cell of these rows narrows 'for every input' (looked for: loops, veiled, ifaces, maps, wideKeys, modest, calm, conditions, laid).
  DERIVED. THE GIVEN ROWS OF THIS SEAT. 12 by the template 'for every input the law returns true; each argument reads behind the call as it read before'; 0 by the template 'total and deterministic' (their statements: YtknpifjkllcdeaaTotals.lean).
  GIVEN WITH THE SEED: the statements are not yours to turn. If you find one false, say at which input.
  Laid BY PROGRAM, IN A SANDBOX (cutbox-rows.mjs): the forced cells as the released guide's own fill.sh prints them over the translation 40518956ab42ba1f… (all of the seat's roots in one cut). By AI agents, Wed Nov 11 2026. No macro, syntax, notation, axiom, sorry.
-/
import Derived.Test.YtknpifjkllcdeaaChecked
import GoSem.Claim
import GoSem.ClaimJoined
import GoSem.ClaimMapViews
import Derived.JoinedTies
import Derived.KernelRfl
namespace Go.Proofs.Ytknpifjkllcdeaa
/- THE CELL 'sum', in the pinned program and in every row, IS THE sha256 OF THE DUMP (.gsa) THAT YtknpifjkllcdeaaProg.lean LOADS. Nothing in Lean hashes anything: it is a label: what it is worth is what the hold of that sum in a sandbox is worth. -/
noncomputable def Try.pinned : Pinned := { name := "ytknpifjkllcdeaa", sum := "40518956ab42ba1f0d041dbfecf53ee6592483b1f7fa682ffc922a818778925f", checked := Try.checked }
namespace Rows
def none {H : Type} : Left H := { results := [], args := [] }

/-- 'laws.FnExactBddOf': WHATEVER THE INPUT: true; the input reads as it did. -/
def fnExactBddOfSpec : ChangeSpec := { name := "fnExactBddOf", fn := fun _ => fun
  | [d1, d2] => { results := [.lit (.bool true)], args := [d1, d2] }
  | _ => none }
def fnExactBddOfRow : OpenClaim := { program := "ytknpifjkllcdeaa", sum := "40518956ab42ba1f0d041dbfecf53ee6592483b1f7fa682ffc922a818778925f", func := "loop.example/registrar/laws.FnExactBddOf", spec := "fnExactBddOf", recurses := true, plainKeys := false, apart := false }
def FnExactBddOfSaid : Prop := fnExactBddOfRow.holds Try.pinned (OpenSpec.ofChange fnExactBddOfSpec)

/-- ITS FALSE NEIGHBOUR: 'it returns false'. Refute it at one input. -/
def fnExactBddOfWrong : ChangeSpec := { name := "fnExactBddOf", fn := fun _ => fun
  | [d1, d2] => { results := [.lit (.bool false)], args := [d1, d2] }
  | _ => none }
def FnExactBddOfWrongFalsely : Prop := fnExactBddOfRow.holds Try.pinned (OpenSpec.ofChange fnExactBddOfWrong)

/-- 'laws.FnExactBddFirst': WHATEVER THE INPUT: true; the input reads as it did. -/
def fnExactBddFirstSpec : ChangeSpec := { name := "fnExactBddFirst", fn := fun _ => fun
  | [d] => { results := [.lit (.bool true)], args := [d] }
  | _ => none }
def fnExactBddFirstRow : OpenClaim := { program := "ytknpifjkllcdeaa", sum := "40518956ab42ba1f0d041dbfecf53ee6592483b1f7fa682ffc922a818778925f", func := "loop.example/registrar/laws.FnExactBddFirst", spec := "fnExactBddFirst", unfollowed := true, recurses := true, plainKeys := false, apart := false }
def FnExactBddFirstSaid : Prop := fnExactBddFirstRow.holds Try.pinned (OpenSpec.ofChange fnExactBddFirstSpec)

/-- ITS FALSE NEIGHBOUR: 'it returns false'. Refute it at one input. -/
def fnExactBddFirstWrong : ChangeSpec := { name := "fnExactBddFirst", fn := fun _ => fun
  | [d] => { results := [.lit (.bool false)], args := [d] }
  | _ => none }
def FnExactBddFirstWrongFalsely : Prop := fnExactBddFirstRow.holds Try.pinned (OpenSpec.ofChange fnExactBddFirstWrong)

/-- 'laws.FnExactBddNeeds': WHATEVER THE INPUT: true; the input reads as it did. -/
def fnExactBddNeedsSpec : ChangeSpec := { name := "fnExactBddNeeds", fn := fun _ => fun
  | [d] => { results := [.lit (.bool true)], args := [d] }
  | _ => none }
def fnExactBddNeedsRow : OpenClaim := { program := "ytknpifjkllcdeaa", sum := "40518956ab42ba1f0d041dbfecf53ee6592483b1f7fa682ffc922a818778925f", func := "loop.example/registrar/laws.FnExactBddNeeds", spec := "fnExactBddNeeds", unfollowed := true, recurses := true, plainKeys := false, apart := false }
def FnExactBddNeedsSaid : Prop := fnExactBddNeedsRow.holds Try.pinned (OpenSpec.ofChange fnExactBddNeedsSpec)

/-- ITS FALSE NEIGHBOUR: 'it returns false'. Refute it at one input. -/
def fnExactBddNeedsWrong : ChangeSpec := { name := "fnExactBddNeeds", fn := fun _ => fun
  | [d] => { results := [.lit (.bool false)], args := [d] }
  | _ => none }
def FnExactBddNeedsWrongFalsely : Prop := fnExactBddNeedsRow.holds Try.pinned (OpenSpec.ofChange fnExactBddNeedsWrong)

/-- 'laws.FnBddOf': WHATEVER THE INPUT: true; the input reads as it did. -/
def fnBddOfSpec : ChangeSpec := { name := "fnBddOf", fn := fun _ => fun
  | [d] => { results := [.lit (.bool true)], args := [d] }
  | _ => none }
def fnBddOfRow : OpenClaim := { program := "ytknpifjkllcdeaa", sum := "40518956ab42ba1f0d041dbfecf53ee6592483b1f7fa682ffc922a818778925f", func := "loop.example/registrar/laws.FnBddOf", spec := "fnBddOf", unfollowed := true, recurses := true, plainKeys := false, apart := false }
def FnBddOfSaid : Prop := fnBddOfRow.holds Try.pinned (OpenSpec.ofChange fnBddOfSpec)

/-- ITS FALSE NEIGHBOUR: 'it returns false'. Refute it at one input. -/
def fnBddOfWrong : ChangeSpec := { name := "fnBddOf", fn := fun _ => fun
  | [d] => { results := [.lit (.bool false)], args := [d] }
  | _ => none }
def FnBddOfWrongFalsely : Prop := fnBddOfRow.holds Try.pinned (OpenSpec.ofChange fnBddOfWrong)

/-- 'laws.FnBddOk': WHATEVER THE INPUT: true; the input reads as it did. -/
def fnBddOkSpec : ChangeSpec := { name := "fnBddOk", fn := fun _ => fun
  | [d] => { results := [.lit (.bool true)], args := [d] }
  | _ => none }
def fnBddOkRow : OpenClaim := { program := "ytknpifjkllcdeaa", sum := "40518956ab42ba1f0d041dbfecf53ee6592483b1f7fa682ffc922a818778925f", func := "loop.example/registrar/laws.FnBddOk", spec := "fnBddOk", unfollowed := true, recurses := true, plainKeys := false, apart := false }
def FnBddOkSaid : Prop := fnBddOkRow.holds Try.pinned (OpenSpec.ofChange fnBddOkSpec)

/-- ITS FALSE NEIGHBOUR: 'it returns false'. Refute it at one input. -/
def fnBddOkWrong : ChangeSpec := { name := "fnBddOk", fn := fun _ => fun
  | [d] => { results := [.lit (.bool false)], args := [d] }
  | _ => none }
def FnBddOkWrongFalsely : Prop := fnBddOkRow.holds Try.pinned (OpenSpec.ofChange fnBddOkWrong)

/-- 'laws.FnBddNot': WHATEVER THE INPUT: true; the input reads as it did. -/
def fnBddNotSpec : ChangeSpec := { name := "fnBddNot", fn := fun _ => fun
  | [d] => { results := [.lit (.bool true)], args := [d] }
  | _ => none }
def fnBddNotRow : OpenClaim := { program := "ytknpifjkllcdeaa", sum := "40518956ab42ba1f0d041dbfecf53ee6592483b1f7fa682ffc922a818778925f", func := "loop.example/registrar/laws.FnBddNot", spec := "fnBddNot", unfollowed := true, recurses := true, plainKeys := false, apart := false }
def FnBddNotSaid : Prop := fnBddNotRow.holds Try.pinned (OpenSpec.ofChange fnBddNotSpec)

/-- ITS FALSE NEIGHBOUR: 'it returns false'. Refute it at one input. -/
def fnBddNotWrong : ChangeSpec := { name := "fnBddNot", fn := fun _ => fun
  | [d] => { results := [.lit (.bool false)], args := [d] }
  | _ => none }
def FnBddNotWrongFalsely : Prop := fnBddNotRow.holds Try.pinned (OpenSpec.ofChange fnBddNotWrong)

/-- 'laws.FnBddTwo': WHATEVER THE INPUT: true; the input reads as it did. -/
def fnBddTwoSpec : ChangeSpec := { name := "fnBddTwo", fn := fun _ => fun
  | [d] => { results := [.lit (.bool true)], args := [d] }
  | _ => none }
def fnBddTwoRow : OpenClaim := { program := "ytknpifjkllcdeaa", sum := "40518956ab42ba1f0d041dbfecf53ee6592483b1f7fa682ffc922a818778925f", func := "loop.example/registrar/laws.FnBddTwo", spec := "fnBddTwo", unfollowed := true, recurses := true, plainKeys := false, apart := false }
def FnBddTwoSaid : Prop := fnBddTwoRow.holds Try.pinned (OpenSpec.ofChange fnBddTwoSpec)

/-- ITS FALSE NEIGHBOUR: 'it returns false'. Refute it at one input. -/
def fnBddTwoWrong : ChangeSpec := { name := "fnBddTwo", fn := fun _ => fun
  | [d] => { results := [.lit (.bool false)], args := [d] }
  | _ => none }
def FnBddTwoWrongFalsely : Prop := fnBddTwoRow.holds Try.pinned (OpenSpec.ofChange fnBddTwoWrong)

/-- 'laws.FnBddWith': WHATEVER THE INPUT: true; the input reads as it did. -/
def fnBddWithSpec : ChangeSpec := { name := "fnBddWith", fn := fun _ => fun
  | [d] => { results := [.lit (.bool true)], args := [d] }
  | _ => none }
def fnBddWithRow : OpenClaim := { program := "ytknpifjkllcdeaa", sum := "40518956ab42ba1f0d041dbfecf53ee6592483b1f7fa682ffc922a818778925f", func := "loop.example/registrar/laws.FnBddWith", spec := "fnBddWith", unfollowed := true, recurses := true, plainKeys := false, apart := false }
def FnBddWithSaid : Prop := fnBddWithRow.holds Try.pinned (OpenSpec.ofChange fnBddWithSpec)

/-- ITS FALSE NEIGHBOUR: 'it returns false'. Refute it at one input. -/
def fnBddWithWrong : ChangeSpec := { name := "fnBddWith", fn := fun _ => fun
  | [d] => { results := [.lit (.bool false)], args := [d] }
  | _ => none }
def FnBddWithWrongFalsely : Prop := fnBddWithRow.holds Try.pinned (OpenSpec.ofChange fnBddWithWrong)

/-- 'laws.FnBddSome': WHATEVER THE INPUT: true; the input reads as it did. -/
def fnBddSomeSpec : ChangeSpec := { name := "fnBddSome", fn := fun _ => fun
  | [d] => { results := [.lit (.bool true)], args := [d] }
  | _ => none }
def fnBddSomeRow : OpenClaim := { program := "ytknpifjkllcdeaa", sum := "40518956ab42ba1f0d041dbfecf53ee6592483b1f7fa682ffc922a818778925f", func := "loop.example/registrar/laws.FnBddSome", spec := "fnBddSome", unfollowed := true, recurses := true, plainKeys := false, apart := false }
def FnBddSomeSaid : Prop := fnBddSomeRow.holds Try.pinned (OpenSpec.ofChange fnBddSomeSpec)

/-- ITS FALSE NEIGHBOUR: 'it returns false'. Refute it at one input. -/
def fnBddSomeWrong : ChangeSpec := { name := "fnBddSome", fn := fun _ => fun
  | [d] => { results := [.lit (.bool false)], args := [d] }
  | _ => none }
def FnBddSomeWrongFalsely : Prop := fnBddSomeRow.holds Try.pinned (OpenSpec.ofChange fnBddSomeWrong)

/-- 'laws.FnBddFirst': WHATEVER THE INPUT: true; the input reads as it did. -/
def fnBddFirstSpec : ChangeSpec := { name := "fnBddFirst", fn := fun _ => fun
  | [d] => { results := [.lit (.bool true)], args := [d] }
  | _ => none }
def fnBddFirstRow : OpenClaim := { program := "ytknpifjkllcdeaa", sum := "40518956ab42ba1f0d041dbfecf53ee6592483b1f7fa682ffc922a818778925f", func := "loop.example/registrar/laws.FnBddFirst", spec := "fnBddFirst", unfollowed := true, recurses := true, plainKeys := false, apart := false }
def FnBddFirstSaid : Prop := fnBddFirstRow.holds Try.pinned (OpenSpec.ofChange fnBddFirstSpec)

/-- ITS FALSE NEIGHBOUR: 'it returns false'. Refute it at one input. -/
def fnBddFirstWrong : ChangeSpec := { name := "fnBddFirst", fn := fun _ => fun
  | [d] => { results := [.lit (.bool false)], args := [d] }
  | _ => none }
def FnBddFirstWrongFalsely : Prop := fnBddFirstRow.holds Try.pinned (OpenSpec.ofChange fnBddFirstWrong)

/-- 'laws.FnBddCount': WHATEVER THE INPUT: true; the input reads as it did. -/
def fnBddCountSpec : ChangeSpec := { name := "fnBddCount", fn := fun _ => fun
  | [d] => { results := [.lit (.bool true)], args := [d] }
  | _ => none }
def fnBddCountRow : OpenClaim := { program := "ytknpifjkllcdeaa", sum := "40518956ab42ba1f0d041dbfecf53ee6592483b1f7fa682ffc922a818778925f", func := "loop.example/registrar/laws.FnBddCount", spec := "fnBddCount", unfollowed := true, recurses := true, plainKeys := false, apart := false }
def FnBddCountSaid : Prop := fnBddCountRow.holds Try.pinned (OpenSpec.ofChange fnBddCountSpec)

/-- ITS FALSE NEIGHBOUR: 'it returns false'. Refute it at one input. -/
def fnBddCountWrong : ChangeSpec := { name := "fnBddCount", fn := fun _ => fun
  | [d] => { results := [.lit (.bool false)], args := [d] }
  | _ => none }
def FnBddCountWrongFalsely : Prop := fnBddCountRow.holds Try.pinned (OpenSpec.ofChange fnBddCountWrong)

/-- 'laws.FnBddNeeds': WHATEVER THE INPUT: true; the input reads as it did. -/
def fnBddNeedsSpec : ChangeSpec := { name := "fnBddNeeds", fn := fun _ => fun
  | [d] => { results := [.lit (.bool true)], args := [d] }
  | _ => none }
def fnBddNeedsRow : OpenClaim := { program := "ytknpifjkllcdeaa", sum := "40518956ab42ba1f0d041dbfecf53ee6592483b1f7fa682ffc922a818778925f", func := "loop.example/registrar/laws.FnBddNeeds", spec := "fnBddNeeds", unfollowed := true, recurses := true, plainKeys := false, apart := false }
def FnBddNeedsSaid : Prop := fnBddNeedsRow.holds Try.pinned (OpenSpec.ofChange fnBddNeedsSpec)

/-- ITS FALSE NEIGHBOUR: 'it returns false'. Refute it at one input. -/
def fnBddNeedsWrong : ChangeSpec := { name := "fnBddNeeds", fn := fun _ => fun
  | [d] => { results := [.lit (.bool false)], args := [d] }
  | _ => none }
def FnBddNeedsWrongFalsely : Prop := fnBddNeedsRow.holds Try.pinned (OpenSpec.ofChange fnBddNeedsWrong)

/- THE SECOND FORM. 'bulk': how many values and letters a reading holds, each counted each time it is reached (what is shared counts as often as it is met; a slice's spare places count too). A statement '..UptoSaid' is the law's where the arguments, and the package variables that the reading takes, are together of bulk at most 1048576: NARROWER than '..Said'. Prove '..Said' where nothing that the law and all that it calls make is longer than what came in: it says more and counts as full. Else prove '..UptoSaid'. A law counts once. -/
mutual
def uptoBulk {H : Type} : DataW H → Nat
  | .lit (.string bytes) => bytes.length + 1
  | .lit _ => 1
  | .nil => 1
  | .ptr d => uptoBulk d + 1
  | .slice elems spare => uptoBulkAll elems + uptoBulkAll spare + 1
  | .agg parts => uptoBulkAll parts + 1
  | .iface _ d => uptoBulk d + 1
  | .map entries => uptoBulkEntries entries + 1
  | .held _ => 1
def uptoBulkAll {H : Type} : List (DataW H) → Nat
  | [] => 0
  | d :: r => uptoBulk d + uptoBulkAll r
def uptoBulkEntries {H : Type} : List (Lit × DataW H) → Nat
  | [] => 0
  | x :: r => uptoBulkEntry x + uptoBulkEntries r
def uptoBulkEntry {H : Type} : Lit × DataW H → Nat
  | (.string bytes, d) => bytes.length + uptoBulk d + 1
  | (_, d) => uptoBulk d + 1
 end
def uptoSmall : (H : Type) → List (DataW H) → Bool := fun _ ds => decide (uptoBulkAll ds ≤ 1048576)
def OpenSpec.upto (s : _root_.Go.ChangeSpec) : _root_.Go.OpenSpec := { _root_.Go.OpenSpec.ofChange s with cond := some uptoSmall }

/-- 'laws.FnExactBddOf', WHERE WHAT IT READS IS OF BULK AT MOST 1048576: true; the input reads as it did. -/
def fnExactBddOfUptoRow : OpenClaim := { program := "ytknpifjkllcdeaa", sum := "40518956ab42ba1f0d041dbfecf53ee6592483b1f7fa682ffc922a818778925f", func := "loop.example/registrar/laws.FnExactBddOf", spec := "fnExactBddOf", recurses := true, plainKeys := false, apart := false, narrowed := true }
def FnExactBddOfUptoSaid : Prop := fnExactBddOfUptoRow.holds Try.pinned (OpenSpec.upto fnExactBddOfSpec)

/-- 'laws.FnExactBddFirst', WHERE WHAT IT READS IS OF BULK AT MOST 1048576: true; the input reads as it did. -/
def fnExactBddFirstUptoRow : OpenClaim := { program := "ytknpifjkllcdeaa", sum := "40518956ab42ba1f0d041dbfecf53ee6592483b1f7fa682ffc922a818778925f", func := "loop.example/registrar/laws.FnExactBddFirst", spec := "fnExactBddFirst", unfollowed := true, recurses := true, plainKeys := false, apart := false, narrowed := true }
def FnExactBddFirstUptoSaid : Prop := fnExactBddFirstUptoRow.holds Try.pinned (OpenSpec.upto fnExactBddFirstSpec)

/-- 'laws.FnExactBddNeeds', WHERE WHAT IT READS IS OF BULK AT MOST 1048576: true; the input reads as it did. -/
def fnExactBddNeedsUptoRow : OpenClaim := { program := "ytknpifjkllcdeaa", sum := "40518956ab42ba1f0d041dbfecf53ee6592483b1f7fa682ffc922a818778925f", func := "loop.example/registrar/laws.FnExactBddNeeds", spec := "fnExactBddNeeds", unfollowed := true, recurses := true, plainKeys := false, apart := false, narrowed := true }
def FnExactBddNeedsUptoSaid : Prop := fnExactBddNeedsUptoRow.holds Try.pinned (OpenSpec.upto fnExactBddNeedsSpec)

/-- 'laws.FnBddOf', WHERE WHAT IT READS IS OF BULK AT MOST 1048576: true; the input reads as it did. -/
def fnBddOfUptoRow : OpenClaim := { program := "ytknpifjkllcdeaa", sum := "40518956ab42ba1f0d041dbfecf53ee6592483b1f7fa682ffc922a818778925f", func := "loop.example/registrar/laws.FnBddOf", spec := "fnBddOf", unfollowed := true, recurses := true, plainKeys := false, apart := false, narrowed := true }
def FnBddOfUptoSaid : Prop := fnBddOfUptoRow.holds Try.pinned (OpenSpec.upto fnBddOfSpec)

/-- 'laws.FnBddOk', WHERE WHAT IT READS IS OF BULK AT MOST 1048576: true; the input reads as it did. -/
def fnBddOkUptoRow : OpenClaim := { program := "ytknpifjkllcdeaa", sum := "40518956ab42ba1f0d041dbfecf53ee6592483b1f7fa682ffc922a818778925f", func := "loop.example/registrar/laws.FnBddOk", spec := "fnBddOk", unfollowed := true, recurses := true, plainKeys := false, apart := false, narrowed := true }
def FnBddOkUptoSaid : Prop := fnBddOkUptoRow.holds Try.pinned (OpenSpec.upto fnBddOkSpec)

/-- 'laws.FnBddNot', WHERE WHAT IT READS IS OF BULK AT MOST 1048576: true; the input reads as it did. -/
def fnBddNotUptoRow : OpenClaim := { program := "ytknpifjkllcdeaa", sum := "40518956ab42ba1f0d041dbfecf53ee6592483b1f7fa682ffc922a818778925f", func := "loop.example/registrar/laws.FnBddNot", spec := "fnBddNot", unfollowed := true, recurses := true, plainKeys := false, apart := false, narrowed := true }
def FnBddNotUptoSaid : Prop := fnBddNotUptoRow.holds Try.pinned (OpenSpec.upto fnBddNotSpec)

/-- 'laws.FnBddTwo', WHERE WHAT IT READS IS OF BULK AT MOST 1048576: true; the input reads as it did. -/
def fnBddTwoUptoRow : OpenClaim := { program := "ytknpifjkllcdeaa", sum := "40518956ab42ba1f0d041dbfecf53ee6592483b1f7fa682ffc922a818778925f", func := "loop.example/registrar/laws.FnBddTwo", spec := "fnBddTwo", unfollowed := true, recurses := true, plainKeys := false, apart := false, narrowed := true }
def FnBddTwoUptoSaid : Prop := fnBddTwoUptoRow.holds Try.pinned (OpenSpec.upto fnBddTwoSpec)

/-- 'laws.FnBddWith', WHERE WHAT IT READS IS OF BULK AT MOST 1048576: true; the input reads as it did. -/
def fnBddWithUptoRow : OpenClaim := { program := "ytknpifjkllcdeaa", sum := "40518956ab42ba1f0d041dbfecf53ee6592483b1f7fa682ffc922a818778925f", func := "loop.example/registrar/laws.FnBddWith", spec := "fnBddWith", unfollowed := true, recurses := true, plainKeys := false, apart := false, narrowed := true }
def FnBddWithUptoSaid : Prop := fnBddWithUptoRow.holds Try.pinned (OpenSpec.upto fnBddWithSpec)

/-- 'laws.FnBddSome', WHERE WHAT IT READS IS OF BULK AT MOST 1048576: true; the input reads as it did. -/
def fnBddSomeUptoRow : OpenClaim := { program := "ytknpifjkllcdeaa", sum := "40518956ab42ba1f0d041dbfecf53ee6592483b1f7fa682ffc922a818778925f", func := "loop.example/registrar/laws.FnBddSome", spec := "fnBddSome", unfollowed := true, recurses := true, plainKeys := false, apart := false, narrowed := true }
def FnBddSomeUptoSaid : Prop := fnBddSomeUptoRow.holds Try.pinned (OpenSpec.upto fnBddSomeSpec)

/-- 'laws.FnBddFirst', WHERE WHAT IT READS IS OF BULK AT MOST 1048576: true; the input reads as it did. -/
def fnBddFirstUptoRow : OpenClaim := { program := "ytknpifjkllcdeaa", sum := "40518956ab42ba1f0d041dbfecf53ee6592483b1f7fa682ffc922a818778925f", func := "loop.example/registrar/laws.FnBddFirst", spec := "fnBddFirst", unfollowed := true, recurses := true, plainKeys := false, apart := false, narrowed := true }
def FnBddFirstUptoSaid : Prop := fnBddFirstUptoRow.holds Try.pinned (OpenSpec.upto fnBddFirstSpec)

/-- 'laws.FnBddCount', WHERE WHAT IT READS IS OF BULK AT MOST 1048576: true; the input reads as it did. -/
def fnBddCountUptoRow : OpenClaim := { program := "ytknpifjkllcdeaa", sum := "40518956ab42ba1f0d041dbfecf53ee6592483b1f7fa682ffc922a818778925f", func := "loop.example/registrar/laws.FnBddCount", spec := "fnBddCount", unfollowed := true, recurses := true, plainKeys := false, apart := false, narrowed := true }
def FnBddCountUptoSaid : Prop := fnBddCountUptoRow.holds Try.pinned (OpenSpec.upto fnBddCountSpec)

/-- 'laws.FnBddNeeds', WHERE WHAT IT READS IS OF BULK AT MOST 1048576: true; the input reads as it did. -/
def fnBddNeedsUptoRow : OpenClaim := { program := "ytknpifjkllcdeaa", sum := "40518956ab42ba1f0d041dbfecf53ee6592483b1f7fa682ffc922a818778925f", func := "loop.example/registrar/laws.FnBddNeeds", spec := "fnBddNeeds", unfollowed := true, recurses := true, plainKeys := false, apart := false, narrowed := true }
def FnBddNeedsUptoSaid : Prop := fnBddNeedsUptoRow.holds Try.pinned (OpenSpec.upto fnBddNeedsSpec)

end Rows
end Go.Proofs.Ytknpifjkllcdeaa
