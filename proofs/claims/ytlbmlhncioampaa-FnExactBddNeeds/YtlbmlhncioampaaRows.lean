/-
  No cell of these rows narrows 'for every input' (looked for: loops, veiled, ifaces, maps, wideKeys, modest, calm, conditions, laid).
  DERIVED. THE GIVEN ROWS OF THIS SEAT. 11 by the template 'for every input the law returns true; each argument reads behind the call as it read before'; 0 by the template 'total and deterministic' (their statements: YtlbmlhncioampaaTotals.lean).
  GIVEN WITH THE SEED: the statements are not yours to turn. If you find one false, say at which input.
  Laid BY PROGRAM, IN A SANDBOX (cutbox-rows.mjs): the forced cells as the released guide's own fill.sh prints them over the translation 408dd7aa6f2bd690… (all of the seat's roots in one cut). By AI agents, Wed Nov 11 2026. No macro, syntax, notation, axiom, sorry.
-/
import Derived.Test.YtlbmlhncioampaaChecked
import GoSem.Claim
import GoSem.ClaimJoined
import GoSem.ClaimMapViews
import Derived.JoinedTies
import Derived.KernelRfl
namespace Go.Proofs.Ytlbmlhncioampaa
/- THE CELL 'sum', in the pinned program and in every row, IS THE sha256 OF THE DUMP (.gsa) THAT YtlbmlhncioampaaProg.lean LOADS. Nothing in Lean hashes anything: it is a label: what it is worth is what the hold of that sum in a sandbox is worth. -/
noncomputable def Try.pinned : Pinned := { name := "ytlbmlhncioampaa", sum := "408dd7aa6f2bd690cb2cf425024fb16146915b1b3cef813b703e3de1667e9eaf", checked := Try.checked }
namespace Rows
def none {H : Type} : Left H := { results := [], args := [] }

/-- 'laws.FnExactBddOk': WHATEVER THE INPUT: true; the input reads as it did. -/
def fnExactBddOkSpec : ChangeSpec := { name := "fnExactBddOk", fn := fun _ => fun
  | [d] => { results := [.lit (.bool true)], args := [d] }
  | _ => none }
def fnExactBddOkRow : OpenClaim := { program := "ytlbmlhncioampaa", sum := "408dd7aa6f2bd690cb2cf425024fb16146915b1b3cef813b703e3de1667e9eaf", func := "loop.example/registrar/laws.FnExactBddOk", spec := "fnExactBddOk", unfollowed := true, recurses := true, plainKeys := false, apart := false }
def FnExactBddOkSaid : Prop := fnExactBddOkRow.holds Try.pinned (OpenSpec.ofChange fnExactBddOkSpec)

/-- ITS FALSE NEIGHBOUR: 'it returns false'. Refute it at one input. -/
def fnExactBddOkWrong : ChangeSpec := { name := "fnExactBddOk", fn := fun _ => fun
  | [d] => { results := [.lit (.bool false)], args := [d] }
  | _ => none }
def FnExactBddOkWrongFalsely : Prop := fnExactBddOkRow.holds Try.pinned (OpenSpec.ofChange fnExactBddOkWrong)

/-- 'laws.FnExactBddOf': WHATEVER THE INPUT: true; the input reads as it did. -/
def fnExactBddOfSpec : ChangeSpec := { name := "fnExactBddOf", fn := fun _ => fun
  | [d1, d2] => { results := [.lit (.bool true)], args := [d1, d2] }
  | _ => none }
def fnExactBddOfRow : OpenClaim := { program := "ytlbmlhncioampaa", sum := "408dd7aa6f2bd690cb2cf425024fb16146915b1b3cef813b703e3de1667e9eaf", func := "loop.example/registrar/laws.FnExactBddOf", spec := "fnExactBddOf", recurses := true, plainKeys := false, apart := false }
def FnExactBddOfSaid : Prop := fnExactBddOfRow.holds Try.pinned (OpenSpec.ofChange fnExactBddOfSpec)

/-- ITS FALSE NEIGHBOUR: 'it returns false'. Refute it at one input. -/
def fnExactBddOfWrong : ChangeSpec := { name := "fnExactBddOf", fn := fun _ => fun
  | [d1, d2] => { results := [.lit (.bool false)], args := [d1, d2] }
  | _ => none }
def FnExactBddOfWrongFalsely : Prop := fnExactBddOfRow.holds Try.pinned (OpenSpec.ofChange fnExactBddOfWrong)

/-- 'laws.FnExactBddTable': WHATEVER THE INPUT: true; the input reads as it did. -/
def fnExactBddTableSpec : ChangeSpec := { name := "fnExactBddTable", fn := fun _ => fun
  | [d] => { results := [.lit (.bool true)], args := [d] }
  | _ => none }
def fnExactBddTableRow : OpenClaim := { program := "ytlbmlhncioampaa", sum := "408dd7aa6f2bd690cb2cf425024fb16146915b1b3cef813b703e3de1667e9eaf", func := "loop.example/registrar/laws.FnExactBddTable", spec := "fnExactBddTable", unfollowed := true, recurses := true, plainKeys := false, apart := false }
def FnExactBddTableSaid : Prop := fnExactBddTableRow.holds Try.pinned (OpenSpec.ofChange fnExactBddTableSpec)

/-- ITS FALSE NEIGHBOUR: 'it returns false'. Refute it at one input. -/
def fnExactBddTableWrong : ChangeSpec := { name := "fnExactBddTable", fn := fun _ => fun
  | [d] => { results := [.lit (.bool false)], args := [d] }
  | _ => none }
def FnExactBddTableWrongFalsely : Prop := fnExactBddTableRow.holds Try.pinned (OpenSpec.ofChange fnExactBddTableWrong)

/-- 'laws.FnExactBddIs': WHATEVER THE INPUT: true; the input reads as it did. -/
def fnExactBddIsSpec : ChangeSpec := { name := "fnExactBddIs", fn := fun _ => fun
  | [d1, d2] => { results := [.lit (.bool true)], args := [d1, d2] }
  | _ => none }
def fnExactBddIsRow : OpenClaim := { program := "ytlbmlhncioampaa", sum := "408dd7aa6f2bd690cb2cf425024fb16146915b1b3cef813b703e3de1667e9eaf", func := "loop.example/registrar/laws.FnExactBddIs", spec := "fnExactBddIs", unfollowed := true, recurses := true, plainKeys := false, apart := false }
def FnExactBddIsSaid : Prop := fnExactBddIsRow.holds Try.pinned (OpenSpec.ofChange fnExactBddIsSpec)

/-- ITS FALSE NEIGHBOUR: 'it returns false'. Refute it at one input. -/
def fnExactBddIsWrong : ChangeSpec := { name := "fnExactBddIs", fn := fun _ => fun
  | [d1, d2] => { results := [.lit (.bool false)], args := [d1, d2] }
  | _ => none }
def FnExactBddIsWrongFalsely : Prop := fnExactBddIsRow.holds Try.pinned (OpenSpec.ofChange fnExactBddIsWrong)

/-- 'laws.FnExactBddNot': WHATEVER THE INPUT: true; the input reads as it did. -/
def fnExactBddNotSpec : ChangeSpec := { name := "fnExactBddNot", fn := fun _ => fun
  | [d] => { results := [.lit (.bool true)], args := [d] }
  | _ => none }
def fnExactBddNotRow : OpenClaim := { program := "ytlbmlhncioampaa", sum := "408dd7aa6f2bd690cb2cf425024fb16146915b1b3cef813b703e3de1667e9eaf", func := "loop.example/registrar/laws.FnExactBddNot", spec := "fnExactBddNot", unfollowed := true, recurses := true, plainKeys := false, apart := false }
def FnExactBddNotSaid : Prop := fnExactBddNotRow.holds Try.pinned (OpenSpec.ofChange fnExactBddNotSpec)

/-- ITS FALSE NEIGHBOUR: 'it returns false'. Refute it at one input. -/
def fnExactBddNotWrong : ChangeSpec := { name := "fnExactBddNot", fn := fun _ => fun
  | [d] => { results := [.lit (.bool false)], args := [d] }
  | _ => none }
def FnExactBddNotWrongFalsely : Prop := fnExactBddNotRow.holds Try.pinned (OpenSpec.ofChange fnExactBddNotWrong)

/-- 'laws.FnExactBddTwo': WHATEVER THE INPUT: true; the input reads as it did. -/
def fnExactBddTwoSpec : ChangeSpec := { name := "fnExactBddTwo", fn := fun _ => fun
  | [d1, d2, d3] => { results := [.lit (.bool true)], args := [d1, d2, d3] }
  | _ => none }
def fnExactBddTwoRow : OpenClaim := { program := "ytlbmlhncioampaa", sum := "408dd7aa6f2bd690cb2cf425024fb16146915b1b3cef813b703e3de1667e9eaf", func := "loop.example/registrar/laws.FnExactBddTwo", spec := "fnExactBddTwo", unfollowed := true, recurses := true, plainKeys := false, apart := false }
def FnExactBddTwoSaid : Prop := fnExactBddTwoRow.holds Try.pinned (OpenSpec.ofChange fnExactBddTwoSpec)

/-- ITS FALSE NEIGHBOUR: 'it returns false'. Refute it at one input. -/
def fnExactBddTwoWrong : ChangeSpec := { name := "fnExactBddTwo", fn := fun _ => fun
  | [d1, d2, d3] => { results := [.lit (.bool false)], args := [d1, d2, d3] }
  | _ => none }
def FnExactBddTwoWrongFalsely : Prop := fnExactBddTwoRow.holds Try.pinned (OpenSpec.ofChange fnExactBddTwoWrong)

/-- 'laws.FnExactBddWith': WHATEVER THE INPUT: true; the input reads as it did. -/
def fnExactBddWithSpec : ChangeSpec := { name := "fnExactBddWith", fn := fun _ => fun
  | [d1, d2, d3] => { results := [.lit (.bool true)], args := [d1, d2, d3] }
  | _ => none }
def fnExactBddWithRow : OpenClaim := { program := "ytlbmlhncioampaa", sum := "408dd7aa6f2bd690cb2cf425024fb16146915b1b3cef813b703e3de1667e9eaf", func := "loop.example/registrar/laws.FnExactBddWith", spec := "fnExactBddWith", unfollowed := true, recurses := true, plainKeys := false, apart := false }
def FnExactBddWithSaid : Prop := fnExactBddWithRow.holds Try.pinned (OpenSpec.ofChange fnExactBddWithSpec)

/-- ITS FALSE NEIGHBOUR: 'it returns false'. Refute it at one input. -/
def fnExactBddWithWrong : ChangeSpec := { name := "fnExactBddWith", fn := fun _ => fun
  | [d1, d2, d3] => { results := [.lit (.bool false)], args := [d1, d2, d3] }
  | _ => none }
def FnExactBddWithWrongFalsely : Prop := fnExactBddWithRow.holds Try.pinned (OpenSpec.ofChange fnExactBddWithWrong)

/-- 'laws.FnExactBddSome': WHATEVER THE INPUT: true; the input reads as it did. -/
def fnExactBddSomeSpec : ChangeSpec := { name := "fnExactBddSome", fn := fun _ => fun
  | [d1, d2] => { results := [.lit (.bool true)], args := [d1, d2] }
  | _ => none }
def fnExactBddSomeRow : OpenClaim := { program := "ytlbmlhncioampaa", sum := "408dd7aa6f2bd690cb2cf425024fb16146915b1b3cef813b703e3de1667e9eaf", func := "loop.example/registrar/laws.FnExactBddSome", spec := "fnExactBddSome", unfollowed := true, recurses := true, plainKeys := false, apart := false }
def FnExactBddSomeSaid : Prop := fnExactBddSomeRow.holds Try.pinned (OpenSpec.ofChange fnExactBddSomeSpec)

/-- ITS FALSE NEIGHBOUR: 'it returns false'. Refute it at one input. -/
def fnExactBddSomeWrong : ChangeSpec := { name := "fnExactBddSome", fn := fun _ => fun
  | [d1, d2] => { results := [.lit (.bool false)], args := [d1, d2] }
  | _ => none }
def FnExactBddSomeWrongFalsely : Prop := fnExactBddSomeRow.holds Try.pinned (OpenSpec.ofChange fnExactBddSomeWrong)

/-- 'laws.FnExactBddCount': WHATEVER THE INPUT: true; the input reads as it did. -/
def fnExactBddCountSpec : ChangeSpec := { name := "fnExactBddCount", fn := fun _ => fun
  | [d] => { results := [.lit (.bool true)], args := [d] }
  | _ => none }
def fnExactBddCountRow : OpenClaim := { program := "ytlbmlhncioampaa", sum := "408dd7aa6f2bd690cb2cf425024fb16146915b1b3cef813b703e3de1667e9eaf", func := "loop.example/registrar/laws.FnExactBddCount", spec := "fnExactBddCount", unfollowed := true, recurses := true, plainKeys := false, apart := false }
def FnExactBddCountSaid : Prop := fnExactBddCountRow.holds Try.pinned (OpenSpec.ofChange fnExactBddCountSpec)

/-- ITS FALSE NEIGHBOUR: 'it returns false'. Refute it at one input. -/
def fnExactBddCountWrong : ChangeSpec := { name := "fnExactBddCount", fn := fun _ => fun
  | [d] => { results := [.lit (.bool false)], args := [d] }
  | _ => none }
def FnExactBddCountWrongFalsely : Prop := fnExactBddCountRow.holds Try.pinned (OpenSpec.ofChange fnExactBddCountWrong)

/-- 'laws.FnExactBddFirst': WHATEVER THE INPUT: true; the input reads as it did. -/
def fnExactBddFirstSpec : ChangeSpec := { name := "fnExactBddFirst", fn := fun _ => fun
  | [d] => { results := [.lit (.bool true)], args := [d] }
  | _ => none }
def fnExactBddFirstRow : OpenClaim := { program := "ytlbmlhncioampaa", sum := "408dd7aa6f2bd690cb2cf425024fb16146915b1b3cef813b703e3de1667e9eaf", func := "loop.example/registrar/laws.FnExactBddFirst", spec := "fnExactBddFirst", unfollowed := true, recurses := true, plainKeys := false, apart := false }
def FnExactBddFirstSaid : Prop := fnExactBddFirstRow.holds Try.pinned (OpenSpec.ofChange fnExactBddFirstSpec)

/-- ITS FALSE NEIGHBOUR: 'it returns false'. Refute it at one input. -/
def fnExactBddFirstWrong : ChangeSpec := { name := "fnExactBddFirst", fn := fun _ => fun
  | [d] => { results := [.lit (.bool false)], args := [d] }
  | _ => none }
def FnExactBddFirstWrongFalsely : Prop := fnExactBddFirstRow.holds Try.pinned (OpenSpec.ofChange fnExactBddFirstWrong)

/-- 'laws.FnExactBddNeeds': WHATEVER THE INPUT: true; the input reads as it did. -/
def fnExactBddNeedsSpec : ChangeSpec := { name := "fnExactBddNeeds", fn := fun _ => fun
  | [d] => { results := [.lit (.bool true)], args := [d] }
  | _ => none }
def fnExactBddNeedsRow : OpenClaim := { program := "ytlbmlhncioampaa", sum := "408dd7aa6f2bd690cb2cf425024fb16146915b1b3cef813b703e3de1667e9eaf", func := "loop.example/registrar/laws.FnExactBddNeeds", spec := "fnExactBddNeeds", unfollowed := true, recurses := true, plainKeys := false, apart := false }
def FnExactBddNeedsSaid : Prop := fnExactBddNeedsRow.holds Try.pinned (OpenSpec.ofChange fnExactBddNeedsSpec)

/-- ITS FALSE NEIGHBOUR: 'it returns false'. Refute it at one input. -/
def fnExactBddNeedsWrong : ChangeSpec := { name := "fnExactBddNeeds", fn := fun _ => fun
  | [d] => { results := [.lit (.bool false)], args := [d] }
  | _ => none }
def FnExactBddNeedsWrongFalsely : Prop := fnExactBddNeedsRow.holds Try.pinned (OpenSpec.ofChange fnExactBddNeedsWrong)

/- THE SECOND FORM. 'bulk': how many values and letters a reading holds, each counted each time it is reached (what is shared counts as often as it is met; a slice's spare places count too). A statement '..UptoSaid' is the law's where the arguments, and the package variables that the reading takes, are together of bulk at most 1048576: NARROWER than '..Said'. Prove '..Said' where nothing that the law and all that it calls make is longer than what came in: it says more and counts as full. Else prove '..UptoSaid'. A law counts once. -/
mutual
def uptoBulk {H : Type} : DataW H → Nat
  | .lit (.string bytes) => bytes.length + 1
  | .lit _ => 1
  | .nil => 1
  | .ptr d => uptoBulk d + 1
  | .slice elems spare => uptoBulkAll elems + uptoBulkAll spare + 1
  | .agg parts => uptoBulkAll parts + 1
  | .iface _ d => uptoBulk d + 1
  | .map entries => uptoBulkEntries entries + 1
  | .held _ => 1
def uptoBulkAll {H : Type} : List (DataW H) → Nat
  | [] => 0
  | d :: r => uptoBulk d + uptoBulkAll r
def uptoBulkEntries {H : Type} : List (Lit × DataW H) → Nat
  | [] => 0
  | x :: r => uptoBulkEntry x + uptoBulkEntries r
def uptoBulkEntry {H : Type} : Lit × DataW H → Nat
  | (.string bytes, d) => bytes.length + uptoBulk d + 1
  | (_, d) => uptoBulk d + 1
 end
def uptoSmall : (H : Type) → List (DataW H) → Bool := fun _ ds => decide (uptoBulkAll ds ≤ 1048576)
def OpenSpec.upto (s : _root_.Go.ChangeSpec) : _root_.Go.OpenSpec := { _root_.Go.OpenSpec.ofChange s with cond := some uptoSmall }

/-- 'laws.FnExactBddOk', WHERE WHAT IT READS IS OF BULK AT MOST 1048576: true; the input reads as it did. -/
def fnExactBddOkUptoRow : OpenClaim := { program := "ytlbmlhncioampaa", sum := "408dd7aa6f2bd690cb2cf425024fb16146915b1b3cef813b703e3de1667e9eaf", func := "loop.example/registrar/laws.FnExactBddOk", spec := "fnExactBddOk", unfollowed := true, recurses := true, plainKeys := false, apart := false, narrowed := true }
def FnExactBddOkUptoSaid : Prop := fnExactBddOkUptoRow.holds Try.pinned (OpenSpec.upto fnExactBddOkSpec)

/-- 'laws.FnExactBddOf', WHERE WHAT IT READS IS OF BULK AT MOST 1048576: true; the input reads as it did. -/
def fnExactBddOfUptoRow : OpenClaim := { program := "ytlbmlhncioampaa", sum := "408dd7aa6f2bd690cb2cf425024fb16146915b1b3cef813b703e3de1667e9eaf", func := "loop.example/registrar/laws.FnExactBddOf", spec := "fnExactBddOf", recurses := true, plainKeys := false, apart := false, narrowed := true }
def FnExactBddOfUptoSaid : Prop := fnExactBddOfUptoRow.holds Try.pinned (OpenSpec.upto fnExactBddOfSpec)

/-- 'laws.FnExactBddTable', WHERE WHAT IT READS IS OF BULK AT MOST 1048576: true; the input reads as it did. -/
def fnExactBddTableUptoRow : OpenClaim := { program := "ytlbmlhncioampaa", sum := "408dd7aa6f2bd690cb2cf425024fb16146915b1b3cef813b703e3de1667e9eaf", func := "loop.example/registrar/laws.FnExactBddTable", spec := "fnExactBddTable", unfollowed := true, recurses := true, plainKeys := false, apart := false, narrowed := true }
def FnExactBddTableUptoSaid : Prop := fnExactBddTableUptoRow.holds Try.pinned (OpenSpec.upto fnExactBddTableSpec)

/-- 'laws.FnExactBddIs', WHERE WHAT IT READS IS OF BULK AT MOST 1048576: true; the input reads as it did. -/
def fnExactBddIsUptoRow : OpenClaim := { program := "ytlbmlhncioampaa", sum := "408dd7aa6f2bd690cb2cf425024fb16146915b1b3cef813b703e3de1667e9eaf", func := "loop.example/registrar/laws.FnExactBddIs", spec := "fnExactBddIs", unfollowed := true, recurses := true, plainKeys := false, apart := false, narrowed := true }
def FnExactBddIsUptoSaid : Prop := fnExactBddIsUptoRow.holds Try.pinned (OpenSpec.upto fnExactBddIsSpec)

/-- 'laws.FnExactBddNot', WHERE WHAT IT READS IS OF BULK AT MOST 1048576: true; the input reads as it did. -/
def fnExactBddNotUptoRow : OpenClaim := { program := "ytlbmlhncioampaa", sum := "408dd7aa6f2bd690cb2cf425024fb16146915b1b3cef813b703e3de1667e9eaf", func := "loop.example/registrar/laws.FnExactBddNot", spec := "fnExactBddNot", unfollowed := true, recurses := true, plainKeys := false, apart := false, narrowed := true }
def FnExactBddNotUptoSaid : Prop := fnExactBddNotUptoRow.holds Try.pinned (OpenSpec.upto fnExactBddNotSpec)

/-- 'laws.FnExactBddTwo', WHERE WHAT IT READS IS OF BULK AT MOST 1048576: true; the input reads as it did. -/
def fnExactBddTwoUptoRow : OpenClaim := { program := "ytlbmlhncioampaa", sum := "408dd7aa6f2bd690cb2cf425024fb16146915b1b3cef813b703e3de1667e9eaf", func := "loop.example/registrar/laws.FnExactBddTwo", spec := "fnExactBddTwo", unfollowed := true, recurses := true, plainKeys := false, apart := false, narrowed := true }
def FnExactBddTwoUptoSaid : Prop := fnExactBddTwoUptoRow.holds Try.pinned (OpenSpec.upto fnExactBddTwoSpec)

/-- 'laws.FnExactBddWith', WHERE WHAT IT READS IS OF BULK AT MOST 1048576: true; the input reads as it did. -/
def fnExactBddWithUptoRow : OpenClaim := { program := "ytlbmlhncioampaa", sum := "408dd7aa6f2bd690cb2cf425024fb16146915b1b3cef813b703e3de1667e9eaf", func := "loop.example/registrar/laws.FnExactBddWith", spec := "fnExactBddWith", unfollowed := true, recurses := true, plainKeys := false, apart := false, narrowed := true }
def FnExactBddWithUptoSaid : Prop := fnExactBddWithUptoRow.holds Try.pinned (OpenSpec.upto fnExactBddWithSpec)

/-- 'laws.FnExactBddSome', WHERE WHAT IT READS IS OF BULK AT MOST 1048576: true; the input reads as it did. -/
def fnExactBddSomeUptoRow : OpenClaim := { program := "ytlbmlhncioampaa", sum := "408dd7aa6f2bd690cb2cf425024fb16146915b1b3cef813b703e3de1667e9eaf", func := "loop.example/registrar/laws.FnExactBddSome", spec := "fnExactBddSome", unfollowed := true, recurses := true, plainKeys := false, apart := false, narrowed := true }
def FnExactBddSomeUptoSaid : Prop := fnExactBddSomeUptoRow.holds Try.pinned (OpenSpec.upto fnExactBddSomeSpec)

/-- 'laws.FnExactBddCount', WHERE WHAT IT READS IS OF BULK AT MOST 1048576: true; the input reads as it did. -/
def fnExactBddCountUptoRow : OpenClaim := { program := "ytlbmlhncioampaa", sum := "408dd7aa6f2bd690cb2cf425024fb16146915b1b3cef813b703e3de1667e9eaf", func := "loop.example/registrar/laws.FnExactBddCount", spec := "fnExactBddCount", unfollowed := true, recurses := true, plainKeys := false, apart := false, narrowed := true }
def FnExactBddCountUptoSaid : Prop := fnExactBddCountUptoRow.holds Try.pinned (OpenSpec.upto fnExactBddCountSpec)

/-- 'laws.FnExactBddFirst', WHERE WHAT IT READS IS OF BULK AT MOST 1048576: true; the input reads as it did. -/
def fnExactBddFirstUptoRow : OpenClaim := { program := "ytlbmlhncioampaa", sum := "408dd7aa6f2bd690cb2cf425024fb16146915b1b3cef813b703e3de1667e9eaf", func := "loop.example/registrar/laws.FnExactBddFirst", spec := "fnExactBddFirst", unfollowed := true, recurses := true, plainKeys := false, apart := false, narrowed := true }
def FnExactBddFirstUptoSaid : Prop := fnExactBddFirstUptoRow.holds Try.pinned (OpenSpec.upto fnExactBddFirstSpec)

/-- 'laws.FnExactBddNeeds', WHERE WHAT IT READS IS OF BULK AT MOST 1048576: true; the input reads as it did. -/
def fnExactBddNeedsUptoRow : OpenClaim := { program := "ytlbmlhncioampaa", sum := "408dd7aa6f2bd690cb2cf425024fb16146915b1b3cef813b703e3de1667e9eaf", func := "loop.example/registrar/laws.FnExactBddNeeds", spec := "fnExactBddNeeds", unfollowed := true, recurses := true, plainKeys := false, apart := false, narrowed := true }
def FnExactBddNeedsUptoSaid : Prop := fnExactBddNeedsUptoRow.holds Try.pinned (OpenSpec.upto fnExactBddNeedsSpec)

end Rows
end Go.Proofs.Ytlbmlhncioampaa
