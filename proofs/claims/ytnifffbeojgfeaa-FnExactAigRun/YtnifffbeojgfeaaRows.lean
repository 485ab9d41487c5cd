/-
  No cell of these rows narrows 'for every input' (looked for: loops, veiled, ifaces, maps, wideKeys, modest, calm, conditions, laid).
  DERIVED. THE GIVEN ROWS OF THIS SEAT. 4 by the template 'for every input the law returns true; each argument reads behind the call as it read before'; 0 by the template 'total and deterministic' (their statements: YtnifffbeojgfeaaTotals.lean).
  GIVEN WITH THE SEED: the statements are not yours to turn. If you find one false, say at which input.
  Laid BY PROGRAM, IN A SANDBOX (cutbox-rows.mjs): the forced cells as the released guide's own fill.sh prints them over the translation 9f84747b71a86380… (all of the seat's roots in one cut). By AI agents, Wed Nov 11 2026. No macro, syntax, notation, axiom, sorry.
-/
import Derived.Test.YtnifffbeojgfeaaChecked
import GoSem.Claim
import GoSem.ClaimJoined
import GoSem.ClaimMapViews
import Derived.JoinedTies
import Derived.KernelRfl
namespace Go.Proofs.Ytnifffbeojgfeaa
/- THE CELL 'sum', in the pinned program and in every row, IS THE sha256 OF THE DUMP (.gsa) THAT YtnifffbeojgfeaaProg.lean LOADS. Nothing in Lean hashes anything: it is a label: what it is worth is what the hold of that sum in a sandbox is worth. -/
noncomputable def Try.pinned : Pinned := { name := "ytnifffbeojgfeaa", sum := "9f84747b71a86380c830de0e520cbbfb0f7150cb5ea59f39f5acbb550c1f9ff3", checked := Try.checked }
namespace Rows
def none {H : Type} : Left H := { results := [], args := [] }

/-- 'laws.FnExactAigOk': WHATEVER THE INPUT: true; the input reads as it did. -/
def fnExactAigOkSpec : ChangeSpec := { name := "fnExactAigOk", fn := fun _ => fun
  | [d] => { results := [.lit (.bool true)], args := [d] }
  | _ => none }
def fnExactAigOkRow : OpenClaim := { program := "ytnifffbeojgfeaa", sum := "9f84747b71a86380c830de0e520cbbfb0f7150cb5ea59f39f5acbb550c1f9ff3", func := "loop.example/registrar/laws.FnExactAigOk", spec := "fnExactAigOk", unfollowed := true, recurses := true, apart := false }
def FnExactAigOkSaid : Prop := fnExactAigOkRow.holds Try.pinned (OpenSpec.ofChange fnExactAigOkSpec)

/-- ITS FALSE NEIGHBOUR: 'it returns false'. Refute it at one input. -/
def fnExactAigOkWrong : ChangeSpec := { name := "fnExactAigOk", fn := fun _ => fun
  | [d] => { results := [.lit (.bool false)], args := [d] }
  | _ => none }
def FnExactAigOkWrongFalsely : Prop := fnExactAigOkRow.holds Try.pinned (OpenSpec.ofChange fnExactAigOkWrong)

/-- 'laws.FnExactAigValues': WHATEVER THE INPUT: true; the input reads as it did. -/
def fnExactAigValuesSpec : ChangeSpec := { name := "fnExactAigValues", fn := fun _ => fun
  | [d1, d2, d3] => { results := [.lit (.bool true)], args := [d1, d2, d3] }
  | _ => none }
def fnExactAigValuesRow : OpenClaim := { program := "ytnifffbeojgfeaa", sum := "9f84747b71a86380c830de0e520cbbfb0f7150cb5ea59f39f5acbb550c1f9ff3", func := "loop.example/registrar/laws.FnExactAigValues", spec := "fnExactAigValues", unfollowed := true, recurses := true, apart := false }
def FnExactAigValuesSaid : Prop := fnExactAigValuesRow.holds Try.pinned (OpenSpec.ofChange fnExactAigValuesSpec)

/-- ITS FALSE NEIGHBOUR: 'it returns false'. Refute it at one input. -/
def fnExactAigValuesWrong : ChangeSpec := { name := "fnExactAigValues", fn := fun _ => fun
  | [d1, d2, d3] => { results := [.lit (.bool false)], args := [d1, d2, d3] }
  | _ => none }
def FnExactAigValuesWrongFalsely : Prop := fnExactAigValuesRow.holds Try.pinned (OpenSpec.ofChange fnExactAigValuesWrong)

/-- 'laws.FnExactAigStep': WHATEVER THE INPUT: true; the input reads as it did. -/
def fnExactAigStepSpec : ChangeSpec := { name := "fnExactAigStep", fn := fun _ => fun
  | [d1, d2, d3] => { results := [.lit (.bool true)], args := [d1, d2, d3] }
  | _ => none }
def fnExactAigStepRow : OpenClaim := { program := "ytnifffbeojgfeaa", sum := "9f84747b71a86380c830de0e520cbbfb0f7150cb5ea59f39f5acbb550c1f9ff3", func := "loop.example/registrar/laws.FnExactAigStep", spec := "fnExactAigStep", unfollowed := true, recurses := true, apart := false }
def FnExactAigStepSaid : Prop := fnExactAigStepRow.holds Try.pinned (OpenSpec.ofChange fnExactAigStepSpec)

/-- ITS FALSE NEIGHBOUR: 'it returns false'. Refute it at one input. -/
def fnExactAigStepWrong : ChangeSpec := { name := "fnExactAigStep", fn := fun _ => fun
  | [d1, d2, d3] => { results := [.lit (.bool false)], args := [d1, d2, d3] }
  | _ => none }
def FnExactAigStepWrongFalsely : Prop := fnExactAigStepRow.holds Try.pinned (OpenSpec.ofChange fnExactAigStepWrong)

/-- 'laws.FnExactAigRun': WHATEVER THE INPUT: true; the input reads as it did. -/
def fnExactAigRunSpec : ChangeSpec := { name := "fnExactAigRun", fn := fun _ => fun
  | [d1, d2] => { results := [.lit (.bool true)], args := [d1, d2] }
  | _ => none }
def fnExactAigRunRow : OpenClaim := { program := "ytnifffbeojgfeaa", sum := "9f84747b71a86380c830de0e520cbbfb0f7150cb5ea59f39f5acbb550c1f9ff3", func := "loop.example/registrar/laws.FnExactAigRun", spec := "fnExactAigRun", unfollowed := true, recurses := true, apart := false }
def FnExactAigRunSaid : Prop := fnExactAigRunRow.holds Try.pinned (OpenSpec.ofChange fnExactAigRunSpec)

/-- ITS FALSE NEIGHBOUR: 'it returns false'. Refute it at one input. -/
def fnExactAigRunWrong : ChangeSpec := { name := "fnExactAigRun", fn := fun _ => fun
  | [d1, d2] => { results := [.lit (.bool false)], args := [d1, d2] }
  | _ => none }
def FnExactAigRunWrongFalsely : Prop := fnExactAigRunRow.holds Try.pinned (OpenSpec.ofChange fnExactAigRunWrong)

/- THE SECOND FORM. 'bulk': how many values and letters a reading holds, each counted each time it is reached (what is shared counts as often as it is met; a slice's spare places count too). A statement '..UptoSaid' is the law's where the arguments, and the package variables that the reading takes, are together of bulk at most 1048576: NARROWER than '..Said'. Prove '..Said' where nothing that the law and all that it calls make is longer than what came in: it says more and counts as full. Else prove '..UptoSaid'. A law counts once. -/
mutual
def uptoBulk {H : Type} : DataW H → Nat
  | .lit (.string bytes) => bytes.length + 1
  | .lit _ => 1
  | .nil => 1
  | .ptr d => uptoBulk d + 1
  | .slice elems spare => uptoBulkAll elems + uptoBulkAll spare + 1
  | .agg parts => uptoBulkAll parts + 1
  | .iface _ d => uptoBulk d + 1
  | .map entries => uptoBulkEntries entries + 1
  | .held _ => 1
def uptoBulkAll {H : Type} : List (DataW H) → Nat
  | [] => 0
  | d :: r => uptoBulk d + uptoBulkAll r
def uptoBulkEntries {H : Type} : List (Lit × DataW H) → Nat
  | [] => 0
  | x :: r => uptoBulkEntry x + uptoBulkEntries r
def uptoBulkEntry {H : Type} : Lit × DataW H → Nat
  | (.string bytes, d) => bytes.length + uptoBulk d + 1
  | (_, d) => uptoBulk d + 1
 end
def uptoSmall : (H : Type) → List (DataW H) → Bool := fun _ ds => decide (uptoBulkAll ds ≤ 1048576)
def OpenSpec.upto (s : _root_.Go.ChangeSpec) : _root_.Go.OpenSpec := { _root_.Go.OpenSpec.ofChange s with cond := some uptoSmall }

/-- 'laws.FnExactAigOk', WHERE WHAT IT READS IS OF BULK AT MOST 1048576: true; the input reads as it did. -/
def fnExactAigOkUptoRow : OpenClaim := { program := "ytnifffbeojgfeaa", sum := "9f84747b71a86380c830de0e520cbbfb0f7150cb5ea59f39f5acbb550c1f9ff3", func := "loop.example/registrar/laws.FnExactAigOk", spec := "fnExactAigOk", unfollowed := true, recurses := true, apart := false, narrowed := true }
def FnExactAigOkUptoSaid : Prop := fnExactAigOkUptoRow.holds Try.pinned (OpenSpec.upto fnExactAigOkSpec)

/-- 'laws.FnExactAigValues', WHERE WHAT IT READS IS OF BULK AT MOST 1048576: true; the input reads as it did. -/
def fnExactAigValuesUptoRow : OpenClaim := { program := "ytnifffbeojgfeaa", sum := "9f84747b71a86380c830de0e520cbbfb0f7150cb5ea59f39f5acbb550c1f9ff3", func := "loop.example/registrar/laws.FnExactAigValues", spec := "fnExactAigValues", unfollowed := true, recurses := true, apart := false, narrowed := true }
def FnExactAigValuesUptoSaid : Prop := fnExactAigValuesUptoRow.holds Try.pinned (OpenSpec.upto fnExactAigValuesSpec)

/-- 'laws.FnExactAigStep', WHERE WHAT IT READS IS OF BULK AT MOST 1048576: true; the input reads as it did. -/
def fnExactAigStepUptoRow : OpenClaim := { program := "ytnifffbeojgfeaa", sum := "9f84747b71a86380c830de0e520cbbfb0f7150cb5ea59f39f5acbb550c1f9ff3", func := "loop.example/registrar/laws.FnExactAigStep", spec := "fnExactAigStep", unfollowed := true, recurses := true, apart := false, narrowed := true }
def FnExactAigStepUptoSaid : Prop := fnExactAigStepUptoRow.holds Try.pinned (OpenSpec.upto fnExactAigStepSpec)

/-- 'laws.FnExactAigRun', WHERE WHAT IT READS IS OF BULK AT MOST 1048576: true; the input reads as it did. -/
def fnExactAigRunUptoRow : OpenClaim := { program := "ytnifffbeojgfeaa", sum := "9f84747b71a86380c830de0e520cbbfb0f7150cb5ea59f39f5acbb550c1f9ff3", func := "loop.example/registrar/laws.FnExactAigRun", spec := "fnExactAigRun", unfollowed := true, recurses := true, apart := false, narrowed := true }
def FnExactAigRunUptoSaid : Prop := fnExactAigRunUptoRow.holds Try.pinned (OpenSpec.upto fnExactAigRunSpec)

end Rows
end Go.Proofs.Ytnifffbeojgfeaa
