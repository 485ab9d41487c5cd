/-
  No cell of these rows narrows 'for every input' (looked for: loops, veiled, ifaces, maps, wideKeys, modest, calm, conditions, laid).
  DERIVED. THE GIVEN ROWS OF THIS SEAT. 8 by the template 'for every input the law returns true; each argument reads behind the call as it read before'; 0 by the template 'total and deterministic' (their statements: YtdkpgbmcnjkjkaaTotals.lean).
  GIVEN WITH THE SEED: the statements are not yours to turn. If you find one false, say at which input.
  Laid BY PROGRAM, IN A SANDBOX (cutbox-rows.mjs): the forced cells as the released guide's own fill.sh prints them over the translation 3ab91a6a94327a8a… (all of the seat's roots in one cut). By AI agents, Wed Nov 11 2026. No macro, syntax, notation, axiom, sorry.
-/
import Derived.Test.YtdkpgbmcnjkjkaaChecked
import GoSem.Claim
import GoSem.ClaimJoined
import GoSem.ClaimMapViews
import Derived.JoinedTies
import Derived.KernelRfl
namespace Go.Proofs.Ytdkpgbmcnjkjkaa
/- THE CELL 'sum', in the pinned program and in every row, IS THE sha256 OF THE DUMP (.gsa) THAT YtdkpgbmcnjkjkaaProg.lean LOADS. Nothing in Lean hashes anything: it is a label: what it is worth is what the hold of that sum in a sandbox is worth. -/
noncomputable def Try.pinned : Pinned := { name := "ytdkpgbmcnjkjkaa", sum := "3ab91a6a94327a8a30ccd44c5593c127d932f4aa66714e725d0e3674b00d4ad1", checked := Try.checked }
namespace Rows
def none {H : Type} : Left H := { results := [], args := [] }

/-- 'laws.FnExactAigValues': WHATEVER THE INPUT: true; the input reads as it did. -/
def fnExactAigValuesSpec : ChangeSpec := { name := "fnExactAigValues", fn := fun _ => fun
  | [d1, d2, d3] => { results := [.lit (.bool true)], args := [d1, d2, d3] }
  | _ => none }
def fnExactAigValuesRow : OpenClaim := { program := "ytdkpgbmcnjkjkaa", sum := "3ab91a6a94327a8a30ccd44c5593c127d932f4aa66714e725d0e3674b00d4ad1", func := "loop.example/registrar/laws.FnExactAigValues", spec := "fnExactAigValues", unfollowed := true, recurses := true, apart := false }
def FnExactAigValuesSaid : Prop := fnExactAigValuesRow.holds Try.pinned (OpenSpec.ofChange fnExactAigValuesSpec)

/-- ITS FALSE NEIGHBOUR: 'it returns false'. Refute it at one input. -/
def fnExactAigValuesWrong : ChangeSpec := { name := "fnExactAigValues", fn := fun _ => fun
  | [d1, d2, d3] => { results := [.lit (.bool false)], args := [d1, d2, d3] }
  | _ => none }
def FnExactAigValuesWrongFalsely : Prop := fnExactAigValuesRow.holds Try.pinned (OpenSpec.ofChange fnExactAigValuesWrong)

/-- 'laws.FnExactAigStep': WHATEVER THE INPUT: true; the input reads as it did. -/
def fnExactAigStepSpec : ChangeSpec := { name := "fnExactAigStep", fn := fun _ => fun
  | [d1, d2, d3] => { results := [.lit (.bool true)], args := [d1, d2, d3] }
  | _ => none }
def fnExactAigStepRow : OpenClaim := { program := "ytdkpgbmcnjkjkaa", sum := "3ab91a6a94327a8a30ccd44c5593c127d932f4aa66714e725d0e3674b00d4ad1", func := "loop.example/registrar/laws.FnExactAigStep", spec := "fnExactAigStep", unfollowed := true, recurses := true, apart := false }
def FnExactAigStepSaid : Prop := fnExactAigStepRow.holds Try.pinned (OpenSpec.ofChange fnExactAigStepSpec)

/-- ITS FALSE NEIGHBOUR: 'it returns false'. Refute it at one input. -/
def fnExactAigStepWrong : ChangeSpec := { name := "fnExactAigStep", fn := fun _ => fun
  | [d1, d2, d3] => { results := [.lit (.bool false)], args := [d1, d2, d3] }
  | _ => none }
def FnExactAigStepWrongFalsely : Prop := fnExactAigStepRow.holds Try.pinned (OpenSpec.ofChange fnExactAigStepWrong)

/-- 'laws.FnExactAigRun': WHATEVER THE INPUT: true; the input reads as it did. -/
def fnExactAigRunSpec : ChangeSpec := { name := "fnExactAigRun", fn := fun _ => fun
  | [d1, d2] => { results := [.lit (.bool true)], args := [d1, d2] }
  | _ => none }
def fnExactAigRunRow : OpenClaim := { program := "ytdkpgbmcnjkjkaa", sum := "3ab91a6a94327a8a30ccd44c5593c127d932f4aa66714e725d0e3674b00d4ad1", func := "loop.example/registrar/laws.FnExactAigRun", spec := "fnExactAigRun", unfollowed := true, recurses := true, apart := false }
def FnExactAigRunSaid : Prop := fnExactAigRunRow.holds Try.pinned (OpenSpec.ofChange fnExactAigRunSpec)

/-- ITS FALSE NEIGHBOUR: 'it returns false'. Refute it at one input. -/
def fnExactAigRunWrong : ChangeSpec := { name := "fnExactAigRun", fn := fun _ => fun
  | [d1, d2] => { results := [.lit (.bool false)], args := [d1, d2] }
  | _ => none }
def FnExactAigRunWrongFalsely : Prop := fnExactAigRunRow.holds Try.pinned (OpenSpec.ofChange fnExactAigRunWrong)

/-- 'laws.FnExactAigNeeds': WHATEVER THE INPUT: true; the input reads as it did. -/
def fnExactAigNeedsSpec : ChangeSpec := { name := "fnExactAigNeeds", fn := fun _ => fun
  | [d1, d2] => { results := [.lit (.bool true)], args := [d1, d2] }
  | _ => none }
def fnExactAigNeedsRow : OpenClaim := { program := "ytdkpgbmcnjkjkaa", sum := "3ab91a6a94327a8a30ccd44c5593c127d932f4aa66714e725d0e3674b00d4ad1", func := "loop.example/registrar/laws.FnExactAigNeeds", spec := "fnExactAigNeeds", unfollowed := true, recurses := true, apart := false }
def FnExactAigNeedsSaid : Prop := fnExactAigNeedsRow.holds Try.pinned (OpenSpec.ofChange fnExactAigNeedsSpec)

/-- ITS FALSE NEIGHBOUR: 'it returns false'. Refute it at one input. -/
def fnExactAigNeedsWrong : ChangeSpec := { name := "fnExactAigNeeds", fn := fun _ => fun
  | [d1, d2] => { results := [.lit (.bool false)], args := [d1, d2] }
  | _ => none }
def FnExactAigNeedsWrongFalsely : Prop := fnExactAigNeedsRow.holds Try.pinned (OpenSpec.ofChange fnExactAigNeedsWrong)

/-- 'laws.FnAigValues': WHATEVER THE INPUT: true; the input reads as it did. -/
def fnAigValuesSpec : ChangeSpec := { name := "fnAigValues", fn := fun _ => fun
  | [d] => { results := [.lit (.bool true)], args := [d] }
  | _ => none }
def fnAigValuesRow : OpenClaim := { program := "ytdkpgbmcnjkjkaa", sum := "3ab91a6a94327a8a30ccd44c5593c127d932f4aa66714e725d0e3674b00d4ad1", func := "loop.example/registrar/laws.FnAigValues", spec := "fnAigValues", unfollowed := true, recurses := true, apart := false }
def FnAigValuesSaid : Prop := fnAigValuesRow.holds Try.pinned (OpenSpec.ofChange fnAigValuesSpec)

/-- ITS FALSE NEIGHBOUR: 'it returns false'. Refute it at one input. -/
def fnAigValuesWrong : ChangeSpec := { name := "fnAigValues", fn := fun _ => fun
  | [d] => { results := [.lit (.bool false)], args := [d] }
  | _ => none }
def FnAigValuesWrongFalsely : Prop := fnAigValuesRow.holds Try.pinned (OpenSpec.ofChange fnAigValuesWrong)

/-- 'laws.FnAigStep': WHATEVER THE INPUT: true; the input reads as it did. -/
def fnAigStepSpec : ChangeSpec := { name := "fnAigStep", fn := fun _ => fun
  | [d] => { results := [.lit (.bool true)], args := [d] }
  | _ => none }
def fnAigStepRow : OpenClaim := { program := "ytdkpgbmcnjkjkaa", sum := "3ab91a6a94327a8a30ccd44c5593c127d932f4aa66714e725d0e3674b00d4ad1", func := "loop.example/registrar/laws.FnAigStep", spec := "fnAigStep", unfollowed := true, recurses := true, apart := false }
def FnAigStepSaid : Prop := fnAigStepRow.holds Try.pinned (OpenSpec.ofChange fnAigStepSpec)

/-- ITS FALSE NEIGHBOUR: 'it returns false'. Refute it at one input. -/
def fnAigStepWrong : ChangeSpec := { name := "fnAigStep", fn := fun _ => fun
  | [d] => { results := [.lit (.bool false)], args := [d] }
  | _ => none }
def FnAigStepWrongFalsely : Prop := fnAigStepRow.holds Try.pinned (OpenSpec.ofChange fnAigStepWrong)

/-- 'laws.FnAigRun': WHATEVER THE INPUT: true; the input reads as it did. -/
def fnAigRunSpec : ChangeSpec := { name := "fnAigRun", fn := fun _ => fun
  | [d] => { results := [.lit (.bool true)], args := [d] }
  | _ => none }
def fnAigRunRow : OpenClaim := { program := "ytdkpgbmcnjkjkaa", sum := "3ab91a6a94327a8a30ccd44c5593c127d932f4aa66714e725d0e3674b00d4ad1", func := "loop.example/registrar/laws.FnAigRun", spec := "fnAigRun", unfollowed := true, recurses := true, apart := false }
def FnAigRunSaid : Prop := fnAigRunRow.holds Try.pinned (OpenSpec.ofChange fnAigRunSpec)

/-- ITS FALSE NEIGHBOUR: 'it returns false'. Refute it at one input. -/
def fnAigRunWrong : ChangeSpec := { name := "fnAigRun", fn := fun _ => fun
  | [d] => { results := [.lit (.bool false)], args := [d] }
  | _ => none }
def FnAigRunWrongFalsely : Prop := fnAigRunRow.holds Try.pinned (OpenSpec.ofChange fnAigRunWrong)

/-- 'laws.FnAigNeeds': WHATEVER THE INPUT: true; the input reads as it did. -/
def fnAigNeedsSpec : ChangeSpec := { name := "fnAigNeeds", fn := fun _ => fun
  | [d1, d2] => { results := [.lit (.bool true)], args := [d1, d2] }
  | _ => none }
def fnAigNeedsRow : OpenClaim := { program := "ytdkpgbmcnjkjkaa", sum := "3ab91a6a94327a8a30ccd44c5593c127d932f4aa66714e725d0e3674b00d4ad1", func := "loop.example/registrar/laws.FnAigNeeds", spec := "fnAigNeeds", unfollowed := true, recurses := true, apart := false }
def FnAigNeedsSaid : Prop := fnAigNeedsRow.holds Try.pinned (OpenSpec.ofChange fnAigNeedsSpec)

/-- ITS FALSE NEIGHBOUR: 'it returns false'. Refute it at one input. -/
def fnAigNeedsWrong : ChangeSpec := { name := "fnAigNeeds", fn := fun _ => fun
  | [d1, d2] => { results := [.lit (.bool false)], args := [d1, d2] }
  | _ => none }
def FnAigNeedsWrongFalsely : Prop := fnAigNeedsRow.holds Try.pinned (OpenSpec.ofChange fnAigNeedsWrong)

/- THE SECOND FORM. 'bulk': how many values and letters a reading holds, each counted each time it is reached (what is shared counts as often as it is met; a slice's spare places count too). A statement '..UptoSaid' is the law's where the arguments, and the package variables that the reading takes, are together of bulk at most 1048576: NARROWER than '..Said'. Prove '..Said' where nothing that the law and all that it calls make is longer than what came in: it says more and counts as full. Else prove '..UptoSaid'. A law counts once. -/
mutual
def uptoBulk {H : Type} : DataW H → Nat
  | .lit (.string bytes) => bytes.length + 1
  | .lit _ => 1
  | .nil => 1
  | .ptr d => uptoBulk d + 1
  | .slice elems spare => uptoBulkAll elems + uptoBulkAll spare + 1
  | .agg parts => uptoBulkAll parts + 1
  | .iface _ d => uptoBulk d + 1
  | .map entries => uptoBulkEntries entries + 1
  | .held _ => 1
def uptoBulkAll {H : Type} : List (DataW H) → Nat
  | [] => 0
  | d :: r => uptoBulk d + uptoBulkAll r
def uptoBulkEntries {H : Type} : List (Lit × DataW H) → Nat
  | [] => 0
  | x :: r => uptoBulkEntry x + uptoBulkEntries r
def uptoBulkEntry {H : Type} : Lit × DataW H → Nat
  | (.string bytes, d) => bytes.length + uptoBulk d + 1
  | (_, d) => uptoBulk d + 1
 end
def uptoSmall : (H : Type) → List (DataW H) → Bool := fun _ ds => decide (uptoBulkAll ds ≤ 1048576)
def OpenSpec.upto (s : _root_.Go.ChangeSpec) : _root_.Go.OpenSpec := { _root_.Go.OpenSpec.ofChange s with cond := some uptoSmall }

/-- 'laws.FnExactAigValues', WHERE WHAT IT READS IS OF BULK AT MOST 1048576: true; the input reads as it did. -/
def fnExactAigValuesUptoRow : OpenClaim := { program := "ytdkpgbmcnjkjkaa", sum := "3ab91a6a94327a8a30ccd44c5593c127d932f4aa66714e725d0e3674b00d4ad1", func := "loop.example/registrar/laws.FnExactAigValues", spec := "fnExactAigValues", unfollowed := true, recurses := true, apart := false, narrowed := true }
def FnExactAigValuesUptoSaid : Prop := fnExactAigValuesUptoRow.holds Try.pinned (OpenSpec.upto fnExactAigValuesSpec)

/-- 'laws.FnExactAigStep', WHERE WHAT IT READS IS OF BULK AT MOST 1048576: true; the input reads as it did. -/
def fnExactAigStepUptoRow : OpenClaim := { program := "ytdkpgbmcnjkjkaa", sum := "3ab91a6a94327a8a30ccd44c5593c127d932f4aa66714e725d0e3674b00d4ad1", func := "loop.example/registrar/laws.FnExactAigStep", spec := "fnExactAigStep", unfollowed := true, recurses := true, apart := false, narrowed := true }
def FnExactAigStepUptoSaid : Prop := fnExactAigStepUptoRow.holds Try.pinned (OpenSpec.upto fnExactAigStepSpec)

/-- 'laws.FnExactAigRun', WHERE WHAT IT READS IS OF BULK AT MOST 1048576: true; the input reads as it did. -/
def fnExactAigRunUptoRow : OpenClaim := { program := "ytdkpgbmcnjkjkaa", sum := "3ab91a6a94327a8a30ccd44c5593c127d932f4aa66714e725d0e3674b00d4ad1", func := "loop.example/registrar/laws.FnExactAigRun", spec := "fnExactAigRun", unfollowed := true, recurses := true, apart := false, narrowed := true }
def FnExactAigRunUptoSaid : Prop := fnExactAigRunUptoRow.holds Try.pinned (OpenSpec.upto fnExactAigRunSpec)

/-- 'laws.FnExactAigNeeds', WHERE WHAT IT READS IS OF BULK AT MOST 1048576: true; the input reads as it did. -/
def fnExactAigNeedsUptoRow : OpenClaim := { program := "ytdkpgbmcnjkjkaa", sum := "3ab91a6a94327a8a30ccd44c5593c127d932f4aa66714e725d0e3674b00d4ad1", func := "loop.example/registrar/laws.FnExactAigNeeds", spec := "fnExactAigNeeds", unfollowed := true, recurses := true, apart := false, narrowed := true }
def FnExactAigNeedsUptoSaid : Prop := fnExactAigNeedsUptoRow.holds Try.pinned (OpenSpec.upto fnExactAigNeedsSpec)

/-- 'laws.FnAigValues', WHERE WHAT IT READS IS OF BULK AT MOST 1048576: true; the input reads as it did. -/
def fnAigValuesUptoRow : OpenClaim := { program := "ytdkpgbmcnjkjkaa", sum := "3ab91a6a94327a8a30ccd44c5593c127d932f4aa66714e725d0e3674b00d4ad1", func := "loop.example/registrar/laws.FnAigValues", spec := "fnAigValues", unfollowed := true, recurses := true, apart := false, narrowed := true }
def FnAigValuesUptoSaid : Prop := fnAigValuesUptoRow.holds Try.pinned (OpenSpec.upto fnAigValuesSpec)

/-- 'laws.FnAigStep', WHERE WHAT IT READS IS OF BULK AT MOST 1048576: true; the input reads as it did. -/
def fnAigStepUptoRow : OpenClaim := { program := "ytdkpgbmcnjkjkaa", sum := "3ab91a6a94327a8a30ccd44c5593c127d932f4aa66714e725d0e3674b00d4ad1", func := "loop.example/registrar/laws.FnAigStep", spec := "fnAigStep", unfollowed := true, recurses := true, apart := false, narrowed := true }
def FnAigStepUptoSaid : Prop := fnAigStepUptoRow.holds Try.pinned (OpenSpec.upto fnAigStepSpec)

/-- 'laws.FnAigRun', WHERE WHAT IT READS IS OF BULK AT MOST 1048576: true; the input reads as it did. -/
def fnAigRunUptoRow : OpenClaim := { program := "ytdkpgbmcnjkjkaa", sum := "3ab91a6a94327a8a30ccd44c5593c127d932f4aa66714e725d0e3674b00d4ad1", func := "loop.example/registrar/laws.FnAigRun", spec := "fnAigRun", unfollowed := true, recurses := true, apart := false, narrowed := true }
def FnAigRunUptoSaid : Prop := fnAigRunUptoRow.holds Try.pinned (OpenSpec.upto fnAigRunSpec)

/-- 'laws.FnAigNeeds', WHERE WHAT IT READS IS OF BULK AT MOST 1048576: true; the input reads as it did. -/
def fnAigNeedsUptoRow : OpenClaim := { program := "ytdkpgbmcnjkjkaa", sum := "3ab91a6a94327a8a30ccd44c5593c127d932f4aa66714e725d0e3674b00d4ad1", func := "loop.example/registrar/laws.FnAigNeeds", spec := "fnAigNeeds", unfollowed := true, recurses := true, apart := false, narrowed := true }
def FnAigNeedsUptoSaid : Prop := fnAigNeedsUptoRow.holds Try.pinned (OpenSpec.upto fnAigNeedsSpec)

end Rows
end Go.Proofs.Ytdkpgbmcnjkjkaa
