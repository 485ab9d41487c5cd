/-
  No cell of these rows narrows 'for every input' (looked for: loops, veiled, ifaces, maps, wideKeys, modest, calm, conditions, laid).
  DERIVED. THE GIVEN ROWS OF THIS SEAT. 8 by the template 'for every input the law returns true; each argument reads behind the call as it read before'; 0 by the template 'total and deterministic' (their statements: YtbdjdgamnnifjaaTotals.lean).
  GIVEN WITH THE SEED: the statements are not yours to turn. If you find one false, say at which input.
  Laid BY PROGRAM, IN A SANDBOX (cutbox-rows.mjs): the forced cells as the released guide's own fill.sh prints them over the translation 8dd8c644a4cae2ff… (all of the seat's roots in one cut). By AI agents, Wed Nov 11 2026. No macro, syntax, notation, axiom, sorry.
-/
import Derived.Test.YtbdjdgamnnifjaaChecked
import GoSem.Claim
import GoSem.ClaimJoined
import GoSem.ClaimMapViews
import Derived.JoinedTies
import Derived.KernelRfl
namespace Go.Proofs.Ytbdjdgamnnifjaa
/- THE CELL 'sum', in the pinned program and in every row, IS THE sha256 OF THE DUMP (.gsa) THAT YtbdjdgamnnifjaaProg.lean LOADS. Nothing in Lean hashes anything: it is a label: what it is worth is what the hold of that sum in a sandbox is worth. -/
noncomputable def Try.pinned : Pinned := { name := "ytbdjdgamnnifjaa", sum := "8dd8c644a4cae2fff6ec95df83d6a1123eb3bb1c941685a2162da77cb8e00d5c", checked := Try.checked }
namespace Rows
def none {H : Type} : Left H := { results := [], args := [] }

/-- 'laws.FnExactAigValues': WHATEVER THE INPUT: true; the input reads as it did. -/
def fnExactAigValuesSpec : ChangeSpec := { name := "fnExactAigValues", fn := fun _ => fun
  | [d1, d2, d3] => { results := [.lit (.bool true)], args := [d1, d2, d3] }
  | _ => none }
def fnExactAigValuesRow : OpenClaim := { program := "ytbdjdgamnnifjaa", sum := "8dd8c644a4cae2fff6ec95df83d6a1123eb3bb1c941685a2162da77cb8e00d5c", func := "loop.example/registrar/laws.FnExactAigValues", spec := "fnExactAigValues", unfollowed := true, recurses := true, plainKeys := false, apart := false }
def FnExactAigValuesSaid : Prop := fnExactAigValuesRow.holds Try.pinned (OpenSpec.ofChange fnExactAigValuesSpec)

/-- ITS FALSE NEIGHBOUR: 'it returns false'. Refute it at one input. -/
def fnExactAigValuesWrong : ChangeSpec := { name := "fnExactAigValues", fn := fun _ => fun
  | [d1, d2, d3] => { results := [.lit (.bool false)], args := [d1, d2, d3] }
  | _ => none }
def FnExactAigValuesWrongFalsely : Prop := fnExactAigValuesRow.holds Try.pinned (OpenSpec.ofChange fnExactAigValuesWrong)

/-- 'laws.FnExactAigStep': WHATEVER THE INPUT: true; the input reads as it did. -/
def fnExactAigStepSpec : ChangeSpec := { name := "fnExactAigStep", fn := fun _ => fun
  | [d1, d2, d3] => { results := [.lit (.bool true)], args := [d1, d2, d3] }
  | _ => none }
def fnExactAigStepRow : OpenClaim := { program := "ytbdjdgamnnifjaa", sum := "8dd8c644a4cae2fff6ec95df83d6a1123eb3bb1c941685a2162da77cb8e00d5c", func := "loop.example/registrar/laws.FnExactAigStep", spec := "fnExactAigStep", unfollowed := true, recurses := true, plainKeys := false, apart := false }
def FnExactAigStepSaid : Prop := fnExactAigStepRow.holds Try.pinned (OpenSpec.ofChange fnExactAigStepSpec)

/-- ITS FALSE NEIGHBOUR: 'it returns false'. Refute it at one input. -/
def fnExactAigStepWrong : ChangeSpec := { name := "fnExactAigStep", fn := fun _ => fun
  | [d1, d2, d3] => { results := [.lit (.bool false)], args := [d1, d2, d3] }
  | _ => none }
def FnExactAigStepWrongFalsely : Prop := fnExactAigStepRow.holds Try.pinned (OpenSpec.ofChange fnExactAigStepWrong)

/-- 'laws.FnExactAigRun': WHATEVER THE INPUT: true; the input reads as it did. -/
def fnExactAigRunSpec : ChangeSpec := { name := "fnExactAigRun", fn := fun _ => fun
  | [d1, d2] => { results := [.lit (.bool true)], args := [d1, d2] }
  | _ => none }
def fnExactAigRunRow : OpenClaim := { program := "ytbdjdgamnnifjaa", sum := "8dd8c644a4cae2fff6ec95df83d6a1123eb3bb1c941685a2162da77cb8e00d5c", func := "loop.example/registrar/laws.FnExactAigRun", spec := "fnExactAigRun", unfollowed := true, recurses := true, plainKeys := false, apart := false }
def FnExactAigRunSaid : Prop := fnExactAigRunRow.holds Try.pinned (OpenSpec.ofChange fnExactAigRunSpec)

/-- ITS FALSE NEIGHBOUR: 'it returns false'. Refute it at one input. -/
def fnExactAigRunWrong : ChangeSpec := { name := "fnExactAigRun", fn := fun _ => fun
  | [d1, d2] => { results := [.lit (.bool false)], args := [d1, d2] }
  | _ => none }
def FnExactAigRunWrongFalsely : Prop := fnExactAigRunRow.holds Try.pinned (OpenSpec.ofChange fnExactAigRunWrong)

/-- 'laws.FnExactAigNeeds': WHATEVER THE INPUT: true; the input reads as it did. -/
def fnExactAigNeedsSpec : ChangeSpec := { name := "fnExactAigNeeds", fn := fun _ => fun
  | [d1, d2] => { results := [.lit (.bool true)], args := [d1, d2] }
  | _ => none }
def fnExactAigNeedsRow : OpenClaim := { program := "ytbdjdgamnnifjaa", sum := "8dd8c644a4cae2fff6ec95df83d6a1123eb3bb1c941685a2162da77cb8e00d5c", func := "loop.example/registrar/laws.FnExactAigNeeds", spec := "fnExactAigNeeds", unfollowed := true, recurses := true, plainKeys := false, apart := false }
def FnExactAigNeedsSaid : Prop := fnExactAigNeedsRow.holds Try.pinned (OpenSpec.ofChange fnExactAigNeedsSpec)

/-- ITS FALSE NEIGHBOUR: 'it returns false'. Refute it at one input. -/
def fnExactAigNeedsWrong : ChangeSpec := { name := "fnExactAigNeeds", fn := fun _ => fun
  | [d1, d2] => { results := [.lit (.bool false)], args := [d1, d2] }
  | _ => none }
def FnExactAigNeedsWrongFalsely : Prop := fnExactAigNeedsRow.holds Try.pinned (OpenSpec.ofChange fnExactAigNeedsWrong)

/-- 'laws.FnExactAigCnf': WHATEVER THE INPUT: true; the input reads as it did. -/
def fnExactAigCnfSpec : ChangeSpec := { name := "fnExactAigCnf", fn := fun _ => fun
  | [d] => { results := [.lit (.bool true)], args := [d] }
  | _ => none }
def fnExactAigCnfRow : OpenClaim := { program := "ytbdjdgamnnifjaa", sum := "8dd8c644a4cae2fff6ec95df83d6a1123eb3bb1c941685a2162da77cb8e00d5c", func := "loop.example/registrar/laws.FnExactAigCnf", spec := "fnExactAigCnf", unfollowed := true, recurses := true, plainKeys := false, apart := false }
def FnExactAigCnfSaid : Prop := fnExactAigCnfRow.holds Try.pinned (OpenSpec.ofChange fnExactAigCnfSpec)

/-- ITS FALSE NEIGHBOUR: 'it returns false'. Refute it at one input. -/
def fnExactAigCnfWrong : ChangeSpec := { name := "fnExactAigCnf", fn := fun _ => fun
  | [d] => { results := [.lit (.bool false)], args := [d] }
  | _ => none }
def FnExactAigCnfWrongFalsely : Prop := fnExactAigCnfRow.holds Try.pinned (OpenSpec.ofChange fnExactAigCnfWrong)

/-- 'laws.FnExactAigLess': WHATEVER THE INPUT: true; the input reads as it did. -/
def fnExactAigLessSpec : ChangeSpec := { name := "fnExactAigLess", fn := fun _ => fun
  | [d] => { results := [.lit (.bool true)], args := [d] }
  | _ => none }
def fnExactAigLessRow : OpenClaim := { program := "ytbdjdgamnnifjaa", sum := "8dd8c644a4cae2fff6ec95df83d6a1123eb3bb1c941685a2162da77cb8e00d5c", func := "loop.example/registrar/laws.FnExactAigLess", spec := "fnExactAigLess", unfollowed := true, recurses := true, plainKeys := false, apart := false }
def FnExactAigLessSaid : Prop := fnExactAigLessRow.holds Try.pinned (OpenSpec.ofChange fnExactAigLessSpec)

/-- ITS FALSE NEIGHBOUR: 'it returns false'. Refute it at one input. -/
def fnExactAigLessWrong : ChangeSpec := { name := "fnExactAigLess", fn := fun _ => fun
  | [d] => { results := [.lit (.bool false)], args := [d] }
  | _ => none }
def FnExactAigLessWrongFalsely : Prop := fnExactAigLessRow.holds Try.pinned (OpenSpec.ofChange fnExactAigLessWrong)

/-- 'laws.FnAigLess': WHATEVER THE INPUT: true; the input reads as it did. -/
def fnAigLessSpec : ChangeSpec := { name := "fnAigLess", fn := fun _ => fun
  | [d1, d2] => { results := [.lit (.bool true)], args := [d1, d2] }
  | _ => none }
def fnAigLessRow : OpenClaim := { program := "ytbdjdgamnnifjaa", sum := "8dd8c644a4cae2fff6ec95df83d6a1123eb3bb1c941685a2162da77cb8e00d5c", func := "loop.example/registrar/laws.FnAigLess", spec := "fnAigLess", unfollowed := true, recurses := true, plainKeys := false, apart := false }
def FnAigLessSaid : Prop := fnAigLessRow.holds Try.pinned (OpenSpec.ofChange fnAigLessSpec)

/-- ITS FALSE NEIGHBOUR: 'it returns false'. Refute it at one input. -/
def fnAigLessWrong : ChangeSpec := { name := "fnAigLess", fn := fun _ => fun
  | [d1, d2] => { results := [.lit (.bool false)], args := [d1, d2] }
  | _ => none }
def FnAigLessWrongFalsely : Prop := fnAigLessRow.holds Try.pinned (OpenSpec.ofChange fnAigLessWrong)

/-- 'laws.FnAigLessStep': WHATEVER THE INPUT: true; the input reads as it did. -/
def fnAigLessStepSpec : ChangeSpec := { name := "fnAigLessStep", fn := fun _ => fun
  | [d] => { results := [.lit (.bool true)], args := [d] }
  | _ => none }
def fnAigLessStepRow : OpenClaim := { program := "ytbdjdgamnnifjaa", sum := "8dd8c644a4cae2fff6ec95df83d6a1123eb3bb1c941685a2162da77cb8e00d5c", func := "loop.example/registrar/laws.FnAigLessStep", spec := "fnAigLessStep", unfollowed := true, recurses := true, plainKeys := false, apart := false }
def FnAigLessStepSaid : Prop := fnAigLessStepRow.holds Try.pinned (OpenSpec.ofChange fnAigLessStepSpec)

/-- ITS FALSE NEIGHBOUR: 'it returns false'. Refute it at one input. -/
def fnAigLessStepWrong : ChangeSpec := { name := "fnAigLessStep", fn := fun _ => fun
  | [d] => { results := [.lit (.bool false)], args := [d] }
  | _ => none }
def FnAigLessStepWrongFalsely : Prop := fnAigLessStepRow.holds Try.pinned (OpenSpec.ofChange fnAigLessStepWrong)

/- THE SECOND FORM. 'bulk': how many values and letters a reading holds, each counted each time it is reached (what is shared counts as often as it is met; a slice's spare places count too). A statement '..UptoSaid' is the law's where the arguments, and the package variables that the reading takes, are together of bulk at most 1048576: NARROWER than '..Said'. Prove '..Said' where nothing that the law and all that it calls make is longer than what came in: it says more and counts as full. Else prove '..UptoSaid'. A law counts once. -/
mutual
def uptoBulk {H : Type} : DataW H → Nat
  | .lit (.string bytes) => bytes.length + 1
  | .lit _ => 1
  | .nil => 1
  | .ptr d => uptoBulk d + 1
  | .slice elems spare => uptoBulkAll elems + uptoBulkAll spare + 1
  | .agg parts => uptoBulkAll parts + 1
  | .iface _ d => uptoBulk d + 1
  | .map entries => uptoBulkEntries entries + 1
  | .held _ => 1
def uptoBulkAll {H : Type} : List (DataW H) → Nat
  | [] => 0
  | d :: r => uptoBulk d + uptoBulkAll r
def uptoBulkEntries {H : Type} : List (Lit × DataW H) → Nat
  | [] => 0
  | x :: r => uptoBulkEntry x + uptoBulkEntries r
def uptoBulkEntry {H : Type} : Lit × DataW H → Nat
  | (.string bytes, d) => bytes.length + uptoBulk d + 1
  | (_, d) => uptoBulk d + 1
 end
def uptoSmall : (H : Type) → List (DataW H) → Bool := fun _ ds => decide (uptoBulkAll ds ≤ 1048576)
def OpenSpec.upto (s : _root_.Go.ChangeSpec) : _root_.Go.OpenSpec := { _root_.Go.OpenSpec.ofChange s with cond := some uptoSmall }

/-- 'laws.FnExactAigValues', WHERE WHAT IT READS IS OF BULK AT MOST 1048576: true; the input reads as it did. -/
def fnExactAigValuesUptoRow : OpenClaim := { program := "ytbdjdgamnnifjaa", sum := "8dd8c644a4cae2fff6ec95df83d6a1123eb3bb1c941685a2162da77cb8e00d5c", func := "loop.example/registrar/laws.FnExactAigValues", spec := "fnExactAigValues", unfollowed := true, recurses := true, plainKeys := false, apart := false, narrowed := true }
def FnExactAigValuesUptoSaid : Prop := fnExactAigValuesUptoRow.holds Try.pinned (OpenSpec.upto fnExactAigValuesSpec)

/-- 'laws.FnExactAigStep', WHERE WHAT IT READS IS OF BULK AT MOST 1048576: true; the input reads as it did. -/
def fnExactAigStepUptoRow : OpenClaim := { program := "ytbdjdgamnnifjaa", sum := "8dd8c644a4cae2fff6ec95df83d6a1123eb3bb1c941685a2162da77cb8e00d5c", func := "loop.example/registrar/laws.FnExactAigStep", spec := "fnExactAigStep", unfollowed := true, recurses := true, plainKeys := false, apart := false, narrowed := true }
def FnExactAigStepUptoSaid : Prop := fnExactAigStepUptoRow.holds Try.pinned (OpenSpec.upto fnExactAigStepSpec)

/-- 'laws.FnExactAigRun', WHERE WHAT IT READS IS OF BULK AT MOST 1048576: true; the input reads as it did. -/
def fnExactAigRunUptoRow : OpenClaim := { program := "ytbdjdgamnnifjaa", sum := "8dd8c644a4cae2fff6ec95df83d6a1123eb3bb1c941685a2162da77cb8e00d5c", func := "loop.example/registrar/laws.FnExactAigRun", spec := "fnExactAigRun", unfollowed := true, recurses := true, plainKeys := false, apart := false, narrowed := true }
def FnExactAigRunUptoSaid : Prop := fnExactAigRunUptoRow.holds Try.pinned (OpenSpec.upto fnExactAigRunSpec)

/-- 'laws.FnExactAigNeeds', WHERE WHAT IT READS IS OF BULK AT MOST 1048576: true; the input reads as it did. -/
def fnExactAigNeedsUptoRow : OpenClaim := { program := "ytbdjdgamnnifjaa", sum := "8dd8c644a4cae2fff6ec95df83d6a1123eb3bb1c941685a2162da77cb8e00d5c", func := "loop.example/registrar/laws.FnExactAigNeeds", spec := "fnExactAigNeeds", unfollowed := true, recurses := true, plainKeys := false, apart := false, narrowed := true }
def FnExactAigNeedsUptoSaid : Prop := fnExactAigNeedsUptoRow.holds Try.pinned (OpenSpec.upto fnExactAigNeedsSpec)

/-- 'laws.FnExactAigCnf', WHERE WHAT IT READS IS OF BULK AT MOST 1048576: true; the input reads as it did. -/
def fnExactAigCnfUptoRow : OpenClaim := { program := "ytbdjdgamnnifjaa", sum := "8dd8c644a4cae2fff6ec95df83d6a1123eb3bb1c941685a2162da77cb8e00d5c", func := "loop.example/registrar/laws.FnExactAigCnf", spec := "fnExactAigCnf", unfollowed := true, recurses := true, plainKeys := false, apart := false, narrowed := true }
def FnExactAigCnfUptoSaid : Prop := fnExactAigCnfUptoRow.holds Try.pinned (OpenSpec.upto fnExactAigCnfSpec)

/-- 'laws.FnExactAigLess', WHERE WHAT IT READS IS OF BULK AT MOST 1048576: true; the input reads as it did. -/
def fnExactAigLessUptoRow : OpenClaim := { program := "ytbdjdgamnnifjaa", sum := "8dd8c644a4cae2fff6ec95df83d6a1123eb3bb1c941685a2162da77cb8e00d5c", func := "loop.example/registrar/laws.FnExactAigLess", spec := "fnExactAigLess", unfollowed := true, recurses := true, plainKeys := false, apart := false, narrowed := true }
def FnExactAigLessUptoSaid : Prop := fnExactAigLessUptoRow.holds Try.pinned (OpenSpec.upto fnExactAigLessSpec)

/-- 'laws.FnAigLess', WHERE WHAT IT READS IS OF BULK AT MOST 1048576: true; the input reads as it did. -/
def fnAigLessUptoRow : OpenClaim := { program := "ytbdjdgamnnifjaa", sum := "8dd8c644a4cae2fff6ec95df83d6a1123eb3bb1c941685a2162da77cb8e00d5c", func := "loop.example/registrar/laws.FnAigLess", spec := "fnAigLess", unfollowed := true, recurses := true, plainKeys := false, apart := false, narrowed := true }
def FnAigLessUptoSaid : Prop := fnAigLessUptoRow.holds Try.pinned (OpenSpec.upto fnAigLessSpec)

/-- 'laws.FnAigLessStep', WHERE WHAT IT READS IS OF BULK AT MOST 1048576: true; the input reads as it did. -/
def fnAigLessStepUptoRow : OpenClaim := { program := "ytbdjdgamnnifjaa", sum := "8dd8c644a4cae2fff6ec95df83d6a1123eb3bb1c941685a2162da77cb8e00d5c", func := "loop.example/registrar/laws.FnAigLessStep", spec := "fnAigLessStep", unfollowed := true, recurses := true, plainKeys := false, apart := false, narrowed := true }
def FnAigLessStepUptoSaid : Prop := fnAigLessStepUptoRow.holds Try.pinned (OpenSpec.upto fnAigLessStepSpec)

end Rows
end Go.Proofs.Ytbdjdgamnnifjaa
