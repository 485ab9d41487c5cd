/-
  No cell of these rows narrows 'for every input' (looked for: loops, veiled, ifaces, maps, wideKeys, modest, calm, conditions, laid).
  DERIVED. THE GIVEN ROWS OF THIS SEAT. 8 by the template 'for every input the law returns true; each argument reads behind the call as it read before'; 0 by the template 'total and deterministic' (their statements: YtmkbcfiechoebaaTotals.lean).
  GIVEN WITH THE SEED: the statements are not yours to turn. If you find one false, say at which input.
  Laid BY PROGRAM, IN A SANDBOX (cutbox-rows.mjs): the forced cells as the released guide's own fill.sh prints them over the translation d8e07d76d59d3b5d… (all of the seat's roots in one cut). By AI agents, Wed Nov 11 2026. No macro, syntax, notation, axiom, sorry.
-/
import Derived.Test.YtmkbcfiechoebaaChecked
import GoSem.Claim
import GoSem.ClaimJoined
import GoSem.ClaimMapViews
import Derived.JoinedTies
import Derived.KernelRfl
namespace Go.Proofs.Ytmkbcfiechoebaa
/- THE CELL 'sum', in the pinned program and in every row, IS THE sha256 OF THE DUMP (.gsa) THAT YtmkbcfiechoebaaProg.lean LOADS. Nothing in Lean hashes anything: it is a label: what it is worth is what the hold of that sum in a sandbox is worth. -/
noncomputable def Try.pinned : Pinned := { name := "ytmkbcfiechoebaa", sum := "d8e07d76d59d3b5d2b3b3f7d41a1662721db520a9d4f45ab7bb7dd292125d9e9", checked := Try.checked }
namespace Rows
def none {H : Type} : Left H := { results := [], args := [] }

/-- 'laws.FnBddOf': WHATEVER THE INPUT: true; the input reads as it did. -/
def fnBddOfSpec : ChangeSpec := { name := "fnBddOf", fn := fun _ => fun
  | [d] => { results := [.lit (.bool true)], args := [d] }
  | _ => none }
def fnBddOfRow : OpenClaim := { program := "ytmkbcfiechoebaa", sum := "d8e07d76d59d3b5d2b3b3f7d41a1662721db520a9d4f45ab7bb7dd292125d9e9", func := "loop.example/registrar/laws.FnBddOf", spec := "fnBddOf", unfollowed := true, recurses := true, plainKeys := false, apart := false }
def FnBddOfSaid : Prop := fnBddOfRow.holds Try.pinned (OpenSpec.ofChange fnBddOfSpec)

/-- ITS FALSE NEIGHBOUR: 'it returns false'. Refute it at one input. -/
def fnBddOfWrong : ChangeSpec := { name := "fnBddOf", fn := fun _ => fun
  | [d] => { results := [.lit (.bool false)], args := [d] }
  | _ => none }
def FnBddOfWrongFalsely : Prop := fnBddOfRow.holds Try.pinned (OpenSpec.ofChange fnBddOfWrong)

/-- 'laws.FnBddOk': WHATEVER THE INPUT: true; the input reads as it did. -/
def fnBddOkSpec : ChangeSpec := { name := "fnBddOk", fn := fun _ => fun
  | [d] => { results := [.lit (.bool true)], args := [d] }
  | _ => none }
def fnBddOkRow : OpenClaim := { program := "ytmkbcfiechoebaa", sum := "d8e07d76d59d3b5d2b3b3f7d41a1662721db520a9d4f45ab7bb7dd292125d9e9", func := "loop.example/registrar/laws.FnBddOk", spec := "fnBddOk", unfollowed := true, recurses := true, plainKeys := false, apart := false }
def FnBddOkSaid : Prop := fnBddOkRow.holds Try.pinned (OpenSpec.ofChange fnBddOkSpec)

/-- ITS FALSE NEIGHBOUR: 'it returns false'. Refute it at one input. -/
def fnBddOkWrong : ChangeSpec := { name := "fnBddOk", fn := fun _ => fun
  | [d] => { results := [.lit (.bool false)], args := [d] }
  | _ => none }
def FnBddOkWrongFalsely : Prop := fnBddOkRow.holds Try.pinned (OpenSpec.ofChange fnBddOkWrong)

/-- 'laws.FnBddTwo': WHATEVER THE INPUT: true; the input reads as it did. -/
def fnBddTwoSpec : ChangeSpec := { name := "fnBddTwo", fn := fun _ => fun
  | [d] => { results := [.lit (.bool true)], args := [d] }
  | _ => none }
def fnBddTwoRow : OpenClaim := { program := "ytmkbcfiechoebaa", sum := "d8e07d76d59d3b5d2b3b3f7d41a1662721db520a9d4f45ab7bb7dd292125d9e9", func := "loop.example/registrar/laws.FnBddTwo", spec := "fnBddTwo", unfollowed := true, recurses := true, plainKeys := false, apart := false }
def FnBddTwoSaid : Prop := fnBddTwoRow.holds Try.pinned (OpenSpec.ofChange fnBddTwoSpec)

/-- ITS FALSE NEIGHBOUR: 'it returns false'. Refute it at one input. -/
def fnBddTwoWrong : ChangeSpec := { name := "fnBddTwo", fn := fun _ => fun
  | [d] => { results := [.lit (.bool false)], args := [d] }
  | _ => none }
def FnBddTwoWrongFalsely : Prop := fnBddTwoRow.holds Try.pinned (OpenSpec.ofChange fnBddTwoWrong)

/-- 'laws.FnBddParts': WHATEVER THE INPUT: true; the input reads as it did. -/
def fnBddPartsSpec : ChangeSpec := { name := "fnBddParts", fn := fun _ => fun
  | [d] => { results := [.lit (.bool true)], args := [d] }
  | _ => none }
def fnBddPartsRow : OpenClaim := { program := "ytmkbcfiechoebaa", sum := "d8e07d76d59d3b5d2b3b3f7d41a1662721db520a9d4f45ab7bb7dd292125d9e9", func := "loop.example/registrar/laws.FnBddParts", spec := "fnBddParts", unfollowed := true, recurses := true, plainKeys := false, apart := false }
def FnBddPartsSaid : Prop := fnBddPartsRow.holds Try.pinned (OpenSpec.ofChange fnBddPartsSpec)

/-- ITS FALSE NEIGHBOUR: 'it returns false'. Refute it at one input. -/
def fnBddPartsWrong : ChangeSpec := { name := "fnBddParts", fn := fun _ => fun
  | [d] => { results := [.lit (.bool false)], args := [d] }
  | _ => none }
def FnBddPartsWrongFalsely : Prop := fnBddPartsRow.holds Try.pinned (OpenSpec.ofChange fnBddPartsWrong)

/-- 'laws.FnBddWith': WHATEVER THE INPUT: true; the input reads as it did. -/
def fnBddWithSpec : ChangeSpec := { name := "fnBddWith", fn := fun _ => fun
  | [d] => { results := [.lit (.bool true)], args := [d] }
  | _ => none }
def fnBddWithRow : OpenClaim := { program := "ytmkbcfiechoebaa", sum := "d8e07d76d59d3b5d2b3b3f7d41a1662721db520a9d4f45ab7bb7dd292125d9e9", func := "loop.example/registrar/laws.FnBddWith", spec := "fnBddWith", unfollowed := true, recurses := true, plainKeys := false, apart := false }
def FnBddWithSaid : Prop := fnBddWithRow.holds Try.pinned (OpenSpec.ofChange fnBddWithSpec)

/-- ITS FALSE NEIGHBOUR: 'it returns false'. Refute it at one input. -/
def fnBddWithWrong : ChangeSpec := { name := "fnBddWith", fn := fun _ => fun
  | [d] => { results := [.lit (.bool false)], args := [d] }
  | _ => none }
def FnBddWithWrongFalsely : Prop := fnBddWithRow.holds Try.pinned (OpenSpec.ofChange fnBddWithWrong)

/-- 'laws.FnExactBddOf': WHATEVER THE INPUT: true; the input reads as it did. -/
def fnExactBddOfSpec : ChangeSpec := { name := "fnExactBddOf", fn := fun _ => fun
  | [d1, d2] => { results := [.lit (.bool true)], args := [d1, d2] }
  | _ => none }
def fnExactBddOfRow : OpenClaim := { program := "ytmkbcfiechoebaa", sum := "d8e07d76d59d3b5d2b3b3f7d41a1662721db520a9d4f45ab7bb7dd292125d9e9", func := "loop.example/registrar/laws.FnExactBddOf", spec := "fnExactBddOf", recurses := true, plainKeys := false, apart := false }
def FnExactBddOfSaid : Prop := fnExactBddOfRow.holds Try.pinned (OpenSpec.ofChange fnExactBddOfSpec)

/-- ITS FALSE NEIGHBOUR: 'it returns false'. Refute it at one input. -/
def fnExactBddOfWrong : ChangeSpec := { name := "fnExactBddOf", fn := fun _ => fun
  | [d1, d2] => { results := [.lit (.bool false)], args := [d1, d2] }
  | _ => none }
def FnExactBddOfWrongFalsely : Prop := fnExactBddOfRow.holds Try.pinned (OpenSpec.ofChange fnExactBddOfWrong)

/-- 'laws.FnExactBddFirst': WHATEVER THE INPUT: true; the input reads as it did. -/
def fnExactBddFirstSpec : ChangeSpec := { name := "fnExactBddFirst", fn := fun _ => fun
  | [d] => { results := [.lit (.bool true)], args := [d] }
  | _ => none }
def fnExactBddFirstRow : OpenClaim := { program := "ytmkbcfiechoebaa", sum := "d8e07d76d59d3b5d2b3b3f7d41a1662721db520a9d4f45ab7bb7dd292125d9e9", func := "loop.example/registrar/laws.FnExactBddFirst", spec := "fnExactBddFirst", unfollowed := true, recurses := true, plainKeys := false, apart := false }
def FnExactBddFirstSaid : Prop := fnExactBddFirstRow.holds Try.pinned (OpenSpec.ofChange fnExactBddFirstSpec)

/-- ITS FALSE NEIGHBOUR: 'it returns false'. Refute it at one input. -/
def fnExactBddFirstWrong : ChangeSpec := { name := "fnExactBddFirst", fn := fun _ => fun
  | [d] => { results := [.lit (.bool false)], args := [d] }
  | _ => none }
def FnExactBddFirstWrongFalsely : Prop := fnExactBddFirstRow.holds Try.pinned (OpenSpec.ofChange fnExactBddFirstWrong)

/-- 'laws.FnExactBddNeeds': WHATEVER THE INPUT: true; the input reads as it did. -/
def fnExactBddNeedsSpec : ChangeSpec := { name := "fnExactBddNeeds", fn := fun _ => fun
  | [d] => { results := [.lit (.bool true)], args := [d] }
  | _ => none }
def fnExactBddNeedsRow : OpenClaim := { program := "ytmkbcfiechoebaa", sum := "d8e07d76d59d3b5d2b3b3f7d41a1662721db520a9d4f45ab7bb7dd292125d9e9", func := "loop.example/registrar/laws.FnExactBddNeeds", spec := "fnExactBddNeeds", unfollowed := true, recurses := true, plainKeys := false, apart := false }
def FnExactBddNeedsSaid : Prop := fnExactBddNeedsRow.holds Try.pinned (OpenSpec.ofChange fnExactBddNeedsSpec)

/-- ITS FALSE NEIGHBOUR: 'it returns false'. Refute it at one input. -/
def fnExactBddNeedsWrong : ChangeSpec := { name := "fnExactBddNeeds", fn := fun _ => fun
  | [d] => { results := [.lit (.bool false)], args := [d] }
  | _ => none }
def FnExactBddNeedsWrongFalsely : Prop := fnExactBddNeedsRow.holds Try.pinned (OpenSpec.ofChange fnExactBddNeedsWrong)

/- THE SECOND FORM. 'bulk': how many values and letters a reading holds, each counted each time it is reached (what is shared counts as often as it is met; a slice's spare places count too). A statement '..UptoSaid' is the law's where the arguments, and the package variables that the reading takes, are together of bulk at most 1048576: NARROWER than '..Said'. Prove '..Said' where nothing that the law and all that it calls make is longer than what came in: it says more and counts as full. Else prove '..UptoSaid'. A law counts once. -/
mutual
def uptoBulk {H : Type} : DataW H → Nat
  | .lit (.string bytes) => bytes.length + 1
  | .lit _ => 1
  | .nil => 1
  | .ptr d => uptoBulk d + 1
  | .slice elems spare => uptoBulkAll elems + uptoBulkAll spare + 1
  | .agg parts => uptoBulkAll parts + 1
  | .iface _ d => uptoBulk d + 1
  | .map entries => uptoBulkEntries entries + 1
  | .held _ => 1
def uptoBulkAll {H : Type} : List (DataW H) → Nat
  | [] => 0
  | d :: r => uptoBulk d + uptoBulkAll r
def uptoBulkEntries {H : Type} : List (Lit × DataW H) → Nat
  | [] => 0
  | x :: r => uptoBulkEntry x + uptoBulkEntries r
def uptoBulkEntry {H : Type} : Lit × DataW H → Nat
  | (.string bytes, d) => bytes.length + uptoBulk d + 1
  | (_, d) => uptoBulk d + 1
 end
def uptoSmall : (H : Type) → List (DataW H) → Bool := fun _ ds => decide (uptoBulkAll ds ≤ 1048576)
def OpenSpec.upto (s : _root_.Go.ChangeSpec) : _root_.Go.OpenSpec := { _root_.Go.OpenSpec.ofChange s with cond := some uptoSmall }

/-- 'laws.FnBddOf', WHERE WHAT IT READS IS OF BULK AT MOST 1048576: true; the input reads as it did. -/
def fnBddOfUptoRow : OpenClaim := { program := "ytmkbcfiechoebaa", sum := "d8e07d76d59d3b5d2b3b3f7d41a1662721db520a9d4f45ab7bb7dd292125d9e9", func := "loop.example/registrar/laws.FnBddOf", spec := "fnBddOf", unfollowed := true, recurses := true, plainKeys := false, apart := false, narrowed := true }
def FnBddOfUptoSaid : Prop := fnBddOfUptoRow.holds Try.pinned (OpenSpec.upto fnBddOfSpec)

/-- 'laws.FnBddOk', WHERE WHAT IT READS IS OF BULK AT MOST 1048576: true; the input reads as it did. -/
def fnBddOkUptoRow : OpenClaim := { program := "ytmkbcfiechoebaa", sum := "d8e07d76d59d3b5d2b3b3f7d41a1662721db520a9d4f45ab7bb7dd292125d9e9", func := "loop.example/registrar/laws.FnBddOk", spec := "fnBddOk", unfollowed := true, recurses := true, plainKeys := false, apart := false, narrowed := true }
def FnBddOkUptoSaid : Prop := fnBddOkUptoRow.holds Try.pinned (OpenSpec.upto fnBddOkSpec)

/-- 'laws.FnBddTwo', WHERE WHAT IT READS IS OF BULK AT MOST 1048576: true; the input reads as it did. -/
def fnBddTwoUptoRow : OpenClaim := { program := "ytmkbcfiechoebaa", sum := "d8e07d76d59d3b5d2b3b3f7d41a1662721db520a9d4f45ab7bb7dd292125d9e9", func := "loop.example/registrar/laws.FnBddTwo", spec := "fnBddTwo", unfollowed := true, recurses := true, plainKeys := false, apart := false, narrowed := true }
def FnBddTwoUptoSaid : Prop := fnBddTwoUptoRow.holds Try.pinned (OpenSpec.upto fnBddTwoSpec)

/-- 'laws.FnBddParts', WHERE WHAT IT READS IS OF BULK AT MOST 1048576: true; the input reads as it did. -/
def fnBddPartsUptoRow : OpenClaim := { program := "ytmkbcfiechoebaa", sum := "d8e07d76d59d3b5d2b3b3f7d41a1662721db520a9d4f45ab7bb7dd292125d9e9", func := "loop.example/registrar/laws.FnBddParts", spec := "fnBddParts", unfollowed := true, recurses := true, plainKeys := false, apart := false, narrowed := true }
def FnBddPartsUptoSaid : Prop := fnBddPartsUptoRow.holds Try.pinned (OpenSpec.upto fnBddPartsSpec)

/-- 'laws.FnBddWith', WHERE WHAT IT READS IS OF BULK AT MOST 1048576: true; the input reads as it did. -/
def fnBddWithUptoRow : OpenClaim := { program := "ytmkbcfiechoebaa", sum := "d8e07d76d59d3b5d2b3b3f7d41a1662721db520a9d4f45ab7bb7dd292125d9e9", func := "loop.example/registrar/laws.FnBddWith", spec := "fnBddWith", unfollowed := true, recurses := true, plainKeys := false, apart := false, narrowed := true }
def FnBddWithUptoSaid : Prop := fnBddWithUptoRow.holds Try.pinned (OpenSpec.upto fnBddWithSpec)

/-- 'laws.FnExactBddOf', WHERE WHAT IT READS IS OF BULK AT MOST 1048576: true; the input reads as it did. -/
def fnExactBddOfUptoRow : OpenClaim := { program := "ytmkbcfiechoebaa", sum := "d8e07d76d59d3b5d2b3b3f7d41a1662721db520a9d4f45ab7bb7dd292125d9e9", func := "loop.example/registrar/laws.FnExactBddOf", spec := "fnExactBddOf", recurses := true, plainKeys := false, apart := false, narrowed := true }
def FnExactBddOfUptoSaid : Prop := fnExactBddOfUptoRow.holds Try.pinned (OpenSpec.upto fnExactBddOfSpec)

/-- 'laws.FnExactBddFirst', WHERE WHAT IT READS IS OF BULK AT MOST 1048576: true; the input reads as it did. -/
def fnExactBddFirstUptoRow : OpenClaim := { program := "ytmkbcfiechoebaa", sum := "d8e07d76d59d3b5d2b3b3f7d41a1662721db520a9d4f45ab7bb7dd292125d9e9", func := "loop.example/registrar/laws.FnExactBddFirst", spec := "fnExactBddFirst", unfollowed := true, recurses := true, plainKeys := false, apart := false, narrowed := true }
def FnExactBddFirstUptoSaid : Prop := fnExactBddFirstUptoRow.holds Try.pinned (OpenSpec.upto fnExactBddFirstSpec)

/-- 'laws.FnExactBddNeeds', WHERE WHAT IT READS IS OF BULK AT MOST 1048576: true; the input reads as it did. -/
def fnExactBddNeedsUptoRow : OpenClaim := { program := "ytmkbcfiechoebaa", sum := "d8e07d76d59d3b5d2b3b3f7d41a1662721db520a9d4f45ab7bb7dd292125d9e9", func := "loop.example/registrar/laws.FnExactBddNeeds", spec := "fnExactBddNeeds", unfollowed := true, recurses := true, plainKeys := false, apart := false, narrowed := true }
def FnExactBddNeedsUptoSaid : Prop := fnExactBddNeedsUptoRow.holds Try.pinned (OpenSpec.upto fnExactBddNeedsSpec)

end Rows
end Go.Proofs.Ytmkbcfiechoebaa
