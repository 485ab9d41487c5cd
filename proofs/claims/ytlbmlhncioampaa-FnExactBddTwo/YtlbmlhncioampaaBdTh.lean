/-
  A sign as what it does with two truths; what is said with it between two, or that it is none.
-/
import Derived.Test.YtlbmlhncioampaaBdTg
import Derived.Laws.Strings
namespace Go.Proofs.Ytlbmlhncioampaa
open Go.RowKit Go.Deep
set_option linter.unusedVariables false

/-- What a sign does; none of other texts. -/
def opOf (sg : ByteArray) : Option (Bool → Bool → Bool) := if (sg.toList == [38]) = true then some (fun a b => a && b) else if (sg.toList == [124]) = true then some (fun a b => a || b) else if (sg.toList == [61]) = true then some (fun a b => a == b) else none

theorem sign_eq {sg : ByteArray} {x : UInt8} (h : (sg.toList == [x]) = true) : sg = { data := #[x] } := by
  have h1 : sg.toList = [x] := by simpa using h
  rw [ByteArray.toList_eq] at h1
  have h3 : sg.data = #[x] := Array.toList_inj.1 (by simpa using h1)
  cases sg
  simp at h3
  rw [h3]

theorem sign_some (sg : ByteArray) (op : Bool → Bool → Bool) (ho : opOf sg = some op) (vars : Nat) (fl fr : Value) (gl gr : List Bool → Bool) (W : World) (sl : SaysF W fl vars gl) (sr : SaysF W fr vars gr) :
    Calls Try.prog 67 #[.string sg, fl, fr] W fun e w' => ∃ fv, e = .returned (.tuple #[fv, .bool true]) ∧ SaysF w' fv vars (fun ws => op (gl ws) (gr ws)) ∧ Below W.heap.size W w' := by
  unfold opOf at ho
  by_cases h1 : (sg.toList == [38]) = true
  · rw [if_pos h1] at ho
    injection ho with ho
    subst ho
    rw [sign_eq h1]
    exact signAnd_any vars fl fr gl gr W sl sr
  rw [if_neg h1] at ho
  by_cases h2 : (sg.toList == [124]) = true
  · rw [if_pos h2] at ho
    injection ho with ho
    subst ho
    rw [sign_eq h2]
    exact signOr_any vars fl fr gl gr W sl sr
  rw [if_neg h2] at ho
  by_cases h3 : (sg.toList == [61]) = true
  · rw [if_pos h3] at ho
    injection ho with ho
    subst ho
    rw [sign_eq h3]
    exact signEq_any vars fl fr gl gr W sl sr
  rw [if_neg h3] at ho
  cases ho

theorem sign_none (sg : ByteArray) (ho : opOf sg = none) (vars : Nat) (fl fr : Value) (gl gr : List Bool → Bool) (W : World) (sl : SaysF W fl vars gl) (sr : SaysF W fr vars gr) :
    Calls Try.prog 67 #[.string sg, fl, fr] W fun e w' => e = .returned (.tuple #[.nilFunc, .bool false]) ∧ Below W.heap.size W w' := by
  unfold opOf at ho
  by_cases h1 : (sg.toList == [38]) = true
  · rw [if_pos h1] at ho; cases ho
  rw [if_neg h1] at ho
  by_cases h2 : (sg.toList == [124]) = true
  · rw [if_pos h2] at ho; cases ho
  rw [if_neg h2] at ho
  by_cases h3 : (sg.toList == [61]) = true
  · rw [if_pos h3] at ho; cases ho
  exact signNone_any sg vars fl fr gl gr W sl sr (by simpa using h1) (by simpa using h2) (by simpa using h3)

/-- What two diagrams say with a sign between, as a table. -/
def twoT (op : Bool → Bool → Bool) (vi : Int) (na : List Nd) (ra : Int) (nb : List Nd) (rb : Int) : List Bool := tabF vi.toNat (fun ws => op (isN na ra ws) (isN nb rb ws)) (2 ^ vi.toNat)

end Go.Proofs.Ytlbmlhncioampaa
