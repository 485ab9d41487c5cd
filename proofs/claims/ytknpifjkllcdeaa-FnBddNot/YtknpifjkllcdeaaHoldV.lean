/-
  What the last operation of a region waits for itself: found without a search.
-/
import Derived.Test.YtknpifjkllcdeaaHoldU
namespace Go.Proofs.Ytknpifjkllcdeaa
open Go.RowKit Go.Deep
set_option linter.unusedVariables false

/-- Whether number 'k' waits for number 'i' itself. -/
def edgeB (md : Region.Mode) (ops : Array Oper) (k i : Nat) : Bool := ((ops[k]?).map fun o => o.after.any fun e => Region.binds md e && e.on == i).getD false

theorem reach_one {md : Region.Mode} {ops : Array Oper} {k i : Nat} (h : edgeB md ops k i = true) : reachB md ops 20 k i = true := by
  unfold edgeB at h
  rw [show 20 = 19 + 1 from rfl, reachB]
  cases ho : ops[k]? with
  | none => rw [ho] at h; simp at h
  | some o =>
    rw [ho] at h
    simp only [Option.map_some, Option.getD_some, Array.any_eq_true'] at h ⊢
    obtain ⟨e, he, h⟩ := h
    rw [Bool.and_eq_true] at h
    exact ⟨e, he, by rw [Bool.and_eq_true]; exact ⟨h.1, by rw [h.2]; rfl⟩⟩

end Go.Proofs.Ytknpifjkllcdeaa
