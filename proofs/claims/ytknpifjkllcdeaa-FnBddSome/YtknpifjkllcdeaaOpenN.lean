/-
  What comes in, read: a slice of truths, a number.
-/
import Derived.Test.YtknpifjkllcdeaaBitsG
import Derived.Test.YtknpifjkllcdeaaBdM
import Derived.Lib.SmallJoins
import Derived.ChangeOld
import Derived.Deep.SlicePairs
import Derived.Deep.Grids
namespace Go.Proofs.Ytknpifjkllcdeaa
open Go.ChangeShapes Go.WideShapes Go.ChangeAt Go.RowKit Go.Deep Go.Joins

theorem own : ownKnob Try.prog.godebug = none := by kernel_rfl
theorem cells_boolN : Try.prog.cellsOf 4 = 1 := by kernel_rfl

theorem addr_plain {w : World} {a : Addr} {n : Nat} {f : Nat → Value} (hn : 0 < n) (h : ∀ i, i < n → w.cell? (a.add i) = some (f i)) : ∃ b off, a = ⟨b, off, none⟩ ∧ ∀ i, i < n → w.cell? ⟨b, off + i, none⟩ = some (f i) := by
  obtain ⟨b, off, spot⟩ := a
  have hspot : spot = none := by simpa [Addr.add] using World.cell?_spot (h 0 hn)
  subst hspot
  refine ⟨b, off, rfl, fun i hi => ?_⟩
  have hc := h i hi
  unfold Addr.add at hc
  by_cases e : i = 0
  · subst e; simpa using hc
  · simpa [e] using hc

theorem isBits_of_trod {H : Type} {enc : TypeId × Value → H} {w : World} {base : Nat} {held : Bool} {fuel : Nat} {v : Value} {x : DataW H × List MemPlace} (h : DataW.trod enc Try.prog w base (fun _ => true) held fuel 22 [v] = some x) :
    ∃ ms, IsBits w v ms ∧ ms.length ≤ maxLen := by
  rcases open_bools Try.underlying22 Try.underlying4 cells_boolN h with ⟨hcs, _⟩ | ⟨a, l, c, B, hcs, _, hl, hm, _, hcell⟩
  · simp at hcs
    subst hcs
    exact ⟨[], ⟨_, _, rfl, fun hne => absurd rfl hne⟩, by simp⟩
  · simp at hcs
    subst hcs
    have hlen : ((List.range l).map B).length = l := by simp
    refine ⟨(List.range l).map B, ⟨some a, c, by rw [hlen], fun hne => ?_⟩, by rw [hlen]; omega⟩
    have hpos : 0 < l := by
      rcases Nat.eq_zero_or_pos l with e | e
      · subst e; simp at hne
      · exact e
    obtain ⟨b, off, rfl, hc⟩ := addr_plain (n := l) (f := fun i => .bool (B i)) hpos (fun i hi => hcell i (by omega))
    refine ⟨b, off, rfl, fun i hi => ?_⟩
    rw [hlen] at hi
    rw [hc i hi]
    simp [List.getD, hi]

end Go.Proofs.Ytknpifjkllcdeaa
