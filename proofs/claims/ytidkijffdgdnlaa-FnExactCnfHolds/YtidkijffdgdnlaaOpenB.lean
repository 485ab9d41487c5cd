/-
  What comes in, read: a slice of truths.
-/
import Derived.Test.YtidkijffdgdnlaaOpen
import Derived.Test.YtidkijffdgdnlaaHolds
import Derived.Deep.Grids
namespace Go.Proofs.Ytidkijffdgdnlaa
open Go.ChangeShapes Go.WideShapes Go.ChangeAt Go.RowKit Go.Deep Go.Joins

theorem cells_bool : Try.prog.cellsOf 4 = 1 := by kernel_rfl

theorem isBools_of_trod {H : Type} {enc : TypeId × Value → H} {w : World} {base : Nat} {held : Bool} {fuel : Nat} {v : Value} {x : DataW H × List MemPlace} (h : DataW.trod enc Try.prog w base (fun _ => true) held fuel 31 [v] = some x) :
    ∃ ms, IsBools w v ms ∧ ms.length ≤ maxLen := by
  rcases open_bools Try.underlying31 Try.underlying4 cells_bool h with ⟨hcs, _⟩ | ⟨a, l, c, B, hcs, _, hl, hm, _, hcell⟩
  · simp at hcs
    subst hcs
    exact ⟨[], ⟨_, _, rfl, fun hne => absurd rfl hne⟩, by simp⟩
  · simp at hcs
    subst hcs
    have hlen : ((List.range l).map B).length = l := by simp
    refine ⟨(List.range l).map B, ⟨some a, c, by rw [hlen], fun hne => ?_⟩, by rw [hlen]; omega⟩
    have hpos : 0 < l := by
      rcases Nat.eq_zero_or_pos l with e | e
      · subst e; simp at hne
      · exact e
    obtain ⟨b, off, rfl, hc⟩ := addr_plain (n := l) (f := fun i => .bool (B i)) hpos (fun i hi => hcell i (by omega))
    refine ⟨b, off, rfl, fun i hi => ?_⟩
    rw [hlen] at hi
    rw [hc i hi]
    simp [List.getD, hi]

end Go.Proofs.Ytidkijffdgdnlaa
