/-
  The opposite of a diagram, by the model.
-/
import Derived.Test.YtmkbcfiechoebaaBdNo
namespace Go.Proofs.Ytmkbcfiechoebaa
open Go.RowKit Go.Deep
set_option linter.unusedVariables false

attribute [local go_sem] Oper.semAt_some

theorem notT_map (vars : Nat) (ns : List Nd) (root : Int) : notT (vars : Int) ns root = (tabN vars ns root).map (fun x => !x) := by
  unfold notT
  rw [Int.toNat_natCast, ← tabN_tabF]
  unfold tabF
  rw [List.map_map]
  rfl

theorem own_row {w : World} {base b M c : Nat} {vs : List Bool} (h : w.ownsRow base 4 1 (.slice (some ⟨b, 0, none⟩) M c) M (vs.map Value.bool)) : M ≤ c ∧ ∃ f, w.rowIs b 4 c f ∧ ∀ i, i < M → f i = .bool (vs.getD i false) := by
  rcases h.2 with ⟨h5, _⟩ | ⟨g, cap, cur, h5, _, hh, hle, _, hsz, hcells⟩
  · cases h5
  · injection h5 with e1 e2 e3
    injection e1 with e1
    injection e1 with e1 _ _
    subst e1 e3
    refine ⟨hle, fun i => cur.getD i undef, ⟨cur, hh, by omega, fun i hi => ?_⟩, fun i hi => ?_⟩
    · simp [show i < cur.size by omega]
    · have hl := h.1
      rw [List.length_map] at hl
      have h2 : (cur.toList.take (M * 1))[i]? = (vs.map Value.bool)[i]? := by rw [hcells]
      rw [List.getElem?_take, if_pos (by omega), List.getElem?_map, List.getElem?_eq_getElem (show i < vs.length by omega)] at h2
      have h3 : i < cur.size := by omega
      simp at h2
      simp [h3, List.getD, show i < vs.length by omega] at h2 ⊢
      simpa using h2

end Go.Proofs.Ytmkbcfiechoebaa
