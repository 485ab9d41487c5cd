/-
  The law FnCnfHolds: what is reckoned.
-/
import Derived.Test.YtepamfkbeccmaaaDraw11
namespace Go.Proofs.Ytepamfkbeccmaaa
open Go.RowKit Go.Deep
set_option linter.unusedVariables false

theorem okB_nil {vars : Int} (h0 : 0 ≤ vars) (h1 : vars ≤ 60) : okB vars [] = true := by unfold okB; simp [h0, h1]

theorem okB_one {vars : Int} {css : List (List Int)} (h : okB vars css = true) (k : Nat) (hk : k < css.length) : okB vars [css.getD k []] = true := by
  obtain ⟨h0, h1, h2⟩ := vars_of_ok h
  unfold okB at h ⊢
  simp only [Bool.and_eq_true, List.all_eq_true] at h
  have hmem : css.getD k [] ∈ css := by rw [List.getD, List.getElem?_eq_getElem hk]; simp
  have h3 := h.2 _ hmem
  generalize css.getD k [] = xs at h3
  simp [h0, h1, h3]

theorem holds_nil {vars : Int} {ms : List Bool} (h0 : 0 ≤ vars) (h1 : vars ≤ 60) (hl : (ms.length : Int) = vars) : cnfHoldsB vars [] ms = true := by
  unfold cnfHoldsB; rw [okB_nil h0 h1]; simp [hl, allB]

theorem allB_snoc (ms : List Bool) (css : List (List Int)) (k : Nat) (hk : k < css.length) : allB ms (css.take (k + 1)) = (allB ms (css.take k) && allB ms [css.getD k []]) := by
  unfold allB
  rw [List.take_succ_eq_append_getElem hk, List.all_append]
  simp [List.getD, hk]

theorem holds_one {vars : Int} {css : List (List Int)} {ms : List Bool} (h : okB vars css = true) (hl : (ms.length : Int) = vars) (k : Nat) (hk : k < css.length) : cnfHoldsB vars [css.getD k []] ms = allB ms [css.getD k []] := by
  unfold cnfHoldsB; rw [okB_one h k hk]; simp [hl]

theorem holds_all {vars : Int} {css : List (List Int)} {ms : List Bool} (h : okB vars css = true) (hl : (ms.length : Int) = vars) : cnfHoldsB vars css ms = allB ms css := by
  unfold cnfHoldsB; rw [h]; simp [hl]

theorem isRows_one {w : World} {b : Nat} {r : Value} {xs : List Int} (hc : w.cell? ⟨b, 0, none⟩ = some r) (hi : IsInts w r xs) : IsRows w (.slice (some ⟨b, 0, none⟩) 1 1) [xs] :=
  ⟨_, 1, rfl, fun _ => ⟨b, 0, rfl, fun i hi' => by
    have : i = 0 := by simp at hi'; exact hi'
    subst this
    exact ⟨r, hc, hi⟩⟩⟩

theorem isRows_nil (w : World) (ao : Option Addr) (cap : Nat) : IsRows w (.slice ao 0 cap) [] := ⟨ao, cap, rfl, fun h => absurd rfl h⟩

end Go.Proofs.Ytepamfkbeccmaaa
