/-
  The first way of a diagram, what it means: plain facts.
-/
import Derived.Test.YtknpifjkllcdeaaBdPa
import Derived.Test.YtknpifjkllcdeaaBdFi
import Derived.Test.YtknpifjkllcdeaaBdCc
namespace Go.Proofs.Ytknpifjkllcdeaa
set_option linter.unusedVariables false

theorem bdd_form {V : Nat} {ns : List Nd} {root : Int} (h : bddB (V : Int) ns root = true) : drawB V 0 (tabN V ns root) [] = (ns, root) := by
  unfold bddB at h
  rw [Bool.and_eq_true, decide_eq_true_eq, Int.toNat_natCast] at h
  exact h.2
theorem tabN_get (V : Nat) (ns : List Nd) (root : Int) (p : Nat) (h : p < 2 ^ V) : (tabN V ns root).getD p false = isN ns root (wayL V p) := by
  simp [tabN, List.getD, h]
theorem cnt_tab (V : Nat) (ns : List Nd) (root : Int) : cntW V (isN ns root) = (tabN V ns root).count true := by
  rw [← count_cnt]
  rfl

/-- If there is none it is never, and there are no ways. -/
theorem first_none {vi : Int} {ns : List Nd} {root : Int} (h : bddB vi ns root = true) (hf : firstB vi ns root = false) : countZ vi ns root = 0 ∧ root = 0 := by
  obtain ⟨V, rfl, h6, -⟩ := bdd_split h
  have h1 := first_spec V (isN ns root)
  have h2 := first_le V (isN ns root)
  have h3 : ¬ firstW V (isN ns root) < 2 ^ V := fun hh => by
    unfold firstB firstN at hf
    rw [h, Int.toNat_natCast] at hf
    simp at hf
    omega
  have hall : ∀ p, p < 2 ^ V → isN ns root (wayL V p) = false := fun p hp => h1.1 p (by omega)
  have hlen := tabN_length V ns root
  have hz : ∀ i, i < (tabN V ns root).length → (tabN V ns root).getD i false = false := fun i hi => by rw [tabN_get V ns root i (by omega)]; exact hall i (by omega)
  constructor
  · unfold countZ
    rw [if_pos h, Int.toNat_natCast, cnt_tab]
    have : (tabN V ns root).count true = 0 := by
      rw [List.count_eq_zero]
      intro hm
      obtain ⟨i, hi, e⟩ := List.mem_iff_getElem.1 hm
      have := hz i hi
      rw [List.getD, List.getElem?_eq_getElem hi, e] at this
      cases this
    rw [this]
    rfl
  · have h4 := bdd_form h
    rw [drawB_same V 0 _ [] false hlen hz] at h4
    injection h4 with h5 h6
    exact h6.symm

/-- The first way, if there is one. -/
theorem first_some {vi : Int} {ns : List Nd} {root : Int} (hf : firstB vi ns root = true) : ∃ V F : Nat, vi = (V : Int) ∧ V ≤ 6 ∧ F < 2 ^ V ∧ firstL vi ns root = wayL V F ∧ bddB vi ns root = true ∧ tabS vi ns root = tabN V ns root ∧ (∀ p, p < F → (tabN V ns root).getD p false = false) ∧ (tabN V ns root).getD F false = true ∧ 0 < countZ vi ns root ∧ isB vi ns root (wayL V F) = true := by
  have hf' := hf
  unfold firstB at hf'
  rw [Bool.and_eq_true, decide_eq_true_eq] at hf'
  obtain ⟨h, hlt⟩ := hf'
  obtain ⟨V, rfl, h6, -⟩ := bdd_split h
  unfold firstN at hlt
  rw [Int.toNat_natCast] at hlt
  obtain ⟨h1, h2⟩ := first_spec V (isN ns root)
  have h3 := h2 hlt
  refine ⟨V, firstW V (isN ns root), rfl, h6, hlt, by unfold firstL firstN; rw [if_pos hf, Int.toNat_natCast], h, by unfold tabS; rw [if_pos h, Int.toNat_natCast], fun p hp => by rw [tabN_get V ns root p (by omega)]; exact h1 p hp, by rw [tabN_get V ns root _ hlt]; exact h3, ?_, ?_⟩
  · unfold countZ
    rw [if_pos h, Int.toNat_natCast, cnt_tab]
    have hg := tabN_get V ns root _ hlt
    rw [h3] at hg
    have hl := tabN_length V ns root
    have : 0 < (tabN V ns root).count true := by
      rw [List.count_pos_iff]
      rw [List.getD, List.getElem?_eq_getElem (by omega)] at hg
      exact List.mem_iff_getElem.2 ⟨firstW V (isN ns root), by omega, by simpa using hg⟩
    omega
  · unfold isB
    rw [h, wayL_length, h3]
    simp

/-- The number that a way's truths spell. -/
theorem way_step (V F k : Nat) (hk : k < V) : F / 2 ^ (V - (k + 1)) = 2 * (F / 2 ^ (V - k)) + (if (wayL V F).getD k false = true then 1 else 0) := by
  have e : F / 2 ^ (V - k) = F / 2 ^ (V - 1 - k) / 2 := by
    rw [show V - k = (V - 1 - k) + 1 by omega, Nat.pow_succ, ← Nat.div_div_eq_div_mul]
  rw [wayL_get V F k hk, e, show V - (k + 1) = V - 1 - k by omega]
  generalize F / 2 ^ (V - 1 - k) = y
  by_cases h : y % 2 = 1
  · rw [if_pos (by simp [h])]; omega
  · rw [if_neg (by simp [h])]; omega

end Go.Proofs.Ytknpifjkllcdeaa
