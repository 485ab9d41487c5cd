/-
  What something needs: the model's AigNeeds.
-/
import Derived.Test.YtbdjdgamnnifjaaNeed2
import Derived.Test.YtbdjdgamnnifjaaAigH
import Derived.Test.YtbdjdgamnnifjaaRowI
import Derived.Deep.AppendLies
namespace Go.Proofs.Ytbdjdgamnnifjaa
open Go.RowKit Go.Deep Go.Shelf
set_option linter.unusedVariables false

/-- The numbers below one that are marked, without 0. -/
def pickN (S : Nat → Bool) (k : Nat) : List Int := ((List.range k).filter (fun i => decide (0 < i) && S i)).map (fun (i : Nat) => (i : Int))

theorem pickN_succ (S : Nat → Bool) (k : Nat) : pickN S (k + 1) = if 0 < k ∧ S k = true then pickN S k ++ [(k : Int)] else pickN S k := by
  unfold pickN
  rw [List.range_succ, List.filter_append, List.map_append]
  by_cases h : 0 < k ∧ S k = true
  · rw [if_pos h]; simp [h.1, h.2]
  · rw [if_neg h]
    have : (decide (0 < k) && S k) = false := by
      cases hs : S k
      · simp
      · rcases Nat.eq_zero_or_pos k with e | e
        · subst e; rfl
        · exact absurd ⟨e, hs⟩ h
    simp [this]

theorem pickN_le (S : Nat → Bool) (k : Nat) : (pickN S k).length ≤ k := by
  unfold pickN
  rw [List.length_map]
  exact Nat.le_trans (List.length_filter_le _ _) (by simp)

/-- Ands of a circuit that is ok mean what stands ahead. -/
theorem ahead_ok {inp : Int} {ls : List (Int × Bool)} {xs : List (Int × Int)} {bs : List Int} {F : Nat} (h : okC inp ls xs bs = true) (h64 : ∀ p ∈ xs, I64 p.1 ∧ I64 p.2) (hF : (F : Int) = 1 + inp + ls.length) : Ahead F xs := by
  intro m h1 h2
  have hk : m - F < xs.length := by omega
  obtain ⟨p1, p2⟩ := pair_of_ok h hk
  have hm : xs.getD (m - F) (0, 0) ∈ xs := by rw [List.getD, List.getElem?_eq_getElem hk]; simp
  obtain ⟨q1, q2⟩ := h64 _ hm
  obtain ⟨a0, a1⟩ := ahead_of p1 q1
  obtain ⟨b0, b1⟩ := ahead_of p2 q2
  unfold kidA kidB
  omega

theorem small_ok {inp : Int} {ls : List (Int × Bool)} {xs : List (Int × Int)} {bs : List Int} (h : okC inp ls xs bs = true) (h64 : ∀ p ∈ xs, I64 p.1 ∧ I64 p.2) : ∀ p ∈ xs, (0 ≤ p.1 ∧ p.1 ≤ 1000) ∧ (0 ≤ p.2 ∧ p.2 ≤ 1000) := by
  intro p hp
  obtain ⟨k, hk, rfl⟩ := List.mem_iff_getElem.1 hp
  obtain ⟨p1, p2⟩ := pair_of_ok h hk
  have e : xs.getD k (0, 0) = xs[k] := by simp [List.getD, List.getElem?_eq_getElem hk]
  rw [e] at p1 p2
  obtain ⟨q1, q2⟩ := h64 _ hp
  obtain ⟨a0, a1⟩ := ahead_of p1 q1
  obtain ⟨b0, b1⟩ := ahead_of p2 q2
  unfold okC sizesB at h
  simp only [Bool.and_eq_true, decide_eq_true_eq] at h
  obtain ⟨⟨c0, c1, c2, c3, _⟩, _⟩ := h
  omega

end Go.Proofs.Ytbdjdgamnnifjaa
