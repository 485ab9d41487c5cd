/-
  The variables that matter: the list that a diagram's nodes give, sorted and each once, is that of those that some node asks, plain facts.
-/
import Derived.Test.YtknpifjkllcdeaaBdQ
import Derived.Lib.SlicesCompact
namespace Go.Proofs.Ytknpifjkllcdeaa
set_option linter.unusedVariables false

theorem strict_ext : ∀ (a b : List Int), a.Pairwise (· < ·) → b.Pairwise (· < ·) → (∀ x, x ∈ a ↔ x ∈ b) → a = b
  | [], [], _, _, _ => rfl
  | [], y :: ys, _, _, h => by have := (h y).2 (by simp); simp at this
  | x :: xs, [], _, _, h => by have := (h x).1 (by simp); simp at this
  | x :: xs, y :: ys, ha, hb, h => by
    rw [List.pairwise_cons] at ha hb
    have h1 := (h x).1 (by simp)
    have h2 := (h y).2 (by simp)
    have e : x = y := by
      rw [List.mem_cons] at h1 h2
      rcases h1 with h1 | h1
      · exact h1
      · rcases h2 with h2 | h2
        · exact h2.symm
        · have := hb.1 x h1; have := ha.1 y h2; omega
    subst e
    rw [strict_ext xs ys ha.2 hb.2 (fun z => ?_)]
    have hz := h z
    simp only [List.mem_cons] at hz
    constructor
    · intro hm
      rcases hz.1 (.inr hm) with e | e
      · have := ha.1 z hm; omega
      · exact e
    · intro hm
      rcases hz.2 (.inr hm) with e | e
      · have := hb.1 z hm; omega
      · exact e

/-- Of a sorted list what is kept is each once, in order. -/
theorem compact_strict (d : Array Int) (hs : ∀ i j, i < j → j < d.size → d[i]! ≤ d[j]!) : ∀ m, m ≤ d.size → (Lib.compactUpTo d m).Pairwise (· < ·) ∧ ∀ x, x ∈ Lib.compactUpTo d m ↔ ∃ j, j < m ∧ d[j]! = x := by
  intro m
  induction m with
  | zero => intro _; exact ⟨by simp [Lib.compactUpTo], fun x => by simp [Lib.compactUpTo]⟩
  | succ m ih =>
    intro hm
    obtain ⟨h1, h2⟩ := ih (by omega)
    rw [Lib.compactUpTo_succ]
    by_cases hk : Lib.keeps d m = true
    · rw [if_pos hk]
      have hne : m = 0 ∨ d[m]! ≠ d[m - 1]! := by unfold Lib.keeps at hk; simpa using hk
      refine ⟨?_, fun x => ?_⟩
      · rw [List.pairwise_append]
        refine ⟨h1, by simp, fun a ha b hb => ?_⟩
        obtain ⟨j, hj, rfl⟩ := (h2 a).1 ha
        have hb : b = d[m]! := by simpa using hb
        subst hb
        rcases hne with h | h
        · omega
        · have h3 : d[m - 1]! ≤ d[m]! := hs _ _ (by omega) (by omega)
          by_cases e : j = m - 1
          · subst e; omega
          · have := hs j (m - 1) (by omega) (by omega); omega
      · rw [List.mem_append, h2]
        constructor
        · rintro (⟨j, hj, e⟩ | h)
          · exact ⟨j, by omega, e⟩
          · exact ⟨m, by omega, (List.mem_singleton.1 h).symm⟩
        · rintro ⟨j, hj, e⟩
          by_cases h : j = m
          · subst h; exact .inr (by simp [e])
          · exact .inl ⟨j, by omega, e⟩
    · rw [if_neg hk, List.append_nil]
      have hnk : m ≠ 0 ∧ d[m]! = d[m - 1]! := by
        unfold Lib.keeps at hk
        simp only [decide_eq_true_eq, not_or] at hk
        exact ⟨hk.1, Classical.not_not.1 hk.2⟩
      refine ⟨h1, fun x => ?_⟩
      rw [h2]
      constructor
      · rintro ⟨j, hj, e⟩; exact ⟨j, by omega, e⟩
      · rintro ⟨j, hj, e⟩
        by_cases h : j = m
        · subst h; exact ⟨j - 1, by omega, by rw [← hnk.2]; exact e⟩
        · exact ⟨j, by omega, e⟩

/-- The variables that some node asks, in order. -/
def needsL (vars : Nat) (ns : List Nd) : List Int := ((List.range vars).filter fun (v : Nat) => ns.any fun p => decide (p.1 = (v : Int))).map fun (v : Nat) => (v : Int)
/-- The variables that the nodes ask, node by node. -/
def varsL (ns : List Nd) : List Int := ns.map (·.1)

theorem needsL_le (vars : Nat) (ns : List Nd) : (needsL vars ns).length ≤ vars := by
  unfold needsL
  rw [List.length_map]
  have := List.length_filter_le (fun (v : Nat) => ns.any fun p => decide (p.1 = (v : Int))) (List.range vars)
  rw [List.length_range] at this
  exact this

theorem needs_compact {vars : Nat} {ns : List Nd} (hok : ∀ i, i < ns.length → nodeB (vars : Int) ns i = true) : Lib.compact ((varsL ns).mergeSort fun x y => decide (x ≤ y)) = needsL vars ns := by
  have hsort := List.pairwise_mergeSort (le := fun (x y : Int) => decide (x ≤ y)) (fun a b c h1 h2 => by simp at h1 h2 ⊢; omega) (fun a b => by simp; omega) (varsL ns)
  have hmem : ∀ x, x ∈ (varsL ns).mergeSort (fun x y => decide (x ≤ y)) ↔ x ∈ varsL ns := fun x => List.mem_mergeSort
  generalize (varsL ns).mergeSort (fun x y => decide (x ≤ y)) = zs at *
  have hs : ∀ i j, i < j → j < zs.toArray.size → zs.toArray[i]! ≤ zs.toArray[j]! := fun i j h1 h2 => by
    have h2 : j < zs.length := by simpa using h2
    have := List.pairwise_iff_getElem.1 hsort i j (by omega) h2 h1
    simp at this
    simpa [getElem!_pos, h2, show i < zs.length by omega] using this
  obtain ⟨c1, c2⟩ := compact_strict zs.toArray hs zs.length (by simp)
  refine strict_ext _ _ c1 ?_ (fun x => ?_)
  · unfold needsL
    rw [List.pairwise_map]
    exact (List.pairwise_lt_range.filter _).imp (fun h => by omega)
  · show x ∈ Lib.compactUpTo zs.toArray zs.length ↔ _
    rw [c2]
    have hx : (∃ j, j < zs.length ∧ zs.toArray[j]! = x) ↔ x ∈ zs := by
      rw [List.mem_iff_getElem]
      constructor
      · rintro ⟨j, hj, e⟩; exact ⟨j, hj, by simpa [getElem!_pos, hj] using e⟩
      · rintro ⟨j, hj, e⟩; exact ⟨j, hj, by simpa [getElem!_pos, hj] using e⟩
    rw [hx, hmem]
    unfold varsL needsL
    simp only [List.mem_map, List.mem_filter, List.mem_range, List.any_eq_true, decide_eq_true_eq]
    constructor
    · rintro ⟨p, hp, rfl⟩
      obtain ⟨i, hi, e⟩ := List.mem_iff_getElem.1 hp
      have hn := hok i hi
      unfold nodeB at hn
      rw [List.getD, List.getElem?_eq_getElem hi, e] at hn
      simp only [Option.getD_some, Bool.and_eq_true, decide_eq_true_eq] at hn
      exact ⟨p.1.toNat, ⟨by omega, p, hp, by omega⟩, by omega⟩
    · rintro ⟨v, ⟨_, p, hp, e⟩, rfl⟩
      exact ⟨p, hp, e⟩

theorem needsL_succ (v : Nat) (ns : List Nd) : needsL (v + 1) ns = needsL v ns ++ (if ns.any (fun p => decide (p.1 = (v : Int))) = true then [(v : Int)] else []) := by
  unfold needsL
  rw [List.range_succ, List.filter_append, List.map_append]
  congr 1
  by_cases h : ns.any (fun p => decide (p.1 = (v : Int))) = true
  · rw [if_pos h]
    simp only [List.filter_cons, List.filter_nil]
    rw [if_pos h]
    rfl
  · rw [if_neg h]
    simp only [List.filter_cons, List.filter_nil]
    rw [if_neg h]
    rfl

end Go.Proofs.Ytknpifjkllcdeaa
