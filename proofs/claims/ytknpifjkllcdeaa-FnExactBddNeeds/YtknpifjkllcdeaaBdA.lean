/-
  Diagrams: the diagram of a table, plain facts.
-/
import Derived.Test.YtknpifjkllcdeaaBase
namespace Go.Proofs.Ytknpifjkllcdeaa
set_option linter.unusedVariables false

abbrev Nd := Int × Int × Int
def placeB (ns : List Nd) (n : Nd) : Nat := ns.findIdx fun q => decide (q = n)
def putB (ns : List Nd) (n : Nd) : List Nd × Int := if placeB ns n < ns.length then (ns, 2 + (placeB ns n : Int)) else (ns ++ [n], 2 + (ns.length : Int))
def numB (b : Bool) : Int := if b then 1 else 0
/-- The diagram of a table of 2 to the power of k ways, put behind nodes; where it is. -/
def drawB : Nat → Nat → List Bool → List Nd → List Nd × Int
  | 0, _, t, ns => (ns, numB (t.getD 0 false))
  | k + 1, v, t, ns =>
    if (drawB k (v + 1) (t.take (2 ^ k)) ns).2 = (drawB k (v + 1) (t.drop (2 ^ k)) (drawB k (v + 1) (t.take (2 ^ k)) ns).1).2 then
      ((drawB k (v + 1) (t.drop (2 ^ k)) (drawB k (v + 1) (t.take (2 ^ k)) ns).1).1, (drawB k (v + 1) (t.take (2 ^ k)) ns).2)
    else putB (drawB k (v + 1) (t.drop (2 ^ k)) (drawB k (v + 1) (t.take (2 ^ k)) ns).1).1 ((v : Int), (drawB k (v + 1) (t.take (2 ^ k)) ns).2, (drawB k (v + 1) (t.drop (2 ^ k)) (drawB k (v + 1) (t.take (2 ^ k)) ns).1).2)

theorem getD_take {t : List Bool} {h i : Nat} (hi : i < h) : (t.take h).getD i false = t.getD i false := by
  simp only [List.getD_eq_getElem?_getD, List.getElem?_take, if_pos hi]
theorem getD_drop {t : List Bool} {h i : Nat} : (t.drop h).getD i false = t.getD (h + i) false := by
  simp only [List.getD_eq_getElem?_getD, List.getElem?_drop]

theorem drawB_same (k : Nat) : ∀ (v : Nat) (t : List Bool) (ns : List Nd) (b : Bool), t.length = 2 ^ k → (∀ i, i < t.length → t.getD i false = b) → drawB k v t ns = (ns, numB b) := by
  induction k with
  | zero => intro v t ns b ht h; rw [drawB, h 0 (by omega)]
  | succ k ih =>
    intro v t ns b ht h
    have hp : 2 ^ (k + 1) = 2 ^ k + 2 ^ k := by rw [Nat.pow_succ]; omega
    have h1 : (t.take (2 ^ k)).length = 2 ^ k := by rw [List.length_take]; omega
    have h2 : (t.drop (2 ^ k)).length = 2 ^ k := by rw [List.length_drop]; omega
    have e1 := ih (v + 1) (t.take (2 ^ k)) ns b h1 (fun i hi => by rw [h1] at hi; rw [getD_take hi]; exact h i (by omega))
    have e2 := ih (v + 1) (t.drop (2 ^ k)) ns b h2 (fun i hi => by rw [h2] at hi; rw [getD_drop]; exact h _ (by omega))
    rw [drawB, e1, e2, if_pos rfl]

/-- Nodes that are small numbers. -/
def FitN (p : Nd) : Prop := (0 ≤ p.1 ∧ p.1 ≤ 100) ∧ (0 ≤ p.2.1 ∧ p.2.1 ≤ 1000) ∧ 0 ≤ p.2.2 ∧ p.2.2 ≤ 1000

theorem placeB_le (ns : List Nd) (n : Nd) : placeB ns n ≤ ns.length := List.findIdx_le_length
theorem putB_len (ns : List Nd) (n : Nd) : ns.length ≤ (putB ns n).1.length ∧ (putB ns n).1.length ≤ ns.length + 1 ∧ 0 ≤ (putB ns n).2 ∧ (putB ns n).2 ≤ (putB ns n).1.length + 1 := by
  unfold putB
  split
  · exact ⟨Nat.le_refl _, by simp, by simp; omega, by simp; omega⟩
  · exact ⟨by simp, by simp, by simp; omega, by simp; omega⟩

/-- How many nodes there are, and where the whole is. -/
theorem drawB_len (k : Nat) : ∀ (v : Nat) (t : List Bool) (ns : List Nd), ns.length ≤ (drawB k v t ns).1.length ∧ (drawB k v t ns).1.length + 1 ≤ ns.length + 2 ^ k ∧ 0 ≤ (drawB k v t ns).2 ∧ (drawB k v t ns).2 ≤ (drawB k v t ns).1.length + 1 := by
  induction k with
  | zero => intro v t ns; simp only [drawB, numB]; exact ⟨Nat.le_refl _, by simp, by split <;> omega, by split <;> omega⟩
  | succ k ih =>
    intro v t ns
    have hp : 2 ^ (k + 1) = 2 ^ k + 2 ^ k := by rw [Nat.pow_succ]; omega
    obtain ⟨a1, a2, a3, a4⟩ := ih (v + 1) (t.take (2 ^ k)) ns
    obtain ⟨b1, b2, b3, b4⟩ := ih (v + 1) (t.drop (2 ^ k)) (drawB k (v + 1) (t.take (2 ^ k)) ns).1
    rw [drawB]
    split
    · exact ⟨by simp only; omega, by simp only; omega, a3, by simp only; omega⟩
    · obtain ⟨c1, c2, c3, c4⟩ := putB_len (drawB k (v + 1) (t.drop (2 ^ k)) (drawB k (v + 1) (t.take (2 ^ k)) ns).1).1 ((v : Int), (drawB k (v + 1) (t.take (2 ^ k)) ns).2, (drawB k (v + 1) (t.drop (2 ^ k)) (drawB k (v + 1) (t.take (2 ^ k)) ns).1).2)
      exact ⟨by omega, by omega, c3, c4⟩

theorem placeB_snoc (xs : List Nd) (q p : Nd) : placeB (xs ++ [q]) p = if placeB xs p < xs.length then placeB xs p else if q = p then xs.length else xs.length + 1 := by
  induction xs with
  | nil =>
    by_cases e : q = p <;> simp [placeB, List.findIdx_cons, e]
  | cons a l ih =>
    unfold placeB at *
    rw [List.cons_append, List.findIdx_cons, List.findIdx_cons, ih]
    by_cases e : a = p
    · simp [e]
    · simp only [e, decide_false, cond_false, List.length_cons]
      clear ih
      generalize List.findIdx (fun q => decide (q = p)) l = k
      by_cases h1 : k < l.length <;> by_cases e2 : q = p <;> simp [h1, e2]
/-- The place of a node that is there: its first. -/
theorem placeB_first (ns : List Nd) (n : Nd) (j : Nat) (hj : j < ns.length) (h : ns.getD j (0, 0, 0) = n) (hl : ∀ i, i < j → ns.getD i (0, 0, 0) ≠ n) : placeB ns n = j := by
  unfold placeB
  rw [List.findIdx_eq hj]
  have e : ∀ i (hi : i < ns.length), ns[i] = ns.getD i (0, 0, 0) := fun i hi => by simp [List.getD, hi]
  exact ⟨by rw [e j hj, h]; simp, fun i hi => by rw [e i (by omega)]; simpa using hl i hi⟩
theorem placeB_none (ns : List Nd) (n : Nd) (hl : ∀ i, i < ns.length → ns.getD i (0, 0, 0) ≠ n) : ¬ placeB ns n < ns.length := by
  intro h
  have h2 := List.findIdx_getElem (w := h)
  have e : ns[placeB ns n]'h = ns.getD (placeB ns n) (0, 0, 0) := by simp [List.getD, h]
  have h3 := hl _ h
  rw [← e] at h3
  exact h3 (of_decide_eq_true h2)

end Go.Proofs.Ytknpifjkllcdeaa
