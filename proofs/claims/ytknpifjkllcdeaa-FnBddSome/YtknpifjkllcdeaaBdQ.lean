/-
  Diagrams: what is said of each way, and whether it goes on, plain facts.
-/
import Derived.Test.YtknpifjkllcdeaaBdA
namespace Go.Proofs.Ytknpifjkllcdeaa
set_option linter.unusedVariables false

/-- What is said of a way at each place: never, always, and each node by what is said where it goes. -/
def valsN (ns : List Nd) (way : List Bool) : Nat → List Bool
  | 0 => [false, true]
  | k + 1 => valsN ns way k ++ [if way.getD (ns.getD k (0, 0, 0)).1.toNat false = true then (valsN ns way k).getD (ns.getD k (0, 0, 0)).2.2.toNat false else (valsN ns way k).getD (ns.getD k (0, 0, 0)).2.1.toNat false]

theorem valsN_length (ns : List Nd) (way : List Bool) (k : Nat) : (valsN ns way k).length = k + 2 := by
  induction k with
  | zero => rfl
  | succ k ih => rw [valsN, List.length_append, ih]; rfl

theorem valsN_old (ns : List Nd) (way : List Bool) (k m j : Nat) (hk : k ≤ m) (hj : j < k + 2) : (valsN ns way m).getD j false = (valsN ns way k).getD j false := by
  induction m with
  | zero => obtain rfl : k = 0 := by omega
            rfl
  | succ m ih =>
    by_cases e : k = m + 1
    · subst e; rfl
    · rw [← ih (by omega), valsN]
      have hl := valsN_length ns way m
      rw [List.getD, List.getElem?_append_left (by omega)]
      rfl

theorem valsN_node (ns : List Nd) (way : List Bool) (m j : Nat) (hj : j < m) (h1 : (ns.getD j (0, 0, 0)).2.1.toNat < j + 2) (h2 : (ns.getD j (0, 0, 0)).2.2.toNat < j + 2) :
    (valsN ns way m).getD (j + 2) false = if way.getD (ns.getD j (0, 0, 0)).1.toNat false = true then (valsN ns way m).getD (ns.getD j (0, 0, 0)).2.2.toNat false else (valsN ns way m).getD (ns.getD j (0, 0, 0)).2.1.toNat false := by
  rw [valsN_old ns way (j + 1) m (j + 2) (by omega) (by omega), valsN_old ns way j m _ (by omega) h1, valsN_old ns way j m _ (by omega) h2, valsN]
  have hl := valsN_length ns way j
  rw [List.getD, List.getElem?_append_right (by omega), hl]
  simp

/-- What a diagram is of a way. -/
def isN (ns : List Nd) (root : Int) (way : List Bool) : Bool := (valsN ns way ns.length).getD root.toNat false
/-- The way at a place. -/
def wayL (vars place : Nat) : List Bool := (List.range vars).map fun v => place / 2 ^ (vars - 1 - v) % 2 == 1
theorem wayL_length (vars place : Nat) : (wayL vars place).length = vars := by simp [wayL]
theorem wayL_get (vars place v : Nat) (h : v < vars) : (wayL vars place).getD v false = (place / 2 ^ (vars - 1 - v) % 2 == 1) := by simp [wayL, List.getD, h]
/-- The table of a diagram. -/
def tabN (vars : Nat) (ns : List Nd) (root : Int) : List Bool := (List.range (2 ^ vars)).map fun p => isN ns root (wayL vars p)
theorem tabN_length (vars : Nat) (ns : List Nd) (root : Int) : (tabN vars ns root).length = 2 ^ vars := by simp [tabN]

/-- Whether a place is one to which a node may go, with so many ahead. -/
def belowB (ns : List Nd) (i : Nat) (v p : Int) : Bool := decide (0 ≤ p) && (decide (p < 2 + (i : Int)) && (decide (p < 2) || decide (v < (ns.getD (p - 2).toNat (0, 0, 0)).1)))
/-- Whether a node is fine. -/
def nodeB (vars : Int) (ns : List Nd) (i : Nat) : Bool := (decide (0 ≤ (ns.getD i (0, 0, 0)).1) && decide ((ns.getD i (0, 0, 0)).1 < vars)) && (belowB ns i (ns.getD i (0, 0, 0)).1 (ns.getD i (0, 0, 0)).2.1 && belowB ns i (ns.getD i (0, 0, 0)).1 (ns.getD i (0, 0, 0)).2.2)
/-- Whether all of it goes on, to an end. -/
def goesB (vars : Int) (ns : List Nd) (root : Int) : Bool := (decide (0 ≤ vars) && (decide (vars ≤ 6) && decide (ns.length ≤ 64))) && ((List.range ns.length).all (nodeB vars ns) && (decide (0 ≤ root) && decide (root < 2 + (ns.length : Int))))
/-- Whether it is in its form. -/
def bddB (vars : Int) (ns : List Nd) (root : Int) : Bool := goesB vars ns root && decide (drawB vars.toNat 0 (tabN vars.toNat ns root) [] = (ns, root))

theorem all_nodes {vars : Int} {ns : List Nd} {n : Nat} : (List.range n).all (nodeB vars ns) = true ↔ ∀ i, i < n → nodeB vars ns i = true := by
  rw [List.all_eq_true]
  exact ⟨fun h i hi => h i (List.mem_range.2 hi), fun h x hx => h x (List.mem_range.1 hx)⟩
theorem not_all_nodes {vars : Int} {ns : List Nd} {n j : Nat} (hj : j < n) (h : nodeB vars ns j = false) : (List.range n).all (nodeB vars ns) = false := by
  cases e : (List.range n).all (nodeB vars ns) with
  | false => rfl
  | true => have := all_nodes.1 e j hj; rw [h] at this; cases this

theorem getD_mem_nd2 {l : List Nd} {i : Nat} (h : i < l.length) : l.getD i (0, 0, 0) ∈ l := by rw [List.getD, List.getElem?_eq_getElem h]; simp

end Go.Proofs.Ytknpifjkllcdeaa
