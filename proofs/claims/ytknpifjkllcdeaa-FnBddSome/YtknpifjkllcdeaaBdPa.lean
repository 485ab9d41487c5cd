/-
  The diagram of a table: it is in its form, and it says of each way what the table does, plain facts.
-/
import Derived.Test.YtknpifjkllcdeaaBdCa
namespace Go.Proofs.Ytknpifjkllcdeaa
set_option linter.unusedVariables false

/-- What is said at a place. -/
def evN (ns : List Nd) (p : Int) (ws : List Bool) : Bool := (valsN ns ws ns.length).getD p.toNat false
theorem isN_ev (ns : List Nd) (root : Int) : isN ns root = evN ns root := rfl

theorem getD_app {ns l : List Nd} {i : Nat} (h : i < ns.length) : (ns ++ l).getD i (0, 0, 0) = ns.getD i (0, 0, 0) := by
  rw [List.getD, List.getElem?_append_left h]; rfl
theorem getD_last (ns : List Nd) (nd : Nd) : (ns ++ [nd]).getD ns.length (0, 0, 0) = nd := by
  rw [List.getD, List.getElem?_append_right (Nat.le_refl _)]; simp

theorem valsN_app (ns l : List Nd) (ws : List Bool) : ∀ k, k ≤ ns.length → valsN (ns ++ l) ws k = valsN ns ws k := by
  intro k
  induction k with
  | zero => intro _; rfl
  | succ k ih => intro h; rw [valsN, valsN, ih (by omega), getD_app (by omega)]

theorem evN_app (ns l : List Nd) (p : Int) (ws : List Bool) (h0 : 0 ≤ p) (h : p < 2 + (ns.length : Int)) : evN (ns ++ l) p ws = evN ns p ws := by
  unfold evN
  rw [← valsN_app ns l ws ns.length (Nat.le_refl _)]
  exact valsN_old (ns ++ l) ws ns.length (ns ++ l).length p.toNat (by simp) (by omega)

theorem evN_end (ns : List Nd) (b : Bool) (ws : List Bool) : evN ns (numB b) ws = b := by
  unfold evN
  rw [valsN_old ns ws 0 ns.length _ (Nat.zero_le _) (by cases b <;> decide)]
  cases b <;> rfl

/-- Nodes that are fine, that do not go to the same twice, and of which no two are the same. -/
def Wf (V : Nat) (ns : List Nd) : Prop := ∀ i, i < ns.length → nodeB (V : Int) ns i = true ∧ (ns.getD i (0, 0, 0)).2.1 ≠ (ns.getD i (0, 0, 0)).2.2 ∧ ∀ j, j < i → ns.getD j (0, 0, 0) ≠ ns.getD i (0, 0, 0)
/-- A place that asks nothing ahead of a variable. -/
def Up (ns : List Nd) (v : Nat) (p : Int) : Prop := 0 ≤ p ∧ p < 2 + (ns.length : Int) ∧ (p < 2 ∨ (v : Int) ≤ (ns.getD (p - 2).toNat (0, 0, 0)).1)

theorem Up.app {ns l : List Nd} {v : Nat} {p : Int} (h : Up ns v p) : Up (ns ++ l) v p := by
  obtain ⟨h0, h1, h2⟩ := h
  refine ⟨h0, by simp; omega, ?_⟩
  by_cases h3 : p < 2
  · exact .inl h3
  · rcases h2 with h2 | h2
    · exact .inl h2
    · right; rw [getD_app (by omega)]; exact h2
theorem Up.less {ns : List Nd} {v u : Nat} {p : Int} (h : Up ns v p) (hu : u ≤ v) : Up ns u p := ⟨h.1, h.2.1, h.2.2.imp id (fun h => by omega)⟩

theorem evN_node {V : Nat} {ns : List Nd} (h : Wf V ns) {j : Nat} (hj : j < ns.length) (ws : List Bool) : evN ns (2 + (j : Int)) ws = if ws.getD (ns.getD j (0, 0, 0)).1.toNat false = true then evN ns (ns.getD j (0, 0, 0)).2.2 ws else evN ns (ns.getD j (0, 0, 0)).2.1 ws := by
  have hp := node_parts (h j hj).1
  unfold evN
  rw [show (2 + (j : Int)).toNat = j + 2 by omega]
  exact valsN_node ns ws ns.length j hj (by omega) (by omega)

theorem belowB_app {ns l : List Nd} {i : Nat} {v p : Int} (hi : i ≤ ns.length) (h : belowB ns i v p = true) : belowB (ns ++ l) i v p = true := by
  unfold belowB at *
  simp only [Bool.and_eq_true, Bool.or_eq_true, decide_eq_true_eq] at *
  obtain ⟨h0, h1, h2⟩ := h
  refine ⟨h0, h1, ?_⟩
  by_cases h3 : p < 2
  · exact .inl h3
  · rcases h2 with h2 | h2
    · exact .inl h2
    · right; rw [getD_app (by omega)]; exact h2

theorem Wf.old {V : Nat} {ns l : List Nd} (h : Wf V ns) {i : Nat} (hi : i < ns.length) : nodeB (V : Int) (ns ++ l) i = true ∧ ((ns ++ l).getD i (0, 0, 0)).2.1 ≠ ((ns ++ l).getD i (0, 0, 0)).2.2 ∧ ∀ j, j < i → (ns ++ l).getD j (0, 0, 0) ≠ (ns ++ l).getD i (0, 0, 0) := by
  obtain ⟨h1, h2, h3⟩ := h i hi
  rw [getD_app hi]
  refine ⟨?_, h2, fun j hj => by rw [getD_app (by omega)]; exact h3 j hj⟩
  unfold nodeB at *
  rw [getD_app hi]
  simp only [Bool.and_eq_true] at *
  exact ⟨h1.1, belowB_app (by omega) h1.2.1, belowB_app (by omega) h1.2.2⟩

theorem Up.below {ns : List Nd} {v : Nat} {p : Int} (h : Up ns (v + 1) p) : belowB ns ns.length (v : Int) p = true := by
  unfold belowB
  simp only [Bool.and_eq_true, Bool.or_eq_true, decide_eq_true_eq]
  exact ⟨h.1, h.2.1, h.2.2.imp id (fun h => by omega)⟩

theorem Wf.snoc {V : Nat} {ns : List Nd} (h : Wf V ns) {v : Nat} {p q : Int} (hv : v < V) (hp : Up ns (v + 1) p) (hq : Up ns (v + 1) q) (hne : p ≠ q) (hno : ∀ i, i < ns.length → ns.getD i (0, 0, 0) ≠ ((v : Int), p, q)) : Wf V (ns ++ [((v : Int), p, q)]) := by
  intro i hi
  have hi : i < ns.length + 1 := by simpa using hi
  by_cases e : i = ns.length
  · subst e
    rw [getD_last]
    refine ⟨?_, hne, fun j hj => by rw [getD_app hj]; exact hno j hj⟩
    unfold nodeB
    rw [getD_last]
    simp only [Bool.and_eq_true, decide_eq_true_eq]
    exact ⟨⟨by omega, by omega⟩, belowB_app (Nat.le_refl _) hp.below, belowB_app (Nat.le_refl _) hq.below⟩
  · exact h.old (by omega)

/-- What a table says of a way, from a variable on. -/
def atB : Nat → Nat → List Bool → List Bool → Bool
  | 0, _, t, _ => t.getD 0 false
  | k + 1, v, t, ws => if ws.getD v false = true then atB k (v + 1) (t.drop (2 ^ k)) ws else atB k (v + 1) (t.take (2 ^ k)) ws

theorem placeB_found {ns : List Nd} {n : Nd} (h : placeB ns n < ns.length) : ns.getD (placeB ns n) (0, 0, 0) = n := by
  have h2 := List.findIdx_getElem (w := h)
  have e : ns[placeB ns n]'h = ns.getD (placeB ns n) (0, 0, 0) := by simp [List.getD, h]
  rw [← e]
  exact of_decide_eq_true h2

theorem placeB_not {ns : List Nd} {n : Nd} (h : ¬ placeB ns n < ns.length) : ∀ i, i < ns.length → ns.getD i (0, 0, 0) ≠ n := by
  intro i hi e
  apply h
  unfold placeB
  refine List.findIdx_lt_length_of_exists ⟨ns.getD i (0, 0, 0), getD_mem_nd2 hi, decide_eq_true e⟩

/-- What drawing gives: nodes that are fine, behind those there were; a place; what is said there. -/
structure Drawn1 (V k v : Nat) (t : List Bool) (ns : List Nd) (r : List Nd × Int) : Prop where
  more : ∃ l, r.1 = ns ++ l ∧ ∀ q ∈ l, (v : Int) ≤ q.1
  wf : Wf V r.1
  up : Up r.1 v r.2
  ev : ∀ ws, evN r.1 r.2 ws = atB k v t ws

theorem draw_good (V : Nat) : ∀ (k v : Nat) (t : List Bool) (ns : List Nd), v + k = V → Wf V ns → Drawn1 V k v t ns (drawB k v t ns) := by
  intro k
  induction k with
  | zero =>
    intro v t ns hv hw
    rw [drawB]
    exact ⟨⟨[], by simp, by simp⟩, hw, ⟨by cases t.getD 0 false <;> simp [numB], by show numB _ < _; cases t.getD 0 false <;> simp [numB] <;> omega, .inl (by cases t.getD 0 false <;> simp [numB])⟩, fun ws => evN_end ns _ ws⟩
  | succ k ih =>
    intro v t ns hv hw
    have hA := ih (v + 1) (t.take (2 ^ k)) ns (by omega) hw
    rw [drawB]
    generalize drawB k (v + 1) (t.take (2 ^ k)) ns = A at *
    obtain ⟨n1, p1⟩ := A
    obtain ⟨⟨l1, e1, m1⟩, w1, u1, v1⟩ := hA
    have hB := ih (v + 1) (t.drop (2 ^ k)) n1 (by omega) w1
    show Drawn1 V (k + 1) v t ns (if p1 = (drawB k (v + 1) (t.drop (2 ^ k)) n1).2 then ((drawB k (v + 1) (t.drop (2 ^ k)) n1).1, p1) else putB (drawB k (v + 1) (t.drop (2 ^ k)) n1).1 ((v : Int), p1, (drawB k (v + 1) (t.drop (2 ^ k)) n1).2))
    generalize drawB k (v + 1) (t.drop (2 ^ k)) n1 = B at *
    obtain ⟨n2, p2⟩ := B
    obtain ⟨⟨l2, e2, m2⟩, w2, u2, v2⟩ := hB
    simp only at *
    subst e1 e2
    have u1' : Up (ns ++ l1 ++ l2) (v + 1) p1 := u1.app
    have v1' : ∀ ws, evN (ns ++ l1 ++ l2) p1 ws = atB k (v + 1) (t.take (2 ^ k)) ws := fun ws => by rw [evN_app _ _ _ _ u1.1 u1.2.1]; exact v1 ws
    have hm : ∀ q ∈ l1 ++ l2, (v : Int) ≤ q.1 := fun q hq => by
      rcases List.mem_append.1 hq with h | h
      · have := m1 q h; omega
      · have := m2 q h; omega
    by_cases he : p1 = p2
    · rw [if_pos he]
      refine ⟨⟨l1 ++ l2, by simp, hm⟩, w2, u1'.less (by omega), fun ws => ?_⟩
      show evN (ns ++ l1 ++ l2) p1 ws = _
      rw [atB]
      split
      · rw [← v2 ws, he]
      · exact v1' ws
    · rw [if_neg he]
      unfold putB
      by_cases hf : placeB (ns ++ l1 ++ l2) ((v : Int), p1, p2) < (ns ++ l1 ++ l2).length
      · rw [if_pos hf]
        have hg := placeB_found hf
        refine ⟨⟨l1 ++ l2, by simp, hm⟩, w2, ⟨by show (0 : Int) ≤ 2 + _; omega, by show (2 : Int) + ((placeB (ns ++ l1 ++ l2) ((v : Int), p1, p2) : Nat) : Int) < 2 + (((ns ++ l1 ++ l2).length : Nat) : Int); omega, .inr ?_⟩, fun ws => ?_⟩
        · show (v : Int) ≤ ((ns ++ l1 ++ l2).getD (2 + ((placeB (ns ++ l1 ++ l2) ((v : Int), p1, p2) : Nat) : Int) - 2).toNat (0, 0, 0)).1
          rw [show (2 + ((placeB (ns ++ l1 ++ l2) ((v : Int), p1, p2) : Nat) : Int) - 2).toNat = placeB (ns ++ l1 ++ l2) ((v : Int), p1, p2) by omega, hg]
          exact Int.le_refl _
        · show evN (ns ++ l1 ++ l2) (2 + _) ws = _
          rw [evN_node w2 hf ws, hg, atB]
          simp only [Int.toNat_natCast]
          rw [v2 ws, v1' ws]
      · rw [if_neg hf]
        have hw3 := w2.snoc (v := v) (by omega) u1' u2 he (placeB_not hf)
        refine ⟨⟨l1 ++ l2 ++ [((v : Int), p1, p2)], by simp, ?_⟩, hw3, ⟨by show (0 : Int) ≤ 2 + _; omega, by show (2 : Int) + _ < _; simp; omega, .inr ?_⟩, fun ws => ?_⟩
        · intro q hq
          rcases List.mem_append.1 hq with h | h
          · exact hm q h
          · rw [List.mem_singleton.1 h]; exact Int.le_refl _
        · show (v : Int) ≤ ((ns ++ l1 ++ l2 ++ [((v : Int), p1, p2)]).getD (2 + (((ns ++ l1 ++ l2).length : Nat) : Int) - 2).toNat (0, 0, 0)).1
          rw [show (2 + (((ns ++ l1 ++ l2).length : Nat) : Int) - 2).toNat = (ns ++ l1 ++ l2).length by omega, getD_last]
          exact Int.le_refl _
        · show evN (ns ++ l1 ++ l2 ++ [((v : Int), p1, p2)]) (2 + _) ws = _
          rw [evN_node hw3 (by simp) ws, getD_last, atB]
          simp only [Int.toNat_natCast]
          rw [evN_app _ _ _ _ u2.1 u2.2.1, evN_app _ _ _ _ u1'.1 u1'.2.1, v2 ws, v1' ws]

theorem atB_way (V i : Nat) : ∀ (k v : Nat) (t : List Bool), v + k = V → atB k v t (wayL V i) = t.getD (i % 2 ^ k) false := by
  intro k
  induction k with
  | zero => intro v t _; rw [atB, Nat.pow_zero, Nat.mod_one]
  | succ k ih =>
    intro v t hv
    rw [atB, wayL_get V i v (by omega), show V - 1 - v = k by omega]
    have hp : 2 ^ (k + 1) = 2 ^ k * 2 := Nat.pow_succ 2 k
    have hm : i % 2 ^ (k + 1) = i % 2 ^ k + 2 ^ k * (i / 2 ^ k % 2) := by rw [hp, Nat.mod_mul]
    have hlt : i % 2 ^ k < 2 ^ k := Nat.mod_lt _ (Nat.pow_pos (by decide))
    by_cases hb : i / 2 ^ k % 2 = 1
    · rw [if_pos (by simp [hb]), ih (v + 1) _ (by omega), getD_drop, hm, hb, Nat.mul_one, Nat.add_comm]
    · have h0 : i / 2 ^ k % 2 = 0 := by omega
      rw [if_neg (by simp [h0]), ih (v + 1) _ (by omega), getD_take hlt, hm, h0, Nat.mul_zero, Nat.add_zero]

theorem wf_nil (V : Nat) : Wf V [] := fun i hi => by simp at hi

/-- The diagram of a table has that table. -/
theorem tab_draw (V : Nat) (t : List Bool) (ht : t.length = 2 ^ V) : tabN V (drawB V 0 t []).1 (drawB V 0 t []).2 = t := by
  have h := draw_good V V 0 t [] (by omega) (wf_nil V)
  unfold tabN
  apply List.ext_getElem
  · simp [ht]
  · intro i h1 h2
    have hi : i < 2 ^ V := by simpa using h1
    simp only [List.getElem_map, List.getElem_range]
    rw [isN_ev, h.ev, atB_way V i V 0 t (by omega), Nat.mod_eq_of_lt hi]
    simp [List.getD, List.getElem?_eq_getElem h2]

/-- It is in its form. -/
theorem bdd_draw (V : Nat) (t : List Bool) (h6 : V ≤ 6) (ht : t.length = 2 ^ V) : bddB (V : Int) (drawB V 0 t []).1 (drawB V 0 t []).2 = true := by
  have h := draw_good V V 0 t [] (by omega) (wf_nil V)
  have hl := drawB_len V 0 t []
  have hp : 2 ^ V ≤ 64 := by show _ ≤ 2 ^ 6; exact Nat.pow_le_pow_right (by decide) h6
  unfold bddB goesB
  rw [Int.toNat_natCast, tab_draw V t ht]
  simp only [Bool.and_eq_true, decide_eq_true_eq]
  simp only [List.length_nil] at hl
  exact ⟨⟨⟨by omega, by omega, by omega⟩, all_nodes.2 (fun i hi => (h.wf i hi).1), h.up.1, h.up.2.1⟩, by first | rfl | trivial⟩

end Go.Proofs.Ytknpifjkllcdeaa
