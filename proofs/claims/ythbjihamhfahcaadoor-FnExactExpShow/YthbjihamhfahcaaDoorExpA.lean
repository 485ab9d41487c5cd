/-
  Expressions in memory: a tree of which each node is four cells, the last a list of what is below.
-/
import Derived.Test.YthbjihamhfahcaaDoorChg
namespace Go.Proofs.YthbjihamhfahcaaDoor
open Go.RowKit
set_option linter.unusedVariables false

/-- An expression. -/
inductive ExpT where
  | node : Int → Int → ByteArray → List ExpT → ExpT

theorem ExpT.ind {P : ExpT → Prop} (h : ∀ k n s ks, (∀ t ∈ ks, P t) → P (.node k n s ks)) : ∀ t, P t
  | .node k n s ks => h k n s ks (fun t ht => ExpT.ind h t)
termination_by t => SizeOf.sizeOf t
decreasing_by
  have := List.sizeOf_lt_of_mem ht
  simp only [ExpT.node.sizeOf_spec]
  omega

def e0 : ExpT := .node 0 0 ⟨#[]⟩ []

/-- Four cells in a row, as one value. -/
def Cells4 (W : World) (b p : Nat) (v : Value) : Prop :=
  ∃ v0 v1 v2 v3, v = .agg #[v0, v1, v2, v3] ∧ W.cell? ⟨b, p, none⟩ = some v0 ∧ W.cell? ⟨b, p + 1, none⟩ = some v1 ∧ W.cell? ⟨b, p + 2, none⟩ = some v2 ∧ W.cell? ⟨b, p + 3, none⟩ = some v3

def Num64 (x : Int) : Prop := -9223372036854775808 ≤ x ∧ x ≤ 9223372036854775807

mutual
/-- The value is an expression; its lists lie in blocks from lo on. -/
def IsE (W : World) (lo : Nat) : ExpT → Value → Prop
  | .node k n s ks, v => ∃ ao cap, v = .agg #[.int .i64 k, .int .i64 n, .string s, .slice ao ks.length cap] ∧ (Num64 k ∧ Num64 n ∧ s.size ≤ maxLen ∧ ks.length ≤ cap ∧ cap ≤ maxLen) ∧ (0 < ks.length → ∃ b off, ao = some ⟨b, off, none⟩ ∧ lo ≤ b ∧ IsEs W lo ks b off 0)
/-- A list of expressions, from number i on, that begins there. -/
def IsEs (W : World) (lo : Nat) : List ExpT → Nat → Nat → Nat → Prop
  | [], _, _, _ => True
  | t :: r, b, off, i => (∃ v, Cells4 W b (off + i * 4) v ∧ IsE W lo t v) ∧ IsEs W lo r b off (i + 1)
end

theorem isEs_iff {W : World} {lo b off : Nat} : ∀ (ks : List ExpT) (i0 : Nat), IsEs W lo ks b off i0 ↔ ∀ i, i < ks.length → ∃ v, Cells4 W b (off + (i0 + i) * 4) v ∧ IsE W lo (ks.getD i e0) v := by
  intro ks
  induction ks with
  | nil => intro i0; rw [IsEs]; simp
  | cons t r ih =>
    intro i0
    rw [IsEs, ih (i0 + 1)]
    constructor
    · rintro ⟨h1, h2⟩ i hi
      cases i with
      | zero => exact h1
      | succ i =>
        have := h2 i (by simpa using hi)
        rw [show i0 + 1 + i = i0 + (i + 1) by omega] at this
        exact this
    · intro h
      refine ⟨h 0 (by simp), fun i hi => ?_⟩
      have := h (i + 1) (by simpa using hi)
      rw [show i0 + (i + 1) = i0 + 1 + i by omega] at this
      exact this

/-- A list of expressions, as a slice. -/
def IsL (W : World) (lo : Nat) (ks : List ExpT) (ao : Option Addr) : Prop :=
  0 < ks.length → ∃ b off, ao = some ⟨b, off, none⟩ ∧ lo ≤ b ∧ ∀ i, i < ks.length → ∃ v, Cells4 W b (off + i * 4) v ∧ IsE W lo (ks.getD i e0) v

theorem isE_node {W : World} {lo : Nat} {k n : Int} {s : ByteArray} {ks : List ExpT} {v : Value} :
    IsE W lo (.node k n s ks) v ↔ ∃ ao cap, v = .agg #[.int .i64 k, .int .i64 n, .string s, .slice ao ks.length cap] ∧ (Num64 k ∧ Num64 n ∧ s.size ≤ maxLen ∧ ks.length ≤ cap ∧ cap ≤ maxLen) ∧ IsL W lo ks ao := by
  rw [IsE]
  unfold IsL
  constructor
  · rintro ⟨ao, cap, h1, h2, h3⟩
    refine ⟨ao, cap, h1, h2, fun hp => ?_⟩
    obtain ⟨b, off, h4, h5, h6⟩ := h3 hp
    refine ⟨b, off, h4, h5, fun i hi => ?_⟩
    have := (isEs_iff ks 0).1 h6 i hi
    rw [Nat.zero_add] at this
    exact this
  · rintro ⟨ao, cap, h1, h2, h3⟩
    refine ⟨ao, cap, h1, h2, fun hp => ?_⟩
    obtain ⟨b, off, h4, h5, h6⟩ := h3 hp
    refine ⟨b, off, h4, h5, (isEs_iff ks 0).2 (fun i hi => ?_)⟩
    rw [Nat.zero_add]
    exact h6 i hi

theorem cell_same {W W' : World} {b : Nat} (h : W'.heap[b]? = W.heap[b]?) (o : Nat) : W'.cell? ⟨b, o, none⟩ = W.cell? ⟨b, o, none⟩ := by simp [World.cell?, h]
theorem Cells4.lt {W : World} {b p : Nat} {v : Value} (h : Cells4 W b p v) : b < W.heap.size := by
  obtain ⟨v0, v1, v2, v3, _, h0, _⟩ := h
  exact cell_lt h0
theorem Cells4.same {W W' : World} {b p : Nat} {v : Value} (h : Cells4 W b p v) (hb : W'.heap[b]? = W.heap[b]?) : Cells4 W' b p v := by
  obtain ⟨v0, v1, v2, v3, e, h0, h1, h2, h3⟩ := h
  exact ⟨v0, v1, v2, v3, e, (cell_same hb _).trans h0, (cell_same hb _).trans h1, (cell_same hb _).trans h2, (cell_same hb _).trans h3⟩

/-- Where the blocks from lo on stay, an expression stays. -/
theorem IsE.kept {W W' : World} {lo : Nat} (hk : ∀ k, lo ≤ k → k < W.heap.size → W'.heap[k]? = W.heap[k]?) : ∀ (t : ExpT) (v : Value), IsE W lo t v → IsE W' lo t v := by
  refine ExpT.ind (fun k n s ks ih v h => ?_)
  obtain ⟨ao, cap, h1, h2, h3⟩ := isE_node.1 h
  refine isE_node.2 ⟨ao, cap, h1, h2, fun hp => ?_⟩
  obtain ⟨b, off, h4, h5, h6⟩ := h3 hp
  refine ⟨b, off, h4, h5, fun i hi => ?_⟩
  obtain ⟨u, c, hu⟩ := h6 i hi
  have hm : ks.getD i e0 ∈ ks := by rw [List.getD, List.getElem?_eq_getElem hi]; simp
  exact ⟨u, c.same (hk b h5 c.lt), ih _ hm u hu⟩
theorem IsL.kept {W W' : World} {lo : Nat} {ks : List ExpT} {ao : Option Addr} (h : IsL W lo ks ao) (hk : ∀ k, lo ≤ k → k < W.heap.size → W'.heap[k]? = W.heap[k]?) : IsL W' lo ks ao := fun hp => by
  obtain ⟨b, off, h4, h5, h6⟩ := h hp
  refine ⟨b, off, h4, h5, fun i hi => ?_⟩
  obtain ⟨u, c, hu⟩ := h6 i hi
  exact ⟨u, c.same (hk b h5 c.lt), hu.kept hk _ _⟩
theorem IsE.below {W W' : World} {lo : Nat} {t : ExpT} {v : Value} (h : IsE W lo t v) (hb : Below W.heap.size W W') : IsE W' lo t v := IsE.kept (fun k _ hk => hb.block k hk) t v h
theorem IsL.below {W W' : World} {lo : Nat} {ks : List ExpT} {ao : Option Addr} (h : IsL W lo ks ao) (hb : Below W.heap.size W W') : IsL W' lo ks ao := h.kept (fun k _ hk => hb.block k hk)
theorem IsE.less {W : World} {lo lo' : Nat} (hl : lo' ≤ lo) : ∀ (t : ExpT) (v : Value), IsE W lo t v → IsE W lo' t v := by
  refine ExpT.ind (fun k n s ks ih v h => ?_)
  obtain ⟨ao, cap, h1, h2, h3⟩ := isE_node.1 h
  refine isE_node.2 ⟨ao, cap, h1, h2, fun hp => ?_⟩
  obtain ⟨b, off, h4, h5, h6⟩ := h3 hp
  refine ⟨b, off, h4, Nat.le_trans hl h5, fun i hi => ?_⟩
  obtain ⟨u, c, hu⟩ := h6 i hi
  have hm : ks.getD i e0 ∈ ks := by rw [List.getD, List.getElem?_eq_getElem hi]; simp
  exact ⟨u, c, ih _ hm u hu⟩

mutual
/-- How much an expression holds: texts and lists. -/
def totE : ExpT → Nat
  | .node _ _ s ks => s.size + ks.length + totL ks
def totL : List ExpT → Nat
  | [] => 0
  | t :: r => totE t + totL r
end

theorem totL_take_succ : ∀ (ks : List ExpT) (j : Nat), j < ks.length → totL (ks.take (j + 1)) = totL (ks.take j) + totE (ks.getD j e0) := by
  intro ks
  induction ks with
  | nil => intro j h; simp at h
  | cons t r ih =>
    intro j h
    cases j with
    | zero => simp [totL, List.getD]
    | succ j =>
      rw [List.take_succ_cons, List.take_succ_cons, totL, totL, ih j (by simpa using h)]
      rw [Nat.add_assoc]
      rfl
theorem totL_take_le : ∀ (ks : List ExpT) (j : Nat), totL (ks.take j) ≤ totL ks := by
  intro ks
  induction ks with
  | nil => intro j; simp
  | cons t r ih =>
    intro j
    cases j with
    | zero => simp [totL]
    | succ j => rw [List.take_succ_cons, totL, totL]; have := ih j; omega

theorem totL_mem : ∀ {ks : List ExpT} {t : ExpT}, t ∈ ks → totE t ≤ totL ks := by
  intro ks
  induction ks with
  | nil => intro t h; cases h
  | cons a r ih =>
    intro t h
    rw [totL]
    rcases List.mem_cons.1 h with rfl | h
    · omega
    · have := ih h; omega

/-- What is left, so much being taken; -1 if it is too much. -/
def leftI (n : Nat) (left : Int) : Int := if (n : Int) ≤ left then left - n else -1

end Go.Proofs.YthbjihamhfahcaaDoor
