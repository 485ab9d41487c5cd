/-
  A circuit without what is needless: plain facts. Ands that are the same, or say nothing, fall together (foldS); ands that nothing needs fall out (pruneS).
-/
import Derived.Test.YtbdjdgamnnifjaaNeed1
namespace Go.Proofs.Ytbdjdgamnnifjaa
set_option linter.unusedVariables false

/-- The opposite of a literal. -/
def opp (x : Int) : Int := if x % 2 = 0 then x + 1 else x - 1
/-- A literal in another numbering. -/
def mapL (to : List Int) (x : Int) : Int := if x % 2 = 1 then opp (to.getD (x / 2).toNat 0) else to.getD (x / 2).toNat 0
/-- Where an and is, in a list. -/
def whereA (ands : List (Int × Int)) (p : Int × Int) : Nat := ands.findIdx (fun q => decide (q = p))
/-- What both of two literals are; below 0, if that is an and of its own. -/
def andL (F : Nat) (ands : List (Int × Int)) (a b : Int) : Int :=
  if a = 0 ∨ (a + 1 = b ∧ a % 2 = 0) then 0 else if a = 1 ∨ a = b then b else if whereA ands (a, b) < ands.length then 2 * ((F : Int) + (whereA ands (a, b) : Int)) else -1

def lo2 (p q : Int) : Int := if q < p then q else p
def hi2 (p q : Int) : Int := if q < p then p else q

/-- One and more. -/
def foldStep (F : Nat) (st : List Int × List (Int × Int)) (x : Int × Int) : List Int × List (Int × Int) :=
  let p := mapL st.1 x.1
  let q := mapL st.1 x.2
  let r := andL F st.2 (lo2 p q) (hi2 p q)
  if r < 0 then (st.1 ++ [2 * ((F : Int) + (st.2.length : Int))], st.2 ++ [(lo2 p q, hi2 p q)]) else (st.1 ++ [r], st.2)

def start2 (F : Nat) : List Int := (List.range F).map fun (n : Nat) => 2 * (n : Int)
/-- So many ands folded. -/
def foldS (F : Nat) (xs : List (Int × Int)) : Nat → List Int × List (Int × Int)
  | 0 => (start2 F, [])
  | k + 1 => foldStep F (foldS F xs k) (xs.getD k (0, 0))

/-- One and more, if it is needed. -/
def pruneStep (F : Nat) (S : Nat → Bool) (k : Nat) (st : List Int × List (Int × Int)) (x : Int × Int) : List Int × List (Int × Int) :=
  let to := st.1 ++ [2 * ((F : Int) + (st.2.length : Int))]
  if S (F + k) = true then (to, st.2 ++ [(mapL to x.1, mapL to x.2)]) else (to, st.2)
def pruneS (F : Nat) (xs : List (Int × Int)) (S : Nat → Bool) : Nat → List Int × List (Int × Int)
  | 0 => (start2 F, [])
  | k + 1 => pruneStep F S k (pruneS F xs S k) (xs.getD k (0, 0))

def mapLat (to : List Int) (ls : List (Int × Bool)) : List (Int × Bool) := ls.map fun p => (mapL to p.1, p.2)
def mapBad (to : List Int) (bs : List Int) : List Int := bs.map (mapL to)

theorem start2_length (F : Nat) : (start2 F).length = F := by simp [start2]
theorem start2_get (F n : Nat) (h : n < F) : (start2 F).getD n 0 = 2 * (n : Int) := by simp [start2, List.getD, h]

/-- What is told of a numbering: so many nodes, all values below a bound. -/
structure ToOk (to : List Int) (n m : Nat) : Prop where
  len : to.length = n
  val : ∀ i, i < n → 0 ≤ to.getD i 0 ∧ to.getD i 0 < 2 * (m : Int)

theorem ToOk.map {to : List Int} {n m : Nat} (h : ToOk to n m) {x : Int} (h0 : 0 ≤ x) (h1 : x < 2 * (n : Int)) : 0 ≤ mapL to x ∧ mapL to x < 2 * (m : Int) := by
  have hv := h.val (x / 2).toNat (by omega)
  unfold mapL opp
  split
  · split <;> omega
  · exact hv

theorem getD_snoc_lt {α : Type} (l : List α) (x d : α) (i : Nat) (h : i < l.length) : (l ++ [x]).getD i d = l.getD i d := by simp [List.getD, List.getElem?_append_left h]
theorem getD_snoc_eq {α : Type} (l : List α) (x d : α) : (l ++ [x]).getD l.length d = x := by simp [List.getD]

theorem ToOk.snoc {to : List Int} {n m m' : Nat} (h : ToOk to n m) (hm : m ≤ m') {v : Int} (h0 : 0 ≤ v) (h1 : v < 2 * (m' : Int)) : ToOk (to ++ [v]) (n + 1) m' := by
  refine ⟨by rw [List.length_append, h.len]; rfl, fun i hi => ?_⟩
  by_cases e : i < n
  · rw [getD_snoc_lt _ _ _ _ (by rw [h.len]; exact e)]
    have := h.val i e
    omega
  · obtain rfl : i = to.length := by rw [h.len]; omega
    rw [getD_snoc_eq]
    exact ⟨h0, h1⟩

theorem start2_ok (F : Nat) : ToOk (start2 F) F F := ⟨start2_length F, fun i hi => by rw [start2_get F i hi]; omega⟩

/-- Ands mean what stands ahead, by their places. -/
def AndsOk (F : Nat) (ands : List (Int × Int)) : Prop := ∀ i, i < ands.length → (0 ≤ (ands.getD i (0, 0)).1 ∧ (ands.getD i (0, 0)).1 < 2 * ((F : Int) + (i : Int))) ∧ (0 ≤ (ands.getD i (0, 0)).2 ∧ (ands.getD i (0, 0)).2 < 2 * ((F : Int) + (i : Int)))

theorem AndsOk.snoc {F : Nat} {ands : List (Int × Int)} (h : AndsOk F ands) {a b : Int} (ha : 0 ≤ a ∧ a < 2 * ((F : Int) + (ands.length : Int))) (hb : 0 ≤ b ∧ b < 2 * ((F : Int) + (ands.length : Int))) : AndsOk F (ands ++ [(a, b)]) := fun i hi => by
  by_cases e : i < ands.length
  · rw [getD_snoc_lt _ _ _ _ e]; exact h i e
  · obtain rfl : i = ands.length := by rw [List.length_append] at hi; simp only [List.length_cons, List.length_nil] at hi; omega
    rw [getD_snoc_eq]
    exact ⟨ha, hb⟩

theorem lo_hi (p q : Int) : (lo2 p q = p ∧ hi2 p q = q ∧ p ≤ q) ∨ (lo2 p q = q ∧ hi2 p q = p ∧ q < p) := by
  unfold lo2 hi2
  split
  · exact .inr ⟨rfl, rfl, by assumption⟩
  · exact .inl ⟨rfl, rfl, by omega⟩

/-- What folding keeps. -/
structure FoldOk (F k : Nat) (st : List Int × List (Int × Int)) : Prop where
  to : ToOk st.1 (F + k) (F + st.2.length)
  le : st.2.length ≤ k
  ands : AndsOk F st.2

theorem andL_range {F : Nat} {ands : List (Int × Int)} {a b : Int} {m : Nat} (hm : m = F + ands.length) (ha : 0 ≤ a) (hb0 : 0 ≤ b) (hb : b < 2 * (m : Int)) (hF : 1 ≤ F) (hr : 0 ≤ andL F ands a b) : andL F ands a b < 2 * (m : Int) := by
  unfold andL at *
  split
  · omega
  · split
    · omega
    · split
      · omega
      · rename_i h1 h2 h3
        rw [if_neg h1, if_neg h2, if_neg h3] at hr
        omega

theorem foldS_ok (F : Nat) (hF : 1 ≤ F) (xs : List (Int × Int)) (hx : AndsOk F xs) (k : Nat) (hk : k ≤ xs.length) : FoldOk F k (foldS F xs k) := by
  induction k with
  | zero => exact ⟨start2_ok F, Nat.le_refl _, fun i hi => by cases hi⟩
  | succ k ih =>
    have h := ih (by omega)
    obtain ⟨⟨x0, x1⟩, y0, y1⟩ := hx k (by omega)
    show FoldOk F (k + 1) (foldStep F (foldS F xs k) (xs.getD k (0, 0)))
    generalize foldS F xs k = st at *
    generalize xs.getD k (0, 0) = x at *
    have hp := h.to.map x0 (by omega)
    have hq := h.to.map y0 (by omega)
    unfold foldStep
    generalize mapL st.1 x.1 = p at *
    generalize mapL st.1 x.2 = q at *
    have hlh := lo_hi p q
    have hL : 0 ≤ lo2 p q ∧ lo2 p q < 2 * ((F + st.2.length : Nat) : Int) := by rcases hlh with ⟨e1, e2, _⟩ | ⟨e1, e2, _⟩ <;> rw [e1] <;> assumption
    have hH : 0 ≤ hi2 p q ∧ hi2 p q < 2 * ((F + st.2.length : Nat) : Int) := by rcases hlh with ⟨e1, e2, _⟩ | ⟨e1, e2, _⟩ <;> rw [e2] <;> assumption
    simp only
    split
    · refine ⟨?_, by simp only [List.length_append, List.length_cons, List.length_nil]; have := h.le; omega, h.ands.snoc ⟨hL.1, by omega⟩ ⟨hH.1, by omega⟩⟩
      simp only [List.length_append, List.length_cons, List.length_nil]
      exact h.to.snoc (by omega) (by omega) (by omega)
    · rename_i hr
      refine ⟨h.to.snoc (Nat.le_refl _) (by omega) (andL_range rfl hL.1 hH.1 hH.2 hF (by omega)), by have := h.le; simp only; omega, h.ands⟩

/-- What pruning keeps. -/
theorem pruneS_ok (F : Nat) (hF : 1 ≤ F) (xs : List (Int × Int)) (hx : AndsOk F xs) (S : Nat → Bool) (k : Nat) (hk : k ≤ xs.length) : (pruneS F xs S k).1.length = F + k ∧ (∀ i, i < F + k → 0 ≤ (pruneS F xs S k).1.getD i 0 ∧ (pruneS F xs S k).1.getD i 0 ≤ 2 * ((F + (pruneS F xs S k).2.length : Nat) : Int)) ∧ (pruneS F xs S k).2.length ≤ k := by
  induction k with
  | zero => exact ⟨start2_length F, fun i hi => by have h := start2_get F i (by omega); show 0 ≤ (start2 F).getD i 0 ∧ _; rw [show (pruneS F xs S 0).1 = start2 F from rfl, h]; simp only [pruneS, List.length_nil]; omega, Nat.le_refl _⟩
  | succ k ih =>
    obtain ⟨h1, h2, h3⟩ := ih (by omega)
    rw [show pruneS F xs S (k + 1) = pruneStep F S k (pruneS F xs S k) (xs.getD k (0, 0)) from rfl]
    generalize pruneS F xs S k = st at *
    generalize xs.getD k (0, 0) = x at *
    unfold pruneStep
    simp only
    have key : ∀ m, st.2.length ≤ m → ∀ i, i < F + (k + 1) → 0 ≤ (st.1 ++ [2 * ((F : Int) + (st.2.length : Int))]).getD i 0 ∧ (st.1 ++ [2 * ((F : Int) + (st.2.length : Int))]).getD i 0 ≤ 2 * ((F + m : Nat) : Int) := fun m hm i hi => by
      by_cases e : i < F + k
      · rw [getD_snoc_lt _ _ _ _ (by omega)]
        have := h2 i e
        omega
      · obtain rfl : i = st.1.length := by omega
        rw [getD_snoc_eq]
        omega
    split
    · refine ⟨by simp only [List.length_append, List.length_cons, List.length_nil]; omega, ?_, by simp only [List.length_append, List.length_cons, List.length_nil]; omega⟩
      simp only [List.length_append, List.length_cons, List.length_nil]
      exact key (st.2.length + (0 + 1)) (by omega)
    · exact ⟨by simp only [List.length_append, List.length_cons, List.length_nil]; omega, key st.2.length (Nat.le_refl _), by simp only; omega⟩

end Go.Proofs.Ytbdjdgamnnifjaa
