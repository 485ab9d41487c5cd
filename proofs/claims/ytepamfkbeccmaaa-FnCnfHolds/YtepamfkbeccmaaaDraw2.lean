/-
  Memory of drawn clauses: a struct of two fields in a block of its own, and rows that are owned.
-/
import Derived.Test.YtepamfkbeccmaaaDraw1
namespace Go.Proofs.Ytepamfkbeccmaaa
open Go.RowKit Go.Deep
set_option linter.unusedVariables false

/-- A block that holds a struct of clauses. -/
def Blk (w : World) (b : Nat) (a0 a1 : Value) : Prop := w.heap[b]? = some (.cells #[a0, a1] 25 (0, 0))

theorem Blk.lt {w : World} {b : Nat} {a0 a1 : Value} (h : Blk w b a0 a1) : b < w.heap.size := (Array.getElem?_eq_some_iff.1 h).1
theorem Blk.c0 {w : World} {b : Nat} {a0 a1 : Value} (h : Blk w b a0 a1) : w.cell? ⟨b, 0, none⟩ = some a0 := by unfold Blk at h; simp [World.cell?, h]
theorem Blk.c1 {w : World} {b : Nat} {a0 a1 : Value} (h : Blk w b a0 a1) : w.cell? ⟨b, 1, none⟩ = some a1 := by unfold Blk at h; simp [World.cell?, h]
theorem Blk.f {w : World} {b : Nat} {a0 a1 : Value} (h : Blk w b a0 a1) (i : Nat) : w.frozen? ⟨b, i, none⟩ = false := by unfold Blk at h; simp [World.frozen?, h]
theorem Blk.of_block {w w' : World} {b : Nat} {a0 a1 : Value} (h : Blk w b a0 a1) (e : w'.heap[b]? = w.heap[b]?) : Blk w' b a0 a1 := e.trans h
theorem Blk.set0 {w : World} {b : Nat} {a0 a1 : Value} (h : Blk w b a0 a1) (u : Value) : Blk (w.setCell ⟨b, 0, none⟩ u) b u a1 := by
  unfold Blk at *; simp [World.setCell, Array.getElem?_modify, h]
theorem Blk.set1 {w : World} {b : Nat} {a0 a1 : Value} (h : Blk w b a0 a1) (u : Value) : Blk (w.setCell ⟨b, 1, none⟩ u) b a0 u := by
  unfold Blk at *; simp [World.setCell, Array.getElem?_modify, h]
theorem Blk.setOther {w : World} {b : Nat} {a0 a1 : Value} (h : Blk w b a0 a1) {a : Addr} (ha : b ≠ a.block) (u : Value) : Blk (w.setCell a u) b a0 a1 := h.of_block (Below.heap_setCell w a u b ha)
theorem Blk.new (w : World) (a0 a1 : Value) : Blk (w.alloc (.cells #[a0, a1] 25)) w.heap.size a0 a1 := blk_alloc_new _ _
theorem Blk.below {w w' : World} {b : Nat} {a0 a1 : Value} (h : Blk w b a0 a1) (hb : Below w.heap.size w w') : Blk w' b a0 a1 := h.of_block (hb.block b h.lt)
theorem Blk.grown {w w' : World} {b : Nat} {a0 a1 : Value} {row : Option Nat} (h : Blk w b a0 a1) (hg : w.grownBy w' row) (hne : some b ≠ row) : Blk w' b a0 a1 := h.of_block (hg.block b h.lt hne)
theorem Blk.old {w w' : World} {b : Nat} {a0 a1 : Value} {R base : Nat} (h : Blk w b a0 a1) (ho : Old R base w w') (hb : b < base) (hne : b ≠ R) : Blk w' b a0 a1 := h.of_block (ho.2.2.2.2 b hb hne)

theorem Owns.mono {w : World} {base base' : Nat} {v : Value} {xs : List Int} (h : Owns w base v xs) (hb : base' ≤ base) : Owns w base' v xs := by
  refine ⟨h.1, ?_⟩
  rcases h.2 with h2 | ⟨g, cap, cur, hv, hg, r⟩
  · exact .inl h2
  · exact .inr ⟨g, cap, cur, hv, Nat.le_trans hb hg, r⟩

theorem Owns.of_block {w w' : World} {base : Nat} {v : Value} {xs : List Int} (h : Owns w base v xs) (e : ∀ k, v.ownBlock = some k → w'.heap[k]? = w.heap[k]?) : Owns w' base v xs := by
  refine ⟨h.1, ?_⟩
  rcases h.2 with h2 | ⟨g, cap, cur, hv, hg, hh, r⟩
  · exact .inl h2
  · exact .inr ⟨g, cap, cur, hv, hg, (e g (by rw [hv]; rfl)).trans hh, r⟩

/-- Rows of numbers, each owned, in a row that is owned. -/
def Grid (w : World) (base : Nat) (v : Value) (css : List (List Int)) : Prop :=
  ∃ vs : List Value, w.ownsRow base 31 1 v css.length vs ∧ ∀ i, i < css.length → ∃ rv, vs[i]? = some rv ∧ Owns w base rv (css.getD i [])

theorem grid_nil (w : World) (base : Nat) : Grid w base (.slice none 0 0) [] := ⟨[], World.ownsRow_nil _ _ _ _, fun i hi => by simp at hi⟩

theorem ownsRow_of_block {w w' : World} {base : Nat} {e : TypeId} {size : Nat} {v : Value} {n : Nat} {xs : List Value} (h : w.ownsRow base e size v n xs) (hk : ∀ k, v.ownBlock = some k → w'.heap[k]? = w.heap[k]?) : w'.ownsRow base e size v n xs := by
  refine ⟨h.1, ?_⟩
  rcases h.2 with h2 | ⟨g, cap, cur, hv, hg, hh, r⟩
  · exact .inl h2
  · exact .inr ⟨g, cap, cur, hv, hg, (hk g (by rw [hv]; rfl)).trans hh, r⟩

/-- All blocks from base on that were there are as they were. -/
theorem Grid.keep {w w' : World} {base : Nat} {v : Value} {css : List (List Int)} (h : Grid w base v css) (hk : ∀ k, base ≤ k → k < w.heap.size → w'.heap[k]? = w.heap[k]?) : Grid w' base v css := by
  obtain ⟨vs, h1, h2⟩ := h
  refine ⟨vs, ownsRow_of_block h1 (fun k e => by have := World.ownsRow.lt h1 k e; exact hk k this.1 this.2), fun i hi => ?_⟩
  obtain ⟨rv, h3, h4⟩ := h2 i hi
  exact ⟨rv, h3, h4.of_block (fun k e => by have := h4.blk_lt k e; exact hk k this.1 this.2)⟩

theorem Grid.form {w : World} {base : Nat} {v : Value} {css : List (List Int)} (h : Grid w base v css) : ∃ ao cap, v = .slice ao css.length cap := by
  obtain ⟨vs, h1, _⟩ := h
  rcases h1.2 with ⟨h2, h3⟩ | ⟨g, cap, cur, h2, _⟩
  · rw [h3]; exact ⟨_, _, h2⟩
  · exact ⟨_, _, h2⟩

theorem Grid.isRows {w : World} {base : Nat} {v : Value} {css : List (List Int)} (h : Grid w base v css) : IsRows w v css := by
  obtain ⟨vs, h1, h2⟩ := h
  have h1' := h1
  rcases h1.2 with ⟨h3, h4⟩ | ⟨g, cap, cur, h3, _⟩
  · obtain rfl := List.length_eq_zero_iff.1 h4
    subst h3
    exact ⟨_, _, rfl, fun hne => absurd rfl hne⟩
  · subst h3
    refine ⟨_, _, rfl, fun _ => ⟨g, 0, rfl, fun i hi => ?_⟩⟩
    obtain ⟨rv, h5, h6⟩ := h2 i hi
    refine ⟨rv, ?_, h6.isInts⟩
    rw [Nat.zero_add, World.ownsRow.cellAt h1' i (by omega)]
    exact h5

/-- One row more: what append leaves. -/
theorem Grid.snoc {w w' : World} {base g cap : Nat} {v rv : Value} {css : List (List Int)} {vs : List Value} {xs : List Int} (h1 : w.ownsRow base 31 1 v css.length vs) (h2 : ∀ i, i < css.length → ∃ rv, vs[i]? = some rv ∧ Owns w base rv (css.getD i []))
    (hx : Owns w base rv xs) (hg : w.grownBy w' v.ownBlock) (ho : w'.ownsRow base 31 1 (.slice (some ⟨g, 0, none⟩) (css.length + 1) cap) (css.length + 1) (vs ++ [rv])) : Grid w' base (.slice (some ⟨g, 0, none⟩) (css.length + 1) cap) (css ++ [xs]) := by
  have hkeep : ∀ (rv : Value) (xs : List Int), Owns w base rv xs → Owns w' base rv xs := by
    intro rv xs h
    refine h.of_block (fun k e => hg.block k (h.blk_lt k e).2 (fun e2 => ?_))
    -- the row's block holds numbers, the outer row's holds slices
    rcases h.2 with ⟨h3, _⟩ | ⟨g1, c1, cur1, h3, _, hh1, _⟩
    · rw [h3] at e; cases e
    · rw [h3] at e
      have e' : g1 = k := Option.some.inj e
      subst e'
      rcases h1.2 with ⟨h4, _⟩ | ⟨g2, c2, cur2, h4, _, hh2, _⟩
      · rw [h4] at e2; cases e2
      · rw [h4] at e2
        have e3 : g1 = g2 := Option.some.inj e2
        subst e3
        rw [hh1] at hh2
        cases hh2
  have hl : vs.length = css.length := by simpa using h1.1
  refine ⟨vs ++ [rv], by rw [List.length_append]; exact ho, fun i hi => ?_⟩
  rw [List.length_append] at hi
  by_cases e : i < css.length
  · obtain ⟨r, h5, h6⟩ := h2 i e
    refine ⟨r, by rw [List.getElem?_append_left (by omega)]; exact h5, ?_⟩
    have : (css ++ [xs]).getD i [] = css.getD i [] := by simp [List.getD, List.getElem?_append_left e]
    rw [this]
    exact hkeep r _ h6
  · have hi' : i = css.length := by simp at hi; omega
    subst hi'
    refine ⟨rv, by rw [List.getElem?_append_right (by omega)]; simp [hl], ?_⟩
    have : (css ++ [xs]).getD css.length [] = xs := by simp [List.getD]
    rw [this]
    exact hkeep rv _ hx

end Go.Proofs.Ytepamfkbeccmaaa
