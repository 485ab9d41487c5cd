/-
  Lists of expressions that may be marked: each in a row of its own kind, from one block up to another.
-/
import Derived.Test.YthbjihamhfahcaaDoorExpA
namespace Go.Proofs.YthbjihamhfahcaaDoor
open Go.RowKit Go.Deep
set_option linter.unusedVariables false

mutual
/-- The value is the list of what is below, in rows that may be marked. -/
def IsM (W : World) (lo hi : Nat) : ExpT → Value → Prop
  | .node _ _ _ ks, v => ∃ ao cap, v = .slice ao ks.length cap ∧ (0 < ks.length → ∃ b, ao = some ⟨b, 0, none⟩ ∧ lo ≤ b ∧ b < hi ∧ (∃ F, W.rowIs b 29 (ks.length * 4) F) ∧ IsMs W lo hi ks b 0)
def IsMs (W : World) (lo hi : Nat) : List ExpT → Nat → Nat → Prop
  | [], _, _ => True
  | t :: r, b, i => (∃ u, W.cell? ⟨b, i * 4 + 3, none⟩ = some u ∧ IsM W lo hi t u) ∧ IsMs W lo hi r b (i + 1)
end

theorem isMs_iff {W : World} {lo hi b : Nat} : ∀ (ks : List ExpT) (i0 : Nat), IsMs W lo hi ks b i0 ↔ ∀ i, i < ks.length → ∃ u, W.cell? ⟨b, (i0 + i) * 4 + 3, none⟩ = some u ∧ IsM W lo hi (ks.getD i e0) u := by
  intro ks
  induction ks with
  | nil => intro i0; rw [IsMs]; simp
  | cons t r ih =>
    intro i0
    rw [IsMs, ih (i0 + 1)]
    constructor
    · rintro ⟨h1, h2⟩ i hi
      cases i with
      | zero => exact h1
      | succ i =>
        have := h2 i (by simpa using hi)
        rw [show i0 + 1 + i = i0 + (i + 1) by omega] at this
        exact this
    · intro h
      refine ⟨h 0 (by simp), fun i hi => ?_⟩
      have := h (i + 1) (by simpa using hi)
      rw [show i0 + (i + 1) = i0 + 1 + i by omega] at this
      exact this

/-- A list of expressions in a row that may be marked. -/
def IsMK (W : World) (lo hi : Nat) (ks : List ExpT) (ao : Option Addr) : Prop :=
  0 < ks.length → ∃ b, ao = some ⟨b, 0, none⟩ ∧ lo ≤ b ∧ b < hi ∧ (∃ F, W.rowIs b 29 (ks.length * 4) F) ∧ ∀ i, i < ks.length → ∃ u, W.cell? ⟨b, i * 4 + 3, none⟩ = some u ∧ IsM W lo hi (ks.getD i e0) u

theorem isM_node {W : World} {lo hi : Nat} {k n : Int} {s : ByteArray} {ks : List ExpT} {v : Value} : IsM W lo hi (.node k n s ks) v ↔ ∃ ao cap, v = .slice ao ks.length cap ∧ IsMK W lo hi ks ao := by
  rw [IsM]
  unfold IsMK
  constructor
  · rintro ⟨ao, cap, h1, h2⟩
    refine ⟨ao, cap, h1, fun hp => ?_⟩
    obtain ⟨b, h3, h4, h5, h6, h7⟩ := h2 hp
    refine ⟨b, h3, h4, h5, h6, fun i hi => ?_⟩
    have := (isMs_iff ks 0).1 h7 i hi
    rw [Nat.zero_add] at this
    exact this
  · rintro ⟨ao, cap, h1, h2⟩
    refine ⟨ao, cap, h1, fun hp => ?_⟩
    obtain ⟨b, h3, h4, h5, h6, h7⟩ := h2 hp
    refine ⟨b, h3, h4, h5, h6, (isMs_iff ks 0).2 fun i hi => ?_⟩
    rw [Nat.zero_add]
    exact h7 i hi

/-- From a block on, rows of expressions stay, but for what a mark turns. -/
def Kp3 (lo : Nat) (W W' : World) : Prop := ∀ b, lo ≤ b → ∀ n F, W.rowIs b 29 n F → ∃ F', W'.rowIs b 29 n F' ∧ ∀ i, i % 4 = 3 → F' i = F i

theorem Kp3.refl (lo : Nat) (W : World) : Kp3 lo W W := fun b hb n F h => ⟨F, h, fun i hi => rfl⟩
theorem Kp3.trans {lo : Nat} {A B C : World} (h : Kp3 lo A B) (k : Kp3 lo B C) : Kp3 lo A C := fun b hb n F hr => by
  obtain ⟨F1, h1, h2⟩ := h b hb n F hr
  obtain ⟨F2, h3, h4⟩ := k b hb n F1 h1
  exact ⟨F2, h3, fun i hi => (h4 i hi).trans (h2 i hi)⟩
theorem Kp3.blocks {lo : Nat} {W W' : World} (h : ∀ k, lo ≤ k → k < W.heap.size → W'.heap[k]? = W.heap[k]?) : Kp3 lo W W' := fun b hb n F hr => ⟨F, hr.of_block (h b hb hr.lt), fun i hi => rfl⟩
theorem Kp3.below {lo : Nat} {W W' : World} (h : Below W.heap.size W W') : Kp3 lo W W' := Kp3.blocks fun k _ hk => h.block k hk
theorem Kp3.set (lo b p : Nat) (u : Value) (W : World) (hp : p % 4 ≠ 3) : Kp3 lo W (W.setCell ⟨b, p, none⟩ u) := fun c hc n F hr => by
  by_cases e : c = b
  · subst e
    exact ⟨_, hr.set p u, fun i hi => by
      show (if i = p then u else F i) = F i
      rw [if_neg (by rintro rfl; exact hp hi)]⟩
  · exact ⟨F, hr.of_block (blk_setCell_other _ _ _ _ (by show c ≠ b; exact e)), fun i hi => rfl⟩

theorem IsM.kept {W W' : World} {lo hi : Nat} (hk : Kp3 lo W W') : ∀ (t : ExpT) (v : Value), IsM W lo hi t v → IsM W' lo hi t v := by
  refine ExpT.ind (fun k n s ks ih v h => ?_)
  obtain ⟨ao, cap, h1, h2⟩ := isM_node.1 h
  refine isM_node.2 ⟨ao, cap, h1, fun hp => ?_⟩
  obtain ⟨b, h3, h4, h5, ⟨F, hF⟩, h7⟩ := h2 hp
  obtain ⟨F', hF', he⟩ := hk b h4 _ F hF
  refine ⟨b, h3, h4, h5, ⟨F', hF'⟩, fun i hi => ?_⟩
  obtain ⟨u, c, hu⟩ := h7 i hi
  have hm : ks.getD i e0 ∈ ks := by rw [List.getD, List.getElem?_eq_getElem hi]; simp
  refine ⟨u, ?_, ih _ hm u hu⟩
  have e1 := hF.cell (i := i * 4 + 3) (by omega)
  have e2 := hF'.cell (i := i * 4 + 3) (by omega)
  rw [e2, he _ (by omega), ← e1]
  exact c
theorem IsMK.kept {W W' : World} {lo hi : Nat} {ks : List ExpT} {ao : Option Addr} (h : IsMK W lo hi ks ao) (hk : Kp3 lo W W') : IsMK W' lo hi ks ao := fun hp => by
  obtain ⟨b, h3, h4, h5, ⟨F, hF⟩, h7⟩ := h hp
  obtain ⟨F', hF', he⟩ := hk b h4 _ F hF
  refine ⟨b, h3, h4, h5, ⟨F', hF'⟩, fun i hi => ?_⟩
  obtain ⟨u, c, hu⟩ := h7 i hi
  refine ⟨u, ?_, hu.kept hk _ _⟩
  have e1 := hF.cell (i := i * 4 + 3) (by omega)
  have e2 := hF'.cell (i := i * 4 + 3) (by omega)
  rw [e2, he _ (by omega), ← e1]
  exact c
theorem IsM.wider {W : World} {lo lo' hi hi' : Nat} (hl : lo' ≤ lo) (hh : hi ≤ hi') : ∀ (t : ExpT) (v : Value), IsM W lo hi t v → IsM W lo' hi' t v := by
  refine ExpT.ind (fun k n s ks ih v h => ?_)
  obtain ⟨ao, cap, h1, h2⟩ := isM_node.1 h
  refine isM_node.2 ⟨ao, cap, h1, fun hp => ?_⟩
  obtain ⟨b, h3, h4, h5, h6, h7⟩ := h2 hp
  refine ⟨b, h3, Nat.le_trans hl h4, Nat.lt_of_lt_of_le h5 hh, h6, fun i hi => ?_⟩
  obtain ⟨u, c, hu⟩ := h7 i hi
  have hm : ks.getD i e0 ∈ ks := by rw [List.getD, List.getElem?_eq_getElem hi]; simp
  exact ⟨u, c, ih _ hm u hu⟩
theorem IsMK.wider {W : World} {lo lo' hi hi' : Nat} {ks : List ExpT} {ao : Option Addr} (h : IsMK W lo hi ks ao) (hl : lo' ≤ lo) (hh : hi ≤ hi') : IsMK W lo' hi' ks ao := fun hp => by
  obtain ⟨b, h3, h4, h5, h6, h7⟩ := h hp
  exact ⟨b, h3, Nat.le_trans hl h4, Nat.lt_of_lt_of_le h5 hh, h6, fun i hi => by
    obtain ⟨u, c, hu⟩ := h7 i hi
    exact ⟨u, c, hu.wider hl hh⟩⟩

end Go.Proofs.YthbjihamhfahcaaDoor
