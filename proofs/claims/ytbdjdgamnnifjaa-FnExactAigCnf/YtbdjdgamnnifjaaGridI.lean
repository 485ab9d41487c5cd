/-
  Rows of numbers, each in a block of the call's own, in a row of its own, no two in one block; marks written into them, and held against them: markIntSS, heldIntSS; eqIntSS.
-/
import Derived.Test.YtbdjdgamnnifjaaRowI
import Derived.Deep.QuietTactic
import Derived.BigQuiet
namespace Go.Proofs.Ytbdjdgamnnifjaa
open Go.RowKit Go.Deep
set_option linter.unusedVariables false

/-- Two slices lie in different blocks. -/
def apartV (a b : Value) : Prop := ∀ k, a.ownBlock = some k → b.ownBlock ≠ some k

/-- So many rows of numbers, all blocks from lo on and below hi, no two rows in one. -/
def GridF (w : World) (lo hi : Nat) (v : Value) (n : Nat) (f : Nat → List Int) : Prop :=
  ∃ vs : List Value, w.ownsRow lo 24 1 v n vs ∧ (∀ k, v.ownBlock = some k → k < hi) ∧ (∀ i, i < n → ∃ rv, vs[i]? = some rv ∧ Owni w lo rv (f i) ∧ ∀ k, rv.ownBlock = some k → k < hi) ∧ vs.Pairwise apartV

theorem GridF.congr {w : World} {lo hi : Nat} {v : Value} {n : Nat} {f g : Nat → List Int} (h : GridF w lo hi v n f) (he : ∀ i, i < n → f i = g i) : GridF w lo hi v n g := by
  obtain ⟨vs, h1, h2, h3, h4⟩ := h
  exact ⟨vs, h1, h2, fun i hi => by rw [← he i hi]; exact h3 i hi, h4⟩

theorem grid_none (w : World) (lo hi : Nat) (f : Nat → List Int) : GridF w lo hi (.slice none 0 0) 0 f := ⟨[], World.ownsRow_nil _ _ _ _, fun k e => (by cases e), fun i hi => (by omega), List.Pairwise.nil⟩

theorem owns_of_block {w w' : World} {base : Nat} {e : TypeId} {size : Nat} {v : Value} {n : Nat} {xs : List Value} (h : w.ownsRow base e size v n xs) (hk : ∀ k, v.ownBlock = some k → w'.heap[k]? = w.heap[k]?) : w'.ownsRow base e size v n xs := by
  refine ⟨h.1, ?_⟩
  rcases h.2 with h2 | ⟨g, cap, cur, hv, hg, hh, r⟩
  · exact .inl h2
  · exact .inr ⟨g, cap, cur, hv, hg, (hk g (by rw [hv]; rfl)).trans hh, r⟩

theorem GridF.keep {w w' : World} {lo hi : Nat} {v : Value} {n : Nat} {f : Nat → List Int} (h : GridF w lo hi v n f) (hk : ∀ k, lo ≤ k → k < hi → k < w.heap.size → w'.heap[k]? = w.heap[k]?) : GridF w' lo hi v n f := by
  obtain ⟨vs, h1, h2, h3, h4⟩ := h
  refine ⟨vs, owns_of_block h1 (fun k e => hk k (World.ownsRow.lt h1 k e).1 (h2 k e) (World.ownsRow.lt h1 k e).2), h2, fun i hi => ?_, h4⟩
  obtain ⟨rv, h5, h6, h7⟩ := h3 i hi
  exact ⟨rv, h5, owni_of_block h6 (fun k e => hk k (h6.blk k e).1 (h7 k e) (h6.blk k e).2), h7⟩

theorem GridF.below {w w' : World} {lo hi : Nat} {v : Value} {n : Nat} {f : Nat → List Int} (h : GridF w lo hi v n f) (hb : Below w.heap.size w w') : GridF w' lo hi v n f := h.keep (fun k _ _ hl => hb.block k hl)

theorem GridF.chg {p : Nat → Prop} {w w' : World} {lo hi : Nat} {v : Value} {n : Nat} {f : Nat → List Int} (h : GridF w lo hi v n f) (hc : Chg p w w') (hp : ∀ k, lo ≤ k → k < hi → ¬ p k) : GridF w' lo hi v n f := h.keep (fun k h1 h2 hl => hc.block k hl (hp k h1 h2))

theorem GridF.wide {w : World} {lo hi lo' hi' : Nat} {v : Value} {n : Nat} {f : Nat → List Int} (h : GridF w lo hi v n f) (hl : lo' ≤ lo) (hh : hi ≤ hi') : GridF w lo' hi' v n f := by
  obtain ⟨vs, h1, h2, h3, h4⟩ := h
  refine ⟨vs, ⟨h1.1, ?_⟩, fun k e => Nat.lt_of_lt_of_le (h2 k e) hh, fun i hi => ?_, h4⟩
  · rcases h1.2 with h | ⟨g, cap, cur, hv, hg, r⟩
    · exact .inl h
    · exact .inr ⟨g, cap, cur, hv, by omega, r⟩
  · obtain ⟨rv, h5, h6, h7⟩ := h3 i hi
    exact ⟨rv, h5, h6.base hl, fun k e => Nat.lt_of_lt_of_le (h7 k e) hh⟩

theorem GridF.form {w : World} {lo hi : Nat} {v : Value} {n : Nat} {f : Nat → List Int} (h : GridF w lo hi v n f) : ∃ ao cap, v = .slice ao n cap := by
  obtain ⟨vs, h1, _⟩ := h
  rcases h1.2 with ⟨h2, h3⟩ | ⟨g, cap, cur, h2, _⟩
  · rw [h3]; exact ⟨_, _, h2⟩
  · exact ⟨_, _, h2⟩

theorem GridF.isRows {w : World} {lo hi : Nat} {v : Value} {css : List (List Int)} {f : Nat → List Int} (h : GridF w lo hi v css.length f) (hf : ∀ i, i < css.length → f i = css.getD i []) : IsRows w v css := by
  obtain ⟨vs, h1, h2, h3, _⟩ := h
  have h1' := h1
  rcases h1.2 with ⟨h4, h5⟩ | ⟨g, cap, cur, h4, _⟩
  · obtain rfl := List.length_eq_zero_iff.1 h5
    subst h4
    exact ⟨_, _, rfl, fun hne => absurd rfl hne⟩
  · subst h4
    refine ⟨_, _, rfl, fun _ => ⟨g, 0, rfl, fun i hi => ?_⟩⟩
    obtain ⟨rv, h5, h6, _⟩ := h3 i hi
    refine ⟨rv, ?_, by rw [← hf i hi]; exact h6.isInts⟩
    rw [Nat.zero_add, World.ownsRow.cellAt h1' i (by omega)]
    exact h5

/-- One row of the grid is written. -/
theorem GridF.set {w w' : World} {lo hi : Nat} {v rv : Value} {n : Nat} {f : Nat → List Int} {vs : List Value} {ys : List Int} {j : Nat} (h1 : w.ownsRow lo 24 1 v n vs) (h2 : ∀ k, v.ownBlock = some k → k < hi) (h3 : ∀ i, i < n → ∃ rv, vs[i]? = some rv ∧ Owni w lo rv (f i) ∧ ∀ k, rv.ownBlock = some k → k < hi) (h4 : vs.Pairwise apartV)
    (hj : vs[j]? = some rv) (hjn : j < n) (hrv : ∀ k, rv.ownBlock = some k → k < hi) (hold : Owni w lo rv (f j)) (hnew : Owni w' lo rv ys) (hc : Chg (fun k => rv.ownBlock = some k) w w') : GridF w' lo hi v n (fun i => if i = j then ys else f i) := by
  refine ⟨vs, owns_of_block h1 (fun k e => hc.block k (World.ownsRow.lt h1 k e).2 (fun e2 => ?_)), h2, fun i hi => ?_, h4⟩
  · -- the top's block holds slices, a row's numbers
    rcases h1.2 with ⟨h5, _⟩ | ⟨g, cap, cur, h5, _, hh, _⟩
    · rw [h5] at e; cases e
    · rw [h5] at e
      have e' : g = k := Option.some.inj e
      subst e'
      rcases hold.2 with ⟨h6, _⟩ | ⟨g2, c2, cur2, h6, _, hh2, _⟩
      · rw [h6] at e2; cases e2
      · rw [h6] at e2
        have e3 : g2 = g := Option.some.inj e2
        subst e3
        rw [hh] at hh2
        cases hh2
  · by_cases e : i = j
    · subst e
      simp only [if_true]
      exact ⟨rv, hj, hnew, hrv⟩
    · simp only [if_neg e]
      obtain ⟨r, h5, h6, h7⟩ := h3 i hi
      refine ⟨r, h5, owni_of_block h6 (fun k ek => hc.block k (h6.blk k ek).2 (fun e2 => ?_)), h7⟩
      rcases Nat.lt_or_gt_of_ne e with hlt | hlt
      · exact (List.pairwise_iff_getElem.1 h4 i j (List.getElem?_eq_some_iff.1 h5).1 (List.getElem?_eq_some_iff.1 hj).1 hlt) k (by rw [(List.getElem?_eq_some_iff.1 h5).2]; exact ek) (by rw [(List.getElem?_eq_some_iff.1 hj).2]; exact e2)
      · exact (List.pairwise_iff_getElem.1 h4 j i (List.getElem?_eq_some_iff.1 hj).1 (List.getElem?_eq_some_iff.1 h5).1 hlt) k (by rw [(List.getElem?_eq_some_iff.1 hj).2]; exact e2) (by rw [(List.getElem?_eq_some_iff.1 h5).2]; exact ek)

/-- One row more: what append leaves. -/
theorem GridF.snoc {w w' : World} {lo hi g cap : Nat} {v rv : Value} {n : Nat} {f : Nat → List Int} {vs : List Value} {xs : List Int} (h1 : w.ownsRow lo 24 1 v n vs) (h3 : ∀ i, i < n → ∃ rv, vs[i]? = some rv ∧ Owni w lo rv (f i) ∧ ∀ k, rv.ownBlock = some k → k < hi) (h4 : vs.Pairwise apartV)
    (hlo : lo ≤ hi) (hx : Owni w hi rv xs) (hg : w.grownBy w' v.ownBlock) (ho : w'.ownsRow lo 24 1 (.slice (some ⟨g, 0, none⟩) (n + 1) cap) (n + 1) (vs ++ [rv])) : GridF w' lo w'.heap.size (.slice (some ⟨g, 0, none⟩) (n + 1) cap) (n + 1) (fun i => if i = n then xs else f i) := by
  have hl : vs.length = n := by simpa using h1.1
  have hkeep : ∀ (b : Nat) (rv : Value) (xs : List Int), Owni w b rv xs → Owni w' b rv xs := by
    intro b rv xs h
    refine owni_of_block h (fun k e => hg.block k (h.blk k e).2 (fun e2 => ?_))
    rcases h.2 with ⟨h3, _⟩ | ⟨g1, c1, cur1, h3, _, hh1, _⟩
    · rw [h3] at e; cases e
    · rw [h3] at e
      have e' : g1 = k := Option.some.inj e
      subst e'
      rcases h1.2 with ⟨h4, _⟩ | ⟨g2, c2, cur2, h4, _, hh2, _⟩
      · rw [h4] at e2; cases e2
      · rw [h4] at e2
        have e3 : g1 = g2 := Option.some.inj e2
        subst e3
        rw [hh1] at hh2
        cases hh2
  refine ⟨vs ++ [rv], ho, fun k e => (World.ownsRow.lt ho k e).2, fun i hi => ?_, ?_⟩
  · by_cases e : i = n
    · subst e
      simp only [if_true]
      exact ⟨rv, by rw [List.getElem?_append_right (by omega)]; simp [hl], (hkeep _ _ _ hx).base hlo, fun k ek => Nat.lt_of_lt_of_le (hx.blk k ek).2 hg.size⟩
    · simp only [if_neg e]
      obtain ⟨r, h5, h6, h7⟩ := h3 i (by omega)
      exact ⟨r, by rw [List.getElem?_append_left (by omega)]; exact h5, hkeep _ _ _ h6, fun k ek => Nat.lt_of_lt_of_le (h6.blk k ek).2 hg.size⟩
  · rw [List.pairwise_append]
    refine ⟨h4, List.pairwise_singleton _ _, fun a ha b hb k e => ?_⟩
    obtain rfl : b = rv := by simpa using hb
    obtain ⟨i, hi, rfl⟩ := List.mem_iff_getElem.1 ha
    obtain ⟨r, h5, h6, h7⟩ := h3 i (by omega)
    obtain rfl : r = vs[i] := by rw [List.getElem?_eq_getElem hi] at h5; exact (Option.some.inj h5).symm
    intro e2
    have := h7 k e
    have := (hx.blk k e2).1
    omega

/-- Where a row's marks begin. -/
def offG (f : Nat → List Int) : Nat → Nat
  | 0 => 0
  | i + 1 => offG f i + (f i).length

theorem offG_congr {f g : Nat → List Int} : ∀ n, (∀ i, i < n → (f i).length = (g i).length) → offG f n = offG g n
  | 0, _ => rfl
  | n + 1, h => by unfold offG; rw [offG_congr n (fun i hi => h i (by omega)), h n (by omega)]

theorem offG_mono (f : Nat → List Int) {i j : Nat} (h : i ≤ j) : offG f i ≤ offG f j := by
  induction j with
  | zero => obtain rfl : i = 0 := by omega
            exact Nat.le_refl _
  | succ j ih =>
    by_cases e : i = j + 1
    · subst e; exact Nat.le_refl _
    · have := ih (by omega)
      show offG f i ≤ offG f j + (f j).length
      omega

/-- The marks of a grid. -/
def markR (k : Int) (f : Nat → List Int) (i : Nat) : List Int := markN (k + (offG f i : Int)) (f i).length

theorem owni_of_row {w : World} {base g n cap : Nat} {f : Nat → Value} {zs : List Int} (h : w.rowIs g 3 cap f) (hn : zs.length = n) (hle : n ≤ cap) (hmx : cap ≤ maxLen) (hb : base ≤ g) (hf : ∀ i, i < n → f i = .int .i64 (zs.getD i 0)) : Owni w base (.slice (some ⟨g, 0, none⟩) n cap) zs := by
  obtain ⟨cur, h1, h2, h3⟩ := h
  refine ⟨by simp, .inr ⟨g, cap, cur, by rw [hn], hb, h1, by omega, hmx, by omega, ?_⟩⟩
  rw [Nat.mul_one]
  refine List.ext_getElem? fun j => ?_
  by_cases hj : j < zs.length
  · rw [List.getElem?_take_of_lt hj, Array.getElem?_toList, h3 j (by omega), hf j (by omega), List.getElem?_map, List.getElem?_eq_getElem hj]
    simp [List.getD, hj]
  · rw [List.getElem?_eq_none (by simp; omega), List.getElem?_eq_none (by simp; omega)]

/-- Marks written into a row of its own. -/
theorem mark_row (w : World) (base : Nat) (rv : Value) (vs : List Int) (k : Int) (h : Owni w base rv vs) (hl : vs.length ≤ 100000) (h0 : 0 ≤ k) (h1 : k ≤ 100000000) :
    Calls Try.prog 31 #[rv, .int .i64 k] w fun e w' => e = .returned (.int .i64 (k + vs.length)) ∧ Owni w' base rv (markN k vs.length) ∧ Chg (fun b => rv.ownBlock = some b) w w' := by
  rcases h.2 with ⟨rfl, h0'⟩ | ⟨g, cp, cur, rfl, hg, hh, hle, hmx, hsz, htk⟩
  · refine (markIntS_none none 0 k w h0 h1).mono ?_
    rintro e w' ⟨rfl, rfl⟩
    rw [h0']
    exact ⟨by simp, ⟨by simp [markN], .inl ⟨rfl, by simp [markN]⟩⟩, Chg.refl _ _⟩
  · have hrow : w.rowIs g 3 cp (fun i => cur.getD i (.int .i64 0)) := ⟨cur, hh, by omega, fun i hi => by rw [Array.getElem?_eq_getElem (by omega)]; simp [Array.getD, show i < cur.size by omega]⟩
    refine (markIntS_to g vs.length cp _ k w hrow hle (by omega) h0 h1).mono ?_
    rintro e w' ⟨rfl, ⟨f', hr', hf'⟩, hch⟩
    exact ⟨rfl, owni_of_row hr' (markN_length _ _) hle hmx hg (fun i hi => by rw [hf' i hi, markN_get k vs.length i hi]), hch.mono (fun b e => by subst e; rfl)⟩

end Go.Proofs.Ytbdjdgamnnifjaa
